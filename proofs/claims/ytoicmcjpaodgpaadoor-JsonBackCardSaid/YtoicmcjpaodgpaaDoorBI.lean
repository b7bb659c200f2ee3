/- Layer 4: JsonBack, as cells come in. -/
import Derived.Test.YtoicmcjpaodgpaaDoorBH
import Derived.Test.YtoicmcjpaodgpaaDoorH0
namespace Go.Proofs.YtoicmcjpaodgpaaDoor
open Go.RowKit Go.Maps
theorem back_in (a : Option Addr) (n cap : Nat) (L : List CR) (bk : ByteArray) (W : World) (t : JF W) (hl : L.length = n) (hv : CV W a n (gl L)) (hc : n ≤ cap ∧ cap ≤ maxLen ∧ (a = none → n = 0 ∧ cap = 0)) (hk : ∀ i, i < n → i64ok (gl L i).n ∧ (gl L i).k < 256 ∧ i64ok (gl L i).m) : Calls Tryd.prog 5 #[.slice a n cap, .string bk] W fun e w' => e = .returned (.bool true) ∧ Below W.heap.size W w' :=
  back_walk a n cap (gl L) bk W t (cut_self L n hl) hv (Nat.le_trans hc.1 hc.2.1) (fun i hi => (hk i hi).2) (fun i hi => (hk i hi).1)
end Go.Proofs.YtoicmcjpaodgpaaDoor
