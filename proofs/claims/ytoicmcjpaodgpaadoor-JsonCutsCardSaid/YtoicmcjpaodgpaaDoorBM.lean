/- Layer 4: JsonCuts, as cells come in. -/
import Derived.Test.YtoicmcjpaodgpaaDoorBL
import Derived.Test.YtoicmcjpaodgpaaDoorH0
namespace Go.Proofs.YtoicmcjpaodgpaaDoor
open Go.RowKit Go.Maps
theorem cuts_in (a : Option Addr) (n cap : Nat) (L : List CR) (m : Int) (W : World) (t : JF W) (hl : L.length = n) (hv : CV W a n (gl L)) (hc : n ≤ cap ∧ cap ≤ maxLen ∧ (a = none → n = 0 ∧ cap = 0)) (hk : ∀ i, i < n → i64ok (gl L i).n ∧ (gl L i).k < 256 ∧ i64ok (gl L i).m) : Calls Tryd.prog 7 #[.slice a n cap, .int .i64 m] W fun e w' => e = .returned (.bool true) ∧ Below W.heap.size W w' :=
  cuts_walk a n cap (gl L) m W t (cut_self L n hl) hv (Nat.le_trans hc.1 hc.2.1) (fun i hi => (hk i hi).2) (fun i hi => (hk i hi).1)
end Go.Proofs.YtoicmcjpaodgpaaDoor
