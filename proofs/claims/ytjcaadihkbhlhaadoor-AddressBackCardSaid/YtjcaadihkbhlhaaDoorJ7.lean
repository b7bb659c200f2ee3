import Derived.Test.YtjcaadihkbhlhaaDoorJ6
namespace Go.Proofs.YtjcaadihkbhlhaaDoor
open Go.RowKit
theorem back_law (s u h p a q : ByteArray) (hu hq : Bool) (t : ByteArray) (w : World) (hm : ML w) (_ : t.size ≤ maxLen) :
    Calls Tryd.prog 5 #[adV s u h p a q hu hq, .string t] w fun e w' => e = .returned (.bool true) ∧ Below w.heap.size w w' := back_any s u h p a q hu hq t w hm
end Go.Proofs.YtjcaadihkbhlhaaDoor
