import Derived.Test.YtjcaadihkbhlhaaDoorH8
namespace Go.Proofs.YtjcaadihkbhlhaaDoor
open Go.RowKit
def exS : ByteArray := ⟨#[72, 84, 84, 80, 58, 47, 47, 69, 120, 37, 52, 49, 109, 112, 108, 101, 46, 99, 111, 109, 58, 47, 37, 55, 101, 97, 63, 98, 61, 37, 50, 102]⟩
def exC : ByteArray := ⟨#[104, 116, 116, 112, 58, 47, 47, 101, 120, 97, 109, 112, 108, 101, 46, 99, 111, 109, 47, 126, 97, 63, 98, 61, 37, 50, 70]⟩
theorem ex_ok : okP exS = true := by decide +kernel
theorem ex_can : canS exS = exC := by decide +kernel
end Go.Proofs.YtjcaadihkbhlhaaDoor
