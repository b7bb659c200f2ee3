import Derived.Test.YtjcaadihkbhlhaaDoorD1
namespace Go.Proofs.YtjcaadihkbhlhaaDoor
open Go.RowKit
def numE (o : Bool) : Int := if o then 0 else 150
def textE (o : Bool) (J : ByteArray) : ByteArray := if o then J else ⟨#[]⟩
end Go.Proofs.YtjcaadihkbhlhaaDoor
