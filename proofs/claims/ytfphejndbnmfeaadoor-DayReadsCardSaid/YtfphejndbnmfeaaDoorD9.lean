import Derived.Test.YtfphejndbnmfeaaDoorD8
import Derived.Deep.QuietTactic
import Derived.Laws.IdiomStrings
namespace Go.Proofs.YtfphejndbnmfeaaDoor
open Go.RowKit

theorem conv_one (W : World) (n : Nat) : (convert 45 9 (.slice (some ⟨W.heap.size, 0, none⟩) 1 1)).run Tryd.prog (W.alloc (.cells #[.int .u8 (48 + (n : Int) % 10)] 5)) = .ok (.string ⟨#[UInt8.ofNat (48 + n % 10)]⟩) (W.alloc (.cells #[.int .u8 (48 + (n : Int) % 10)] 5)) := by
  have h := run_convert_bytes_back (P := Tryd.prog) (W.alloc (.cells #[.int .u8 (48 + (n : Int) % 10)] 5)) 45 9 5 ⟨W.heap.size, 0, none⟩ 1 [UInt8.ofNat (48 + n % 10)] Tryd.underlying45 Tryd.underlying5 Tryd.underlying9 (fun j hj => by
    have hj : j < 1 := hj
    obtain rfl : j = 0 := by omega
    have e : ((UInt8.ofNat (48 + n % 10)).toNat : Int) = 48 + (n : Int) % 10 := by
      rw [UInt8.toNat_ofNat']
      have : n % 10 < 10 := Nat.mod_lt _ (by decide)
      rw [Nat.mod_eq_of_lt (by omega)]
      omega
    show World.cell? _ ⟨W.heap.size, 0, none⟩ = some (.int .u8 ((UInt8.ofNat (48 + n % 10)).toNat : Int))
    rw [World.cell?_alloc_mark, e]; rfl)
  exact h
theorem rstr {a b : ByteArray} (h : a = b) : Ending.returned (.string a) = .returned (.string b) := by rw [h]
set_option maxRecDepth 10000 in
theorem rdigits_any (N many : Nat) (w : World) (hN : N ≤ 1000000000000) (hm : many ≤ 20) :
    Calls Tryd.prog 72 #[.int .i64 N, .int .i64 many] w fun e w' => e = .returned (.string ⟨(dgs many N).toArray⟩) ∧ Below w.heap.size w w' := by
  go_enter Tryd.func72, Tryd.ntmps72
  go_wp2_with fail
  go_loopg [0, 5, 6] many (fun k nv sv iv wr => ∃ n i : Nat, ∃ s : ByteArray, nv = .int .i64 n ∧ sv = .string s ∧ iv = .int .i64 i ∧ k + i = many ∧ s.size = i ∧ n ≤ 1000000000000 ∧ dgs k n ++ s.data.toList = dgs many N ∧ Below w.heap.size w wr)
  case atStart => exact ⟨N, 0, ⟨#[]⟩, rfl, rfl, rfl, rfl, rfl, hN, by simp, Below.refl _ _⟩
  case round =>
    obtain ⟨n, i, s, rfl, rfl, rfl, hf, hz, hn, hs, hbl⟩ := hrel
    have HZ := Lib.hid hz
    have hz1 : 1 + s.size ≤ 9223372036854775807 := by omega
    have HB := Lib.hid hbl
    have HS := Lib.hid hs
    have HF := Lib.hid hf
    cases gk with
    | zero =>
      obtain rfl : i = many := by omega
      clear hbl hs hf hz
      go_wp2_with fail
      go_ret
      exact ⟨rstr (by rw [← HS.out]; show s = ⟨([] ++ s.data.toList).toArray⟩; simp), HB.out⟩
    | succ g =>
      have hi : i < many := by omega
      have hi' : (i : Int) < many := by omega
      have hcv := conv_one wr n
      obtain ⟨c, hc⟩ : ∃ c, c = UInt8.ofNat (48 + n % 10) := ⟨_, rfl⟩
      rw [← hc] at hcv
      have HC := Lib.hid hc
      clear hbl hs hf hz hc
      go_wp2_with fail
      go_roundg g
      case rel => exact ⟨n / 10, i + 1, ⟨#[c]⟩ ++ s, by go_num, rfl, by go_num, by have := HF.out; omega, by rw [ByteArray.size_append, HZ.out]; show 1 + i = i + 1; omega, by omega, by
        rw [← HS.out, HC.out]
        show dgs g (n / 10) ++ (⟨#[UInt8.ofNat (48 + n % 10)]⟩ ++ s : ByteArray).data.toList = (dgs g (n / 10) ++ [UInt8.ofNat (48 + n % 10)]) ++ s.data.toList
        rw [ByteArray.data_append]; simp, HB.out.alloc (by have := HB.out.size; omega) _⟩
      case measure => omega
end Go.Proofs.YtfphejndbnmfeaaDoor
