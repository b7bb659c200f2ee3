import Derived.Test.YtcnafgelfkfekaaE7
import Derived.Test.YtcnafgelfkfekaaPlain2
namespace Go.Proofs.Ytcnafgelfkfekaa
open Go.RowKit

theorem ret_si {v : Value} {c d : Int} (g : c = d) : Ending.returned (.tuple #[v, .int .i64 c]) = .returned (.tuple #[v, .int .i64 d]) := by rw [g]
/-- A slice whose strings are no longer than an int. -/
def Short (L : List ByteArray) : Prop := ∀ j, (nth L j).size ≤ 9223372036854775807

def IsBool (e : Ending) : Prop := ∃ g, e = .returned (.bool g)
set_option maxRecDepth 100000 in
theorem great_any (a : Option Addr) (len cap : Nat) (L : List ByteArray) (w : World) (hv : SView w a len L) (hm : len ≤ maxLen) (hs : Short L) :
    Calls Try.prog 15 #[.slice a len cap] w fun e w' => IsBool e ∧ Below w.heap.size w w' := by
  unfold maxLen at hm
  obtain ⟨hL, hc⟩ := hv
  by_cases hz : len = 0
  · subst hz
    clear hc hL hs
    go_enter Try.func15, Try.ntmps15
    go_wp2_with fail
    refine wp_loop_rounds 1 ?_
    rw [rounds_succ]
    go_wp2_with fail
    go_ret
    exact ⟨⟨_, rfl⟩, Below.refl _ _⟩
  · obtain ⟨b, off, rfl, hxb, _⟩ := hc 0 (by omega)
    have HC : Hid (∀ k, k < len → w.cell? ⟨b, off + k, none⟩ = some (.string (nth L k))) := Lib.hid (fun k hk => by
      obtain ⟨b', off', he, _, hx⟩ := hc k hk
      simp only [Option.some.injEq, Addr.mk.injEq, and_true] at he
      obtain ⟨rfl, rfl⟩ := he
      exact hx)
    have HS := Lib.hid hs
    clear hc hL hs
    go_enter Try.func15, Try.ntmps15
    go_wp2_with fail
    go_loopw [3, 4] (fun z i wr => ∃ (k : Nat) (zv : Int), k ≤ len ∧ i = .int .i64 k ∧ z = .int .i64 zv ∧ 0 ≤ zv ∧ zv ≤ 10000 * k ∧ k ≤ 5000 ∧ w = wr) (fun _ i _ => len - (intOf i).toNat)
    case atStart => exact ⟨0, 0, by omega, rfl, rfl, by omega, by omega, by omega, rfl⟩
    case round =>
      obtain ⟨k, zv, hk, rfl, rfl, h0, hz1, h5, rfl⟩ := hrel
      by_cases hlt : k < len
      · by_cases hlt5 : k < 5000
        · have hcx := HC.out k hlt
          have hsx := HS.out k
          have hk5 : (k : Int) < 5000 := by omega
          have hzz : zv ≤ 50000000 := by omega
          have HZ := Lib.hid hz1
          have H5 := Lib.hid hlt5
          clear h5 hz1 hlt5
          obtain ⟨x, hx⟩ : ∃ x, x = nth L k := ⟨_, rfl⟩
          rw [← hx] at hcx hsx
          clear hx
          by_cases hx1 : (x.size : Int) ≤ 10000
          · go_wp2_with fail
            go_roundw
            case rel => exact ⟨k + 1, zv + x.size, by omega, by go_num, by go_num, by omega, (by have := HZ.out; omega), (by have := H5.out; omega), trivial⟩
            case measure => simp [intOf]; omega
          · go_wp2_with fail
            go_roundw
            case rel => exact ⟨k + 1, zv + 10000, by omega, by go_num, by go_num, by omega, (by have := HZ.out; omega), (by have := H5.out; omega), trivial⟩
            case measure => simp [intOf]; omega
        · have hk5 : ¬ (k : Int) < 5000 := by omega
          clear h5 hz1 hlt5
          go_wp2_with fail
          all_goals
            go_ret
            exact ⟨⟨_, rfl⟩, Below.refl _ _⟩
      · clear h5 hz1
        go_wp2_with fail
        all_goals
          go_ret
          exact ⟨⟨_, rfl⟩, Below.refl _ _⟩
end Go.Proofs.Ytcnafgelfkfekaa
