import Derived.Test.YtfphejndbnmfeabK11
namespace Go.Proofs.Ytfphejndbnmfeab
open Go.RowKit

def SomeB (w : World) (e : Ending) (w' : World) : Prop := ∃ b : Bool, e = .returned (.bool b) ∧ w = w'
theorem letter_any (x : Int) (w : World) : Calls Try.prog 44 #[.int .u8 x] w (SomeB w) := by
  go_enter Try.func44, Try.ntmps44
  go_wp2_with fail
  all_goals (go_ret; exact ⟨_, rfl, rfl⟩)
theorem digit_any (x : Int) (w : World) : Calls Try.prog 45 #[.int .u8 x] w (SomeB w) := by
  go_enter Try.func45, Try.ntmps45
  go_wp2_with fail
  all_goals (go_ret; exact ⟨_, rfl, rfl⟩)
theorem lexName_any (s : ByteArray) (w : World) (hs : s.size ≤ maxLen) : Calls Try.prog 36 #[.string s] w (SomeB w) := by
  unfold maxLen at hs
  go_enter Try.func36, Try.ntmps36
  go_wp2_with fail
  go_loopg [3] s.size (fun f i wr => ∃ k : Nat, f + k = s.size ∧ i = .int .i64 k ∧ w = wr)
  case atStart => exact ⟨0, by omega, rfl, rfl⟩
  case round =>
    obtain ⟨k, hf, rfl, rfl⟩ := hrel
    have HF := Lib.hid hf
    cases gk with
    | zero =>
      have hk : ¬ k < s.size := by omega
      have hk' : ¬ (k : Int) < (s.size : Int) := by omega
      clear hf
      go_wp2_with fail
      all_goals (go_ret; exact ⟨_, rfl, rfl⟩)
    | succ g =>
      have hk : k < s.size := by omega
      have hk' : (k : Int) < (s.size : Int) := by omega
      clear hf
      go_wp2_with fail
      refine (letter_any _ _).mono ?_
      rintro e w1 ⟨b, rfl, rfl⟩
      cases b
      · by_cases h0 : k = 0
        · have g0 : ((k : Int) == 0) = true := by simp [h0]
          go_wp2_with fail
          go_ret
          exact ⟨_, rfl, rfl⟩
        · have g0 : ((k : Int) == 0) = false := by simp [h0]
          go_wp2_with fail
          refine (digit_any _ _).mono ?_
          rintro e w1 ⟨b, rfl, rfl⟩
          cases b
          · go_wp2_with fail
            go_ret
            exact ⟨_, rfl, rfl⟩
          · go_wp2_with fail
            go_roundg g
            case rel => exact ⟨k + 1, by have := HF.out; omega, by go_num, rfl⟩
            case measure => omega
      · go_wp2_with fail
        go_roundg g
        case rel => exact ⟨k + 1, by have := HF.out; omega, by go_num, rfl⟩
        case measure => omega
theorem info79 : ∃ i, Try.prog.info? 79 = some i ∧ i.zero = some (.agg #[.int .u8 0, .string ⟨#[]⟩, .int .i64 0]) ∧ i.size = 3 ∧ i.bytes = 32 := by
  have h := Try.typeInfo79 default
  unfold typeInfo at h
  cases hq : Try.prog.info? 79 with
  | none => simp [hq] at h
  | some i =>
    simp [hq] at h
    exact ⟨i, rfl, by rw [h]; rfl, by rw [h]; rfl, by rw [h]; rfl⟩
theorem ret79 {R : Ending → World → Prop} {fn : Func} {tmps : Array Value} {w : World} {g : Nat} {cs : Array Value} (hr : fn.results = #[.cell 2 79]) (h2 : tmps.getD 2 undef = .pointer (some ⟨g, 0, none⟩)) (hg : w.heap[g]? = some (.cells cs 79)) (hs : cs.size = 3)
    (hR : R (.returned (.agg cs)) w) : bodyPost Try.prog fn R .ret ⟨tmps, []⟩ w := by
  refine bodyPost_ret (v := .agg cs) ?_ rfl hR
  obtain ⟨i, h1, _, h3, _⟩ := info79
  exact results_cell_row hr tmps w g 79 cs (0, 0) _ h2 hg Try.underlying79 rfl (by rw [h1, hs]; simp [h3])
theorem litMark_any (s : ByteArray) (w : World) : Calls Try.prog 37 #[.string s] w fun e w' => e = .returned (.agg #[.int .u8 4, .string s, .int .i64 0]) ∧ Below w.heap.size w w' := by
  have hA : (w.alloc (.cells #[.int .u8 4, .string s, .int .i64 0] 79)).heap[w.heap.size]? = some (.cells #[.int .u8 4, .string s, .int .i64 0] 79) := heap_alloc_new w _
  have HA := Lib.hid hA
  clear hA
  go_enter Try.func37, Try.ntmps37
  go_wp2_with fail
  exact ret79 Try.results37 rfl HA.out rfl ⟨rfl, (Below.refl _ w).alloc (Nat.le_refl _) _⟩
theorem litName_any (s : ByteArray) (w : World) : Calls Try.prog 38 #[.string s] w fun e w' => e = .returned (.agg #[.int .u8 1, .string s, .int .i64 0]) ∧ Below w.heap.size w w' := by
  have hA : (w.alloc (.cells #[.int .u8 1, .string s, .int .i64 0] 79)).heap[w.heap.size]? = some (.cells #[.int .u8 1, .string s, .int .i64 0] 79) := heap_alloc_new w _
  have HA := Lib.hid hA
  clear hA
  go_enter Try.func38, Try.ntmps38
  go_wp2_with fail
  exact ret79 Try.results38 rfl HA.out rfl ⟨rfl, (Below.refl _ w).alloc (Nat.le_refl _) _⟩
end Go.Proofs.Ytfphejndbnmfeab
