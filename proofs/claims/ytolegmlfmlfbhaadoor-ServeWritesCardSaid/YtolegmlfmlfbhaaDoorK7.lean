import Derived.Test.YtolegmlfmlfbhaaDoorK6
import Derived.Deep.DeepCutAuto
import Derived.Deep.RegionWith
/- Layer 31, ServeWrites: the program's error. -/
namespace Go.Proofs.YtolegmlfmlfbhaaDoor
open Go.RowKit Go.Maps
theorem MB.drew {B b : Nat} {L : List ByteArray} {w : World} (h : MB B b L w) : MB B b L w.drew := h
theorem mb_new {B : Nat} {w : World} (hB : B ≤ w.heap.size) (T : ByteArray) : MB B (w.heap.size + 1) [T] ((w.alloc (.cells #[.string T] 9)).alloc (.cells #[.slice (some ⟨w.heap.size, 0, none⟩) 1 1] 35)) := by
  have e1 : (w.alloc (.cells #[.string T] 9)).heap.size = w.heap.size + 1 := by simp
  have h1 : (w.alloc (.cells #[.string T] 9)).heap[w.heap.size]? = some (.cells #[.string T] 9) := heap_alloc_new w _
  refine ⟨by omega, _, by rw [← e1]; exact heap_alloc_new _ _, ⟨rfl, .inr ⟨w.heap.size, 1, #[.string T], rfl, hB, ?_, Nat.le_refl _, by decide, rfl, rfl⟩⟩, ?_⟩
  · rw [Below.heap_alloc _ _ _ (by omega)]; exact h1
  · have : ((w.alloc (.cells #[.string T] 9)).alloc (.cells #[.slice (some ⟨w.heap.size, 0, none⟩) 1 1] 35)).heap.size = w.heap.size + 2 := by simp
    omega
set_option maxRecDepth 20000 in
theorem spath_nil (a : Option Addr) (cap : Nat) (w : World) : Calls Tryd.prog 18 #[.slice a 0 cap] w fun e w' => e = .returned (.string ⟨#[91, 93]⟩) ∧ Below w.heap.size w w' := by
  have HC := Lib.hid (join_any (SO.nil w) (by decide) (by decide))
  rw [jnT_nil] at HC
  go_enter Tryd.func18, Tryd.ntmps18
  go_wp2_with fail
  refine wp_loop_rounds 1 ?_
  rw [rounds_succ]
  go_wp2_with fail
  refine HC.out.mono ?_
  rintro e w1 ⟨rfl, b1⟩
  go_wp2_with fail
  go_ret
  exact ⟨rfl, b1⟩
def pT (x : FtR) : ByteArray := ⟨#[91]⟩ ++ pthW x.st x.np ++ ⟨#[93]⟩
theorem spath_all (x : FtR) (a : Option Addr) (cap : Nat) (w : World) (t : Tabs w) (hx : SmF x) (hv : StV w a x.np x.st) : Calls Tryd.prog 18 #[.slice a x.np cap] w fun e w' => e = .returned (.string (pT x)) ∧ Below w.heap.size w w' := by
  rcases Nat.eq_zero_or_pos x.np with h0 | h0
  · have e : pT x = ⟨#[91, 93]⟩ := by unfold pT; rw [h0]; rfl
    rw [e, h0]
    exact spath_nil a cap w
  · exact spath_any a x.np cap x.st w t hx.st hx.np h0 hv
theorem sq_code : sqT (⟨#[99, 111, 100, 101]⟩ : ByteArray) = (⟨#[34, 99, 111, 100, 101, 34]⟩ : ByteArray) := by decide +kernel
theorem sq_path : sqT (⟨#[112, 97, 116, 104]⟩ : ByteArray) = (⟨#[34, 112, 97, 116, 104, 34]⟩ : ByteArray) := by decide +kernel
theorem sq_directive : sqT (⟨#[100, 105, 114, 101, 99, 116, 105, 118, 101]⟩ : ByteArray) = (⟨#[34, 100, 105, 114, 101, 99, 116, 105, 118, 101, 34]⟩ : ByteArray) := by decide +kernel
theorem sq_rule : sqT (⟨#[114, 117, 108, 101]⟩ : ByteArray) = (⟨#[34, 114, 117, 108, 101, 34]⟩ : ByteArray) := by decide +kernel
theorem sq_line : sqT (⟨#[108, 105, 110, 101]⟩ : ByteArray) = (⟨#[34, 108, 105, 110, 101, 34]⟩ : ByteArray) := by decide +kernel
theorem sq_column : sqT (⟨#[99, 111, 108, 117, 109, 110]⟩ : ByteArray) = (⟨#[34, 99, 111, 108, 117, 109, 110, 34]⟩ : ByteArray) := by decide +kernel
/-- A member put if so. -/
def ifL (b : Bool) (L : List ByteArray) (n v : ByteArray) : List ByteArray := if b = true then L ++ [memT n v] else L
theorem ifL_len (b : Bool) (L : List ByteArray) (n v : ByteArray) : L.length ≤ (ifL b L n v).length ∧ (ifL b L n v).length ≤ L.length + 1 := by
  unfold ifL
  split
  · rw [List.length_append, List.length_singleton]; omega
  · omega
def fL1 (x : FtR) : List ByteArray := [memT (⟨#[99, 111, 100, 101]⟩ : ByteArray) (sqT x.code)]
def fL2 (x : FtR) : List ByteArray := ifL (decide (0 < x.np)) (fL1 x) (⟨#[112, 97, 116, 104]⟩ : ByteArray) (pT x)
def fL3 (x : FtR) : List ByteArray := ifL (!x.dir.toList.isEmpty) (fL2 x) (⟨#[100, 105, 114, 101, 99, 116, 105, 118, 101]⟩ : ByteArray) (sqT x.dir)
def fL4 (x : FtR) : List ByteArray := ifL (x.rule != 0) (fL3 x) (⟨#[114, 117, 108, 101]⟩ : ByteArray) (itT x.rule)
def fL5 (x : FtR) : List ByteArray := ifL (x.line != 0) (fL4 x) (⟨#[108, 105, 110, 101]⟩ : ByteArray) (itT x.line)
def fL6 (x : FtR) : List ByteArray := ifL (x.line != 0) (fL5 x) (⟨#[99, 111, 108, 117, 109, 110]⟩ : ByteArray) (itT x.col)
theorem jn_put (L : List ByteArray) (x : ByteArray) (h : 0 < L.length) : (⟨#[123]⟩ : ByteArray) ++ jnT (L ++ [x]) = (⟨#[123]⟩ ++ jnT L) ++ (⟨#[44]⟩ ++ x) := by
  rw [jnT_cat, if_pos h]
  apply ByteArray.ext
  simp
theorem fL_text (x : FtR) : (⟨#[123]⟩ : ByteArray) ++ jnT (fL6 x) ++ ⟨#[125]⟩ = fltW x := by
  have l1 : 0 < (fL1 x).length := Nat.lt_succ_self 0
  have l2 : 0 < (fL2 x).length := Nat.lt_of_lt_of_le l1 (ifL_len _ _ _ _).1
  have l3 : 0 < (fL3 x).length := Nat.lt_of_lt_of_le l2 (ifL_len _ _ _ _).1
  have l4 : 0 < (fL4 x).length := Nat.lt_of_lt_of_le l3 (ifL_len _ _ _ _).1
  have l5 : 0 < (fL5 x).length := Nat.lt_of_lt_of_le l4 (ifL_len _ _ _ _).1
  have e1 : (⟨#[123]⟩ : ByteArray) ++ jnT (fL1 x) = (⟨#[123, 34, 99, 111, 100, 101, 34, 58]⟩ : ByteArray) ++ sqT x.code := by
    unfold fL1
    rw [jnT_one]
    unfold memT
    rw [sq_code]
    apply ByteArray.ext
    apply Array.toList_inj.1
    simp
  have e2 : (⟨#[123]⟩ : ByteArray) ++ jnT (fL2 x) = fp2 x (⟨#[123]⟩ ++ jnT (fL1 x)) := by
    unfold fL2 ifL fp2
    by_cases h : 0 < x.np
    · rw [if_pos (by simpa using h), if_pos h, jn_put _ _ l1]
      unfold memT pT
      rw [sq_path]
      apply ByteArray.ext
      apply Array.toList_inj.1
      simp
    · rw [if_neg (by simpa using h), if_neg h]
  have e3 : (⟨#[123]⟩ : ByteArray) ++ jnT (fL3 x) = fp3 x (⟨#[123]⟩ ++ jnT (fL2 x)) := by
    unfold fL3 ifL fp3
    by_cases h : x.dir.toList = []
    · rw [if_neg (by simp [h]), if_pos h]
    · rw [if_pos (by simpa using h), if_neg h, jn_put _ _ l2]
      unfold memT
      rw [sq_directive]
      apply ByteArray.ext
      apply Array.toList_inj.1
      simp
  have e4 : (⟨#[123]⟩ : ByteArray) ++ jnT (fL4 x) = fp4 x (⟨#[123]⟩ ++ jnT (fL3 x)) := by
    unfold fL4 ifL fp4
    by_cases h : x.rule = 0
    · rw [if_neg (by simp [h]), if_pos h]
    · rw [if_pos (by simpa using h), if_neg h, jn_put _ _ l3]
      unfold memT
      rw [sq_rule]
      apply ByteArray.ext
      apply Array.toList_inj.1
      simp
  have e5 : (⟨#[123]⟩ : ByteArray) ++ jnT (fL6 x) = fp5 x (⟨#[123]⟩ ++ jnT (fL4 x)) := by
    unfold fL6 ifL fp5
    by_cases h : x.line = 0
    · rw [if_neg (by simp [h]), if_pos h]
      unfold fL5 ifL
      rw [if_neg (by simp [h])]
    · rw [if_pos (by simpa using h), if_neg h, jn_put _ _ l5]
      unfold fL5 ifL
      rw [if_pos (by simpa using h), jn_put _ _ l4]
      unfold memT
      rw [sq_line, sq_column]
      apply ByteArray.ext
      apply Array.toList_inj.1
      simp
  unfold fltW
  rw [e5, e4, e3, e2, e1]
set_option maxRecDepth 20000 in
set_option maxHeartbeats 4000000 in
theorem sfault_any (x : FtR) (a : Option Addr) (cap : Nat) (w : World) (t : Tabs w) (hx : SmF x) (hv : StV w a x.np x.st) : Calls Tryd.prog 8 #[.agg #[.string x.code, .slice a x.np cap, .string x.dir, .int .i64 x.rule, .int .i64 x.line, .int .i64 x.col]] w fun e w' => e = .returned (.string (fltW x)) ∧ Below w.heap.size w w' := by
  have HE := Lib.hid (fL_text x)
  have HZ := Lib.hid (fltW_size hx)
  obtain ⟨W, hW⟩ : ∃ W, W = w.alloc (.cells #[.string x.code, .slice a x.np cap, .string x.dir, .int .i64 x.rule, .int .i64 x.line, .int .i64 x.col] 27) := ⟨_, rfl⟩
  have HBX : Hid (∀ V, Below W.heap.size W V → V.cell? ⟨w.heap.size, 0, none⟩ = some (.string x.code) ∧ V.cell? ⟨w.heap.size, 1, none⟩ = some (.slice a x.np cap) ∧ V.cell? ⟨w.heap.size, 2, none⟩ = some (.string x.dir) ∧ V.cell? ⟨w.heap.size, 3, none⟩ = some (.int .i64 x.rule) ∧ V.cell? ⟨w.heap.size, 4, none⟩ = some (.int .i64 x.line) ∧ V.cell? ⟨w.heap.size, 5, none⟩ = some (.int .i64 x.col)) := Lib.hid (fun V k => by
    have h : W.heap[w.heap.size]? = some (.cells #[.string x.code, .slice a x.np cap, .string x.dir, .int .i64 x.rule, .int .i64 x.line, .int .i64 x.col] 27) := by rw [hW]; exact heap_alloc_new w _
    have h2 : V.heap[w.heap.size]? = some (.cells #[.string x.code, .slice a x.np cap, .string x.dir, .int .i64 x.rule, .int .i64 x.line, .int .i64 x.col] 27) := by rw [k.block _ (Array.getElem?_eq_some_iff.1 h).1]; exact h
    exact ⟨by simp [World.cell?, h2], by simp [World.cell?, h2], by simp [World.cell?, h2], by simp [World.cell?, h2], by simp [World.cell?, h2], by simp [World.cell?, h2]⟩)
  have HB' : Hid (Below w.heap.size w W) := Lib.hid (by rw [hW]; exact (Below.refl _ _).alloc (Nat.le_refl _) _)
  have HT := Lib.hid (fun V (k : Below W.heap.size W V) => (t.later HB'.out).later k)
  have HSV := Lib.hid (fun V (k : Below W.heap.size W V) => (hv.below HB'.out).below k)
  have HQC := Lib.hid (fun V => squote_any x.code V (by have := hx.code; omega))
  have HQD := Lib.hid (fun V => squote_any x.dir V (by have := hx.dir; omega))
  have HIR := Lib.hid (fun V (k : Below W.heap.size W V) => snumber_any x.rule V (HT.out V k) hx.rule)
  have HIL := Lib.hid (fun V (k : Below W.heap.size W V) => snumber_any x.line V (HT.out V k) hx.line)
  have HIK := Lib.hid (fun V (k : Below W.heap.size W V) => snumber_any x.col V (HT.out V k) hx.col)
  have HPA := Lib.hid (fun V (k : Below W.heap.size W V) => spath_all x a cap V (HT.out V k) hx (HSV.out V k))
  have z1 := sqT_size x.code
  have z1' := hx.code
  have z2 := sqT_size x.dir
  have z2' := hx.dir
  have z3 := pthW_size (st := x.st) x.np hx.st
  have z3' := hx.np
  have z4 := itT_size hx.rule
  have z5 := itT_size hx.line
  have z6 := itT_size hx.col
  have z7 : (pT x).size ≤ 20000000 := by
    unfold pT
    rw [app_size, app_size]
    show 1 + _ + 1 ≤ _
    omega
  have HPC := Lib.hid (fun V => smember_any (⟨#[99, 111, 100, 101]⟩ : ByteArray) (sqT x.code) V (by decide) (by omega))
  have ln1 : (fL1 x).length = 1 := rfl
  have ln2 := (ifL_len (decide (0 < x.np)) (fL1 x) (⟨#[112, 97, 116, 104]⟩ : ByteArray) (pT x)).2
  have ln3 := (ifL_len (!x.dir.toList.isEmpty) (fL2 x) (⟨#[100, 105, 114, 101, 99, 116, 105, 118, 101]⟩ : ByteArray) (sqT x.dir)).2
  have ln4 := (ifL_len (x.rule != 0) (fL3 x) (⟨#[114, 117, 108, 101]⟩ : ByteArray) (itT x.rule)).2
  have ln5 := (ifL_len (x.line != 0) (fL4 x) (⟨#[108, 105, 110, 101]⟩ : ByteArray) (itT x.line)).2
  have ln6 := (ifL_len (x.line != 0) (fL5 x) (⟨#[99, 111, 108, 117, 109, 110]⟩ : ByteArray) (itT x.col)).2
  change (fL2 x).length ≤ _ at ln2
  change (fL3 x).length ≤ _ at ln3
  change (fL4 x).length ≤ _ at ln4
  change (fL5 x).length ≤ _ at ln5
  change (fL6 x).length ≤ _ at ln6
  have HP2 : Hid (∀ (b : Nat) V, MB W.heap.size b (fL1 x) V → Calls Tryd.prog 15 #[.bool (decide (0 < x.np)), .string (⟨#[112, 97, 116, 104]⟩ : ByteArray), .string (pT x), .pointer (some ⟨b, 0, none⟩)] V fun e w' => e = .returned (.tuple #[]) ∧ MB W.heap.size b (fL2 x) w' ∧ Below W.heap.size V w') := Lib.hid (fun b V h => sput_any _ _ _ _ b _ V h (by decide) (by omega) (by omega))
  have HP3 : Hid (∀ (b : Nat) V, MB W.heap.size b (fL2 x) V → Calls Tryd.prog 15 #[.bool (!x.dir.toList.isEmpty), .string (⟨#[100, 105, 114, 101, 99, 116, 105, 118, 101]⟩ : ByteArray), .string (sqT x.dir), .pointer (some ⟨b, 0, none⟩)] V fun e w' => e = .returned (.tuple #[]) ∧ MB W.heap.size b (fL3 x) w' ∧ Below W.heap.size V w') := Lib.hid (fun b V h => sput_any _ _ _ _ b _ V h (by decide) (by omega) (by omega))
  have HP4 : Hid (∀ (b : Nat) V, MB W.heap.size b (fL3 x) V → Calls Tryd.prog 15 #[.bool (x.rule != 0), .string (⟨#[114, 117, 108, 101]⟩ : ByteArray), .string (itT x.rule), .pointer (some ⟨b, 0, none⟩)] V fun e w' => e = .returned (.tuple #[]) ∧ MB W.heap.size b (fL4 x) w' ∧ Below W.heap.size V w') := Lib.hid (fun b V h => sput_any _ _ _ _ b _ V h (by decide) (by omega) (by omega))
  have HP5 : Hid (∀ (b : Nat) V, MB W.heap.size b (fL4 x) V → Calls Tryd.prog 15 #[.bool (x.line != 0), .string (⟨#[108, 105, 110, 101]⟩ : ByteArray), .string (itT x.line), .pointer (some ⟨b, 0, none⟩)] V fun e w' => e = .returned (.tuple #[]) ∧ MB W.heap.size b (fL5 x) w' ∧ Below W.heap.size V w') := Lib.hid (fun b V h => sput_any _ _ _ _ b _ V h (by decide) (by omega) (by omega))
  have HP6 : Hid (∀ (b : Nat) V, MB W.heap.size b (fL5 x) V → Calls Tryd.prog 15 #[.bool (x.line != 0), .string (⟨#[99, 111, 108, 117, 109, 110]⟩ : ByteArray), .string (itT x.col), .pointer (some ⟨b, 0, none⟩)] V fun e w' => e = .returned (.tuple #[]) ∧ MB W.heap.size b (fL6 x) w' ∧ Below W.heap.size V w') := Lib.hid (fun b V h => sput_any _ _ _ _ b _ V h (by decide) (by omega) (by omega))
  have HJZ : Hid ((jnT (fL6 x)).size ≤ 20000000) := Lib.hid (by
    have h1 := HZ.out
    rw [← HE.out, app_size, app_size] at h1
    omega)
  have HLN : Hid ((fL6 x).length ≤ 10) := Lib.hid (by omega)
  have HW1 : Hid (fL1 x = [memT (⟨#[99, 111, 100, 101]⟩ : ByteArray) (sqT x.code)]) := Lib.hid rfl
  clear hx hv t z1 z1' z2 z2' z3 z3' z4 z5 z6 z7 ln1 ln2 ln3 ln4 ln5 ln6
  obtain ⟨T1, hT1⟩ : ∃ s, s = memT (⟨#[99, 111, 100, 101]⟩ : ByteArray) (sqT x.code) := ⟨_, rfl⟩
  obtain ⟨C, hC⟩ : ∃ C, C = sqT x.code := ⟨_, rfl⟩
  obtain ⟨P, hP⟩ : ∃ C, C = pT x := ⟨_, rfl⟩
  obtain ⟨D, hD⟩ : ∃ C, C = sqT x.dir := ⟨_, rfl⟩
  obtain ⟨I1, hI1⟩ : ∃ C, C = itT x.rule := ⟨_, rfl⟩
  obtain ⟨I2, hI2⟩ : ∃ C, C = itT x.line := ⟨_, rfl⟩
  obtain ⟨I3, hI3⟩ : ∃ C, C = itT x.col := ⟨_, rfl⟩
  rw [← hT1] at HPC HW1
  rw [← hC] at HPC HQC
  rw [← hP] at HPA HP2
  rw [← hD] at HQD HP3
  rw [← hI1] at HIR HP4
  rw [← hI2] at HIL HP5
  rw [← hI3] at HIK HP6
  clear hT1 hC hP hD hI1 hI2 hI3
  go_enter Tryd.func8, Tryd.ntmps8
  go_wp2_with fail
  rw [← hW]
  obtain ⟨z0, z1, z2, z3, z4, z5⟩ := HBX.out W (Below.refl _ _)
  clear hW
  go_wp2_with fail
  refine (HQC.out _).mono ?_
  rintro e w1 ⟨rfl, b1⟩
  have B1 := Lib.hid b1
  clear b1
  go_wp2_with fail
  refine (HPC.out _).mono ?_
  rintro e w2 ⟨rfl, b2⟩
  have B2 := Lib.hid (B1.out.trans (b2.mono B1.out.size))
  clear b2
  go_wp2_with fail
  clear z0 z1 z2 z3 z4 z5
  obtain ⟨W3, hW3⟩ : ∃ V, V = (w2.alloc (.cells #[.string T1] 9)).alloc (.cells #[.slice (some ⟨w2.heap.size, 0, none⟩) 1 1] 35) := ⟨_, rfl⟩
  have BL3 : Hid (Below W.heap.size W W3) := Lib.hid (by rw [hW3]; exact (B2.out.alloc B2.out.size _).alloc (by have h1 := B2.out.size; have h2 : (w2.alloc (.cells #[.string T1] 9)).heap.size = w2.heap.size + 1 := (by simp); omega) _)
  have HM3 : Hid (MB W.heap.size (w2.heap.size + 1) (fL1 x) W3) := Lib.hid (by rw [hW3, HW1.out]; exact mb_new B2.out.size T1)
  rw [← hW3]
  obtain ⟨b, hb⟩ : ∃ b, b = w2.heap.size + 1 := ⟨_, rfl⟩
  rw [← hb] at HM3 ⊢
  clear hW3 hb HW1 HPC B1 B2
  have HQ : Hid (∀ w', Below W.heap.size W w' → (fun w' => Below W.heap.size W w' ∧ w'.cell? ⟨w.heap.size, 0, none⟩ = some (.string x.code) ∧ w'.cell? ⟨w.heap.size, 1, none⟩ = some (.slice a x.np cap) ∧ w'.cell? ⟨w.heap.size, 2, none⟩ = some (.string x.dir) ∧ w'.cell? ⟨w.heap.size, 3, none⟩ = some (.int .i64 x.rule) ∧ w'.cell? ⟨w.heap.size, 4, none⟩ = some (.int .i64 x.line) ∧ w'.cell? ⟨w.heap.size, 5, none⟩ = some (.int .i64 x.col)) w') := Lib.hid (fun w' hb => ⟨hb, HBX.out _ hb⟩)
  refine wp_region_held_drew (S := (fun w' => Below W.heap.size W w' ∧ w'.cell? ⟨w.heap.size, 0, none⟩ = some (.string x.code) ∧ w'.cell? ⟨w.heap.size, 1, none⟩ = some (.slice a x.np cap) ∧ w'.cell? ⟨w.heap.size, 2, none⟩ = some (.string x.dir) ∧ w'.cell? ⟨w.heap.size, 3, none⟩ = some (.int .i64 x.rule) ∧ w'.cell? ⟨w.heap.size, 4, none⟩ = some (.int .i64 x.line) ∧ w'.cell? ⟨w.heap.size, 5, none⟩ = some (.int .i64 x.col))) (by kernel_rfl) (HQ.out _ BL3.out.drew) (fun hHeld => ?_)
  refine wpAnyH_take (i := 0) (oi := { dst := some 12, op := Op.move (Operand.tmp 4), type := 43, pos := "write.go:70", after := #[], guard := none }) (v := ?_) rfl (by kernel_rfl) (by kernel_rfl) (by kernel_rfl) (fun _ _ _ h => h) (Or.inl ⟨by rfl, ?_⟩) hHeld ?_
  rotate_left
  · (intro w hSw; (try dsimp only at hSw); go_simp <;> with_reducible rfl)
  try simp only [Act.put, List.setIfInBounds_toArray, List.set_cons_zero, List.set_cons_succ]
  refine wpAnyH_take (i := 1) (oi := { dst := some 13, op := Op.fieldAddr 27 (Operand.tmp 1) 1, type := 0, pos := "write.go:70", after := #[], guard := none }) (v := ?_) rfl (by kernel_rfl) (by kernel_rfl) (by kernel_rfl) (fun _ _ _ h => h) (Or.inl ⟨by rfl, ?_⟩) hHeld ?_
  rotate_left
  · (intro w hSw; (try dsimp only at hSw); go_simp <;> with_reducible rfl)
  try simp only [Act.put, List.setIfInBounds_toArray, List.set_cons_zero, List.set_cons_succ]
  refine wpAnyH_take (i := 2) (oi := { dst := some 14, op := Op.load 25 (Operand.tmp 13), type := 25, pos := "write.go:70", after := #[{ on := 1, ground := Ground.data }], guard := none }) (v := ?_) rfl (by kernel_rfl) (by kernel_rfl) (by kernel_rfl) (fun _ _ _ h => h) (Or.inl ⟨by rfl, ?_⟩) hHeld ?_
  rotate_left
  · (intro w hSw; (try dsimp only at hSw); go_simp <;> with_reducible rfl)
  try simp only [Act.put, List.setIfInBounds_toArray, List.set_cons_zero, List.set_cons_succ]
  refine wpAnyH_take (i := 3) (oi := { dst := some 15, op := Op.call { callee := Callee.builtin Builtin.len, args := #[Operand.tmp 14], argTypes := #[25] }, type := 3, pos := "write.go:70", after := #[{ on := 2, ground := Ground.data }], guard := none }) (v := ?_) rfl (by kernel_rfl) (by kernel_rfl) (by kernel_rfl) (fun _ _ _ h => h) (Or.inl ⟨by rfl, ?_⟩) hHeld ?_
  rotate_left
  · (intro w hSw; (try dsimp only at hSw); go_simp <;> with_reducible rfl)
  try simp only [Act.put, List.setIfInBounds_toArray, List.set_cons_zero, List.set_cons_succ]
  refine wpAnyH_take (i := 4) (oi := { dst := some 16, op := Op.binOp BinOp.gtr 3 (Operand.tmp 15) (Operand.const (Value.int IntKind.i64 0)) 3, type := 4, pos := "write.go:70", after := #[{ on := 3, ground := Ground.data }], guard := none }) (v := ?_) rfl (by kernel_rfl) (by kernel_rfl) (by kernel_rfl) (fun _ _ _ h => h) (Or.inl ⟨by rfl, ?_⟩) hHeld ?_
  rotate_left
  · (intro w hSw; (try dsimp only at hSw); go_simp <;> with_reducible rfl)
  try simp only [Act.put, List.setIfInBounds_toArray, List.set_cons_zero, List.set_cons_succ]
  refine wpAnyH_take (i := 5) (oi := { dst := some 17, op := Op.fieldAddr 27 (Operand.tmp 1) 1, type := 0, pos := "write.go:70", after := #[], guard := none }) (v := ?_) rfl (by kernel_rfl) (by kernel_rfl) (by kernel_rfl) (fun _ _ _ h => h) (Or.inl ⟨by rfl, ?_⟩) hHeld ?_
  rotate_left
  · (intro w hSw; (try dsimp only at hSw); go_simp <;> with_reducible rfl)
  try simp only [Act.put, List.setIfInBounds_toArray, List.set_cons_zero, List.set_cons_succ]
  refine wpAnyH_take (i := 6) (oi := { dst := some 18, op := Op.load 25 (Operand.tmp 17), type := 25, pos := "write.go:70", after := #[{ on := 5, ground := Ground.data }], guard := none }) (v := ?_) rfl (by kernel_rfl) (by kernel_rfl) (by kernel_rfl) (fun _ _ _ h => h) (Or.inl ⟨by rfl, ?_⟩) hHeld ?_
  rotate_left
  · (intro w hSw; (try dsimp only at hSw); go_simp <;> with_reducible rfl)
  try simp only [Act.put, List.setIfInBounds_toArray, List.set_cons_zero, List.set_cons_succ]
  refine wpAnyH_ready (rs := [7]) (by kernel_rfl) (by simp) (AllReadyH.cons (o := { dst := some 19, op := Op.call { callee := Callee.value (Operand.func 18), args := #[Operand.tmp 18], argTypes := #[25] }, type := 9, pos := "write.go:70", after := #[{ on := 6, ground := Ground.data }], guard := none }) rfl (fun K7 hK7 => ?_) AllReadyH.nil)
  go_simp
  refine (HPA.out _ hHeld.1).mono ?_
  rintro e wq4 ⟨rfl, hq⟩
  have HN4 := Lib.hid (MB.up HM3.out.drew hq)
  refine hK7.out _ _ (HQ.out _ (hHeld.1.trans (hq.mono hHeld.1.size))) (fun hH_7 => ?_)
  clear hq
  clear hK7 K7
  try simp only [Act.put, List.setIfInBounds_toArray, List.set_cons_zero, List.set_cons_succ]
  refine wpAnyH_ready (rs := [8]) (by kernel_rfl) (by simp) (AllReadyH.cons (o := { dst := some 20, op := Op.call { callee := Callee.value (Operand.tmp 12), args := #[Operand.tmp 16, Operand.const (Value.string { data := #[112, 97, 116, 104] }), Operand.tmp 19], argTypes := #[4, 9, 9] }, type := 0, pos := "write.go:70", after := #[{ on := 0, ground := Ground.data }, { on := 4, ground := Ground.data }, { on := 7, ground := Ground.data }, { on := 7, ground := Ground.chain }], guard := none }) rfl (fun K8 hK8 => ?_) AllReadyH.nil)
  go_simp
  refine (HP2.out _ _ HN4.out).mono ?_
  rintro e w4 ⟨rfl, hm, hq⟩
  have HM4 := Lib.hid hm
  refine hK8.out _ _ (HQ.out _ (hH_7.1.trans hq)) (fun hH_8 => ?_)
  clear hm hq
  clear hK8 K8
  try simp only [Act.put, List.setIfInBounds_toArray, List.set_cons_zero, List.set_cons_succ]
  refine wpAnyH_done (by kernel_rfl) ?_ _
  have BL4 := Lib.hid hH_8.1
  clear hHeld hH_7 hH_8 HN4
  go_wp2_with fail
  refine wp_region_held_drew (S := (fun w' => Below W.heap.size W w' ∧ w'.cell? ⟨w.heap.size, 0, none⟩ = some (.string x.code) ∧ w'.cell? ⟨w.heap.size, 1, none⟩ = some (.slice a x.np cap) ∧ w'.cell? ⟨w.heap.size, 2, none⟩ = some (.string x.dir) ∧ w'.cell? ⟨w.heap.size, 3, none⟩ = some (.int .i64 x.rule) ∧ w'.cell? ⟨w.heap.size, 4, none⟩ = some (.int .i64 x.line) ∧ w'.cell? ⟨w.heap.size, 5, none⟩ = some (.int .i64 x.col))) (by kernel_rfl) (HQ.out _ BL4.out.drew) (fun hHeld => ?_)
  refine wpAnyH_take (i := 0) (oi := { dst := some 21, op := Op.move (Operand.tmp 4), type := 43, pos := "write.go:71", after := #[], guard := none }) (v := ?_) rfl (by kernel_rfl) (by kernel_rfl) (by kernel_rfl) (fun _ _ _ h => h) (Or.inl ⟨by rfl, ?_⟩) hHeld ?_
  rotate_left
  · (intro w hSw; (try dsimp only at hSw); go_simp <;> with_reducible rfl)
  try simp only [Act.put, List.setIfInBounds_toArray, List.set_cons_zero, List.set_cons_succ]
  refine wpAnyH_take (i := 1) (oi := { dst := some 22, op := Op.fieldAddr 27 (Operand.tmp 1) 2, type := 0, pos := "write.go:71", after := #[], guard := none }) (v := ?_) rfl (by kernel_rfl) (by kernel_rfl) (by kernel_rfl) (fun _ _ _ h => h) (Or.inl ⟨by rfl, ?_⟩) hHeld ?_
  rotate_left
  · (intro w hSw; (try dsimp only at hSw); go_simp <;> with_reducible rfl)
  try simp only [Act.put, List.setIfInBounds_toArray, List.set_cons_zero, List.set_cons_succ]
  refine wpAnyH_take (i := 2) (oi := { dst := some 23, op := Op.load 9 (Operand.tmp 22), type := 9, pos := "write.go:71", after := #[{ on := 1, ground := Ground.data }], guard := none }) (v := ?_) rfl (by kernel_rfl) (by kernel_rfl) (by kernel_rfl) (fun _ _ _ h => h) (Or.inl ⟨by rfl, ?_⟩) hHeld ?_
  rotate_left
  · (intro w hSw; (try dsimp only at hSw); go_simp <;> with_reducible rfl)
  try simp only [Act.put, List.setIfInBounds_toArray, List.set_cons_zero, List.set_cons_succ]
  refine wpAnyH_take (i := 3) (oi := { dst := some 24, op := Op.binOp BinOp.neq 9 (Operand.tmp 23) (Operand.const (Value.string { data := #[] })) 9, type := 4, pos := "write.go:71", after := #[{ on := 2, ground := Ground.data }], guard := none }) (v := ?_) rfl (by kernel_rfl) (by kernel_rfl) (by kernel_rfl) (fun _ _ _ h => h) (Or.inl ⟨by rfl, ?_⟩) hHeld ?_
  rotate_left
  · (intro w hSw; (try dsimp only at hSw); go_simp <;> with_reducible rfl)
  try simp only [Act.put, List.setIfInBounds_toArray, List.set_cons_zero, List.set_cons_succ]
  refine wpAnyH_take (i := 4) (oi := { dst := some 25, op := Op.fieldAddr 27 (Operand.tmp 1) 2, type := 0, pos := "write.go:71", after := #[], guard := none }) (v := ?_) rfl (by kernel_rfl) (by kernel_rfl) (by kernel_rfl) (fun _ _ _ h => h) (Or.inl ⟨by rfl, ?_⟩) hHeld ?_
  rotate_left
  · (intro w hSw; (try dsimp only at hSw); go_simp <;> with_reducible rfl)
  try simp only [Act.put, List.setIfInBounds_toArray, List.set_cons_zero, List.set_cons_succ]
  refine wpAnyH_take (i := 5) (oi := { dst := some 26, op := Op.load 9 (Operand.tmp 25), type := 9, pos := "write.go:71", after := #[{ on := 4, ground := Ground.data }], guard := none }) (v := ?_) rfl (by kernel_rfl) (by kernel_rfl) (by kernel_rfl) (fun _ _ _ h => h) (Or.inl ⟨by rfl, ?_⟩) hHeld ?_
  rotate_left
  · (intro w hSw; (try dsimp only at hSw); go_simp <;> with_reducible rfl)
  try simp only [Act.put, List.setIfInBounds_toArray, List.set_cons_zero, List.set_cons_succ]
  refine wpAnyH_ready (rs := [6]) (by kernel_rfl) (by simp) (AllReadyH.cons (o := { dst := some 27, op := Op.call { callee := Callee.value (Operand.func 14), args := #[Operand.tmp 26], argTypes := #[9] }, type := 9, pos := "write.go:71", after := #[{ on := 5, ground := Ground.data }], guard := none }) rfl (fun K6 hK6 => ?_) AllReadyH.nil)
  go_simp
  refine (HQD.out _).mono ?_
  rintro e wq5 ⟨rfl, hq⟩
  have HN5 := Lib.hid (MB.up HM4.out.drew hq)
  refine hK6.out _ _ (HQ.out _ (hHeld.1.trans (hq.mono hHeld.1.size))) (fun hH_6 => ?_)
  clear hq
  clear hK6 K6
  try simp only [Act.put, List.setIfInBounds_toArray, List.set_cons_zero, List.set_cons_succ]
  refine wpAnyH_ready (rs := [7]) (by kernel_rfl) (by simp) (AllReadyH.cons (o := { dst := some 28, op := Op.call { callee := Callee.value (Operand.tmp 21), args := #[Operand.tmp 24, Operand.const (Value.string { data := #[100, 105, 114, 101, 99, 116, 105, 118, 101] }), Operand.tmp 27], argTypes := #[4, 9, 9] }, type := 0, pos := "write.go:71", after := #[{ on := 0, ground := Ground.data }, { on := 3, ground := Ground.data }, { on := 6, ground := Ground.data }, { on := 6, ground := Ground.chain }], guard := none }) rfl (fun K7 hK7 => ?_) AllReadyH.nil)
  go_simp
  refine (HP3.out _ _ HN5.out).mono ?_
  rintro e w5 ⟨rfl, hm, hq⟩
  have HM5 := Lib.hid hm
  refine hK7.out _ _ (HQ.out _ (hH_6.1.trans hq)) (fun hH_7 => ?_)
  clear hm hq
  clear hK7 K7
  try simp only [Act.put, List.setIfInBounds_toArray, List.set_cons_zero, List.set_cons_succ]
  refine wpAnyH_done (by kernel_rfl) ?_ _
  have BL5 := Lib.hid hH_7.1
  clear hHeld hH_6 hH_7 HN5
  go_wp2_with fail
  refine wp_region_held_drew (S := (fun w' => Below W.heap.size W w' ∧ w'.cell? ⟨w.heap.size, 0, none⟩ = some (.string x.code) ∧ w'.cell? ⟨w.heap.size, 1, none⟩ = some (.slice a x.np cap) ∧ w'.cell? ⟨w.heap.size, 2, none⟩ = some (.string x.dir) ∧ w'.cell? ⟨w.heap.size, 3, none⟩ = some (.int .i64 x.rule) ∧ w'.cell? ⟨w.heap.size, 4, none⟩ = some (.int .i64 x.line) ∧ w'.cell? ⟨w.heap.size, 5, none⟩ = some (.int .i64 x.col))) (by kernel_rfl) (HQ.out _ BL5.out.drew) (fun hHeld => ?_)
  refine wpAnyH_take (i := 0) (oi := { dst := some 29, op := Op.move (Operand.tmp 4), type := 43, pos := "write.go:72", after := #[], guard := none }) (v := ?_) rfl (by kernel_rfl) (by kernel_rfl) (by kernel_rfl) (fun _ _ _ h => h) (Or.inl ⟨by rfl, ?_⟩) hHeld ?_
  rotate_left
  · (intro w hSw; (try dsimp only at hSw); go_simp <;> with_reducible rfl)
  try simp only [Act.put, List.setIfInBounds_toArray, List.set_cons_zero, List.set_cons_succ]
  refine wpAnyH_take (i := 1) (oi := { dst := some 30, op := Op.fieldAddr 27 (Operand.tmp 1) 3, type := 0, pos := "write.go:72", after := #[], guard := none }) (v := ?_) rfl (by kernel_rfl) (by kernel_rfl) (by kernel_rfl) (fun _ _ _ h => h) (Or.inl ⟨by rfl, ?_⟩) hHeld ?_
  rotate_left
  · (intro w hSw; (try dsimp only at hSw); go_simp <;> with_reducible rfl)
  try simp only [Act.put, List.setIfInBounds_toArray, List.set_cons_zero, List.set_cons_succ]
  refine wpAnyH_take (i := 2) (oi := { dst := some 31, op := Op.load 3 (Operand.tmp 30), type := 3, pos := "write.go:72", after := #[{ on := 1, ground := Ground.data }], guard := none }) (v := ?_) rfl (by kernel_rfl) (by kernel_rfl) (by kernel_rfl) (fun _ _ _ h => h) (Or.inl ⟨by rfl, ?_⟩) hHeld ?_
  rotate_left
  · (intro w hSw; (try dsimp only at hSw); go_simp <;> with_reducible rfl)
  try simp only [Act.put, List.setIfInBounds_toArray, List.set_cons_zero, List.set_cons_succ]
  refine wpAnyH_take (i := 3) (oi := { dst := some 32, op := Op.binOp BinOp.neq 3 (Operand.tmp 31) (Operand.const (Value.int IntKind.i64 0)) 3, type := 4, pos := "write.go:72", after := #[{ on := 2, ground := Ground.data }], guard := none }) (v := ?_) rfl (by kernel_rfl) (by kernel_rfl) (by kernel_rfl) (fun _ _ _ h => h) (Or.inl ⟨by rfl, ?_⟩) hHeld ?_
  rotate_left
  · (intro w hSw; (try dsimp only at hSw); go_simp <;> with_reducible rfl)
  try simp only [Act.put, List.setIfInBounds_toArray, List.set_cons_zero, List.set_cons_succ]
  refine wpAnyH_take (i := 4) (oi := { dst := some 33, op := Op.move (Operand.tmp 5), type := 45, pos := "write.go:72", after := #[], guard := none }) (v := ?_) rfl (by kernel_rfl) (by kernel_rfl) (by kernel_rfl) (fun _ _ _ h => h) (Or.inl ⟨by rfl, ?_⟩) hHeld ?_
  rotate_left
  · (intro w hSw; (try dsimp only at hSw); go_simp <;> with_reducible rfl)
  try simp only [Act.put, List.setIfInBounds_toArray, List.set_cons_zero, List.set_cons_succ]
  refine wpAnyH_take (i := 5) (oi := { dst := some 34, op := Op.fieldAddr 27 (Operand.tmp 1) 3, type := 0, pos := "write.go:72", after := #[], guard := none }) (v := ?_) rfl (by kernel_rfl) (by kernel_rfl) (by kernel_rfl) (fun _ _ _ h => h) (Or.inl ⟨by rfl, ?_⟩) hHeld ?_
  rotate_left
  · (intro w hSw; (try dsimp only at hSw); go_simp <;> with_reducible rfl)
  try simp only [Act.put, List.setIfInBounds_toArray, List.set_cons_zero, List.set_cons_succ]
  refine wpAnyH_take (i := 6) (oi := { dst := some 35, op := Op.load 3 (Operand.tmp 34), type := 3, pos := "write.go:72", after := #[{ on := 5, ground := Ground.data }], guard := none }) (v := ?_) rfl (by kernel_rfl) (by kernel_rfl) (by kernel_rfl) (fun _ _ _ h => h) (Or.inl ⟨by rfl, ?_⟩) hHeld ?_
  rotate_left
  · (intro w hSw; (try dsimp only at hSw); go_simp <;> with_reducible rfl)
  try simp only [Act.put, List.setIfInBounds_toArray, List.set_cons_zero, List.set_cons_succ]
  refine wpAnyH_ready (rs := [7]) (by kernel_rfl) (by simp) (AllReadyH.cons (o := { dst := some 36, op := Op.call { callee := Callee.value (Operand.tmp 33), args := #[Operand.tmp 35], argTypes := #[3] }, type := 9, pos := "write.go:72", after := #[{ on := 4, ground := Ground.data }, { on := 6, ground := Ground.data }], guard := none }) rfl (fun K7 hK7 => ?_) AllReadyH.nil)
  go_simp
  refine (HIR.out _ hHeld.1).mono ?_
  rintro e wq6 ⟨rfl, hq⟩
  have HN6 := Lib.hid (MB.up HM5.out.drew hq)
  refine hK7.out _ _ (HQ.out _ (hHeld.1.trans (hq.mono hHeld.1.size))) (fun hH_7 => ?_)
  clear hq
  clear hK7 K7
  try simp only [Act.put, List.setIfInBounds_toArray, List.set_cons_zero, List.set_cons_succ]
  refine wpAnyH_ready (rs := [8]) (by kernel_rfl) (by simp) (AllReadyH.cons (o := { dst := some 37, op := Op.call { callee := Callee.value (Operand.tmp 29), args := #[Operand.tmp 32, Operand.const (Value.string { data := #[114, 117, 108, 101] }), Operand.tmp 36], argTypes := #[4, 9, 9] }, type := 0, pos := "write.go:72", after := #[{ on := 0, ground := Ground.data }, { on := 3, ground := Ground.data }, { on := 7, ground := Ground.data }, { on := 7, ground := Ground.chain }], guard := none }) rfl (fun K8 hK8 => ?_) AllReadyH.nil)
  go_simp
  refine (HP4.out _ _ HN6.out).mono ?_
  rintro e w6 ⟨rfl, hm, hq⟩
  have HM6 := Lib.hid hm
  refine hK8.out _ _ (HQ.out _ (hH_7.1.trans hq)) (fun hH_8 => ?_)
  clear hm hq
  clear hK8 K8
  try simp only [Act.put, List.setIfInBounds_toArray, List.set_cons_zero, List.set_cons_succ]
  refine wpAnyH_done (by kernel_rfl) ?_ _
  have BL6 := Lib.hid hH_8.1
  clear hHeld hH_7 hH_8 HN6
  go_wp2_with fail
  refine wp_region_held_drew (S := (fun w' => Below W.heap.size W w' ∧ w'.cell? ⟨w.heap.size, 0, none⟩ = some (.string x.code) ∧ w'.cell? ⟨w.heap.size, 1, none⟩ = some (.slice a x.np cap) ∧ w'.cell? ⟨w.heap.size, 2, none⟩ = some (.string x.dir) ∧ w'.cell? ⟨w.heap.size, 3, none⟩ = some (.int .i64 x.rule) ∧ w'.cell? ⟨w.heap.size, 4, none⟩ = some (.int .i64 x.line) ∧ w'.cell? ⟨w.heap.size, 5, none⟩ = some (.int .i64 x.col))) (by kernel_rfl) (HQ.out _ BL6.out.drew) (fun hHeld => ?_)
  refine wpAnyH_take (i := 0) (oi := { dst := some 38, op := Op.move (Operand.tmp 4), type := 43, pos := "write.go:73", after := #[], guard := none }) (v := ?_) rfl (by kernel_rfl) (by kernel_rfl) (by kernel_rfl) (fun _ _ _ h => h) (Or.inl ⟨by rfl, ?_⟩) hHeld ?_
  rotate_left
  · (intro w hSw; (try dsimp only at hSw); go_simp <;> with_reducible rfl)
  try simp only [Act.put, List.setIfInBounds_toArray, List.set_cons_zero, List.set_cons_succ]
  refine wpAnyH_take (i := 1) (oi := { dst := some 39, op := Op.fieldAddr 27 (Operand.tmp 1) 4, type := 0, pos := "write.go:73", after := #[], guard := none }) (v := ?_) rfl (by kernel_rfl) (by kernel_rfl) (by kernel_rfl) (fun _ _ _ h => h) (Or.inl ⟨by rfl, ?_⟩) hHeld ?_
  rotate_left
  · (intro w hSw; (try dsimp only at hSw); go_simp <;> with_reducible rfl)
  try simp only [Act.put, List.setIfInBounds_toArray, List.set_cons_zero, List.set_cons_succ]
  refine wpAnyH_take (i := 2) (oi := { dst := some 40, op := Op.load 3 (Operand.tmp 39), type := 3, pos := "write.go:73", after := #[{ on := 1, ground := Ground.data }], guard := none }) (v := ?_) rfl (by kernel_rfl) (by kernel_rfl) (by kernel_rfl) (fun _ _ _ h => h) (Or.inl ⟨by rfl, ?_⟩) hHeld ?_
  rotate_left
  · (intro w hSw; (try dsimp only at hSw); go_simp <;> with_reducible rfl)
  try simp only [Act.put, List.setIfInBounds_toArray, List.set_cons_zero, List.set_cons_succ]
  refine wpAnyH_take (i := 3) (oi := { dst := some 41, op := Op.binOp BinOp.neq 3 (Operand.tmp 40) (Operand.const (Value.int IntKind.i64 0)) 3, type := 4, pos := "write.go:73", after := #[{ on := 2, ground := Ground.data }], guard := none }) (v := ?_) rfl (by kernel_rfl) (by kernel_rfl) (by kernel_rfl) (fun _ _ _ h => h) (Or.inl ⟨by rfl, ?_⟩) hHeld ?_
  rotate_left
  · (intro w hSw; (try dsimp only at hSw); go_simp <;> with_reducible rfl)
  try simp only [Act.put, List.setIfInBounds_toArray, List.set_cons_zero, List.set_cons_succ]
  refine wpAnyH_take (i := 4) (oi := { dst := some 42, op := Op.move (Operand.tmp 5), type := 45, pos := "write.go:73", after := #[], guard := none }) (v := ?_) rfl (by kernel_rfl) (by kernel_rfl) (by kernel_rfl) (fun _ _ _ h => h) (Or.inl ⟨by rfl, ?_⟩) hHeld ?_
  rotate_left
  · (intro w hSw; (try dsimp only at hSw); go_simp <;> with_reducible rfl)
  try simp only [Act.put, List.setIfInBounds_toArray, List.set_cons_zero, List.set_cons_succ]
  refine wpAnyH_take (i := 5) (oi := { dst := some 43, op := Op.fieldAddr 27 (Operand.tmp 1) 4, type := 0, pos := "write.go:73", after := #[], guard := none }) (v := ?_) rfl (by kernel_rfl) (by kernel_rfl) (by kernel_rfl) (fun _ _ _ h => h) (Or.inl ⟨by rfl, ?_⟩) hHeld ?_
  rotate_left
  · (intro w hSw; (try dsimp only at hSw); go_simp <;> with_reducible rfl)
  try simp only [Act.put, List.setIfInBounds_toArray, List.set_cons_zero, List.set_cons_succ]
  refine wpAnyH_take (i := 6) (oi := { dst := some 44, op := Op.load 3 (Operand.tmp 43), type := 3, pos := "write.go:73", after := #[{ on := 5, ground := Ground.data }], guard := none }) (v := ?_) rfl (by kernel_rfl) (by kernel_rfl) (by kernel_rfl) (fun _ _ _ h => h) (Or.inl ⟨by rfl, ?_⟩) hHeld ?_
  rotate_left
  · (intro w hSw; (try dsimp only at hSw); go_simp <;> with_reducible rfl)
  try simp only [Act.put, List.setIfInBounds_toArray, List.set_cons_zero, List.set_cons_succ]
  refine wpAnyH_ready (rs := [7]) (by kernel_rfl) (by simp) (AllReadyH.cons (o := { dst := some 45, op := Op.call { callee := Callee.value (Operand.tmp 42), args := #[Operand.tmp 44], argTypes := #[3] }, type := 9, pos := "write.go:73", after := #[{ on := 4, ground := Ground.data }, { on := 6, ground := Ground.data }], guard := none }) rfl (fun K7 hK7 => ?_) AllReadyH.nil)
  go_simp
  refine (HIL.out _ hHeld.1).mono ?_
  rintro e wq7 ⟨rfl, hq⟩
  have HN7 := Lib.hid (MB.up HM6.out.drew hq)
  refine hK7.out _ _ (HQ.out _ (hHeld.1.trans (hq.mono hHeld.1.size))) (fun hH_7 => ?_)
  clear hq
  clear hK7 K7
  try simp only [Act.put, List.setIfInBounds_toArray, List.set_cons_zero, List.set_cons_succ]
  refine wpAnyH_ready (rs := [8]) (by kernel_rfl) (by simp) (AllReadyH.cons (o := { dst := some 46, op := Op.call { callee := Callee.value (Operand.tmp 38), args := #[Operand.tmp 41, Operand.const (Value.string { data := #[108, 105, 110, 101] }), Operand.tmp 45], argTypes := #[4, 9, 9] }, type := 0, pos := "write.go:73", after := #[{ on := 0, ground := Ground.data }, { on := 3, ground := Ground.data }, { on := 7, ground := Ground.data }, { on := 7, ground := Ground.chain }], guard := none }) rfl (fun K8 hK8 => ?_) AllReadyH.nil)
  go_simp
  refine (HP5.out _ _ HN7.out).mono ?_
  rintro e w7 ⟨rfl, hm, hq⟩
  have HM7 := Lib.hid hm
  refine hK8.out _ _ (HQ.out _ (hH_7.1.trans hq)) (fun hH_8 => ?_)
  clear hm hq
  clear hK8 K8
  try simp only [Act.put, List.setIfInBounds_toArray, List.set_cons_zero, List.set_cons_succ]
  refine wpAnyH_done (by kernel_rfl) ?_ _
  have BL7 := Lib.hid hH_8.1
  clear hHeld hH_7 hH_8 HN7
  go_wp2_with fail
  refine wp_region_held_drew (S := (fun w' => Below W.heap.size W w' ∧ w'.cell? ⟨w.heap.size, 0, none⟩ = some (.string x.code) ∧ w'.cell? ⟨w.heap.size, 1, none⟩ = some (.slice a x.np cap) ∧ w'.cell? ⟨w.heap.size, 2, none⟩ = some (.string x.dir) ∧ w'.cell? ⟨w.heap.size, 3, none⟩ = some (.int .i64 x.rule) ∧ w'.cell? ⟨w.heap.size, 4, none⟩ = some (.int .i64 x.line) ∧ w'.cell? ⟨w.heap.size, 5, none⟩ = some (.int .i64 x.col))) (by kernel_rfl) (HQ.out _ BL7.out.drew) (fun hHeld => ?_)
  refine wpAnyH_take (i := 0) (oi := { dst := some 47, op := Op.move (Operand.tmp 4), type := 43, pos := "write.go:74", after := #[], guard := none }) (v := ?_) rfl (by kernel_rfl) (by kernel_rfl) (by kernel_rfl) (fun _ _ _ h => h) (Or.inl ⟨by rfl, ?_⟩) hHeld ?_
  rotate_left
  · (intro w hSw; (try dsimp only at hSw); go_simp <;> with_reducible rfl)
  try simp only [Act.put, List.setIfInBounds_toArray, List.set_cons_zero, List.set_cons_succ]
  refine wpAnyH_take (i := 1) (oi := { dst := some 48, op := Op.fieldAddr 27 (Operand.tmp 1) 4, type := 0, pos := "write.go:74", after := #[], guard := none }) (v := ?_) rfl (by kernel_rfl) (by kernel_rfl) (by kernel_rfl) (fun _ _ _ h => h) (Or.inl ⟨by rfl, ?_⟩) hHeld ?_
  rotate_left
  · (intro w hSw; (try dsimp only at hSw); go_simp <;> with_reducible rfl)
  try simp only [Act.put, List.setIfInBounds_toArray, List.set_cons_zero, List.set_cons_succ]
  refine wpAnyH_take (i := 2) (oi := { dst := some 49, op := Op.load 3 (Operand.tmp 48), type := 3, pos := "write.go:74", after := #[{ on := 1, ground := Ground.data }], guard := none }) (v := ?_) rfl (by kernel_rfl) (by kernel_rfl) (by kernel_rfl) (fun _ _ _ h => h) (Or.inl ⟨by rfl, ?_⟩) hHeld ?_
  rotate_left
  · (intro w hSw; (try dsimp only at hSw); go_simp <;> with_reducible rfl)
  try simp only [Act.put, List.setIfInBounds_toArray, List.set_cons_zero, List.set_cons_succ]
  refine wpAnyH_take (i := 3) (oi := { dst := some 50, op := Op.binOp BinOp.neq 3 (Operand.tmp 49) (Operand.const (Value.int IntKind.i64 0)) 3, type := 4, pos := "write.go:74", after := #[{ on := 2, ground := Ground.data }], guard := none }) (v := ?_) rfl (by kernel_rfl) (by kernel_rfl) (by kernel_rfl) (fun _ _ _ h => h) (Or.inl ⟨by rfl, ?_⟩) hHeld ?_
  rotate_left
  · (intro w hSw; (try dsimp only at hSw); go_simp <;> with_reducible rfl)
  try simp only [Act.put, List.setIfInBounds_toArray, List.set_cons_zero, List.set_cons_succ]
  refine wpAnyH_take (i := 4) (oi := { dst := some 51, op := Op.move (Operand.tmp 5), type := 45, pos := "write.go:74", after := #[], guard := none }) (v := ?_) rfl (by kernel_rfl) (by kernel_rfl) (by kernel_rfl) (fun _ _ _ h => h) (Or.inl ⟨by rfl, ?_⟩) hHeld ?_
  rotate_left
  · (intro w hSw; (try dsimp only at hSw); go_simp <;> with_reducible rfl)
  try simp only [Act.put, List.setIfInBounds_toArray, List.set_cons_zero, List.set_cons_succ]
  refine wpAnyH_take (i := 5) (oi := { dst := some 52, op := Op.fieldAddr 27 (Operand.tmp 1) 5, type := 0, pos := "write.go:74", after := #[], guard := none }) (v := ?_) rfl (by kernel_rfl) (by kernel_rfl) (by kernel_rfl) (fun _ _ _ h => h) (Or.inl ⟨by rfl, ?_⟩) hHeld ?_
  rotate_left
  · (intro w hSw; (try dsimp only at hSw); go_simp <;> with_reducible rfl)
  try simp only [Act.put, List.setIfInBounds_toArray, List.set_cons_zero, List.set_cons_succ]
  refine wpAnyH_take (i := 6) (oi := { dst := some 53, op := Op.load 3 (Operand.tmp 52), type := 3, pos := "write.go:74", after := #[{ on := 5, ground := Ground.data }], guard := none }) (v := ?_) rfl (by kernel_rfl) (by kernel_rfl) (by kernel_rfl) (fun _ _ _ h => h) (Or.inl ⟨by rfl, ?_⟩) hHeld ?_
  rotate_left
  · (intro w hSw; (try dsimp only at hSw); go_simp <;> with_reducible rfl)
  try simp only [Act.put, List.setIfInBounds_toArray, List.set_cons_zero, List.set_cons_succ]
  refine wpAnyH_ready (rs := [7]) (by kernel_rfl) (by simp) (AllReadyH.cons (o := { dst := some 54, op := Op.call { callee := Callee.value (Operand.tmp 51), args := #[Operand.tmp 53], argTypes := #[3] }, type := 9, pos := "write.go:74", after := #[{ on := 4, ground := Ground.data }, { on := 6, ground := Ground.data }], guard := none }) rfl (fun K7 hK7 => ?_) AllReadyH.nil)
  go_simp
  refine (HIK.out _ hHeld.1).mono ?_
  rintro e wq8 ⟨rfl, hq⟩
  have HN8 := Lib.hid (MB.up HM7.out.drew hq)
  refine hK7.out _ _ (HQ.out _ (hHeld.1.trans (hq.mono hHeld.1.size))) (fun hH_7 => ?_)
  clear hq
  clear hK7 K7
  try simp only [Act.put, List.setIfInBounds_toArray, List.set_cons_zero, List.set_cons_succ]
  refine wpAnyH_ready (rs := [8]) (by kernel_rfl) (by simp) (AllReadyH.cons (o := { dst := some 55, op := Op.call { callee := Callee.value (Operand.tmp 47), args := #[Operand.tmp 50, Operand.const (Value.string { data := #[99, 111, 108, 117, 109, 110] }), Operand.tmp 54], argTypes := #[4, 9, 9] }, type := 0, pos := "write.go:74", after := #[{ on := 0, ground := Ground.data }, { on := 3, ground := Ground.data }, { on := 7, ground := Ground.data }, { on := 7, ground := Ground.chain }], guard := none }) rfl (fun K8 hK8 => ?_) AllReadyH.nil)
  go_simp
  refine (HP6.out _ _ HN8.out).mono ?_
  rintro e w8 ⟨rfl, hm, hq⟩
  have HM8 := Lib.hid hm
  refine hK8.out _ _ (HQ.out _ (hH_7.1.trans hq)) (fun hH_8 => ?_)
  clear hm hq
  clear hK8 K8
  try simp only [Act.put, List.setIfInBounds_toArray, List.set_cons_zero, List.set_cons_succ]
  refine wpAnyH_done (by kernel_rfl) ?_ _
  have BL8 := Lib.hid hH_8.1
  clear hHeld hH_7 hH_8 HN8
  have HJ := Lib.hid (fun v (h : SO W.heap.size w8 v (fL6 x)) => join_any h (by have := HLN.out; omega) (by have := HJZ.out; omega))
  obtain ⟨_, v, hv1, hv2⟩ := HM8.out
  have c0 : w8.cell? ⟨b, 0, none⟩ = some v := by simp [World.cell?, hv1]
  have HJ2 := Lib.hid (HJ.out v hv2)
  obtain ⟨J, hJ⟩ : ∃ J, J = jnT (fL6 x) := ⟨_, rfl⟩
  rw [← hJ] at HJ2 HE HJZ
  have hl1 : ¬ 9223372036854775807 < 1 + J.size := by have := HJZ.out; omega
  have hl2 : ¬ 9223372036854775807 < 1 + J.size + 1 := by have := HJZ.out; omega
  clear hJ HJ hv1 hv2
  go_wp2_with fail
  refine HJ2.out.mono ?_
  rintro e w9 ⟨rfl, b9⟩
  have B9 := Lib.hid (BL8.out.trans (b9.mono BL8.out.size))
  clear b9
  go_wp2_with fail
  go_ret
  exact ⟨by rw [← HE.out] <;> rfl, HB'.out.trans (B9.out.mono HB'.out.size)⟩
end Go.Proofs.YtolegmlfmlfbhaaDoor
/- Layer 31, ServeWrites: the state of the program's data text. -/
namespace Go.Proofs.YtolegmlfmlfbhaaDoor
open Go.RowKit Go.Maps
def valueF (M : Nat) : Value := .func (.func 24) #[] #[.pointer (some ⟨M, 0, none⟩), .pointer (some ⟨M + 2, 0, none⟩), .pointer (some ⟨M + 1, 0, none⟩), .pointer (some ⟨M + 4, 0, none⟩)]
def allF (M : Nat) : Value := .func (.func 22) #[] #[.pointer (some ⟨M + 1, 0, none⟩), .pointer (some ⟨M + 2, 0, none⟩), .pointer (some ⟨M, 0, none⟩), .pointer (some ⟨M + 3, 0, none⟩)]
/-- The boxes of dataText above the world w: the cells, the builder, the place, the two closures. -/
structure DS (w : World) (a : Option Addr) (n cap : Nat) (s : ByteArray) (p : Nat) (W : World) : Prop where
  out : OB (w.heap.size + 1) (w.heap.size + 1) s W
  vb : W.heap[w.heap.size]? = some (.cells #[.slice a n cap] 22)
  pl : W.heap[w.heap.size + 2]? = some (.cells #[.int .i64 (p : Nat)] 3)
  fv : W.heap[w.heap.size + 3]? = some (.cells #[valueF w.heap.size] 1)
  fa : W.heap[w.heap.size + 4]? = some (.cells #[allF w.heap.size] 58)
  low : Below w.heap.size w W
theorem DS.up {w : World} {a : Option Addr} {n cap : Nat} {s : ByteArray} {p : Nat} {W W' : World} (h : DS w a n cap s p W) (hb : Below W.heap.size W W') : DS w a n cap s p W' := by
  have k : ∀ {i o}, W.heap[i]? = some o → W'.heap[i]? = some o := fun hi => (hb.block _ (Array.getElem?_eq_some_iff.1 hi).1).trans hi
  exact ⟨h.out.up hb, k h.vb, k h.pl, k h.fv, k h.fa, h.low.trans (hb.mono h.low.size)⟩
theorem DS.wrote {w : World} {a : Option Addr} {n cap : Nat} {s s' : ByteArray} {p : Nat} {W W' : World} (h : DS w a n cap s p W) (ho : OB (w.heap.size + 1) (w.heap.size + 1) s' W') (hb : Below (w.heap.size + 1) W W') (hk : Lib.OthersKept 5 (some (w.heap.size + 1)) W W') : DS w a n cap s' p W' := by
  have e : ∀ {c : Array Value} {t : TypeId} {x : Nat × Nat}, t ≠ 5 → ∀ (c' : Array Value) (fz : Nat × Nat), Obj.cells c t x ≠ .cells c' 5 fz := fun ht c' fz he => by cases he; exact ht rfl
  exact ⟨ho, (hb.block _ (Nat.lt_succ_self _)).trans h.vb, hk _ _ h.pl (by intro e; have := Option.some.inj e; omega) (e (by decide)), hk _ _ h.fv (by intro e; have := Option.some.inj e; omega) (e (by decide)), hk _ _ h.fa (by intro e; have := Option.some.inj e; omega) (e (by decide)), h.low.trans (hb.mono (Nat.le_succ _))⟩
theorem DS.alloc {w : World} {a : Option Addr} {n cap : Nat} {s : ByteArray} {p : Nat} {W : World} (h : DS w a n cap s p W) (o : Obj) : DS w a n cap s p (W.alloc o) := h.up ((Below.refl _ _).alloc (Nat.le_refl _) o)
theorem OB.setCell {B N : Nat} {s : ByteArray} {W : World} (h : OB B N s W) {k : Nat} {c : Array Value} {t : TypeId} {z : Nat × Nat} (hk : W.heap[k]? = some (.cells c t z)) (hN : k ≠ N) (ht : t ≠ 5) (v : Value) : OB B N s (W.setCell ⟨k, 0, none⟩ v) := by
  have f : ∀ {q : Value} {bs : List Value}, Lib.BuilderAtF 50 5 B N q bs W → Lib.BuilderAtF 50 5 B N q bs (W.setCell ⟨k, 0, none⟩ v) := fun h => by
    obtain ⟨hB, x, h1, hown, hne⟩ := h
    refine ⟨hB, x, by rw [Below.heap_setCell _ _ _ _ (Ne.symm hN)]; exact h1, ⟨hown.1, ?_⟩, hne⟩
    rcases hown.2 with hn | ⟨g, cap, cur, fz, hv, hbg, hg, rest⟩
    · exact .inl hn
    · have hgk : g ≠ k := fun e => by
        rw [e, hk] at hg
        have := Option.some.inj hg
        simp at this
        exact ht this.2.1
      exact .inr ⟨g, cap, cur, fz, hv, hbg, by rw [Below.heap_setCell _ _ _ _ hgk]; exact hg, rest⟩
  exact h.elim (fun x => .inl (f x)) (fun x => .inr (f x))
theorem DS.next {w : World} {a : Option Addr} {n cap : Nat} {s : ByteArray} {p : Nat} {W : World} (h : DS w a n cap s p W) (q : Nat) : DS w a n cap s q (W.setCell ⟨w.heap.size + 2, 0, none⟩ (.int .i64 (q : Nat))) := by
  refine ⟨h.out.setCell h.pl (by omega) (by decide) _, ?_, ?_, ?_, ?_, h.low.setCell (by show w.heap.size ≤ w.heap.size + 2; omega) _⟩
  · rw [Below.heap_setCell _ _ _ _ (by show w.heap.size ≠ w.heap.size + 2; omega)]; exact h.vb
  · unfold World.setCell
    simp only [Array.getElem?_modify, if_true, h.pl, Option.map_some]
    rfl
  · rw [Below.heap_setCell _ _ _ _ (by show w.heap.size + 3 ≠ w.heap.size + 2; omega)]; exact h.fv
  · rw [Below.heap_setCell _ _ _ _ (by show w.heap.size + 4 ≠ w.heap.size + 2; omega)]; exact h.fa
theorem DS.cells {w : World} {a : Option Addr} {n cap : Nat} {s : ByteArray} {p : Nat} {W : World} (h : DS w a n cap s p W) : W.cell? ⟨w.heap.size, 0, none⟩ = some (.slice a n cap) ∧ W.cell? ⟨w.heap.size + 2, 0, none⟩ = some (.int .i64 (p : Nat)) ∧ W.cell? ⟨w.heap.size + 3, 0, none⟩ = some (valueF w.heap.size) ∧ W.cell? ⟨w.heap.size + 4, 0, none⟩ = some (allF w.heap.size) :=
  ⟨by simp [World.cell?, h.vb], by simp [World.cell?, h.pl], by simp [World.cell?, h.fv], by simp [World.cell?, h.fa]⟩
theorem DS.soft {w : World} {a : Option Addr} {n cap : Nat} {s : ByteArray} {p : Nat} {W : World} (h : DS w a n cap s p W) : W.frozen? ⟨w.heap.size + 2, 0, none⟩ = false := by simp [World.frozen?, h.pl]
theorem DS.lt {w : World} {a : Option Addr} {n cap : Nat} {s : ByteArray} {p : Nat} {W : World} (h : DS w a n cap s p W) : w.heap.size + 4 < W.heap.size := (Array.getElem?_eq_some_iff.1 h.fa).1
/-- What value does at fuel f. -/
def VC (w : World) (a : Option Addr) (n cap : Nat) (g : Nat → CR) (f : Nat) : Prop := ∀ (p : Nat) (s : ByteArray) (W : World), n - p ≤ f → p < n → DS w a n cap s p W → s.size + 40000 * (n - p) ≤ 100000000 →
  Calls Tryd.prog 24 #[.pointer (some ⟨w.heap.size, 0, none⟩), .pointer (some ⟨w.heap.size + 2, 0, none⟩), .pointer (some ⟨w.heap.size + 1, 0, none⟩), .pointer (some ⟨w.heap.size + 4, 0, none⟩)] W fun e w' => e = .returned (.tuple #[]) ∧ DS w a n cap (s ++ (valW g n f p).1) (valW g n f p).2 w'
/-- What all does at fuel f. -/
def AC (w : World) (a : Option Addr) (n cap : Nat) (g : Nat → CR) (f : Nat) : Prop := ∀ (obj : Bool) (m : Int) (o c : ByteArray) (p : Nat) (s : ByteArray) (W : World), n - p ≤ f → p ≤ n → o.size = 1 → c.size = 1 → DS w a n cap s p W → s.size + 40000 * (n - p) + 40000 ≤ 100000000 →
  Calls Tryd.prog 22 #[.int .i64 m, .string o, .string c, .bool obj, .pointer (some ⟨w.heap.size + 1, 0, none⟩), .pointer (some ⟨w.heap.size + 2, 0, none⟩), .pointer (some ⟨w.heap.size, 0, none⟩), .pointer (some ⟨w.heap.size + 3, 0, none⟩)] W fun e w' => e = .returned (.tuple #[]) ∧ DS w a n cap (s ++ (o ++ (kidW (valW g n f) g n obj m f 0 p ⟨#[]⟩).1 ++ c)) (kidW (valW g n f) g n obj m f 0 p ⟨#[]⟩).2 w'
end Go.Proofs.YtolegmlfmlfbhaaDoor
