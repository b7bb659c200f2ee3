import Derived.Test.YtjcaadihkbhlhaaDoorH5
import Derived.Test.YtjcaadihkbhlhaaDoorH6
import Derived.Deep.RegionHeld3
import Derived.Deep.DeepCutAuto
namespace Go.Proofs.YtjcaadihkbhlhaaDoor
open Go.RowKit
def lowS (x : ByteArray) : ByteArray := mk (Lib.toLowerA x.data.toList)
def stS (f : UInt8 → UInt8) (x : ByteArray) : ByteArray := mk (stl f x.data.toList)
def canS (s : ByteArray) : ByteArray := joinT (lowS (scS s)) (stS id (usU (r1S s))) (stS Lib.lowerB (mk (ch (r2U (r1S s))).1)) (mk (ch (r2U (r1S s))).2.1) (stS id (mk (cq (r2U (r1S s))).1)) (stS id (mk (cq (r2U (r1S s))).2.1)) (huU (r1S s)) (cq (r2U (r1S s))).2.2
/-- The parts' block. -/
def CB (k : Nat) (w : World) (C : Array Value) (W : World) : Prop := VB W k C 24 ∧ Below w.heap.size w W ∧ w.heap.size ≤ k
theorem CB.up {k : Nat} {w W W' : World} {C : Array Value} (h : CB k w C W) (hb : Below W.heap.size W W') : CB k w C W' := ⟨h.1.up hb, h.2.1.trans (hb.mono h.2.1.size), h.2.2⟩
theorem CB.put {k : Nat} {w W : World} {C : Array Value} (h : CB k w C W) (i : Nat) (v : Value) : CB k w (C.setIfInBounds i v) (W.setCell ⟨k, i, none⟩ v) := ⟨h.1.set i v, h.2.1.setCell h.2.2 v, h.2.2⟩
theorem CB.c0 {k : Nat} {w W : World} {v0 v1 v2 v3 v4 v5 v6 v7 : Value} (h : CB k w #[v0, v1, v2, v3, v4, v5, v6, v7] W) : W.cell? ⟨k, 0, none⟩ = some v0 := h.1.cell 0
theorem CB.f0 {k : Nat} {w W : World} {C : Array Value} (h : CB k w C W) : W.frozen? ⟨k, 0, none⟩ = false := h.1.fz 0
theorem CB.c1 {k : Nat} {w W : World} {v0 v1 v2 v3 v4 v5 v6 v7 : Value} (h : CB k w #[v0, v1, v2, v3, v4, v5, v6, v7] W) : W.cell? ⟨k, 1, none⟩ = some v1 := h.1.cell 1
theorem CB.f1 {k : Nat} {w W : World} {C : Array Value} (h : CB k w C W) : W.frozen? ⟨k, 1, none⟩ = false := h.1.fz 1
theorem CB.c2 {k : Nat} {w W : World} {v0 v1 v2 v3 v4 v5 v6 v7 : Value} (h : CB k w #[v0, v1, v2, v3, v4, v5, v6, v7] W) : W.cell? ⟨k, 2, none⟩ = some v2 := h.1.cell 2
theorem CB.f2 {k : Nat} {w W : World} {C : Array Value} (h : CB k w C W) : W.frozen? ⟨k, 2, none⟩ = false := h.1.fz 2
theorem CB.c3 {k : Nat} {w W : World} {v0 v1 v2 v3 v4 v5 v6 v7 : Value} (h : CB k w #[v0, v1, v2, v3, v4, v5, v6, v7] W) : W.cell? ⟨k, 3, none⟩ = some v3 := h.1.cell 3
theorem CB.f3 {k : Nat} {w W : World} {C : Array Value} (h : CB k w C W) : W.frozen? ⟨k, 3, none⟩ = false := h.1.fz 3
theorem CB.c4 {k : Nat} {w W : World} {v0 v1 v2 v3 v4 v5 v6 v7 : Value} (h : CB k w #[v0, v1, v2, v3, v4, v5, v6, v7] W) : W.cell? ⟨k, 4, none⟩ = some v4 := h.1.cell 4
theorem CB.f4 {k : Nat} {w W : World} {C : Array Value} (h : CB k w C W) : W.frozen? ⟨k, 4, none⟩ = false := h.1.fz 4
theorem CB.c5 {k : Nat} {w W : World} {v0 v1 v2 v3 v4 v5 v6 v7 : Value} (h : CB k w #[v0, v1, v2, v3, v4, v5, v6, v7] W) : W.cell? ⟨k, 5, none⟩ = some v5 := h.1.cell 5
theorem CB.f5 {k : Nat} {w W : World} {C : Array Value} (h : CB k w C W) : W.frozen? ⟨k, 5, none⟩ = false := h.1.fz 5
theorem CB.c6 {k : Nat} {w W : World} {v0 v1 v2 v3 v4 v5 v6 v7 : Value} (h : CB k w #[v0, v1, v2, v3, v4, v5, v6, v7] W) : W.cell? ⟨k, 6, none⟩ = some v6 := h.1.cell 6
theorem CB.f6 {k : Nat} {w W : World} {C : Array Value} (h : CB k w C W) : W.frozen? ⟨k, 6, none⟩ = false := h.1.fz 6
theorem CB.c7 {k : Nat} {w W : World} {v0 v1 v2 v3 v4 v5 v6 v7 : Value} (h : CB k w #[v0, v1, v2, v3, v4, v5, v6, v7] W) : W.cell? ⟨k, 7, none⟩ = some v7 := h.1.cell 7
theorem CB.f7 {k : Nat} {w W : World} {C : Array Value} (h : CB k w C W) : W.frozen? ⟨k, 7, none⟩ = false := h.1.fz 7
theorem CB.dr {k : Nat} {w W : World} {C : Array Value} (h : CB k w C W) : CB k w C W.drew := h.up (Below.refl _ _).drew
theorem stl_len (f : UInt8 → UInt8) : ∀ (n : Nat) (l : List UInt8), l.length ≤ n → (stl f l).length ≤ l.length
  | 0, l, h => by
    cases l with
    | nil => rw [stl_nil]; exact Nat.le_refl _
    | cons _ _ => simp at h
  | n + 1, [], _ => by rw [stl_nil]; exact Nat.le_refl _
  | n + 1, b :: r, h => by
    rw [stl]
    split
    · rename_i he
      have h3 := esc_long he
      have ih := stl_len f n (r.drop 2) (by simp at h ⊢; omega)
      simp at h3 ih ⊢
      split
      · simp; omega
      · simp; omega
    · have ih := stl_len f n r (by simpa using h)
      simp; exact ih
theorem stS_size (f : UInt8 → UInt8) (x : ByteArray) : (stS f x).size ≤ x.size := by
  unfold stS; rw [mk_size, ← data_len]; exact stl_len f _ _ (Nat.le_refl _)
theorem lowS_size (x : ByteArray) : (lowS x).size = x.size := by
  unfold lowS Lib.toLowerA; rw [mk_size, List.length_map, data_len]
set_option maxRecDepth 20000 in
set_option maxHeartbeats 1000000 in
theorem canon_no (s : ByteArray) (m : Int) (w : World) (hm : w.cell? ⟨0, 0, none⟩ = some (.int .i64 m)) (ho : okP s = false) :
    Calls Tryd.prog 12 #[.string s] w fun e w' => e = .returned (.tuple #[.string ⟨#[]⟩, .int .i64 150]) ∧ Below w.heap.size w w' := by
  have HP := Lib.hid (parse_any s m w hm)
  unfold adP at HP
  rw [ho] at HP
  rw [show numE false = 150 from rfl] at HP
  simp only [Bool.false_eq_true, if_false] at HP
  unfold adZ adV at HP
  clear hm ho
  go_enter Tryd.func12, Tryd.ntmps12
  go_wp2_with fail
  refine HP.out.mono ?_
  rintro e w1 ⟨rfl, b1⟩
  have B1 := Lib.hid (b1.alloc (o := .cells #[.string ⟨#[]⟩, .string ⟨#[]⟩, .string ⟨#[]⟩, .string ⟨#[]⟩, .string ⟨#[]⟩, .string ⟨#[]⟩, .bool false, .bool false] 24) b1.size)
  clear b1
  go_wp2_with fail
  go_ret2
  exact ⟨rfl, B1.out⟩
set_option maxRecDepth 20000 in
set_option maxHeartbeats 8000000 in
theorem canon_yes (s : ByteArray) (m : Int) (w : World) (hm : w.cell? ⟨0, 0, none⟩ = some (.int .i64 m)) (ho : okP s = true) :
    Calls Tryd.prog 12 #[.string s] w fun e w' => e = .returned (.tuple #[.string (canS s), .int .i64 0]) ∧ Below w.heap.size w w' := by
  have HP := Lib.hid (parse_any s m w hm)
  unfold adP at HP
  rw [ho] at HP
  rw [show numE true = 0 from rfl] at HP
  simp only [if_true] at HP
  unfold okP at ho
  simp only [Bool.and_eq_true, decide_eq_true_eq] at ho
  obtain ⟨⟨hl, hi⟩, hmay⟩ := ho
  have hroom := ixS_room s hi
  have hr1 : (r1S s).size ≤ 2048 := by unfold r1S; rw [ex_size _ _ _ (Nat.le_refl _)]; omega
  have hsc : (scS s).size ≤ 2048 := by unfold scS; rw [ex_size _ _ _ (by omega)]; omega
  have hus := us_size (r1S s)
  have hr2 := r2_size (r1S s)
  have hau := au_size (r2U (r1S s))
  have hpas : (paA (r2U (r1S s))).size ≤ 2048 := by unfold paA; rw [ex_size _ _ _ (Nat.le_refl _)]; omega
  have s1 := cut_size (paA (r2U (r1S s))).data.toList [63]
  have s2 := cut_size (auA (r2U (r1S s))).data.toList [58]
  rw [data_len] at s1 s2
  have k1 : (mk (cq (r2U (r1S s))).1).size ≤ 2048 := by rw [mk_size]; unfold cq; omega
  have k2 : (mk (cq (r2U (r1S s))).2.1).size ≤ 2048 := by rw [mk_size]; unfold cq; omega
  have k3 : (mk (ch (r2U (r1S s))).1).size ≤ 2048 := by rw [mk_size]; unfold ch; omega
  have k4 : (mk (ch (r2U (r1S s))).2.1).size ≤ 2048 := by rw [mk_size]; unfold ch; omega
  have hus2 : (usU (r1S s)).size ≤ 2048 := by omega
  clear s1 s2 hpas hau hr2 hus hr1 hroom hi hl
  unfold mayS at hmay
  unfold canS
  obtain ⟨sc, hsce⟩ : ∃ x, x = scS s := ⟨_, rfl⟩
  obtain ⟨us, e2⟩ : ∃ x, x = usU (r1S s) := ⟨_, rfl⟩
  obtain ⟨ho, e3⟩ : ∃ x, x = mk (ch (r2U (r1S s))).1 := ⟨_, rfl⟩
  obtain ⟨po, e4⟩ : ∃ x, x = mk (ch (r2U (r1S s))).2.1 := ⟨_, rfl⟩
  obtain ⟨pt, e5⟩ : ∃ x, x = mk (cq (r2U (r1S s))).1 := ⟨_, rfl⟩
  obtain ⟨qu, e6⟩ : ∃ x, x = mk (cq (r2U (r1S s))).2.1 := ⟨_, rfl⟩
  obtain ⟨hu, e7⟩ : ∃ x, x = huU (r1S s) := ⟨_, rfl⟩
  obtain ⟨hq, e8⟩ : ∃ x, x = (cq (r2U (r1S s))).2.2 := ⟨_, rfl⟩
  rw [← hsce] at HP hmay hsc ⊢
  rw [← e2] at HP hmay hus2 ⊢
  rw [← e3] at HP hmay k3 ⊢
  rw [← e4] at HP hmay k4 ⊢
  rw [← e5] at HP hmay k1 ⊢
  rw [← e6] at HP hmay k2 ⊢
  rw [← e7] at HP hmay ⊢
  rw [← e8] at HP hmay ⊢
  clear hsce e2 e3 e4 e5 e6 e7 e8
  obtain ⟨q1, q2, q3, q4, q5⟩ := may_parts hmay
  have HLO := Lib.hid (fun W => lower_any sc W (by omega) (fun j b hj => scheme_ascii _ q1 b (List.mem_of_getElem? hj)))
  have HSH := Lib.hid (fun W => settle_lower ho (by omega) (ascii_of [] (by decide +kernel) ho q3) W)
  have HSU := Lib.hid (fun W => settle_asis us (by omega) (ascii_of [58] (by decide +kernel) us q2) W)
  have HSP := Lib.hid (fun W => settle_asis pt (by omega) (ascii_of [58, 64, 47] (by decide +kernel) pt q4) W)
  have HSQ := Lib.hid (fun W => settle_asis qu (by omega) (ascii_of [58, 64, 47, 63] (by decide +kernel) qu q5) W)
  have z1 := lowS_size sc
  have z2 := stS_size id us
  have z3 := stS_size Lib.lowerB ho
  have z4 := stS_size id pt
  have z5 := stS_size id qu
  have HJ := Lib.hid (fun W => join_any (lowS sc) (stS id us) (stS Lib.lowerB ho) po (stS id pt) (stS id qu) hu hq (by omega) (by omega) (by omega) (by omega) (by omega) (by omega) W)
  clear z1 z2 z3 z4 z5 q1 q2 q3 q4 q5 hmay hsc hus2 k1 k2 k3 k4
  obtain ⟨J, hJ⟩ : ∃ x, x = joinT (lowS sc) (stS id us) (stS Lib.lowerB ho) po (stS id pt) (stS id qu) hu hq := ⟨_, rfl⟩
  rw [← hJ] at HJ ⊢
  clear hJ
  change Hid (∀ W, Calls Tryd.prog 23 #[.string sc] W fun e w' => e = .returned (.string (lowS sc)) ∧ Below W.heap.size W w') at HLO
  change Hid (∀ W, Calls Tryd.prog 24 #[.string ho, .func (.func 23) #[] #[]] W fun e w' => e = .returned (.string (stS Lib.lowerB ho)) ∧ Below W.heap.size W w') at HSH
  change Hid (∀ W, Calls Tryd.prog 24 #[.string us, .func (.func 25) #[] #[]] W fun e w' => e = .returned (.string (stS id us)) ∧ Below W.heap.size W w') at HSU
  change Hid (∀ W, Calls Tryd.prog 24 #[.string pt, .func (.func 25) #[] #[]] W fun e w' => e = .returned (.string (stS id pt)) ∧ Below W.heap.size W w') at HSP
  change Hid (∀ W, Calls Tryd.prog 24 #[.string qu, .func (.func 25) #[] #[]] W fun e w' => e = .returned (.string (stS id qu)) ∧ Below W.heap.size W w') at HSQ
  obtain ⟨sc2, g1⟩ : ∃ x, x = lowS sc := ⟨_, rfl⟩
  obtain ⟨us2, g2⟩ : ∃ x, x = stS id us := ⟨_, rfl⟩
  obtain ⟨ho2, g3⟩ : ∃ x, x = stS Lib.lowerB ho := ⟨_, rfl⟩
  obtain ⟨pt2, g4⟩ : ∃ x, x = stS id pt := ⟨_, rfl⟩
  obtain ⟨qu2, g5⟩ : ∃ x, x = stS id qu := ⟨_, rfl⟩
  rw [← g1] at HLO HJ
  rw [← g3] at HSH HJ
  rw [← g2] at HSU HJ
  rw [← g4] at HSP HJ
  rw [← g5] at HSQ HJ
  clear g1 g2 g3 g4 g5
  unfold adV at HP HJ
  clear hm
  go_enter Tryd.func12, Tryd.ntmps12
  go_wp2_with fail
  refine HP.out.mono ?_
  rintro e w1 ⟨rfl, b1⟩
  have P1 : Hid (CB w1.heap.size w #[.string sc, .string us, .string ho, .string po, .string pt, .string qu, .bool hu, .bool hq] (w1.alloc (.cells #[.string sc, .string us, .string ho, .string po, .string pt, .string qu, .bool hu, .bool hq] 24))) := Lib.hid ⟨VB.new _ _ _, b1.alloc b1.size _, b1.size⟩
  clear b1
  go_wp2_with fail
  obtain ⟨w2, h2⟩ : ∃ x, x = w1.alloc (.cells #[.string sc, .string us, .string ho, .string po, .string pt, .string qu, .bool hu, .bool hq] 24) := ⟨_, rfl⟩
  rw [← h2] at P1 ⊢
  clear h2
  obtain ⟨k, hk⟩ : ∃ k, k = w1.heap.size := ⟨_, rfl⟩
  rw [← hk] at P1 ⊢
  clear hk
  with_reducible refine (HLO.out _).mono ?_
  rintro e w3 ⟨rfl, b3⟩
  have P2 := Lib.hid (P1.out.up b3)
  clear b3 P1
  have c0 := P2.out.c0
  have f0 := P2.out.f0
  have c2 := P2.out.c2
  go_wp2_with fail
  have P3 := P2.out.put 0 (.string sc2)
  simp only [List.setIfInBounds_toArray, List.set_cons_zero, List.set_cons_succ] at P3
  replace P3 := Lib.hid P3
  obtain ⟨w4, h4⟩ : ∃ x, x = w3.setCell ⟨k, 0, none⟩ (.string sc2) := ⟨_, rfl⟩
  rw [← h4] at P3 ⊢
  clear h4 c0 f0 c2 P2
  with_reducible refine (HSH.out _).mono ?_
  rintro e w5 ⟨rfl, b5⟩
  have P4 := Lib.hid (P3.out.up b5)
  clear b5 P3
  have c0 := P4.out.c2
  have f0 := P4.out.f2
  go_upto_region 7 with fail
  have P5 := P4.out.put 2 (.string ho2)
  simp only [List.setIfInBounds_toArray, List.set_cons_zero, List.set_cons_succ] at P5
  replace P5 := Lib.hid P5
  obtain ⟨w6, h6⟩ : ∃ x, x = w5.setCell ⟨k, 2, none⟩ (.string ho2) := ⟨_, rfl⟩
  rw [← h6] at P5 ⊢
  clear h6 c0 f0 P4
  go_cut [] (fun wx => CB k w #[.string sc2, .string us2, .string ho2, .string po, .string pt2, .string qu2, .bool hu, .bool hq] wx)
  case first =>
    as_aux_lemma =>
      have P0 := Lib.hid P5.out.dr
      refine wp_region_noPanic ?_
      refine wp_region_held_drew (S := fun _ => True) (by kernel_rfl) trivial (fun hHeld => ?_)
      refine wpAnyH_take (i := 0) (oi := { dst := some 23, op := Op.fieldAddr 24 (Operand.tmp 4) 1, type := 0, pos := "address.go:186", after := #[], guard := none }) (v := .pointer (some ⟨k, 1, none⟩)) rfl (by kernel_rfl) (by kernel_rfl) (by kernel_rfl) (fun _ _ _ h => h) (Or.inl ⟨by rfl, fun w hSw => by (go_simp <;> rfl)⟩) hHeld ?_
      try simp only [Act.put, List.setIfInBounds_toArray, List.set_cons_zero, List.set_cons_succ]
      refine wpAnyH_take (i := 2) (oi := { dst := some 25, op := Op.move (Operand.tmp 6), type := 38, pos := "address.go:186", after := #[], guard := none }) (v := .func (.func 25) #[] #[]) rfl (by kernel_rfl) (by kernel_rfl) (by kernel_rfl) (fun _ _ _ h => h) (Or.inl ⟨by rfl, fun w hSw => by (go_simp <;> rfl)⟩) hHeld ?_
      try simp only [Act.put, List.setIfInBounds_toArray, List.set_cons_zero, List.set_cons_succ]
      refine wpAnyH_take (i := 4) (oi := { dst := some 27, op := Op.fieldAddr 24 (Operand.tmp 4) 4, type := 0, pos := "address.go:186", after := #[], guard := none }) (v := .pointer (some ⟨k, 4, none⟩)) rfl (by kernel_rfl) (by kernel_rfl) (by kernel_rfl) (fun _ _ _ h => h) (Or.inl ⟨by rfl, fun w hSw => by (go_simp <;> rfl)⟩) hHeld ?_
      try simp only [Act.put, List.setIfInBounds_toArray, List.set_cons_zero, List.set_cons_succ]
      refine wpAnyH_take (i := 6) (oi := { dst := some 29, op := Op.move (Operand.tmp 6), type := 38, pos := "address.go:186", after := #[], guard := none }) (v := .func (.func 25) #[] #[]) rfl (by kernel_rfl) (by kernel_rfl) (by kernel_rfl) (fun _ _ _ h => h) (Or.inl ⟨by rfl, fun w hSw => by (go_simp <;> rfl)⟩) hHeld ?_
      try simp only [Act.put, List.setIfInBounds_toArray, List.set_cons_zero, List.set_cons_succ]
      refine wpAnyH_take (i := 8) (oi := { dst := some 31, op := Op.fieldAddr 24 (Operand.tmp 4) 5, type := 0, pos := "address.go:186", after := #[], guard := none }) (v := .pointer (some ⟨k, 5, none⟩)) rfl (by kernel_rfl) (by kernel_rfl) (by kernel_rfl) (fun _ _ _ h => h) (Or.inl ⟨by rfl, fun w hSw => by (go_simp <;> rfl)⟩) hHeld ?_
      try simp only [Act.put, List.setIfInBounds_toArray, List.set_cons_zero, List.set_cons_succ]
      refine wpAnyH_take (i := 10) (oi := { dst := some 33, op := Op.move (Operand.tmp 6), type := 38, pos := "address.go:186", after := #[], guard := none }) (v := .func (.func 25) #[] #[]) rfl (by kernel_rfl) (by kernel_rfl) (by kernel_rfl) (fun _ _ _ h => h) (Or.inl ⟨by rfl, fun w hSw => by (go_simp <;> rfl)⟩) hHeld ?_
      try simp only [Act.put, List.setIfInBounds_toArray, List.set_cons_zero, List.set_cons_succ]
      refine wpAnyH_ready (rs := [1, 5, 9]) (by kernel_rfl) (by simp) (AllReadyH.cons (o := { dst := some 24, op := Op.load 9 (Operand.tmp 23), type := 9, pos := "address.go:186", after := #[{ on := 0, ground := Ground.data }], guard := none }) rfl (fun K1 hK1 => ?_) (AllReadyH.cons (o := { dst := some 28, op := Op.load 9 (Operand.tmp 27), type := 9, pos := "address.go:186", after := #[{ on := 4, ground := Ground.data }], guard := none }) rfl (fun K5 hK5 => ?_) (AllReadyH.cons (o := { dst := some 32, op := Op.load 9 (Operand.tmp 31), type := 9, pos := "address.go:186", after := #[{ on := 8, ground := Ground.data }], guard := none }) rfl (fun K9 hK9 => ?_) AllReadyH.nil)))
      · have lc := (P0.out).c1
        go_simp
        clear lc
        refine hK1.out _ _ trivial (fun hH6_1 => ?_)
        clear hK1 K1
        try simp only [Act.put, List.setIfInBounds_toArray, List.set_cons_zero, List.set_cons_succ]
        refine wpAnyH_ready (rs := [3, 5, 9]) (by kernel_rfl) (by simp) (AllReadyH.cons (o := { dst := some 26, op := Op.call { callee := Callee.value (Operand.func 24), args := #[Operand.tmp 24, Operand.tmp 25], argTypes := #[9, 38] }, type := 9, pos := "address.go:186", after := #[{ on := 1, ground := Ground.data }, { on := 2, ground := Ground.data }], guard := none }) rfl (fun K3 hK3 => ?_) (AllReadyH.cons (o := { dst := some 28, op := Op.load 9 (Operand.tmp 27), type := 9, pos := "address.go:186", after := #[{ on := 4, ground := Ground.data }], guard := none }) rfl (fun K5 hK5 => ?_) (AllReadyH.cons (o := { dst := some 32, op := Op.load 9 (Operand.tmp 31), type := 9, pos := "address.go:186", after := #[{ on := 8, ground := Ground.data }], guard := none }) rfl (fun K9 hK9 => ?_) AllReadyH.nil)))
        · go_simp
          with_reducible refine (HSU.out _).mono ?_
          rintro e x3_1 ⟨rfl, bx3_1⟩
          have P3_1 := Lib.hid (P0.out.up bx3_1)
          clear bx3_1
          refine hK3.out _ _ trivial (fun hH7_3 => ?_)
          clear hK3 K3
          try simp only [Act.put, List.setIfInBounds_toArray, List.set_cons_zero, List.set_cons_succ]
          refine wpAnyH_ready (rs := [5, 9]) (by kernel_rfl) (by simp) (AllReadyH.cons (o := { dst := some 28, op := Op.load 9 (Operand.tmp 27), type := 9, pos := "address.go:186", after := #[{ on := 4, ground := Ground.data }], guard := none }) rfl (fun K5 hK5 => ?_) (AllReadyH.cons (o := { dst := some 32, op := Op.load 9 (Operand.tmp 31), type := 9, pos := "address.go:186", after := #[{ on := 8, ground := Ground.data }], guard := none }) rfl (fun K9 hK9 => ?_) AllReadyH.nil))
          · have lc := (P3_1.out).c4
            go_simp
            clear lc
            refine hK5.out _ _ trivial (fun hH8_5 => ?_)
            clear hK5 K5
            try simp only [Act.put, List.setIfInBounds_toArray, List.set_cons_zero, List.set_cons_succ]
            refine wpAnyH_ready (rs := [7, 9]) (by kernel_rfl) (by simp) (AllReadyH.cons (o := { dst := some 30, op := Op.call { callee := Callee.value (Operand.func 24), args := #[Operand.tmp 28, Operand.tmp 29], argTypes := #[9, 38] }, type := 9, pos := "address.go:186", after := #[{ on := 5, ground := Ground.data }, { on := 6, ground := Ground.data }, { on := 3, ground := Ground.chain }], guard := none }) rfl (fun K7 hK7 => ?_) (AllReadyH.cons (o := { dst := some 32, op := Op.load 9 (Operand.tmp 31), type := 9, pos := "address.go:186", after := #[{ on := 8, ground := Ground.data }], guard := none }) rfl (fun K9 hK9 => ?_) AllReadyH.nil))
            · go_simp
              with_reducible refine (HSP.out _).mono ?_
              rintro e x7_2 ⟨rfl, bx7_2⟩
              have P7_2 := Lib.hid (P3_1.out.up bx7_2)
              clear bx7_2
              refine hK7.out _ _ trivial (fun hH9_7 => ?_)
              clear hK7 K7
              try simp only [Act.put, List.setIfInBounds_toArray, List.set_cons_zero, List.set_cons_succ]
              refine wpAnyH_ready (rs := [9]) (by kernel_rfl) (by simp) (AllReadyH.cons (o := { dst := some 32, op := Op.load 9 (Operand.tmp 31), type := 9, pos := "address.go:186", after := #[{ on := 8, ground := Ground.data }], guard := none }) rfl (fun K9 hK9 => ?_) AllReadyH.nil)
              have lc := (P7_2.out).c5
              go_simp
              clear lc
              refine hK9.out _ _ trivial (fun hH10_9 => ?_)
              clear hK9 K9
              try simp only [Act.put, List.setIfInBounds_toArray, List.set_cons_zero, List.set_cons_succ]
              refine wpAnyH_take (i := 12) (oi := { dst := some 35, op := Op.fieldAddr 24 (Operand.tmp 4) 1, type := 0, pos := "address.go:186", after := #[{ on := 0, ground := Ground.phase }, { on := 1, ground := Ground.phase }, { on := 2, ground := Ground.phase }, { on := 3, ground := Ground.phase }, { on := 4, ground := Ground.phase }, { on := 5, ground := Ground.phase }, { on := 6, ground := Ground.textOnly Departure.lateStores }, { on := 7, ground := Ground.textOnly Departure.lateStoresUnsure }, { on := 8, ground := Ground.phase }, { on := 9, ground := Ground.phase }, { on := 10, ground := Ground.textOnly Departure.lateStores }, { on := 11, ground := Ground.textOnly Departure.lateStoresUnsure }], guard := none }) (v := .pointer (some ⟨k, 1, none⟩)) rfl (by kernel_rfl) (by kernel_rfl) (by kernel_rfl) (fun _ _ _ h => h) (Or.inl ⟨by rfl, fun w hSw => by (go_simp <;> rfl)⟩) hH10_9 ?_
              try simp only [Act.put, List.setIfInBounds_toArray, List.set_cons_zero, List.set_cons_succ]
              refine wpAnyH_ready (rs := [11]) (by kernel_rfl) (by simp) (AllReadyH.cons (o := { dst := some 34, op := Op.call { callee := Callee.value (Operand.func 24), args := #[Operand.tmp 32, Operand.tmp 33], argTypes := #[9, 38] }, type := 9, pos := "address.go:186", after := #[{ on := 9, ground := Ground.data }, { on := 10, ground := Ground.data }, { on := 7, ground := Ground.chain }], guard := none }) rfl (fun K11 hK11 => ?_) AllReadyH.nil)
              go_simp
              with_reducible refine (HSQ.out _).mono ?_
              rintro e x11_3 ⟨rfl, bx11_3⟩
              have P11_3 := Lib.hid (P7_2.out.up bx11_3)
              clear bx11_3
              refine hK11.out _ _ trivial (fun hH12_11 => ?_)
              clear hK11 K11
              try simp only [Act.put, List.setIfInBounds_toArray, List.set_cons_zero, List.set_cons_succ]
              refine wpAnyH_ready (rs := [13]) (by kernel_rfl) (by simp) (AllReadyH.cons (o := { dst := none, op := Op.store 9 (Operand.tmp 35) (Operand.tmp 26), type := 0, pos := "address.go:186", after := #[{ on := 12, ground := Ground.data }, { on := 3, ground := Ground.data }, { on := 11, ground := Ground.chain }, { on := 0, ground := Ground.phase }, { on := 1, ground := Ground.phase }, { on := 2, ground := Ground.phase }, { on := 3, ground := Ground.phase }, { on := 4, ground := Ground.phase }, { on := 5, ground := Ground.phase }, { on := 6, ground := Ground.textOnly Departure.lateStores }, { on := 7, ground := Ground.textOnly Departure.lateStoresUnsure }, { on := 8, ground := Ground.phase }, { on := 9, ground := Ground.phase }, { on := 10, ground := Ground.textOnly Departure.lateStores }, { on := 11, ground := Ground.textOnly Departure.lateStoresUnsure }], guard := none }) rfl (fun K13 hK13 => ?_) AllReadyH.nil)
              have lc := (P11_3.out).c1
              have lf := (P11_3.out).f1
              go_simp
              clear lc lf
              have P13_4 := Lib.hid (P11_3.out.put 1 (.string us2))
              simp only [List.setIfInBounds_toArray, List.set_cons_zero, List.set_cons_succ] at P13_4
              refine hK13.out _ _ trivial (fun hH13_13 => ?_)
              clear hK13 K13
              try simp only [Act.put, List.setIfInBounds_toArray, List.set_cons_zero, List.set_cons_succ]
              refine wpAnyH_take (i := 14) (oi := { dst := some 36, op := Op.fieldAddr 24 (Operand.tmp 4) 4, type := 0, pos := "address.go:186", after := #[{ on := 0, ground := Ground.phase }, { on := 1, ground := Ground.phase }, { on := 2, ground := Ground.phase }, { on := 3, ground := Ground.phase }, { on := 4, ground := Ground.phase }, { on := 5, ground := Ground.phase }, { on := 6, ground := Ground.phase }, { on := 7, ground := Ground.phase }, { on := 8, ground := Ground.phase }, { on := 9, ground := Ground.phase }, { on := 10, ground := Ground.textOnly Departure.lateStores }, { on := 11, ground := Ground.textOnly Departure.lateStoresUnsure }, { on := 12, ground := Ground.phase }, { on := 13, ground := Ground.phase }], guard := none }) (v := .pointer (some ⟨k, 4, none⟩)) rfl (by kernel_rfl) (by kernel_rfl) (by kernel_rfl) (fun _ _ _ h => h) (Or.inl ⟨by rfl, fun w hSw => by (go_simp <;> rfl)⟩) hH13_13 ?_
              try simp only [Act.put, List.setIfInBounds_toArray, List.set_cons_zero, List.set_cons_succ]
              refine wpAnyH_ready (rs := [15]) (by kernel_rfl) (by simp) (AllReadyH.cons (o := { dst := none, op := Op.store 9 (Operand.tmp 36) (Operand.tmp 30), type := 0, pos := "address.go:186", after := #[{ on := 14, ground := Ground.data }, { on := 7, ground := Ground.data }, { on := 13, ground := Ground.chain }, { on := 0, ground := Ground.phase }, { on := 1, ground := Ground.phase }, { on := 2, ground := Ground.phase }, { on := 3, ground := Ground.phase }, { on := 4, ground := Ground.phase }, { on := 5, ground := Ground.phase }, { on := 6, ground := Ground.phase }, { on := 7, ground := Ground.phase }, { on := 8, ground := Ground.phase }, { on := 9, ground := Ground.phase }, { on := 10, ground := Ground.textOnly Departure.lateStores }, { on := 11, ground := Ground.textOnly Departure.lateStoresUnsure }, { on := 12, ground := Ground.phase }, { on := 13, ground := Ground.phase }], guard := none }) rfl (fun K15 hK15 => ?_) AllReadyH.nil)
              have lc := (P13_4.out).c4
              have lf := (P13_4.out).f4
              go_simp
              clear lc lf
              have P15_5 := Lib.hid (P13_4.out.put 4 (.string pt2))
              simp only [List.setIfInBounds_toArray, List.set_cons_zero, List.set_cons_succ] at P15_5
              refine hK15.out _ _ trivial (fun hH15_15 => ?_)
              clear hK15 K15
              try simp only [Act.put, List.setIfInBounds_toArray, List.set_cons_zero, List.set_cons_succ]
              refine wpAnyH_take (i := 16) (oi := { dst := some 37, op := Op.fieldAddr 24 (Operand.tmp 4) 5, type := 0, pos := "address.go:186", after := #[{ on := 0, ground := Ground.phase }, { on := 1, ground := Ground.phase }, { on := 2, ground := Ground.phase }, { on := 3, ground := Ground.phase }, { on := 4, ground := Ground.phase }, { on := 5, ground := Ground.phase }, { on := 6, ground := Ground.phase }, { on := 7, ground := Ground.phase }, { on := 8, ground := Ground.phase }, { on := 9, ground := Ground.phase }, { on := 10, ground := Ground.phase }, { on := 11, ground := Ground.phase }, { on := 12, ground := Ground.phase }, { on := 13, ground := Ground.phase }, { on := 14, ground := Ground.phase }, { on := 15, ground := Ground.phase }], guard := none }) (v := .pointer (some ⟨k, 5, none⟩)) rfl (by kernel_rfl) (by kernel_rfl) (by kernel_rfl) (fun _ _ _ h => h) (Or.inl ⟨by rfl, fun w hSw => by (go_simp <;> rfl)⟩) hH15_15 ?_
              try simp only [Act.put, List.setIfInBounds_toArray, List.set_cons_zero, List.set_cons_succ]
              refine wpAnyH_ready (rs := [17]) (by kernel_rfl) (by simp) (AllReadyH.cons (o := { dst := none, op := Op.store 9 (Operand.tmp 37) (Operand.tmp 34), type := 0, pos := "address.go:186", after := #[{ on := 16, ground := Ground.data }, { on := 11, ground := Ground.data }, { on := 15, ground := Ground.chain }, { on := 0, ground := Ground.phase }, { on := 1, ground := Ground.phase }, { on := 2, ground := Ground.phase }, { on := 3, ground := Ground.phase }, { on := 4, ground := Ground.phase }, { on := 5, ground := Ground.phase }, { on := 6, ground := Ground.phase }, { on := 7, ground := Ground.phase }, { on := 8, ground := Ground.phase }, { on := 9, ground := Ground.phase }, { on := 10, ground := Ground.phase }, { on := 11, ground := Ground.phase }, { on := 12, ground := Ground.phase }, { on := 13, ground := Ground.phase }, { on := 14, ground := Ground.phase }, { on := 15, ground := Ground.phase }], guard := none }) rfl (fun K17 hK17 => ?_) AllReadyH.nil)
              have lc := (P15_5.out).c5
              have lf := (P15_5.out).f5
              go_simp
              clear lc lf
              have P17_6 := Lib.hid (P15_5.out.put 5 (.string qu2))
              simp only [List.setIfInBounds_toArray, List.set_cons_zero, List.set_cons_succ] at P17_6
              refine hK17.out _ _ trivial (fun hH17_17 => ?_)
              clear hK17 K17
              try simp only [Act.put, List.setIfInBounds_toArray, List.set_cons_zero, List.set_cons_succ]
              refine wpAnyH_done (by kernel_rfl) ?_ _
              have HL := Lib.hid P17_6.out
              refine NoPanic.normal ?_
              go_wp2_with fail
              go_meet
              exact HL.out
            · have lc := (P3_1.out).c5
              go_simp
              clear lc
              refine hK9.out _ _ trivial (fun hH9_9 => ?_)
              clear hK9 K9
              try simp only [Act.put, List.setIfInBounds_toArray, List.set_cons_zero, List.set_cons_succ]
              refine wpAnyH_take (i := 12) (oi := { dst := some 35, op := Op.fieldAddr 24 (Operand.tmp 4) 1, type := 0, pos := "address.go:186", after := #[{ on := 0, ground := Ground.phase }, { on := 1, ground := Ground.phase }, { on := 2, ground := Ground.phase }, { on := 3, ground := Ground.phase }, { on := 4, ground := Ground.phase }, { on := 5, ground := Ground.phase }, { on := 6, ground := Ground.textOnly Departure.lateStores }, { on := 7, ground := Ground.textOnly Departure.lateStoresUnsure }, { on := 8, ground := Ground.phase }, { on := 9, ground := Ground.phase }, { on := 10, ground := Ground.textOnly Departure.lateStores }, { on := 11, ground := Ground.textOnly Departure.lateStoresUnsure }], guard := none }) (v := .pointer (some ⟨k, 1, none⟩)) rfl (by kernel_rfl) (by kernel_rfl) (by kernel_rfl) (fun _ _ _ h => h) (Or.inl ⟨by rfl, fun w hSw => by (go_simp <;> rfl)⟩) hH9_9 ?_
              try simp only [Act.put, List.setIfInBounds_toArray, List.set_cons_zero, List.set_cons_succ]
              refine wpAnyH_ready (rs := [7]) (by kernel_rfl) (by simp) (AllReadyH.cons (o := { dst := some 30, op := Op.call { callee := Callee.value (Operand.func 24), args := #[Operand.tmp 28, Operand.tmp 29], argTypes := #[9, 38] }, type := 9, pos := "address.go:186", after := #[{ on := 5, ground := Ground.data }, { on := 6, ground := Ground.data }, { on := 3, ground := Ground.chain }], guard := none }) rfl (fun K7 hK7 => ?_) AllReadyH.nil)
              go_simp
              with_reducible refine (HSP.out _).mono ?_
              rintro e x7_7 ⟨rfl, bx7_7⟩
              have P7_7 := Lib.hid (P3_1.out.up bx7_7)
              clear bx7_7
              refine hK7.out _ _ trivial (fun hH11_7 => ?_)
              clear hK7 K7
              try simp only [Act.put, List.setIfInBounds_toArray, List.set_cons_zero, List.set_cons_succ]
              refine wpAnyH_ready (rs := [11]) (by kernel_rfl) (by simp) (AllReadyH.cons (o := { dst := some 34, op := Op.call { callee := Callee.value (Operand.func 24), args := #[Operand.tmp 32, Operand.tmp 33], argTypes := #[9, 38] }, type := 9, pos := "address.go:186", after := #[{ on := 9, ground := Ground.data }, { on := 10, ground := Ground.data }, { on := 7, ground := Ground.chain }], guard := none }) rfl (fun K11 hK11 => ?_) AllReadyH.nil)
              go_simp
              with_reducible refine (HSQ.out _).mono ?_
              rintro e x11_8 ⟨rfl, bx11_8⟩
              have P11_8 := Lib.hid (P7_7.out.up bx11_8)
              clear bx11_8
              refine hK11.out _ _ trivial (fun hH12_11 => ?_)
              clear hK11 K11
              try simp only [Act.put, List.setIfInBounds_toArray, List.set_cons_zero, List.set_cons_succ]
              refine wpAnyH_ready (rs := [13]) (by kernel_rfl) (by simp) (AllReadyH.cons (o := { dst := none, op := Op.store 9 (Operand.tmp 35) (Operand.tmp 26), type := 0, pos := "address.go:186", after := #[{ on := 12, ground := Ground.data }, { on := 3, ground := Ground.data }, { on := 11, ground := Ground.chain }, { on := 0, ground := Ground.phase }, { on := 1, ground := Ground.phase }, { on := 2, ground := Ground.phase }, { on := 3, ground := Ground.phase }, { on := 4, ground := Ground.phase }, { on := 5, ground := Ground.phase }, { on := 6, ground := Ground.textOnly Departure.lateStores }, { on := 7, ground := Ground.textOnly Departure.lateStoresUnsure }, { on := 8, ground := Ground.phase }, { on := 9, ground := Ground.phase }, { on := 10, ground := Ground.textOnly Departure.lateStores }, { on := 11, ground := Ground.textOnly Departure.lateStoresUnsure }], guard := none }) rfl (fun K13 hK13 => ?_) AllReadyH.nil)
              have lc := (P11_8.out).c1
              have lf := (P11_8.out).f1
              go_simp
              clear lc lf
              have P13_9 := Lib.hid (P11_8.out.put 1 (.string us2))
              simp only [List.setIfInBounds_toArray, List.set_cons_zero, List.set_cons_succ] at P13_9
              refine hK13.out _ _ trivial (fun hH13_13 => ?_)
              clear hK13 K13
              try simp only [Act.put, List.setIfInBounds_toArray, List.set_cons_zero, List.set_cons_succ]
              refine wpAnyH_take (i := 14) (oi := { dst := some 36, op := Op.fieldAddr 24 (Operand.tmp 4) 4, type := 0, pos := "address.go:186", after := #[{ on := 0, ground := Ground.phase }, { on := 1, ground := Ground.phase }, { on := 2, ground := Ground.phase }, { on := 3, ground := Ground.phase }, { on := 4, ground := Ground.phase }, { on := 5, ground := Ground.phase }, { on := 6, ground := Ground.phase }, { on := 7, ground := Ground.phase }, { on := 8, ground := Ground.phase }, { on := 9, ground := Ground.phase }, { on := 10, ground := Ground.textOnly Departure.lateStores }, { on := 11, ground := Ground.textOnly Departure.lateStoresUnsure }, { on := 12, ground := Ground.phase }, { on := 13, ground := Ground.phase }], guard := none }) (v := .pointer (some ⟨k, 4, none⟩)) rfl (by kernel_rfl) (by kernel_rfl) (by kernel_rfl) (fun _ _ _ h => h) (Or.inl ⟨by rfl, fun w hSw => by (go_simp <;> rfl)⟩) hH13_13 ?_
              try simp only [Act.put, List.setIfInBounds_toArray, List.set_cons_zero, List.set_cons_succ]
              refine wpAnyH_ready (rs := [15]) (by kernel_rfl) (by simp) (AllReadyH.cons (o := { dst := none, op := Op.store 9 (Operand.tmp 36) (Operand.tmp 30), type := 0, pos := "address.go:186", after := #[{ on := 14, ground := Ground.data }, { on := 7, ground := Ground.data }, { on := 13, ground := Ground.chain }, { on := 0, ground := Ground.phase }, { on := 1, ground := Ground.phase }, { on := 2, ground := Ground.phase }, { on := 3, ground := Ground.phase }, { on := 4, ground := Ground.phase }, { on := 5, ground := Ground.phase }, { on := 6, ground := Ground.phase }, { on := 7, ground := Ground.phase }, { on := 8, ground := Ground.phase }, { on := 9, ground := Ground.phase }, { on := 10, ground := Ground.textOnly Departure.lateStores }, { on := 11, ground := Ground.textOnly Departure.lateStoresUnsure }, { on := 12, ground := Ground.phase }, { on := 13, ground := Ground.phase }], guard := none }) rfl (fun K15 hK15 => ?_) AllReadyH.nil)
              have lc := (P13_9.out).c4
              have lf := (P13_9.out).f4
              go_simp
              clear lc lf
              have P15_10 := Lib.hid (P13_9.out.put 4 (.string pt2))
              simp only [List.setIfInBounds_toArray, List.set_cons_zero, List.set_cons_succ] at P15_10
              refine hK15.out _ _ trivial (fun hH15_15 => ?_)
              clear hK15 K15
              try simp only [Act.put, List.setIfInBounds_toArray, List.set_cons_zero, List.set_cons_succ]
              refine wpAnyH_take (i := 16) (oi := { dst := some 37, op := Op.fieldAddr 24 (Operand.tmp 4) 5, type := 0, pos := "address.go:186", after := #[{ on := 0, ground := Ground.phase }, { on := 1, ground := Ground.phase }, { on := 2, ground := Ground.phase }, { on := 3, ground := Ground.phase }, { on := 4, ground := Ground.phase }, { on := 5, ground := Ground.phase }, { on := 6, ground := Ground.phase }, { on := 7, ground := Ground.phase }, { on := 8, ground := Ground.phase }, { on := 9, ground := Ground.phase }, { on := 10, ground := Ground.phase }, { on := 11, ground := Ground.phase }, { on := 12, ground := Ground.phase }, { on := 13, ground := Ground.phase }, { on := 14, ground := Ground.phase }, { on := 15, ground := Ground.phase }], guard := none }) (v := .pointer (some ⟨k, 5, none⟩)) rfl (by kernel_rfl) (by kernel_rfl) (by kernel_rfl) (fun _ _ _ h => h) (Or.inl ⟨by rfl, fun w hSw => by (go_simp <;> rfl)⟩) hH15_15 ?_
              try simp only [Act.put, List.setIfInBounds_toArray, List.set_cons_zero, List.set_cons_succ]
              refine wpAnyH_ready (rs := [17]) (by kernel_rfl) (by simp) (AllReadyH.cons (o := { dst := none, op := Op.store 9 (Operand.tmp 37) (Operand.tmp 34), type := 0, pos := "address.go:186", after := #[{ on := 16, ground := Ground.data }, { on := 11, ground := Ground.data }, { on := 15, ground := Ground.chain }, { on := 0, ground := Ground.phase }, { on := 1, ground := Ground.phase }, { on := 2, ground := Ground.phase }, { on := 3, ground := Ground.phase }, { on := 4, ground := Ground.phase }, { on := 5, ground := Ground.phase }, { on := 6, ground := Ground.phase }, { on := 7, ground := Ground.phase }, { on := 8, ground := Ground.phase }, { on := 9, ground := Ground.phase }, { on := 10, ground := Ground.phase }, { on := 11, ground := Ground.phase }, { on := 12, ground := Ground.phase }, { on := 13, ground := Ground.phase }, { on := 14, ground := Ground.phase }, { on := 15, ground := Ground.phase }], guard := none }) rfl (fun K17 hK17 => ?_) AllReadyH.nil)
              have lc := (P15_10.out).c5
              have lf := (P15_10.out).f5
              go_simp
              clear lc lf
              have P17_11 := Lib.hid (P15_10.out.put 5 (.string qu2))
              simp only [List.setIfInBounds_toArray, List.set_cons_zero, List.set_cons_succ] at P17_11
              refine hK17.out _ _ trivial (fun hH17_17 => ?_)
              clear hK17 K17
              try simp only [Act.put, List.setIfInBounds_toArray, List.set_cons_zero, List.set_cons_succ]
              refine wpAnyH_done (by kernel_rfl) ?_ _
              have HL := Lib.hid P17_11.out
              refine NoPanic.normal ?_
              go_wp2_with fail
              go_meet
              exact HL.out
          · have lc := (P3_1.out).c5
            go_simp
            clear lc
            refine hK9.out _ _ trivial (fun hH8_9 => ?_)
            clear hK9 K9
            try simp only [Act.put, List.setIfInBounds_toArray, List.set_cons_zero, List.set_cons_succ]
            refine wpAnyH_ready (rs := [5]) (by kernel_rfl) (by simp) (AllReadyH.cons (o := { dst := some 28, op := Op.load 9 (Operand.tmp 27), type := 9, pos := "address.go:186", after := #[{ on := 4, ground := Ground.data }], guard := none }) rfl (fun K5 hK5 => ?_) AllReadyH.nil)
            have lc := (P3_1.out).c4
            go_simp
            clear lc
            refine hK5.out _ _ trivial (fun hH9_5 => ?_)
            clear hK5 K5
            try simp only [Act.put, List.setIfInBounds_toArray, List.set_cons_zero, List.set_cons_succ]
            refine wpAnyH_take (i := 12) (oi := { dst := some 35, op := Op.fieldAddr 24 (Operand.tmp 4) 1, type := 0, pos := "address.go:186", after := #[{ on := 0, ground := Ground.phase }, { on := 1, ground := Ground.phase }, { on := 2, ground := Ground.phase }, { on := 3, ground := Ground.phase }, { on := 4, ground := Ground.phase }, { on := 5, ground := Ground.phase }, { on := 6, ground := Ground.textOnly Departure.lateStores }, { on := 7, ground := Ground.textOnly Departure.lateStoresUnsure }, { on := 8, ground := Ground.phase }, { on := 9, ground := Ground.phase }, { on := 10, ground := Ground.textOnly Departure.lateStores }, { on := 11, ground := Ground.textOnly Departure.lateStoresUnsure }], guard := none }) (v := .pointer (some ⟨k, 1, none⟩)) rfl (by kernel_rfl) (by kernel_rfl) (by kernel_rfl) (fun _ _ _ h => h) (Or.inl ⟨by rfl, fun w hSw => by (go_simp <;> rfl)⟩) hH9_5 ?_
            try simp only [Act.put, List.setIfInBounds_toArray, List.set_cons_zero, List.set_cons_succ]
            refine wpAnyH_ready (rs := [7]) (by kernel_rfl) (by simp) (AllReadyH.cons (o := { dst := some 30, op := Op.call { callee := Callee.value (Operand.func 24), args := #[Operand.tmp 28, Operand.tmp 29], argTypes := #[9, 38] }, type := 9, pos := "address.go:186", after := #[{ on := 5, ground := Ground.data }, { on := 6, ground := Ground.data }, { on := 3, ground := Ground.chain }], guard := none }) rfl (fun K7 hK7 => ?_) AllReadyH.nil)
            go_simp
            with_reducible refine (HSP.out _).mono ?_
            rintro e x7_12 ⟨rfl, bx7_12⟩
            have P7_12 := Lib.hid (P3_1.out.up bx7_12)
            clear bx7_12
            refine hK7.out _ _ trivial (fun hH11_7 => ?_)
            clear hK7 K7
            try simp only [Act.put, List.setIfInBounds_toArray, List.set_cons_zero, List.set_cons_succ]
            refine wpAnyH_ready (rs := [11]) (by kernel_rfl) (by simp) (AllReadyH.cons (o := { dst := some 34, op := Op.call { callee := Callee.value (Operand.func 24), args := #[Operand.tmp 32, Operand.tmp 33], argTypes := #[9, 38] }, type := 9, pos := "address.go:186", after := #[{ on := 9, ground := Ground.data }, { on := 10, ground := Ground.data }, { on := 7, ground := Ground.chain }], guard := none }) rfl (fun K11 hK11 => ?_) AllReadyH.nil)
            go_simp
            with_reducible refine (HSQ.out _).mono ?_
            rintro e x11_13 ⟨rfl, bx11_13⟩
            have P11_13 := Lib.hid (P7_12.out.up bx11_13)
            clear bx11_13
            refine hK11.out _ _ trivial (fun hH12_11 => ?_)
            clear hK11 K11
            try simp only [Act.put, List.setIfInBounds_toArray, List.set_cons_zero, List.set_cons_succ]
            refine wpAnyH_ready (rs := [13]) (by kernel_rfl) (by simp) (AllReadyH.cons (o := { dst := none, op := Op.store 9 (Operand.tmp 35) (Operand.tmp 26), type := 0, pos := "address.go:186", after := #[{ on := 12, ground := Ground.data }, { on := 3, ground := Ground.data }, { on := 11, ground := Ground.chain }, { on := 0, ground := Ground.phase }, { on := 1, ground := Ground.phase }, { on := 2, ground := Ground.phase }, { on := 3, ground := Ground.phase }, { on := 4, ground := Ground.phase }, { on := 5, ground := Ground.phase }, { on := 6, ground := Ground.textOnly Departure.lateStores }, { on := 7, ground := Ground.textOnly Departure.lateStoresUnsure }, { on := 8, ground := Ground.phase }, { on := 9, ground := Ground.phase }, { on := 10, ground := Ground.textOnly Departure.lateStores }, { on := 11, ground := Ground.textOnly Departure.lateStoresUnsure }], guard := none }) rfl (fun K13 hK13 => ?_) AllReadyH.nil)
            have lc := (P11_13.out).c1
            have lf := (P11_13.out).f1
            go_simp
            clear lc lf
            have P13_14 := Lib.hid (P11_13.out.put 1 (.string us2))
            simp only [List.setIfInBounds_toArray, List.set_cons_zero, List.set_cons_succ] at P13_14
            refine hK13.out _ _ trivial (fun hH13_13 => ?_)
            clear hK13 K13
            try simp only [Act.put, List.setIfInBounds_toArray, List.set_cons_zero, List.set_cons_succ]
            refine wpAnyH_take (i := 14) (oi := { dst := some 36, op := Op.fieldAddr 24 (Operand.tmp 4) 4, type := 0, pos := "address.go:186", after := #[{ on := 0, ground := Ground.phase }, { on := 1, ground := Ground.phase }, { on := 2, ground := Ground.phase }, { on := 3, ground := Ground.phase }, { on := 4, ground := Ground.phase }, { on := 5, ground := Ground.phase }, { on := 6, ground := Ground.phase }, { on := 7, ground := Ground.phase }, { on := 8, ground := Ground.phase }, { on := 9, ground := Ground.phase }, { on := 10, ground := Ground.textOnly Departure.lateStores }, { on := 11, ground := Ground.textOnly Departure.lateStoresUnsure }, { on := 12, ground := Ground.phase }, { on := 13, ground := Ground.phase }], guard := none }) (v := .pointer (some ⟨k, 4, none⟩)) rfl (by kernel_rfl) (by kernel_rfl) (by kernel_rfl) (fun _ _ _ h => h) (Or.inl ⟨by rfl, fun w hSw => by (go_simp <;> rfl)⟩) hH13_13 ?_
            try simp only [Act.put, List.setIfInBounds_toArray, List.set_cons_zero, List.set_cons_succ]
            refine wpAnyH_ready (rs := [15]) (by kernel_rfl) (by simp) (AllReadyH.cons (o := { dst := none, op := Op.store 9 (Operand.tmp 36) (Operand.tmp 30), type := 0, pos := "address.go:186", after := #[{ on := 14, ground := Ground.data }, { on := 7, ground := Ground.data }, { on := 13, ground := Ground.chain }, { on := 0, ground := Ground.phase }, { on := 1, ground := Ground.phase }, { on := 2, ground := Ground.phase }, { on := 3, ground := Ground.phase }, { on := 4, ground := Ground.phase }, { on := 5, ground := Ground.phase }, { on := 6, ground := Ground.phase }, { on := 7, ground := Ground.phase }, { on := 8, ground := Ground.phase }, { on := 9, ground := Ground.phase }, { on := 10, ground := Ground.textOnly Departure.lateStores }, { on := 11, ground := Ground.textOnly Departure.lateStoresUnsure }, { on := 12, ground := Ground.phase }, { on := 13, ground := Ground.phase }], guard := none }) rfl (fun K15 hK15 => ?_) AllReadyH.nil)
            have lc := (P13_14.out).c4
            have lf := (P13_14.out).f4
            go_simp
            clear lc lf
            have P15_15 := Lib.hid (P13_14.out.put 4 (.string pt2))
            simp only [List.setIfInBounds_toArray, List.set_cons_zero, List.set_cons_succ] at P15_15
            refine hK15.out _ _ trivial (fun hH15_15 => ?_)
            clear hK15 K15
            try simp only [Act.put, List.setIfInBounds_toArray, List.set_cons_zero, List.set_cons_succ]
            refine wpAnyH_take (i := 16) (oi := { dst := some 37, op := Op.fieldAddr 24 (Operand.tmp 4) 5, type := 0, pos := "address.go:186", after := #[{ on := 0, ground := Ground.phase }, { on := 1, ground := Ground.phase }, { on := 2, ground := Ground.phase }, { on := 3, ground := Ground.phase }, { on := 4, ground := Ground.phase }, { on := 5, ground := Ground.phase }, { on := 6, ground := Ground.phase }, { on := 7, ground := Ground.phase }, { on := 8, ground := Ground.phase }, { on := 9, ground := Ground.phase }, { on := 10, ground := Ground.phase }, { on := 11, ground := Ground.phase }, { on := 12, ground := Ground.phase }, { on := 13, ground := Ground.phase }, { on := 14, ground := Ground.phase }, { on := 15, ground := Ground.phase }], guard := none }) (v := .pointer (some ⟨k, 5, none⟩)) rfl (by kernel_rfl) (by kernel_rfl) (by kernel_rfl) (fun _ _ _ h => h) (Or.inl ⟨by rfl, fun w hSw => by (go_simp <;> rfl)⟩) hH15_15 ?_
            try simp only [Act.put, List.setIfInBounds_toArray, List.set_cons_zero, List.set_cons_succ]
            refine wpAnyH_ready (rs := [17]) (by kernel_rfl) (by simp) (AllReadyH.cons (o := { dst := none, op := Op.store 9 (Operand.tmp 37) (Operand.tmp 34), type := 0, pos := "address.go:186", after := #[{ on := 16, ground := Ground.data }, { on := 11, ground := Ground.data }, { on := 15, ground := Ground.chain }, { on := 0, ground := Ground.phase }, { on := 1, ground := Ground.phase }, { on := 2, ground := Ground.phase }, { on := 3, ground := Ground.phase }, { on := 4, ground := Ground.phase }, { on := 5, ground := Ground.phase }, { on := 6, ground := Ground.phase }, { on := 7, ground := Ground.phase }, { on := 8, ground := Ground.phase }, { on := 9, ground := Ground.phase }, { on := 10, ground := Ground.phase }, { on := 11, ground := Ground.phase }, { on := 12, ground := Ground.phase }, { on := 13, ground := Ground.phase }, { on := 14, ground := Ground.phase }, { on := 15, ground := Ground.phase }], guard := none }) rfl (fun K17 hK17 => ?_) AllReadyH.nil)
            have lc := (P15_15.out).c5
            have lf := (P15_15.out).f5
            go_simp
            clear lc lf
            have P17_16 := Lib.hid (P15_15.out.put 5 (.string qu2))
            simp only [List.setIfInBounds_toArray, List.set_cons_zero, List.set_cons_succ] at P17_16
            refine hK17.out _ _ trivial (fun hH17_17 => ?_)
            clear hK17 K17
            try simp only [Act.put, List.setIfInBounds_toArray, List.set_cons_zero, List.set_cons_succ]
            refine wpAnyH_done (by kernel_rfl) ?_ _
            have HL := Lib.hid P17_16.out
            refine NoPanic.normal ?_
            go_wp2_with fail
            go_meet
            exact HL.out
        · have lc := (P0.out).c4
          go_simp
          clear lc
          refine hK5.out _ _ trivial (fun hH7_5 => ?_)
          clear hK5 K5
          try simp only [Act.put, List.setIfInBounds_toArray, List.set_cons_zero, List.set_cons_succ]
          refine wpAnyH_ready (rs := [3, 9]) (by kernel_rfl) (by simp) (AllReadyH.cons (o := { dst := some 26, op := Op.call { callee := Callee.value (Operand.func 24), args := #[Operand.tmp 24, Operand.tmp 25], argTypes := #[9, 38] }, type := 9, pos := "address.go:186", after := #[{ on := 1, ground := Ground.data }, { on := 2, ground := Ground.data }], guard := none }) rfl (fun K3 hK3 => ?_) (AllReadyH.cons (o := { dst := some 32, op := Op.load 9 (Operand.tmp 31), type := 9, pos := "address.go:186", after := #[{ on := 8, ground := Ground.data }], guard := none }) rfl (fun K9 hK9 => ?_) AllReadyH.nil))
          · go_simp
            with_reducible refine (HSU.out _).mono ?_
            rintro e x3_17 ⟨rfl, bx3_17⟩
            have P3_17 := Lib.hid (P0.out.up bx3_17)
            clear bx3_17
            refine hK3.out _ _ trivial (fun hH8_3 => ?_)
            clear hK3 K3
            try simp only [Act.put, List.setIfInBounds_toArray, List.set_cons_zero, List.set_cons_succ]
            refine wpAnyH_ready (rs := [7, 9]) (by kernel_rfl) (by simp) (AllReadyH.cons (o := { dst := some 30, op := Op.call { callee := Callee.value (Operand.func 24), args := #[Operand.tmp 28, Operand.tmp 29], argTypes := #[9, 38] }, type := 9, pos := "address.go:186", after := #[{ on := 5, ground := Ground.data }, { on := 6, ground := Ground.data }, { on := 3, ground := Ground.chain }], guard := none }) rfl (fun K7 hK7 => ?_) (AllReadyH.cons (o := { dst := some 32, op := Op.load 9 (Operand.tmp 31), type := 9, pos := "address.go:186", after := #[{ on := 8, ground := Ground.data }], guard := none }) rfl (fun K9 hK9 => ?_) AllReadyH.nil))
            · go_simp
              with_reducible refine (HSP.out _).mono ?_
              rintro e x7_18 ⟨rfl, bx7_18⟩
              have P7_18 := Lib.hid (P3_17.out.up bx7_18)
              clear bx7_18
              refine hK7.out _ _ trivial (fun hH9_7 => ?_)
              clear hK7 K7
              try simp only [Act.put, List.setIfInBounds_toArray, List.set_cons_zero, List.set_cons_succ]
              refine wpAnyH_ready (rs := [9]) (by kernel_rfl) (by simp) (AllReadyH.cons (o := { dst := some 32, op := Op.load 9 (Operand.tmp 31), type := 9, pos := "address.go:186", after := #[{ on := 8, ground := Ground.data }], guard := none }) rfl (fun K9 hK9 => ?_) AllReadyH.nil)
              have lc := (P7_18.out).c5
              go_simp
              clear lc
              refine hK9.out _ _ trivial (fun hH10_9 => ?_)
              clear hK9 K9
              try simp only [Act.put, List.setIfInBounds_toArray, List.set_cons_zero, List.set_cons_succ]
              refine wpAnyH_take (i := 12) (oi := { dst := some 35, op := Op.fieldAddr 24 (Operand.tmp 4) 1, type := 0, pos := "address.go:186", after := #[{ on := 0, ground := Ground.phase }, { on := 1, ground := Ground.phase }, { on := 2, ground := Ground.phase }, { on := 3, ground := Ground.phase }, { on := 4, ground := Ground.phase }, { on := 5, ground := Ground.phase }, { on := 6, ground := Ground.textOnly Departure.lateStores }, { on := 7, ground := Ground.textOnly Departure.lateStoresUnsure }, { on := 8, ground := Ground.phase }, { on := 9, ground := Ground.phase }, { on := 10, ground := Ground.textOnly Departure.lateStores }, { on := 11, ground := Ground.textOnly Departure.lateStoresUnsure }], guard := none }) (v := .pointer (some ⟨k, 1, none⟩)) rfl (by kernel_rfl) (by kernel_rfl) (by kernel_rfl) (fun _ _ _ h => h) (Or.inl ⟨by rfl, fun w hSw => by (go_simp <;> rfl)⟩) hH10_9 ?_
              try simp only [Act.put, List.setIfInBounds_toArray, List.set_cons_zero, List.set_cons_succ]
              refine wpAnyH_ready (rs := [11]) (by kernel_rfl) (by simp) (AllReadyH.cons (o := { dst := some 34, op := Op.call { callee := Callee.value (Operand.func 24), args := #[Operand.tmp 32, Operand.tmp 33], argTypes := #[9, 38] }, type := 9, pos := "address.go:186", after := #[{ on := 9, ground := Ground.data }, { on := 10, ground := Ground.data }, { on := 7, ground := Ground.chain }], guard := none }) rfl (fun K11 hK11 => ?_) AllReadyH.nil)
              go_simp
              with_reducible refine (HSQ.out _).mono ?_
              rintro e x11_19 ⟨rfl, bx11_19⟩
              have P11_19 := Lib.hid (P7_18.out.up bx11_19)
              clear bx11_19
              refine hK11.out _ _ trivial (fun hH12_11 => ?_)
              clear hK11 K11
              try simp only [Act.put, List.setIfInBounds_toArray, List.set_cons_zero, List.set_cons_succ]
              refine wpAnyH_ready (rs := [13]) (by kernel_rfl) (by simp) (AllReadyH.cons (o := { dst := none, op := Op.store 9 (Operand.tmp 35) (Operand.tmp 26), type := 0, pos := "address.go:186", after := #[{ on := 12, ground := Ground.data }, { on := 3, ground := Ground.data }, { on := 11, ground := Ground.chain }, { on := 0, ground := Ground.phase }, { on := 1, ground := Ground.phase }, { on := 2, ground := Ground.phase }, { on := 3, ground := Ground.phase }, { on := 4, ground := Ground.phase }, { on := 5, ground := Ground.phase }, { on := 6, ground := Ground.textOnly Departure.lateStores }, { on := 7, ground := Ground.textOnly Departure.lateStoresUnsure }, { on := 8, ground := Ground.phase }, { on := 9, ground := Ground.phase }, { on := 10, ground := Ground.textOnly Departure.lateStores }, { on := 11, ground := Ground.textOnly Departure.lateStoresUnsure }], guard := none }) rfl (fun K13 hK13 => ?_) AllReadyH.nil)
              have lc := (P11_19.out).c1
              have lf := (P11_19.out).f1
              go_simp
              clear lc lf
              have P13_20 := Lib.hid (P11_19.out.put 1 (.string us2))
              simp only [List.setIfInBounds_toArray, List.set_cons_zero, List.set_cons_succ] at P13_20
              refine hK13.out _ _ trivial (fun hH13_13 => ?_)
              clear hK13 K13
              try simp only [Act.put, List.setIfInBounds_toArray, List.set_cons_zero, List.set_cons_succ]
              refine wpAnyH_take (i := 14) (oi := { dst := some 36, op := Op.fieldAddr 24 (Operand.tmp 4) 4, type := 0, pos := "address.go:186", after := #[{ on := 0, ground := Ground.phase }, { on := 1, ground := Ground.phase }, { on := 2, ground := Ground.phase }, { on := 3, ground := Ground.phase }, { on := 4, ground := Ground.phase }, { on := 5, ground := Ground.phase }, { on := 6, ground := Ground.phase }, { on := 7, ground := Ground.phase }, { on := 8, ground := Ground.phase }, { on := 9, ground := Ground.phase }, { on := 10, ground := Ground.textOnly Departure.lateStores }, { on := 11, ground := Ground.textOnly Departure.lateStoresUnsure }, { on := 12, ground := Ground.phase }, { on := 13, ground := Ground.phase }], guard := none }) (v := .pointer (some ⟨k, 4, none⟩)) rfl (by kernel_rfl) (by kernel_rfl) (by kernel_rfl) (fun _ _ _ h => h) (Or.inl ⟨by rfl, fun w hSw => by (go_simp <;> rfl)⟩) hH13_13 ?_
              try simp only [Act.put, List.setIfInBounds_toArray, List.set_cons_zero, List.set_cons_succ]
              refine wpAnyH_ready (rs := [15]) (by kernel_rfl) (by simp) (AllReadyH.cons (o := { dst := none, op := Op.store 9 (Operand.tmp 36) (Operand.tmp 30), type := 0, pos := "address.go:186", after := #[{ on := 14, ground := Ground.data }, { on := 7, ground := Ground.data }, { on := 13, ground := Ground.chain }, { on := 0, ground := Ground.phase }, { on := 1, ground := Ground.phase }, { on := 2, ground := Ground.phase }, { on := 3, ground := Ground.phase }, { on := 4, ground := Ground.phase }, { on := 5, ground := Ground.phase }, { on := 6, ground := Ground.phase }, { on := 7, ground := Ground.phase }, { on := 8, ground := Ground.phase }, { on := 9, ground := Ground.phase }, { on := 10, ground := Ground.textOnly Departure.lateStores }, { on := 11, ground := Ground.textOnly Departure.lateStoresUnsure }, { on := 12, ground := Ground.phase }, { on := 13, ground := Ground.phase }], guard := none }) rfl (fun K15 hK15 => ?_) AllReadyH.nil)
              have lc := (P13_20.out).c4
              have lf := (P13_20.out).f4
              go_simp
              clear lc lf
              have P15_21 := Lib.hid (P13_20.out.put 4 (.string pt2))
              simp only [List.setIfInBounds_toArray, List.set_cons_zero, List.set_cons_succ] at P15_21
              refine hK15.out _ _ trivial (fun hH15_15 => ?_)
              clear hK15 K15
              try simp only [Act.put, List.setIfInBounds_toArray, List.set_cons_zero, List.set_cons_succ]
              refine wpAnyH_take (i := 16) (oi := { dst := some 37, op := Op.fieldAddr 24 (Operand.tmp 4) 5, type := 0, pos := "address.go:186", after := #[{ on := 0, ground := Ground.phase }, { on := 1, ground := Ground.phase }, { on := 2, ground := Ground.phase }, { on := 3, ground := Ground.phase }, { on := 4, ground := Ground.phase }, { on := 5, ground := Ground.phase }, { on := 6, ground := Ground.phase }, { on := 7, ground := Ground.phase }, { on := 8, ground := Ground.phase }, { on := 9, ground := Ground.phase }, { on := 10, ground := Ground.phase }, { on := 11, ground := Ground.phase }, { on := 12, ground := Ground.phase }, { on := 13, ground := Ground.phase }, { on := 14, ground := Ground.phase }, { on := 15, ground := Ground.phase }], guard := none }) (v := .pointer (some ⟨k, 5, none⟩)) rfl (by kernel_rfl) (by kernel_rfl) (by kernel_rfl) (fun _ _ _ h => h) (Or.inl ⟨by rfl, fun w hSw => by (go_simp <;> rfl)⟩) hH15_15 ?_
              try simp only [Act.put, List.setIfInBounds_toArray, List.set_cons_zero, List.set_cons_succ]
              refine wpAnyH_ready (rs := [17]) (by kernel_rfl) (by simp) (AllReadyH.cons (o := { dst := none, op := Op.store 9 (Operand.tmp 37) (Operand.tmp 34), type := 0, pos := "address.go:186", after := #[{ on := 16, ground := Ground.data }, { on := 11, ground := Ground.data }, { on := 15, ground := Ground.chain }, { on := 0, ground := Ground.phase }, { on := 1, ground := Ground.phase }, { on := 2, ground := Ground.phase }, { on := 3, ground := Ground.phase }, { on := 4, ground := Ground.phase }, { on := 5, ground := Ground.phase }, { on := 6, ground := Ground.phase }, { on := 7, ground := Ground.phase }, { on := 8, ground := Ground.phase }, { on := 9, ground := Ground.phase }, { on := 10, ground := Ground.phase }, { on := 11, ground := Ground.phase }, { on := 12, ground := Ground.phase }, { on := 13, ground := Ground.phase }, { on := 14, ground := Ground.phase }, { on := 15, ground := Ground.phase }], guard := none }) rfl (fun K17 hK17 => ?_) AllReadyH.nil)
              have lc := (P15_21.out).c5
              have lf := (P15_21.out).f5
              go_simp
              clear lc lf
              have P17_22 := Lib.hid (P15_21.out.put 5 (.string qu2))
              simp only [List.setIfInBounds_toArray, List.set_cons_zero, List.set_cons_succ] at P17_22
              refine hK17.out _ _ trivial (fun hH17_17 => ?_)
              clear hK17 K17
              try simp only [Act.put, List.setIfInBounds_toArray, List.set_cons_zero, List.set_cons_succ]
              refine wpAnyH_done (by kernel_rfl) ?_ _
              have HL := Lib.hid P17_22.out
              refine NoPanic.normal ?_
              go_wp2_with fail
              go_meet
              exact HL.out
            · have lc := (P3_17.out).c5
              go_simp
              clear lc
              refine hK9.out _ _ trivial (fun hH9_9 => ?_)
              clear hK9 K9
              try simp only [Act.put, List.setIfInBounds_toArray, List.set_cons_zero, List.set_cons_succ]
              refine wpAnyH_take (i := 12) (oi := { dst := some 35, op := Op.fieldAddr 24 (Operand.tmp 4) 1, type := 0, pos := "address.go:186", after := #[{ on := 0, ground := Ground.phase }, { on := 1, ground := Ground.phase }, { on := 2, ground := Ground.phase }, { on := 3, ground := Ground.phase }, { on := 4, ground := Ground.phase }, { on := 5, ground := Ground.phase }, { on := 6, ground := Ground.textOnly Departure.lateStores }, { on := 7, ground := Ground.textOnly Departure.lateStoresUnsure }, { on := 8, ground := Ground.phase }, { on := 9, ground := Ground.phase }, { on := 10, ground := Ground.textOnly Departure.lateStores }, { on := 11, ground := Ground.textOnly Departure.lateStoresUnsure }], guard := none }) (v := .pointer (some ⟨k, 1, none⟩)) rfl (by kernel_rfl) (by kernel_rfl) (by kernel_rfl) (fun _ _ _ h => h) (Or.inl ⟨by rfl, fun w hSw => by (go_simp <;> rfl)⟩) hH9_9 ?_
              try simp only [Act.put, List.setIfInBounds_toArray, List.set_cons_zero, List.set_cons_succ]
              refine wpAnyH_ready (rs := [7]) (by kernel_rfl) (by simp) (AllReadyH.cons (o := { dst := some 30, op := Op.call { callee := Callee.value (Operand.func 24), args := #[Operand.tmp 28, Operand.tmp 29], argTypes := #[9, 38] }, type := 9, pos := "address.go:186", after := #[{ on := 5, ground := Ground.data }, { on := 6, ground := Ground.data }, { on := 3, ground := Ground.chain }], guard := none }) rfl (fun K7 hK7 => ?_) AllReadyH.nil)
              go_simp
              with_reducible refine (HSP.out _).mono ?_
              rintro e x7_23 ⟨rfl, bx7_23⟩
              have P7_23 := Lib.hid (P3_17.out.up bx7_23)
              clear bx7_23
              refine hK7.out _ _ trivial (fun hH11_7 => ?_)
              clear hK7 K7
              try simp only [Act.put, List.setIfInBounds_toArray, List.set_cons_zero, List.set_cons_succ]
              refine wpAnyH_ready (rs := [11]) (by kernel_rfl) (by simp) (AllReadyH.cons (o := { dst := some 34, op := Op.call { callee := Callee.value (Operand.func 24), args := #[Operand.tmp 32, Operand.tmp 33], argTypes := #[9, 38] }, type := 9, pos := "address.go:186", after := #[{ on := 9, ground := Ground.data }, { on := 10, ground := Ground.data }, { on := 7, ground := Ground.chain }], guard := none }) rfl (fun K11 hK11 => ?_) AllReadyH.nil)
              go_simp
              with_reducible refine (HSQ.out _).mono ?_
              rintro e x11_24 ⟨rfl, bx11_24⟩
              have P11_24 := Lib.hid (P7_23.out.up bx11_24)
              clear bx11_24
              refine hK11.out _ _ trivial (fun hH12_11 => ?_)
              clear hK11 K11
              try simp only [Act.put, List.setIfInBounds_toArray, List.set_cons_zero, List.set_cons_succ]
              refine wpAnyH_ready (rs := [13]) (by kernel_rfl) (by simp) (AllReadyH.cons (o := { dst := none, op := Op.store 9 (Operand.tmp 35) (Operand.tmp 26), type := 0, pos := "address.go:186", after := #[{ on := 12, ground := Ground.data }, { on := 3, ground := Ground.data }, { on := 11, ground := Ground.chain }, { on := 0, ground := Ground.phase }, { on := 1, ground := Ground.phase }, { on := 2, ground := Ground.phase }, { on := 3, ground := Ground.phase }, { on := 4, ground := Ground.phase }, { on := 5, ground := Ground.phase }, { on := 6, ground := Ground.textOnly Departure.lateStores }, { on := 7, ground := Ground.textOnly Departure.lateStoresUnsure }, { on := 8, ground := Ground.phase }, { on := 9, ground := Ground.phase }, { on := 10, ground := Ground.textOnly Departure.lateStores }, { on := 11, ground := Ground.textOnly Departure.lateStoresUnsure }], guard := none }) rfl (fun K13 hK13 => ?_) AllReadyH.nil)
              have lc := (P11_24.out).c1
              have lf := (P11_24.out).f1
              go_simp
              clear lc lf
              have P13_25 := Lib.hid (P11_24.out.put 1 (.string us2))
              simp only [List.setIfInBounds_toArray, List.set_cons_zero, List.set_cons_succ] at P13_25
              refine hK13.out _ _ trivial (fun hH13_13 => ?_)
              clear hK13 K13
              try simp only [Act.put, List.setIfInBounds_toArray, List.set_cons_zero, List.set_cons_succ]
              refine wpAnyH_take (i := 14) (oi := { dst := some 36, op := Op.fieldAddr 24 (Operand.tmp 4) 4, type := 0, pos := "address.go:186", after := #[{ on := 0, ground := Ground.phase }, { on := 1, ground := Ground.phase }, { on := 2, ground := Ground.phase }, { on := 3, ground := Ground.phase }, { on := 4, ground := Ground.phase }, { on := 5, ground := Ground.phase }, { on := 6, ground := Ground.phase }, { on := 7, ground := Ground.phase }, { on := 8, ground := Ground.phase }, { on := 9, ground := Ground.phase }, { on := 10, ground := Ground.textOnly Departure.lateStores }, { on := 11, ground := Ground.textOnly Departure.lateStoresUnsure }, { on := 12, ground := Ground.phase }, { on := 13, ground := Ground.phase }], guard := none }) (v := .pointer (some ⟨k, 4, none⟩)) rfl (by kernel_rfl) (by kernel_rfl) (by kernel_rfl) (fun _ _ _ h => h) (Or.inl ⟨by rfl, fun w hSw => by (go_simp <;> rfl)⟩) hH13_13 ?_
              try simp only [Act.put, List.setIfInBounds_toArray, List.set_cons_zero, List.set_cons_succ]
              refine wpAnyH_ready (rs := [15]) (by kernel_rfl) (by simp) (AllReadyH.cons (o := { dst := none, op := Op.store 9 (Operand.tmp 36) (Operand.tmp 30), type := 0, pos := "address.go:186", after := #[{ on := 14, ground := Ground.data }, { on := 7, ground := Ground.data }, { on := 13, ground := Ground.chain }, { on := 0, ground := Ground.phase }, { on := 1, ground := Ground.phase }, { on := 2, ground := Ground.phase }, { on := 3, ground := Ground.phase }, { on := 4, ground := Ground.phase }, { on := 5, ground := Ground.phase }, { on := 6, ground := Ground.phase }, { on := 7, ground := Ground.phase }, { on := 8, ground := Ground.phase }, { on := 9, ground := Ground.phase }, { on := 10, ground := Ground.textOnly Departure.lateStores }, { on := 11, ground := Ground.textOnly Departure.lateStoresUnsure }, { on := 12, ground := Ground.phase }, { on := 13, ground := Ground.phase }], guard := none }) rfl (fun K15 hK15 => ?_) AllReadyH.nil)
              have lc := (P13_25.out).c4
              have lf := (P13_25.out).f4
              go_simp
              clear lc lf
              have P15_26 := Lib.hid (P13_25.out.put 4 (.string pt2))
              simp only [List.setIfInBounds_toArray, List.set_cons_zero, List.set_cons_succ] at P15_26
              refine hK15.out _ _ trivial (fun hH15_15 => ?_)
              clear hK15 K15
              try simp only [Act.put, List.setIfInBounds_toArray, List.set_cons_zero, List.set_cons_succ]
              refine wpAnyH_take (i := 16) (oi := { dst := some 37, op := Op.fieldAddr 24 (Operand.tmp 4) 5, type := 0, pos := "address.go:186", after := #[{ on := 0, ground := Ground.phase }, { on := 1, ground := Ground.phase }, { on := 2, ground := Ground.phase }, { on := 3, ground := Ground.phase }, { on := 4, ground := Ground.phase }, { on := 5, ground := Ground.phase }, { on := 6, ground := Ground.phase }, { on := 7, ground := Ground.phase }, { on := 8, ground := Ground.phase }, { on := 9, ground := Ground.phase }, { on := 10, ground := Ground.phase }, { on := 11, ground := Ground.phase }, { on := 12, ground := Ground.phase }, { on := 13, ground := Ground.phase }, { on := 14, ground := Ground.phase }, { on := 15, ground := Ground.phase }], guard := none }) (v := .pointer (some ⟨k, 5, none⟩)) rfl (by kernel_rfl) (by kernel_rfl) (by kernel_rfl) (fun _ _ _ h => h) (Or.inl ⟨by rfl, fun w hSw => by (go_simp <;> rfl)⟩) hH15_15 ?_
              try simp only [Act.put, List.setIfInBounds_toArray, List.set_cons_zero, List.set_cons_succ]
              refine wpAnyH_ready (rs := [17]) (by kernel_rfl) (by simp) (AllReadyH.cons (o := { dst := none, op := Op.store 9 (Operand.tmp 37) (Operand.tmp 34), type := 0, pos := "address.go:186", after := #[{ on := 16, ground := Ground.data }, { on := 11, ground := Ground.data }, { on := 15, ground := Ground.chain }, { on := 0, ground := Ground.phase }, { on := 1, ground := Ground.phase }, { on := 2, ground := Ground.phase }, { on := 3, ground := Ground.phase }, { on := 4, ground := Ground.phase }, { on := 5, ground := Ground.phase }, { on := 6, ground := Ground.phase }, { on := 7, ground := Ground.phase }, { on := 8, ground := Ground.phase }, { on := 9, ground := Ground.phase }, { on := 10, ground := Ground.phase }, { on := 11, ground := Ground.phase }, { on := 12, ground := Ground.phase }, { on := 13, ground := Ground.phase }, { on := 14, ground := Ground.phase }, { on := 15, ground := Ground.phase }], guard := none }) rfl (fun K17 hK17 => ?_) AllReadyH.nil)
              have lc := (P15_26.out).c5
              have lf := (P15_26.out).f5
              go_simp
              clear lc lf
              have P17_27 := Lib.hid (P15_26.out.put 5 (.string qu2))
              simp only [List.setIfInBounds_toArray, List.set_cons_zero, List.set_cons_succ] at P17_27
              refine hK17.out _ _ trivial (fun hH17_17 => ?_)
              clear hK17 K17
              try simp only [Act.put, List.setIfInBounds_toArray, List.set_cons_zero, List.set_cons_succ]
              refine wpAnyH_done (by kernel_rfl) ?_ _
              have HL := Lib.hid P17_27.out
              refine NoPanic.normal ?_
              go_wp2_with fail
              go_meet
              exact HL.out
          · have lc := (P0.out).c5
            go_simp
            clear lc
            refine hK9.out _ _ trivial (fun hH8_9 => ?_)
            clear hK9 K9
            try simp only [Act.put, List.setIfInBounds_toArray, List.set_cons_zero, List.set_cons_succ]
            refine wpAnyH_ready (rs := [3]) (by kernel_rfl) (by simp) (AllReadyH.cons (o := { dst := some 26, op := Op.call { callee := Callee.value (Operand.func 24), args := #[Operand.tmp 24, Operand.tmp 25], argTypes := #[9, 38] }, type := 9, pos := "address.go:186", after := #[{ on := 1, ground := Ground.data }, { on := 2, ground := Ground.data }], guard := none }) rfl (fun K3 hK3 => ?_) AllReadyH.nil)
            go_simp
            with_reducible refine (HSU.out _).mono ?_
            rintro e x3_28 ⟨rfl, bx3_28⟩
            have P3_28 := Lib.hid (P0.out.up bx3_28)
            clear bx3_28
            refine hK3.out _ _ trivial (fun hH9_3 => ?_)
            clear hK3 K3
            try simp only [Act.put, List.setIfInBounds_toArray, List.set_cons_zero, List.set_cons_succ]
            refine wpAnyH_take (i := 12) (oi := { dst := some 35, op := Op.fieldAddr 24 (Operand.tmp 4) 1, type := 0, pos := "address.go:186", after := #[{ on := 0, ground := Ground.phase }, { on := 1, ground := Ground.phase }, { on := 2, ground := Ground.phase }, { on := 3, ground := Ground.phase }, { on := 4, ground := Ground.phase }, { on := 5, ground := Ground.phase }, { on := 6, ground := Ground.textOnly Departure.lateStores }, { on := 7, ground := Ground.textOnly Departure.lateStoresUnsure }, { on := 8, ground := Ground.phase }, { on := 9, ground := Ground.phase }, { on := 10, ground := Ground.textOnly Departure.lateStores }, { on := 11, ground := Ground.textOnly Departure.lateStoresUnsure }], guard := none }) (v := .pointer (some ⟨k, 1, none⟩)) rfl (by kernel_rfl) (by kernel_rfl) (by kernel_rfl) (fun _ _ _ h => h) (Or.inl ⟨by rfl, fun w hSw => by (go_simp <;> rfl)⟩) hH9_3 ?_
            try simp only [Act.put, List.setIfInBounds_toArray, List.set_cons_zero, List.set_cons_succ]
            refine wpAnyH_ready (rs := [7]) (by kernel_rfl) (by simp) (AllReadyH.cons (o := { dst := some 30, op := Op.call { callee := Callee.value (Operand.func 24), args := #[Operand.tmp 28, Operand.tmp 29], argTypes := #[9, 38] }, type := 9, pos := "address.go:186", after := #[{ on := 5, ground := Ground.data }, { on := 6, ground := Ground.data }, { on := 3, ground := Ground.chain }], guard := none }) rfl (fun K7 hK7 => ?_) AllReadyH.nil)
            go_simp
            with_reducible refine (HSP.out _).mono ?_
            rintro e x7_29 ⟨rfl, bx7_29⟩
            have P7_29 := Lib.hid (P3_28.out.up bx7_29)
            clear bx7_29
            refine hK7.out _ _ trivial (fun hH11_7 => ?_)
            clear hK7 K7
            try simp only [Act.put, List.setIfInBounds_toArray, List.set_cons_zero, List.set_cons_succ]
            refine wpAnyH_ready (rs := [11]) (by kernel_rfl) (by simp) (AllReadyH.cons (o := { dst := some 34, op := Op.call { callee := Callee.value (Operand.func 24), args := #[Operand.tmp 32, Operand.tmp 33], argTypes := #[9, 38] }, type := 9, pos := "address.go:186", after := #[{ on := 9, ground := Ground.data }, { on := 10, ground := Ground.data }, { on := 7, ground := Ground.chain }], guard := none }) rfl (fun K11 hK11 => ?_) AllReadyH.nil)
            go_simp
            with_reducible refine (HSQ.out _).mono ?_
            rintro e x11_30 ⟨rfl, bx11_30⟩
            have P11_30 := Lib.hid (P7_29.out.up bx11_30)
            clear bx11_30
            refine hK11.out _ _ trivial (fun hH12_11 => ?_)
            clear hK11 K11
            try simp only [Act.put, List.setIfInBounds_toArray, List.set_cons_zero, List.set_cons_succ]
            refine wpAnyH_ready (rs := [13]) (by kernel_rfl) (by simp) (AllReadyH.cons (o := { dst := none, op := Op.store 9 (Operand.tmp 35) (Operand.tmp 26), type := 0, pos := "address.go:186", after := #[{ on := 12, ground := Ground.data }, { on := 3, ground := Ground.data }, { on := 11, ground := Ground.chain }, { on := 0, ground := Ground.phase }, { on := 1, ground := Ground.phase }, { on := 2, ground := Ground.phase }, { on := 3, ground := Ground.phase }, { on := 4, ground := Ground.phase }, { on := 5, ground := Ground.phase }, { on := 6, ground := Ground.textOnly Departure.lateStores }, { on := 7, ground := Ground.textOnly Departure.lateStoresUnsure }, { on := 8, ground := Ground.phase }, { on := 9, ground := Ground.phase }, { on := 10, ground := Ground.textOnly Departure.lateStores }, { on := 11, ground := Ground.textOnly Departure.lateStoresUnsure }], guard := none }) rfl (fun K13 hK13 => ?_) AllReadyH.nil)
            have lc := (P11_30.out).c1
            have lf := (P11_30.out).f1
            go_simp
            clear lc lf
            have P13_31 := Lib.hid (P11_30.out.put 1 (.string us2))
            simp only [List.setIfInBounds_toArray, List.set_cons_zero, List.set_cons_succ] at P13_31
            refine hK13.out _ _ trivial (fun hH13_13 => ?_)
            clear hK13 K13
            try simp only [Act.put, List.setIfInBounds_toArray, List.set_cons_zero, List.set_cons_succ]
            refine wpAnyH_take (i := 14) (oi := { dst := some 36, op := Op.fieldAddr 24 (Operand.tmp 4) 4, type := 0, pos := "address.go:186", after := #[{ on := 0, ground := Ground.phase }, { on := 1, ground := Ground.phase }, { on := 2, ground := Ground.phase }, { on := 3, ground := Ground.phase }, { on := 4, ground := Ground.phase }, { on := 5, ground := Ground.phase }, { on := 6, ground := Ground.phase }, { on := 7, ground := Ground.phase }, { on := 8, ground := Ground.phase }, { on := 9, ground := Ground.phase }, { on := 10, ground := Ground.textOnly Departure.lateStores }, { on := 11, ground := Ground.textOnly Departure.lateStoresUnsure }, { on := 12, ground := Ground.phase }, { on := 13, ground := Ground.phase }], guard := none }) (v := .pointer (some ⟨k, 4, none⟩)) rfl (by kernel_rfl) (by kernel_rfl) (by kernel_rfl) (fun _ _ _ h => h) (Or.inl ⟨by rfl, fun w hSw => by (go_simp <;> rfl)⟩) hH13_13 ?_
            try simp only [Act.put, List.setIfInBounds_toArray, List.set_cons_zero, List.set_cons_succ]
            refine wpAnyH_ready (rs := [15]) (by kernel_rfl) (by simp) (AllReadyH.cons (o := { dst := none, op := Op.store 9 (Operand.tmp 36) (Operand.tmp 30), type := 0, pos := "address.go:186", after := #[{ on := 14, ground := Ground.data }, { on := 7, ground := Ground.data }, { on := 13, ground := Ground.chain }, { on := 0, ground := Ground.phase }, { on := 1, ground := Ground.phase }, { on := 2, ground := Ground.phase }, { on := 3, ground := Ground.phase }, { on := 4, ground := Ground.phase }, { on := 5, ground := Ground.phase }, { on := 6, ground := Ground.phase }, { on := 7, ground := Ground.phase }, { on := 8, ground := Ground.phase }, { on := 9, ground := Ground.phase }, { on := 10, ground := Ground.textOnly Departure.lateStores }, { on := 11, ground := Ground.textOnly Departure.lateStoresUnsure }, { on := 12, ground := Ground.phase }, { on := 13, ground := Ground.phase }], guard := none }) rfl (fun K15 hK15 => ?_) AllReadyH.nil)
            have lc := (P13_31.out).c4
            have lf := (P13_31.out).f4
            go_simp
            clear lc lf
            have P15_32 := Lib.hid (P13_31.out.put 4 (.string pt2))
            simp only [List.setIfInBounds_toArray, List.set_cons_zero, List.set_cons_succ] at P15_32
            refine hK15.out _ _ trivial (fun hH15_15 => ?_)
            clear hK15 K15
            try simp only [Act.put, List.setIfInBounds_toArray, List.set_cons_zero, List.set_cons_succ]
            refine wpAnyH_take (i := 16) (oi := { dst := some 37, op := Op.fieldAddr 24 (Operand.tmp 4) 5, type := 0, pos := "address.go:186", after := #[{ on := 0, ground := Ground.phase }, { on := 1, ground := Ground.phase }, { on := 2, ground := Ground.phase }, { on := 3, ground := Ground.phase }, { on := 4, ground := Ground.phase }, { on := 5, ground := Ground.phase }, { on := 6, ground := Ground.phase }, { on := 7, ground := Ground.phase }, { on := 8, ground := Ground.phase }, { on := 9, ground := Ground.phase }, { on := 10, ground := Ground.phase }, { on := 11, ground := Ground.phase }, { on := 12, ground := Ground.phase }, { on := 13, ground := Ground.phase }, { on := 14, ground := Ground.phase }, { on := 15, ground := Ground.phase }], guard := none }) (v := .pointer (some ⟨k, 5, none⟩)) rfl (by kernel_rfl) (by kernel_rfl) (by kernel_rfl) (fun _ _ _ h => h) (Or.inl ⟨by rfl, fun w hSw => by (go_simp <;> rfl)⟩) hH15_15 ?_
            try simp only [Act.put, List.setIfInBounds_toArray, List.set_cons_zero, List.set_cons_succ]
            refine wpAnyH_ready (rs := [17]) (by kernel_rfl) (by simp) (AllReadyH.cons (o := { dst := none, op := Op.store 9 (Operand.tmp 37) (Operand.tmp 34), type := 0, pos := "address.go:186", after := #[{ on := 16, ground := Ground.data }, { on := 11, ground := Ground.data }, { on := 15, ground := Ground.chain }, { on := 0, ground := Ground.phase }, { on := 1, ground := Ground.phase }, { on := 2, ground := Ground.phase }, { on := 3, ground := Ground.phase }, { on := 4, ground := Ground.phase }, { on := 5, ground := Ground.phase }, { on := 6, ground := Ground.phase }, { on := 7, ground := Ground.phase }, { on := 8, ground := Ground.phase }, { on := 9, ground := Ground.phase }, { on := 10, ground := Ground.phase }, { on := 11, ground := Ground.phase }, { on := 12, ground := Ground.phase }, { on := 13, ground := Ground.phase }, { on := 14, ground := Ground.phase }, { on := 15, ground := Ground.phase }], guard := none }) rfl (fun K17 hK17 => ?_) AllReadyH.nil)
            have lc := (P15_32.out).c5
            have lf := (P15_32.out).f5
            go_simp
            clear lc lf
            have P17_33 := Lib.hid (P15_32.out.put 5 (.string qu2))
            simp only [List.setIfInBounds_toArray, List.set_cons_zero, List.set_cons_succ] at P17_33
            refine hK17.out _ _ trivial (fun hH17_17 => ?_)
            clear hK17 K17
            try simp only [Act.put, List.setIfInBounds_toArray, List.set_cons_zero, List.set_cons_succ]
            refine wpAnyH_done (by kernel_rfl) ?_ _
            have HL := Lib.hid P17_33.out
            refine NoPanic.normal ?_
            go_wp2_with fail
            go_meet
            exact HL.out
        · have lc := (P0.out).c5
          go_simp
          clear lc
          refine hK9.out _ _ trivial (fun hH7_9 => ?_)
          clear hK9 K9
          try simp only [Act.put, List.setIfInBounds_toArray, List.set_cons_zero, List.set_cons_succ]
          refine wpAnyH_ready (rs := [3, 5]) (by kernel_rfl) (by simp) (AllReadyH.cons (o := { dst := some 26, op := Op.call { callee := Callee.value (Operand.func 24), args := #[Operand.tmp 24, Operand.tmp 25], argTypes := #[9, 38] }, type := 9, pos := "address.go:186", after := #[{ on := 1, ground := Ground.data }, { on := 2, ground := Ground.data }], guard := none }) rfl (fun K3 hK3 => ?_) (AllReadyH.cons (o := { dst := some 28, op := Op.load 9 (Operand.tmp 27), type := 9, pos := "address.go:186", after := #[{ on := 4, ground := Ground.data }], guard := none }) rfl (fun K5 hK5 => ?_) AllReadyH.nil))
          · go_simp
            with_reducible refine (HSU.out _).mono ?_
            rintro e x3_34 ⟨rfl, bx3_34⟩
            have P3_34 := Lib.hid (P0.out.up bx3_34)
            clear bx3_34
            refine hK3.out _ _ trivial (fun hH8_3 => ?_)
            clear hK3 K3
            try simp only [Act.put, List.setIfInBounds_toArray, List.set_cons_zero, List.set_cons_succ]
            refine wpAnyH_ready (rs := [5]) (by kernel_rfl) (by simp) (AllReadyH.cons (o := { dst := some 28, op := Op.load 9 (Operand.tmp 27), type := 9, pos := "address.go:186", after := #[{ on := 4, ground := Ground.data }], guard := none }) rfl (fun K5 hK5 => ?_) AllReadyH.nil)
            have lc := (P3_34.out).c4
            go_simp
            clear lc
            refine hK5.out _ _ trivial (fun hH9_5 => ?_)
            clear hK5 K5
            try simp only [Act.put, List.setIfInBounds_toArray, List.set_cons_zero, List.set_cons_succ]
            refine wpAnyH_take (i := 12) (oi := { dst := some 35, op := Op.fieldAddr 24 (Operand.tmp 4) 1, type := 0, pos := "address.go:186", after := #[{ on := 0, ground := Ground.phase }, { on := 1, ground := Ground.phase }, { on := 2, ground := Ground.phase }, { on := 3, ground := Ground.phase }, { on := 4, ground := Ground.phase }, { on := 5, ground := Ground.phase }, { on := 6, ground := Ground.textOnly Departure.lateStores }, { on := 7, ground := Ground.textOnly Departure.lateStoresUnsure }, { on := 8, ground := Ground.phase }, { on := 9, ground := Ground.phase }, { on := 10, ground := Ground.textOnly Departure.lateStores }, { on := 11, ground := Ground.textOnly Departure.lateStoresUnsure }], guard := none }) (v := .pointer (some ⟨k, 1, none⟩)) rfl (by kernel_rfl) (by kernel_rfl) (by kernel_rfl) (fun _ _ _ h => h) (Or.inl ⟨by rfl, fun w hSw => by (go_simp <;> rfl)⟩) hH9_5 ?_
            try simp only [Act.put, List.setIfInBounds_toArray, List.set_cons_zero, List.set_cons_succ]
            refine wpAnyH_ready (rs := [7]) (by kernel_rfl) (by simp) (AllReadyH.cons (o := { dst := some 30, op := Op.call { callee := Callee.value (Operand.func 24), args := #[Operand.tmp 28, Operand.tmp 29], argTypes := #[9, 38] }, type := 9, pos := "address.go:186", after := #[{ on := 5, ground := Ground.data }, { on := 6, ground := Ground.data }, { on := 3, ground := Ground.chain }], guard := none }) rfl (fun K7 hK7 => ?_) AllReadyH.nil)
            go_simp
            with_reducible refine (HSP.out _).mono ?_
            rintro e x7_35 ⟨rfl, bx7_35⟩
            have P7_35 := Lib.hid (P3_34.out.up bx7_35)
            clear bx7_35
            refine hK7.out _ _ trivial (fun hH11_7 => ?_)
            clear hK7 K7
            try simp only [Act.put, List.setIfInBounds_toArray, List.set_cons_zero, List.set_cons_succ]
            refine wpAnyH_ready (rs := [11]) (by kernel_rfl) (by simp) (AllReadyH.cons (o := { dst := some 34, op := Op.call { callee := Callee.value (Operand.func 24), args := #[Operand.tmp 32, Operand.tmp 33], argTypes := #[9, 38] }, type := 9, pos := "address.go:186", after := #[{ on := 9, ground := Ground.data }, { on := 10, ground := Ground.data }, { on := 7, ground := Ground.chain }], guard := none }) rfl (fun K11 hK11 => ?_) AllReadyH.nil)
            go_simp
            with_reducible refine (HSQ.out _).mono ?_
            rintro e x11_36 ⟨rfl, bx11_36⟩
            have P11_36 := Lib.hid (P7_35.out.up bx11_36)
            clear bx11_36
            refine hK11.out _ _ trivial (fun hH12_11 => ?_)
            clear hK11 K11
            try simp only [Act.put, List.setIfInBounds_toArray, List.set_cons_zero, List.set_cons_succ]
            refine wpAnyH_ready (rs := [13]) (by kernel_rfl) (by simp) (AllReadyH.cons (o := { dst := none, op := Op.store 9 (Operand.tmp 35) (Operand.tmp 26), type := 0, pos := "address.go:186", after := #[{ on := 12, ground := Ground.data }, { on := 3, ground := Ground.data }, { on := 11, ground := Ground.chain }, { on := 0, ground := Ground.phase }, { on := 1, ground := Ground.phase }, { on := 2, ground := Ground.phase }, { on := 3, ground := Ground.phase }, { on := 4, ground := Ground.phase }, { on := 5, ground := Ground.phase }, { on := 6, ground := Ground.textOnly Departure.lateStores }, { on := 7, ground := Ground.textOnly Departure.lateStoresUnsure }, { on := 8, ground := Ground.phase }, { on := 9, ground := Ground.phase }, { on := 10, ground := Ground.textOnly Departure.lateStores }, { on := 11, ground := Ground.textOnly Departure.lateStoresUnsure }], guard := none }) rfl (fun K13 hK13 => ?_) AllReadyH.nil)
            have lc := (P11_36.out).c1
            have lf := (P11_36.out).f1
            go_simp
            clear lc lf
            have P13_37 := Lib.hid (P11_36.out.put 1 (.string us2))
            simp only [List.setIfInBounds_toArray, List.set_cons_zero, List.set_cons_succ] at P13_37
            refine hK13.out _ _ trivial (fun hH13_13 => ?_)
            clear hK13 K13
            try simp only [Act.put, List.setIfInBounds_toArray, List.set_cons_zero, List.set_cons_succ]
            refine wpAnyH_take (i := 14) (oi := { dst := some 36, op := Op.fieldAddr 24 (Operand.tmp 4) 4, type := 0, pos := "address.go:186", after := #[{ on := 0, ground := Ground.phase }, { on := 1, ground := Ground.phase }, { on := 2, ground := Ground.phase }, { on := 3, ground := Ground.phase }, { on := 4, ground := Ground.phase }, { on := 5, ground := Ground.phase }, { on := 6, ground := Ground.phase }, { on := 7, ground := Ground.phase }, { on := 8, ground := Ground.phase }, { on := 9, ground := Ground.phase }, { on := 10, ground := Ground.textOnly Departure.lateStores }, { on := 11, ground := Ground.textOnly Departure.lateStoresUnsure }, { on := 12, ground := Ground.phase }, { on := 13, ground := Ground.phase }], guard := none }) (v := .pointer (some ⟨k, 4, none⟩)) rfl (by kernel_rfl) (by kernel_rfl) (by kernel_rfl) (fun _ _ _ h => h) (Or.inl ⟨by rfl, fun w hSw => by (go_simp <;> rfl)⟩) hH13_13 ?_
            try simp only [Act.put, List.setIfInBounds_toArray, List.set_cons_zero, List.set_cons_succ]
            refine wpAnyH_ready (rs := [15]) (by kernel_rfl) (by simp) (AllReadyH.cons (o := { dst := none, op := Op.store 9 (Operand.tmp 36) (Operand.tmp 30), type := 0, pos := "address.go:186", after := #[{ on := 14, ground := Ground.data }, { on := 7, ground := Ground.data }, { on := 13, ground := Ground.chain }, { on := 0, ground := Ground.phase }, { on := 1, ground := Ground.phase }, { on := 2, ground := Ground.phase }, { on := 3, ground := Ground.phase }, { on := 4, ground := Ground.phase }, { on := 5, ground := Ground.phase }, { on := 6, ground := Ground.phase }, { on := 7, ground := Ground.phase }, { on := 8, ground := Ground.phase }, { on := 9, ground := Ground.phase }, { on := 10, ground := Ground.textOnly Departure.lateStores }, { on := 11, ground := Ground.textOnly Departure.lateStoresUnsure }, { on := 12, ground := Ground.phase }, { on := 13, ground := Ground.phase }], guard := none }) rfl (fun K15 hK15 => ?_) AllReadyH.nil)
            have lc := (P13_37.out).c4
            have lf := (P13_37.out).f4
            go_simp
            clear lc lf
            have P15_38 := Lib.hid (P13_37.out.put 4 (.string pt2))
            simp only [List.setIfInBounds_toArray, List.set_cons_zero, List.set_cons_succ] at P15_38
            refine hK15.out _ _ trivial (fun hH15_15 => ?_)
            clear hK15 K15
            try simp only [Act.put, List.setIfInBounds_toArray, List.set_cons_zero, List.set_cons_succ]
            refine wpAnyH_take (i := 16) (oi := { dst := some 37, op := Op.fieldAddr 24 (Operand.tmp 4) 5, type := 0, pos := "address.go:186", after := #[{ on := 0, ground := Ground.phase }, { on := 1, ground := Ground.phase }, { on := 2, ground := Ground.phase }, { on := 3, ground := Ground.phase }, { on := 4, ground := Ground.phase }, { on := 5, ground := Ground.phase }, { on := 6, ground := Ground.phase }, { on := 7, ground := Ground.phase }, { on := 8, ground := Ground.phase }, { on := 9, ground := Ground.phase }, { on := 10, ground := Ground.phase }, { on := 11, ground := Ground.phase }, { on := 12, ground := Ground.phase }, { on := 13, ground := Ground.phase }, { on := 14, ground := Ground.phase }, { on := 15, ground := Ground.phase }], guard := none }) (v := .pointer (some ⟨k, 5, none⟩)) rfl (by kernel_rfl) (by kernel_rfl) (by kernel_rfl) (fun _ _ _ h => h) (Or.inl ⟨by rfl, fun w hSw => by (go_simp <;> rfl)⟩) hH15_15 ?_
            try simp only [Act.put, List.setIfInBounds_toArray, List.set_cons_zero, List.set_cons_succ]
            refine wpAnyH_ready (rs := [17]) (by kernel_rfl) (by simp) (AllReadyH.cons (o := { dst := none, op := Op.store 9 (Operand.tmp 37) (Operand.tmp 34), type := 0, pos := "address.go:186", after := #[{ on := 16, ground := Ground.data }, { on := 11, ground := Ground.data }, { on := 15, ground := Ground.chain }, { on := 0, ground := Ground.phase }, { on := 1, ground := Ground.phase }, { on := 2, ground := Ground.phase }, { on := 3, ground := Ground.phase }, { on := 4, ground := Ground.phase }, { on := 5, ground := Ground.phase }, { on := 6, ground := Ground.phase }, { on := 7, ground := Ground.phase }, { on := 8, ground := Ground.phase }, { on := 9, ground := Ground.phase }, { on := 10, ground := Ground.phase }, { on := 11, ground := Ground.phase }, { on := 12, ground := Ground.phase }, { on := 13, ground := Ground.phase }, { on := 14, ground := Ground.phase }, { on := 15, ground := Ground.phase }], guard := none }) rfl (fun K17 hK17 => ?_) AllReadyH.nil)
            have lc := (P15_38.out).c5
            have lf := (P15_38.out).f5
            go_simp
            clear lc lf
            have P17_39 := Lib.hid (P15_38.out.put 5 (.string qu2))
            simp only [List.setIfInBounds_toArray, List.set_cons_zero, List.set_cons_succ] at P17_39
            refine hK17.out _ _ trivial (fun hH17_17 => ?_)
            clear hK17 K17
            try simp only [Act.put, List.setIfInBounds_toArray, List.set_cons_zero, List.set_cons_succ]
            refine wpAnyH_done (by kernel_rfl) ?_ _
            have HL := Lib.hid P17_39.out
            refine NoPanic.normal ?_
            go_wp2_with fail
            go_meet
            exact HL.out
          · have lc := (P0.out).c4
            go_simp
            clear lc
            refine hK5.out _ _ trivial (fun hH8_5 => ?_)
            clear hK5 K5
            try simp only [Act.put, List.setIfInBounds_toArray, List.set_cons_zero, List.set_cons_succ]
            refine wpAnyH_ready (rs := [3]) (by kernel_rfl) (by simp) (AllReadyH.cons (o := { dst := some 26, op := Op.call { callee := Callee.value (Operand.func 24), args := #[Operand.tmp 24, Operand.tmp 25], argTypes := #[9, 38] }, type := 9, pos := "address.go:186", after := #[{ on := 1, ground := Ground.data }, { on := 2, ground := Ground.data }], guard := none }) rfl (fun K3 hK3 => ?_) AllReadyH.nil)
            go_simp
            with_reducible refine (HSU.out _).mono ?_
            rintro e x3_40 ⟨rfl, bx3_40⟩
            have P3_40 := Lib.hid (P0.out.up bx3_40)
            clear bx3_40
            refine hK3.out _ _ trivial (fun hH9_3 => ?_)
            clear hK3 K3
            try simp only [Act.put, List.setIfInBounds_toArray, List.set_cons_zero, List.set_cons_succ]
            refine wpAnyH_take (i := 12) (oi := { dst := some 35, op := Op.fieldAddr 24 (Operand.tmp 4) 1, type := 0, pos := "address.go:186", after := #[{ on := 0, ground := Ground.phase }, { on := 1, ground := Ground.phase }, { on := 2, ground := Ground.phase }, { on := 3, ground := Ground.phase }, { on := 4, ground := Ground.phase }, { on := 5, ground := Ground.phase }, { on := 6, ground := Ground.textOnly Departure.lateStores }, { on := 7, ground := Ground.textOnly Departure.lateStoresUnsure }, { on := 8, ground := Ground.phase }, { on := 9, ground := Ground.phase }, { on := 10, ground := Ground.textOnly Departure.lateStores }, { on := 11, ground := Ground.textOnly Departure.lateStoresUnsure }], guard := none }) (v := .pointer (some ⟨k, 1, none⟩)) rfl (by kernel_rfl) (by kernel_rfl) (by kernel_rfl) (fun _ _ _ h => h) (Or.inl ⟨by rfl, fun w hSw => by (go_simp <;> rfl)⟩) hH9_3 ?_
            try simp only [Act.put, List.setIfInBounds_toArray, List.set_cons_zero, List.set_cons_succ]
            refine wpAnyH_ready (rs := [7]) (by kernel_rfl) (by simp) (AllReadyH.cons (o := { dst := some 30, op := Op.call { callee := Callee.value (Operand.func 24), args := #[Operand.tmp 28, Operand.tmp 29], argTypes := #[9, 38] }, type := 9, pos := "address.go:186", after := #[{ on := 5, ground := Ground.data }, { on := 6, ground := Ground.data }, { on := 3, ground := Ground.chain }], guard := none }) rfl (fun K7 hK7 => ?_) AllReadyH.nil)
            go_simp
            with_reducible refine (HSP.out _).mono ?_
            rintro e x7_41 ⟨rfl, bx7_41⟩
            have P7_41 := Lib.hid (P3_40.out.up bx7_41)
            clear bx7_41
            refine hK7.out _ _ trivial (fun hH11_7 => ?_)
            clear hK7 K7
            try simp only [Act.put, List.setIfInBounds_toArray, List.set_cons_zero, List.set_cons_succ]
            refine wpAnyH_ready (rs := [11]) (by kernel_rfl) (by simp) (AllReadyH.cons (o := { dst := some 34, op := Op.call { callee := Callee.value (Operand.func 24), args := #[Operand.tmp 32, Operand.tmp 33], argTypes := #[9, 38] }, type := 9, pos := "address.go:186", after := #[{ on := 9, ground := Ground.data }, { on := 10, ground := Ground.data }, { on := 7, ground := Ground.chain }], guard := none }) rfl (fun K11 hK11 => ?_) AllReadyH.nil)
            go_simp
            with_reducible refine (HSQ.out _).mono ?_
            rintro e x11_42 ⟨rfl, bx11_42⟩
            have P11_42 := Lib.hid (P7_41.out.up bx11_42)
            clear bx11_42
            refine hK11.out _ _ trivial (fun hH12_11 => ?_)
            clear hK11 K11
            try simp only [Act.put, List.setIfInBounds_toArray, List.set_cons_zero, List.set_cons_succ]
            refine wpAnyH_ready (rs := [13]) (by kernel_rfl) (by simp) (AllReadyH.cons (o := { dst := none, op := Op.store 9 (Operand.tmp 35) (Operand.tmp 26), type := 0, pos := "address.go:186", after := #[{ on := 12, ground := Ground.data }, { on := 3, ground := Ground.data }, { on := 11, ground := Ground.chain }, { on := 0, ground := Ground.phase }, { on := 1, ground := Ground.phase }, { on := 2, ground := Ground.phase }, { on := 3, ground := Ground.phase }, { on := 4, ground := Ground.phase }, { on := 5, ground := Ground.phase }, { on := 6, ground := Ground.textOnly Departure.lateStores }, { on := 7, ground := Ground.textOnly Departure.lateStoresUnsure }, { on := 8, ground := Ground.phase }, { on := 9, ground := Ground.phase }, { on := 10, ground := Ground.textOnly Departure.lateStores }, { on := 11, ground := Ground.textOnly Departure.lateStoresUnsure }], guard := none }) rfl (fun K13 hK13 => ?_) AllReadyH.nil)
            have lc := (P11_42.out).c1
            have lf := (P11_42.out).f1
            go_simp
            clear lc lf
            have P13_43 := Lib.hid (P11_42.out.put 1 (.string us2))
            simp only [List.setIfInBounds_toArray, List.set_cons_zero, List.set_cons_succ] at P13_43
            refine hK13.out _ _ trivial (fun hH13_13 => ?_)
            clear hK13 K13
            try simp only [Act.put, List.setIfInBounds_toArray, List.set_cons_zero, List.set_cons_succ]
            refine wpAnyH_take (i := 14) (oi := { dst := some 36, op := Op.fieldAddr 24 (Operand.tmp 4) 4, type := 0, pos := "address.go:186", after := #[{ on := 0, ground := Ground.phase }, { on := 1, ground := Ground.phase }, { on := 2, ground := Ground.phase }, { on := 3, ground := Ground.phase }, { on := 4, ground := Ground.phase }, { on := 5, ground := Ground.phase }, { on := 6, ground := Ground.phase }, { on := 7, ground := Ground.phase }, { on := 8, ground := Ground.phase }, { on := 9, ground := Ground.phase }, { on := 10, ground := Ground.textOnly Departure.lateStores }, { on := 11, ground := Ground.textOnly Departure.lateStoresUnsure }, { on := 12, ground := Ground.phase }, { on := 13, ground := Ground.phase }], guard := none }) (v := .pointer (some ⟨k, 4, none⟩)) rfl (by kernel_rfl) (by kernel_rfl) (by kernel_rfl) (fun _ _ _ h => h) (Or.inl ⟨by rfl, fun w hSw => by (go_simp <;> rfl)⟩) hH13_13 ?_
            try simp only [Act.put, List.setIfInBounds_toArray, List.set_cons_zero, List.set_cons_succ]
            refine wpAnyH_ready (rs := [15]) (by kernel_rfl) (by simp) (AllReadyH.cons (o := { dst := none, op := Op.store 9 (Operand.tmp 36) (Operand.tmp 30), type := 0, pos := "address.go:186", after := #[{ on := 14, ground := Ground.data }, { on := 7, ground := Ground.data }, { on := 13, ground := Ground.chain }, { on := 0, ground := Ground.phase }, { on := 1, ground := Ground.phase }, { on := 2, ground := Ground.phase }, { on := 3, ground := Ground.phase }, { on := 4, ground := Ground.phase }, { on := 5, ground := Ground.phase }, { on := 6, ground := Ground.phase }, { on := 7, ground := Ground.phase }, { on := 8, ground := Ground.phase }, { on := 9, ground := Ground.phase }, { on := 10, ground := Ground.textOnly Departure.lateStores }, { on := 11, ground := Ground.textOnly Departure.lateStoresUnsure }, { on := 12, ground := Ground.phase }, { on := 13, ground := Ground.phase }], guard := none }) rfl (fun K15 hK15 => ?_) AllReadyH.nil)
            have lc := (P13_43.out).c4
            have lf := (P13_43.out).f4
            go_simp
            clear lc lf
            have P15_44 := Lib.hid (P13_43.out.put 4 (.string pt2))
            simp only [List.setIfInBounds_toArray, List.set_cons_zero, List.set_cons_succ] at P15_44
            refine hK15.out _ _ trivial (fun hH15_15 => ?_)
            clear hK15 K15
            try simp only [Act.put, List.setIfInBounds_toArray, List.set_cons_zero, List.set_cons_succ]
            refine wpAnyH_take (i := 16) (oi := { dst := some 37, op := Op.fieldAddr 24 (Operand.tmp 4) 5, type := 0, pos := "address.go:186", after := #[{ on := 0, ground := Ground.phase }, { on := 1, ground := Ground.phase }, { on := 2, ground := Ground.phase }, { on := 3, ground := Ground.phase }, { on := 4, ground := Ground.phase }, { on := 5, ground := Ground.phase }, { on := 6, ground := Ground.phase }, { on := 7, ground := Ground.phase }, { on := 8, ground := Ground.phase }, { on := 9, ground := Ground.phase }, { on := 10, ground := Ground.phase }, { on := 11, ground := Ground.phase }, { on := 12, ground := Ground.phase }, { on := 13, ground := Ground.phase }, { on := 14, ground := Ground.phase }, { on := 15, ground := Ground.phase }], guard := none }) (v := .pointer (some ⟨k, 5, none⟩)) rfl (by kernel_rfl) (by kernel_rfl) (by kernel_rfl) (fun _ _ _ h => h) (Or.inl ⟨by rfl, fun w hSw => by (go_simp <;> rfl)⟩) hH15_15 ?_
            try simp only [Act.put, List.setIfInBounds_toArray, List.set_cons_zero, List.set_cons_succ]
            refine wpAnyH_ready (rs := [17]) (by kernel_rfl) (by simp) (AllReadyH.cons (o := { dst := none, op := Op.store 9 (Operand.tmp 37) (Operand.tmp 34), type := 0, pos := "address.go:186", after := #[{ on := 16, ground := Ground.data }, { on := 11, ground := Ground.data }, { on := 15, ground := Ground.chain }, { on := 0, ground := Ground.phase }, { on := 1, ground := Ground.phase }, { on := 2, ground := Ground.phase }, { on := 3, ground := Ground.phase }, { on := 4, ground := Ground.phase }, { on := 5, ground := Ground.phase }, { on := 6, ground := Ground.phase }, { on := 7, ground := Ground.phase }, { on := 8, ground := Ground.phase }, { on := 9, ground := Ground.phase }, { on := 10, ground := Ground.phase }, { on := 11, ground := Ground.phase }, { on := 12, ground := Ground.phase }, { on := 13, ground := Ground.phase }, { on := 14, ground := Ground.phase }, { on := 15, ground := Ground.phase }], guard := none }) rfl (fun K17 hK17 => ?_) AllReadyH.nil)
            have lc := (P15_44.out).c5
            have lf := (P15_44.out).f5
            go_simp
            clear lc lf
            have P17_45 := Lib.hid (P15_44.out.put 5 (.string qu2))
            simp only [List.setIfInBounds_toArray, List.set_cons_zero, List.set_cons_succ] at P17_45
            refine hK17.out _ _ trivial (fun hH17_17 => ?_)
            clear hK17 K17
            try simp only [Act.put, List.setIfInBounds_toArray, List.set_cons_zero, List.set_cons_succ]
            refine wpAnyH_done (by kernel_rfl) ?_ _
            have HL := Lib.hid P17_45.out
            refine NoPanic.normal ?_
            go_wp2_with fail
            go_meet
            exact HL.out
      · have lc := (P0.out).c4
        go_simp
        clear lc
        refine hK5.out _ _ trivial (fun hH6_5 => ?_)
        clear hK5 K5
        try simp only [Act.put, List.setIfInBounds_toArray, List.set_cons_zero, List.set_cons_succ]
        refine wpAnyH_ready (rs := [1, 9]) (by kernel_rfl) (by simp) (AllReadyH.cons (o := { dst := some 24, op := Op.load 9 (Operand.tmp 23), type := 9, pos := "address.go:186", after := #[{ on := 0, ground := Ground.data }], guard := none }) rfl (fun K1 hK1 => ?_) (AllReadyH.cons (o := { dst := some 32, op := Op.load 9 (Operand.tmp 31), type := 9, pos := "address.go:186", after := #[{ on := 8, ground := Ground.data }], guard := none }) rfl (fun K9 hK9 => ?_) AllReadyH.nil))
        · have lc := (P0.out).c1
          go_simp
          clear lc
          refine hK1.out _ _ trivial (fun hH7_1 => ?_)
          clear hK1 K1
          try simp only [Act.put, List.setIfInBounds_toArray, List.set_cons_zero, List.set_cons_succ]
          refine wpAnyH_ready (rs := [3, 9]) (by kernel_rfl) (by simp) (AllReadyH.cons (o := { dst := some 26, op := Op.call { callee := Callee.value (Operand.func 24), args := #[Operand.tmp 24, Operand.tmp 25], argTypes := #[9, 38] }, type := 9, pos := "address.go:186", after := #[{ on := 1, ground := Ground.data }, { on := 2, ground := Ground.data }], guard := none }) rfl (fun K3 hK3 => ?_) (AllReadyH.cons (o := { dst := some 32, op := Op.load 9 (Operand.tmp 31), type := 9, pos := "address.go:186", after := #[{ on := 8, ground := Ground.data }], guard := none }) rfl (fun K9 hK9 => ?_) AllReadyH.nil))
          · go_simp
            with_reducible refine (HSU.out _).mono ?_
            rintro e x3_46 ⟨rfl, bx3_46⟩
            have P3_46 := Lib.hid (P0.out.up bx3_46)
            clear bx3_46
            refine hK3.out _ _ trivial (fun hH8_3 => ?_)
            clear hK3 K3
            try simp only [Act.put, List.setIfInBounds_toArray, List.set_cons_zero, List.set_cons_succ]
            refine wpAnyH_ready (rs := [7, 9]) (by kernel_rfl) (by simp) (AllReadyH.cons (o := { dst := some 30, op := Op.call { callee := Callee.value (Operand.func 24), args := #[Operand.tmp 28, Operand.tmp 29], argTypes := #[9, 38] }, type := 9, pos := "address.go:186", after := #[{ on := 5, ground := Ground.data }, { on := 6, ground := Ground.data }, { on := 3, ground := Ground.chain }], guard := none }) rfl (fun K7 hK7 => ?_) (AllReadyH.cons (o := { dst := some 32, op := Op.load 9 (Operand.tmp 31), type := 9, pos := "address.go:186", after := #[{ on := 8, ground := Ground.data }], guard := none }) rfl (fun K9 hK9 => ?_) AllReadyH.nil))
            · go_simp
              with_reducible refine (HSP.out _).mono ?_
              rintro e x7_47 ⟨rfl, bx7_47⟩
              have P7_47 := Lib.hid (P3_46.out.up bx7_47)
              clear bx7_47
              refine hK7.out _ _ trivial (fun hH9_7 => ?_)
              clear hK7 K7
              try simp only [Act.put, List.setIfInBounds_toArray, List.set_cons_zero, List.set_cons_succ]
              refine wpAnyH_ready (rs := [9]) (by kernel_rfl) (by simp) (AllReadyH.cons (o := { dst := some 32, op := Op.load 9 (Operand.tmp 31), type := 9, pos := "address.go:186", after := #[{ on := 8, ground := Ground.data }], guard := none }) rfl (fun K9 hK9 => ?_) AllReadyH.nil)
              have lc := (P7_47.out).c5
              go_simp
              clear lc
              refine hK9.out _ _ trivial (fun hH10_9 => ?_)
              clear hK9 K9
              try simp only [Act.put, List.setIfInBounds_toArray, List.set_cons_zero, List.set_cons_succ]
              refine wpAnyH_take (i := 12) (oi := { dst := some 35, op := Op.fieldAddr 24 (Operand.tmp 4) 1, type := 0, pos := "address.go:186", after := #[{ on := 0, ground := Ground.phase }, { on := 1, ground := Ground.phase }, { on := 2, ground := Ground.phase }, { on := 3, ground := Ground.phase }, { on := 4, ground := Ground.phase }, { on := 5, ground := Ground.phase }, { on := 6, ground := Ground.textOnly Departure.lateStores }, { on := 7, ground := Ground.textOnly Departure.lateStoresUnsure }, { on := 8, ground := Ground.phase }, { on := 9, ground := Ground.phase }, { on := 10, ground := Ground.textOnly Departure.lateStores }, { on := 11, ground := Ground.textOnly Departure.lateStoresUnsure }], guard := none }) (v := .pointer (some ⟨k, 1, none⟩)) rfl (by kernel_rfl) (by kernel_rfl) (by kernel_rfl) (fun _ _ _ h => h) (Or.inl ⟨by rfl, fun w hSw => by (go_simp <;> rfl)⟩) hH10_9 ?_
              try simp only [Act.put, List.setIfInBounds_toArray, List.set_cons_zero, List.set_cons_succ]
              refine wpAnyH_ready (rs := [11]) (by kernel_rfl) (by simp) (AllReadyH.cons (o := { dst := some 34, op := Op.call { callee := Callee.value (Operand.func 24), args := #[Operand.tmp 32, Operand.tmp 33], argTypes := #[9, 38] }, type := 9, pos := "address.go:186", after := #[{ on := 9, ground := Ground.data }, { on := 10, ground := Ground.data }, { on := 7, ground := Ground.chain }], guard := none }) rfl (fun K11 hK11 => ?_) AllReadyH.nil)
              go_simp
              with_reducible refine (HSQ.out _).mono ?_
              rintro e x11_48 ⟨rfl, bx11_48⟩
              have P11_48 := Lib.hid (P7_47.out.up bx11_48)
              clear bx11_48
              refine hK11.out _ _ trivial (fun hH12_11 => ?_)
              clear hK11 K11
              try simp only [Act.put, List.setIfInBounds_toArray, List.set_cons_zero, List.set_cons_succ]
              refine wpAnyH_ready (rs := [13]) (by kernel_rfl) (by simp) (AllReadyH.cons (o := { dst := none, op := Op.store 9 (Operand.tmp 35) (Operand.tmp 26), type := 0, pos := "address.go:186", after := #[{ on := 12, ground := Ground.data }, { on := 3, ground := Ground.data }, { on := 11, ground := Ground.chain }, { on := 0, ground := Ground.phase }, { on := 1, ground := Ground.phase }, { on := 2, ground := Ground.phase }, { on := 3, ground := Ground.phase }, { on := 4, ground := Ground.phase }, { on := 5, ground := Ground.phase }, { on := 6, ground := Ground.textOnly Departure.lateStores }, { on := 7, ground := Ground.textOnly Departure.lateStoresUnsure }, { on := 8, ground := Ground.phase }, { on := 9, ground := Ground.phase }, { on := 10, ground := Ground.textOnly Departure.lateStores }, { on := 11, ground := Ground.textOnly Departure.lateStoresUnsure }], guard := none }) rfl (fun K13 hK13 => ?_) AllReadyH.nil)
              have lc := (P11_48.out).c1
              have lf := (P11_48.out).f1
              go_simp
              clear lc lf
              have P13_49 := Lib.hid (P11_48.out.put 1 (.string us2))
              simp only [List.setIfInBounds_toArray, List.set_cons_zero, List.set_cons_succ] at P13_49
              refine hK13.out _ _ trivial (fun hH13_13 => ?_)
              clear hK13 K13
              try simp only [Act.put, List.setIfInBounds_toArray, List.set_cons_zero, List.set_cons_succ]
              refine wpAnyH_take (i := 14) (oi := { dst := some 36, op := Op.fieldAddr 24 (Operand.tmp 4) 4, type := 0, pos := "address.go:186", after := #[{ on := 0, ground := Ground.phase }, { on := 1, ground := Ground.phase }, { on := 2, ground := Ground.phase }, { on := 3, ground := Ground.phase }, { on := 4, ground := Ground.phase }, { on := 5, ground := Ground.phase }, { on := 6, ground := Ground.phase }, { on := 7, ground := Ground.phase }, { on := 8, ground := Ground.phase }, { on := 9, ground := Ground.phase }, { on := 10, ground := Ground.textOnly Departure.lateStores }, { on := 11, ground := Ground.textOnly Departure.lateStoresUnsure }, { on := 12, ground := Ground.phase }, { on := 13, ground := Ground.phase }], guard := none }) (v := .pointer (some ⟨k, 4, none⟩)) rfl (by kernel_rfl) (by kernel_rfl) (by kernel_rfl) (fun _ _ _ h => h) (Or.inl ⟨by rfl, fun w hSw => by (go_simp <;> rfl)⟩) hH13_13 ?_
              try simp only [Act.put, List.setIfInBounds_toArray, List.set_cons_zero, List.set_cons_succ]
              refine wpAnyH_ready (rs := [15]) (by kernel_rfl) (by simp) (AllReadyH.cons (o := { dst := none, op := Op.store 9 (Operand.tmp 36) (Operand.tmp 30), type := 0, pos := "address.go:186", after := #[{ on := 14, ground := Ground.data }, { on := 7, ground := Ground.data }, { on := 13, ground := Ground.chain }, { on := 0, ground := Ground.phase }, { on := 1, ground := Ground.phase }, { on := 2, ground := Ground.phase }, { on := 3, ground := Ground.phase }, { on := 4, ground := Ground.phase }, { on := 5, ground := Ground.phase }, { on := 6, ground := Ground.phase }, { on := 7, ground := Ground.phase }, { on := 8, ground := Ground.phase }, { on := 9, ground := Ground.phase }, { on := 10, ground := Ground.textOnly Departure.lateStores }, { on := 11, ground := Ground.textOnly Departure.lateStoresUnsure }, { on := 12, ground := Ground.phase }, { on := 13, ground := Ground.phase }], guard := none }) rfl (fun K15 hK15 => ?_) AllReadyH.nil)
              have lc := (P13_49.out).c4
              have lf := (P13_49.out).f4
              go_simp
              clear lc lf
              have P15_50 := Lib.hid (P13_49.out.put 4 (.string pt2))
              simp only [List.setIfInBounds_toArray, List.set_cons_zero, List.set_cons_succ] at P15_50
              refine hK15.out _ _ trivial (fun hH15_15 => ?_)
              clear hK15 K15
              try simp only [Act.put, List.setIfInBounds_toArray, List.set_cons_zero, List.set_cons_succ]
              refine wpAnyH_take (i := 16) (oi := { dst := some 37, op := Op.fieldAddr 24 (Operand.tmp 4) 5, type := 0, pos := "address.go:186", after := #[{ on := 0, ground := Ground.phase }, { on := 1, ground := Ground.phase }, { on := 2, ground := Ground.phase }, { on := 3, ground := Ground.phase }, { on := 4, ground := Ground.phase }, { on := 5, ground := Ground.phase }, { on := 6, ground := Ground.phase }, { on := 7, ground := Ground.phase }, { on := 8, ground := Ground.phase }, { on := 9, ground := Ground.phase }, { on := 10, ground := Ground.phase }, { on := 11, ground := Ground.phase }, { on := 12, ground := Ground.phase }, { on := 13, ground := Ground.phase }, { on := 14, ground := Ground.phase }, { on := 15, ground := Ground.phase }], guard := none }) (v := .pointer (some ⟨k, 5, none⟩)) rfl (by kernel_rfl) (by kernel_rfl) (by kernel_rfl) (fun _ _ _ h => h) (Or.inl ⟨by rfl, fun w hSw => by (go_simp <;> rfl)⟩) hH15_15 ?_
              try simp only [Act.put, List.setIfInBounds_toArray, List.set_cons_zero, List.set_cons_succ]
              refine wpAnyH_ready (rs := [17]) (by kernel_rfl) (by simp) (AllReadyH.cons (o := { dst := none, op := Op.store 9 (Operand.tmp 37) (Operand.tmp 34), type := 0, pos := "address.go:186", after := #[{ on := 16, ground := Ground.data }, { on := 11, ground := Ground.data }, { on := 15, ground := Ground.chain }, { on := 0, ground := Ground.phase }, { on := 1, ground := Ground.phase }, { on := 2, ground := Ground.phase }, { on := 3, ground := Ground.phase }, { on := 4, ground := Ground.phase }, { on := 5, ground := Ground.phase }, { on := 6, ground := Ground.phase }, { on := 7, ground := Ground.phase }, { on := 8, ground := Ground.phase }, { on := 9, ground := Ground.phase }, { on := 10, ground := Ground.phase }, { on := 11, ground := Ground.phase }, { on := 12, ground := Ground.phase }, { on := 13, ground := Ground.phase }, { on := 14, ground := Ground.phase }, { on := 15, ground := Ground.phase }], guard := none }) rfl (fun K17 hK17 => ?_) AllReadyH.nil)
              have lc := (P15_50.out).c5
              have lf := (P15_50.out).f5
              go_simp
              clear lc lf
              have P17_51 := Lib.hid (P15_50.out.put 5 (.string qu2))
              simp only [List.setIfInBounds_toArray, List.set_cons_zero, List.set_cons_succ] at P17_51
              refine hK17.out _ _ trivial (fun hH17_17 => ?_)
              clear hK17 K17
              try simp only [Act.put, List.setIfInBounds_toArray, List.set_cons_zero, List.set_cons_succ]
              refine wpAnyH_done (by kernel_rfl) ?_ _
              have HL := Lib.hid P17_51.out
              refine NoPanic.normal ?_
              go_wp2_with fail
              go_meet
              exact HL.out
            · have lc := (P3_46.out).c5
              go_simp
              clear lc
              refine hK9.out _ _ trivial (fun hH9_9 => ?_)
              clear hK9 K9
              try simp only [Act.put, List.setIfInBounds_toArray, List.set_cons_zero, List.set_cons_succ]
              refine wpAnyH_take (i := 12) (oi := { dst := some 35, op := Op.fieldAddr 24 (Operand.tmp 4) 1, type := 0, pos := "address.go:186", after := #[{ on := 0, ground := Ground.phase }, { on := 1, ground := Ground.phase }, { on := 2, ground := Ground.phase }, { on := 3, ground := Ground.phase }, { on := 4, ground := Ground.phase }, { on := 5, ground := Ground.phase }, { on := 6, ground := Ground.textOnly Departure.lateStores }, { on := 7, ground := Ground.textOnly Departure.lateStoresUnsure }, { on := 8, ground := Ground.phase }, { on := 9, ground := Ground.phase }, { on := 10, ground := Ground.textOnly Departure.lateStores }, { on := 11, ground := Ground.textOnly Departure.lateStoresUnsure }], guard := none }) (v := .pointer (some ⟨k, 1, none⟩)) rfl (by kernel_rfl) (by kernel_rfl) (by kernel_rfl) (fun _ _ _ h => h) (Or.inl ⟨by rfl, fun w hSw => by (go_simp <;> rfl)⟩) hH9_9 ?_
              try simp only [Act.put, List.setIfInBounds_toArray, List.set_cons_zero, List.set_cons_succ]
              refine wpAnyH_ready (rs := [7]) (by kernel_rfl) (by simp) (AllReadyH.cons (o := { dst := some 30, op := Op.call { callee := Callee.value (Operand.func 24), args := #[Operand.tmp 28, Operand.tmp 29], argTypes := #[9, 38] }, type := 9, pos := "address.go:186", after := #[{ on := 5, ground := Ground.data }, { on := 6, ground := Ground.data }, { on := 3, ground := Ground.chain }], guard := none }) rfl (fun K7 hK7 => ?_) AllReadyH.nil)
              go_simp
              with_reducible refine (HSP.out _).mono ?_
              rintro e x7_52 ⟨rfl, bx7_52⟩
              have P7_52 := Lib.hid (P3_46.out.up bx7_52)
              clear bx7_52
              refine hK7.out _ _ trivial (fun hH11_7 => ?_)
              clear hK7 K7
              try simp only [Act.put, List.setIfInBounds_toArray, List.set_cons_zero, List.set_cons_succ]
              refine wpAnyH_ready (rs := [11]) (by kernel_rfl) (by simp) (AllReadyH.cons (o := { dst := some 34, op := Op.call { callee := Callee.value (Operand.func 24), args := #[Operand.tmp 32, Operand.tmp 33], argTypes := #[9, 38] }, type := 9, pos := "address.go:186", after := #[{ on := 9, ground := Ground.data }, { on := 10, ground := Ground.data }, { on := 7, ground := Ground.chain }], guard := none }) rfl (fun K11 hK11 => ?_) AllReadyH.nil)
              go_simp
              with_reducible refine (HSQ.out _).mono ?_
              rintro e x11_53 ⟨rfl, bx11_53⟩
              have P11_53 := Lib.hid (P7_52.out.up bx11_53)
              clear bx11_53
              refine hK11.out _ _ trivial (fun hH12_11 => ?_)
              clear hK11 K11
              try simp only [Act.put, List.setIfInBounds_toArray, List.set_cons_zero, List.set_cons_succ]
              refine wpAnyH_ready (rs := [13]) (by kernel_rfl) (by simp) (AllReadyH.cons (o := { dst := none, op := Op.store 9 (Operand.tmp 35) (Operand.tmp 26), type := 0, pos := "address.go:186", after := #[{ on := 12, ground := Ground.data }, { on := 3, ground := Ground.data }, { on := 11, ground := Ground.chain }, { on := 0, ground := Ground.phase }, { on := 1, ground := Ground.phase }, { on := 2, ground := Ground.phase }, { on := 3, ground := Ground.phase }, { on := 4, ground := Ground.phase }, { on := 5, ground := Ground.phase }, { on := 6, ground := Ground.textOnly Departure.lateStores }, { on := 7, ground := Ground.textOnly Departure.lateStoresUnsure }, { on := 8, ground := Ground.phase }, { on := 9, ground := Ground.phase }, { on := 10, ground := Ground.textOnly Departure.lateStores }, { on := 11, ground := Ground.textOnly Departure.lateStoresUnsure }], guard := none }) rfl (fun K13 hK13 => ?_) AllReadyH.nil)
              have lc := (P11_53.out).c1
              have lf := (P11_53.out).f1
              go_simp
              clear lc lf
              have P13_54 := Lib.hid (P11_53.out.put 1 (.string us2))
              simp only [List.setIfInBounds_toArray, List.set_cons_zero, List.set_cons_succ] at P13_54
              refine hK13.out _ _ trivial (fun hH13_13 => ?_)
              clear hK13 K13
              try simp only [Act.put, List.setIfInBounds_toArray, List.set_cons_zero, List.set_cons_succ]
              refine wpAnyH_take (i := 14) (oi := { dst := some 36, op := Op.fieldAddr 24 (Operand.tmp 4) 4, type := 0, pos := "address.go:186", after := #[{ on := 0, ground := Ground.phase }, { on := 1, ground := Ground.phase }, { on := 2, ground := Ground.phase }, { on := 3, ground := Ground.phase }, { on := 4, ground := Ground.phase }, { on := 5, ground := Ground.phase }, { on := 6, ground := Ground.phase }, { on := 7, ground := Ground.phase }, { on := 8, ground := Ground.phase }, { on := 9, ground := Ground.phase }, { on := 10, ground := Ground.textOnly Departure.lateStores }, { on := 11, ground := Ground.textOnly Departure.lateStoresUnsure }, { on := 12, ground := Ground.phase }, { on := 13, ground := Ground.phase }], guard := none }) (v := .pointer (some ⟨k, 4, none⟩)) rfl (by kernel_rfl) (by kernel_rfl) (by kernel_rfl) (fun _ _ _ h => h) (Or.inl ⟨by rfl, fun w hSw => by (go_simp <;> rfl)⟩) hH13_13 ?_
              try simp only [Act.put, List.setIfInBounds_toArray, List.set_cons_zero, List.set_cons_succ]
              refine wpAnyH_ready (rs := [15]) (by kernel_rfl) (by simp) (AllReadyH.cons (o := { dst := none, op := Op.store 9 (Operand.tmp 36) (Operand.tmp 30), type := 0, pos := "address.go:186", after := #[{ on := 14, ground := Ground.data }, { on := 7, ground := Ground.data }, { on := 13, ground := Ground.chain }, { on := 0, ground := Ground.phase }, { on := 1, ground := Ground.phase }, { on := 2, ground := Ground.phase }, { on := 3, ground := Ground.phase }, { on := 4, ground := Ground.phase }, { on := 5, ground := Ground.phase }, { on := 6, ground := Ground.phase }, { on := 7, ground := Ground.phase }, { on := 8, ground := Ground.phase }, { on := 9, ground := Ground.phase }, { on := 10, ground := Ground.textOnly Departure.lateStores }, { on := 11, ground := Ground.textOnly Departure.lateStoresUnsure }, { on := 12, ground := Ground.phase }, { on := 13, ground := Ground.phase }], guard := none }) rfl (fun K15 hK15 => ?_) AllReadyH.nil)
              have lc := (P13_54.out).c4
              have lf := (P13_54.out).f4
              go_simp
              clear lc lf
              have P15_55 := Lib.hid (P13_54.out.put 4 (.string pt2))
              simp only [List.setIfInBounds_toArray, List.set_cons_zero, List.set_cons_succ] at P15_55
              refine hK15.out _ _ trivial (fun hH15_15 => ?_)
              clear hK15 K15
              try simp only [Act.put, List.setIfInBounds_toArray, List.set_cons_zero, List.set_cons_succ]
              refine wpAnyH_take (i := 16) (oi := { dst := some 37, op := Op.fieldAddr 24 (Operand.tmp 4) 5, type := 0, pos := "address.go:186", after := #[{ on := 0, ground := Ground.phase }, { on := 1, ground := Ground.phase }, { on := 2, ground := Ground.phase }, { on := 3, ground := Ground.phase }, { on := 4, ground := Ground.phase }, { on := 5, ground := Ground.phase }, { on := 6, ground := Ground.phase }, { on := 7, ground := Ground.phase }, { on := 8, ground := Ground.phase }, { on := 9, ground := Ground.phase }, { on := 10, ground := Ground.phase }, { on := 11, ground := Ground.phase }, { on := 12, ground := Ground.phase }, { on := 13, ground := Ground.phase }, { on := 14, ground := Ground.phase }, { on := 15, ground := Ground.phase }], guard := none }) (v := .pointer (some ⟨k, 5, none⟩)) rfl (by kernel_rfl) (by kernel_rfl) (by kernel_rfl) (fun _ _ _ h => h) (Or.inl ⟨by rfl, fun w hSw => by (go_simp <;> rfl)⟩) hH15_15 ?_
              try simp only [Act.put, List.setIfInBounds_toArray, List.set_cons_zero, List.set_cons_succ]
              refine wpAnyH_ready (rs := [17]) (by kernel_rfl) (by simp) (AllReadyH.cons (o := { dst := none, op := Op.store 9 (Operand.tmp 37) (Operand.tmp 34), type := 0, pos := "address.go:186", after := #[{ on := 16, ground := Ground.data }, { on := 11, ground := Ground.data }, { on := 15, ground := Ground.chain }, { on := 0, ground := Ground.phase }, { on := 1, ground := Ground.phase }, { on := 2, ground := Ground.phase }, { on := 3, ground := Ground.phase }, { on := 4, ground := Ground.phase }, { on := 5, ground := Ground.phase }, { on := 6, ground := Ground.phase }, { on := 7, ground := Ground.phase }, { on := 8, ground := Ground.phase }, { on := 9, ground := Ground.phase }, { on := 10, ground := Ground.phase }, { on := 11, ground := Ground.phase }, { on := 12, ground := Ground.phase }, { on := 13, ground := Ground.phase }, { on := 14, ground := Ground.phase }, { on := 15, ground := Ground.phase }], guard := none }) rfl (fun K17 hK17 => ?_) AllReadyH.nil)
              have lc := (P15_55.out).c5
              have lf := (P15_55.out).f5
              go_simp
              clear lc lf
              have P17_56 := Lib.hid (P15_55.out.put 5 (.string qu2))
              simp only [List.setIfInBounds_toArray, List.set_cons_zero, List.set_cons_succ] at P17_56
              refine hK17.out _ _ trivial (fun hH17_17 => ?_)
              clear hK17 K17
              try simp only [Act.put, List.setIfInBounds_toArray, List.set_cons_zero, List.set_cons_succ]
              refine wpAnyH_done (by kernel_rfl) ?_ _
              have HL := Lib.hid P17_56.out
              refine NoPanic.normal ?_
              go_wp2_with fail
              go_meet
              exact HL.out
          · have lc := (P0.out).c5
            go_simp
            clear lc
            refine hK9.out _ _ trivial (fun hH8_9 => ?_)
            clear hK9 K9
            try simp only [Act.put, List.setIfInBounds_toArray, List.set_cons_zero, List.set_cons_succ]
            refine wpAnyH_ready (rs := [3]) (by kernel_rfl) (by simp) (AllReadyH.cons (o := { dst := some 26, op := Op.call { callee := Callee.value (Operand.func 24), args := #[Operand.tmp 24, Operand.tmp 25], argTypes := #[9, 38] }, type := 9, pos := "address.go:186", after := #[{ on := 1, ground := Ground.data }, { on := 2, ground := Ground.data }], guard := none }) rfl (fun K3 hK3 => ?_) AllReadyH.nil)
            go_simp
            with_reducible refine (HSU.out _).mono ?_
            rintro e x3_57 ⟨rfl, bx3_57⟩
            have P3_57 := Lib.hid (P0.out.up bx3_57)
            clear bx3_57
            refine hK3.out _ _ trivial (fun hH9_3 => ?_)
            clear hK3 K3
            try simp only [Act.put, List.setIfInBounds_toArray, List.set_cons_zero, List.set_cons_succ]
            refine wpAnyH_take (i := 12) (oi := { dst := some 35, op := Op.fieldAddr 24 (Operand.tmp 4) 1, type := 0, pos := "address.go:186", after := #[{ on := 0, ground := Ground.phase }, { on := 1, ground := Ground.phase }, { on := 2, ground := Ground.phase }, { on := 3, ground := Ground.phase }, { on := 4, ground := Ground.phase }, { on := 5, ground := Ground.phase }, { on := 6, ground := Ground.textOnly Departure.lateStores }, { on := 7, ground := Ground.textOnly Departure.lateStoresUnsure }, { on := 8, ground := Ground.phase }, { on := 9, ground := Ground.phase }, { on := 10, ground := Ground.textOnly Departure.lateStores }, { on := 11, ground := Ground.textOnly Departure.lateStoresUnsure }], guard := none }) (v := .pointer (some ⟨k, 1, none⟩)) rfl (by kernel_rfl) (by kernel_rfl) (by kernel_rfl) (fun _ _ _ h => h) (Or.inl ⟨by rfl, fun w hSw => by (go_simp <;> rfl)⟩) hH9_3 ?_
            try simp only [Act.put, List.setIfInBounds_toArray, List.set_cons_zero, List.set_cons_succ]
            refine wpAnyH_ready (rs := [7]) (by kernel_rfl) (by simp) (AllReadyH.cons (o := { dst := some 30, op := Op.call { callee := Callee.value (Operand.func 24), args := #[Operand.tmp 28, Operand.tmp 29], argTypes := #[9, 38] }, type := 9, pos := "address.go:186", after := #[{ on := 5, ground := Ground.data }, { on := 6, ground := Ground.data }, { on := 3, ground := Ground.chain }], guard := none }) rfl (fun K7 hK7 => ?_) AllReadyH.nil)
            go_simp
            with_reducible refine (HSP.out _).mono ?_
            rintro e x7_58 ⟨rfl, bx7_58⟩
            have P7_58 := Lib.hid (P3_57.out.up bx7_58)
            clear bx7_58
            refine hK7.out _ _ trivial (fun hH11_7 => ?_)
            clear hK7 K7
            try simp only [Act.put, List.setIfInBounds_toArray, List.set_cons_zero, List.set_cons_succ]
            refine wpAnyH_ready (rs := [11]) (by kernel_rfl) (by simp) (AllReadyH.cons (o := { dst := some 34, op := Op.call { callee := Callee.value (Operand.func 24), args := #[Operand.tmp 32, Operand.tmp 33], argTypes := #[9, 38] }, type := 9, pos := "address.go:186", after := #[{ on := 9, ground := Ground.data }, { on := 10, ground := Ground.data }, { on := 7, ground := Ground.chain }], guard := none }) rfl (fun K11 hK11 => ?_) AllReadyH.nil)
            go_simp
            with_reducible refine (HSQ.out _).mono ?_
            rintro e x11_59 ⟨rfl, bx11_59⟩
            have P11_59 := Lib.hid (P7_58.out.up bx11_59)
            clear bx11_59
            refine hK11.out _ _ trivial (fun hH12_11 => ?_)
            clear hK11 K11
            try simp only [Act.put, List.setIfInBounds_toArray, List.set_cons_zero, List.set_cons_succ]
            refine wpAnyH_ready (rs := [13]) (by kernel_rfl) (by simp) (AllReadyH.cons (o := { dst := none, op := Op.store 9 (Operand.tmp 35) (Operand.tmp 26), type := 0, pos := "address.go:186", after := #[{ on := 12, ground := Ground.data }, { on := 3, ground := Ground.data }, { on := 11, ground := Ground.chain }, { on := 0, ground := Ground.phase }, { on := 1, ground := Ground.phase }, { on := 2, ground := Ground.phase }, { on := 3, ground := Ground.phase }, { on := 4, ground := Ground.phase }, { on := 5, ground := Ground.phase }, { on := 6, ground := Ground.textOnly Departure.lateStores }, { on := 7, ground := Ground.textOnly Departure.lateStoresUnsure }, { on := 8, ground := Ground.phase }, { on := 9, ground := Ground.phase }, { on := 10, ground := Ground.textOnly Departure.lateStores }, { on := 11, ground := Ground.textOnly Departure.lateStoresUnsure }], guard := none }) rfl (fun K13 hK13 => ?_) AllReadyH.nil)
            have lc := (P11_59.out).c1
            have lf := (P11_59.out).f1
            go_simp
            clear lc lf
            have P13_60 := Lib.hid (P11_59.out.put 1 (.string us2))
            simp only [List.setIfInBounds_toArray, List.set_cons_zero, List.set_cons_succ] at P13_60
            refine hK13.out _ _ trivial (fun hH13_13 => ?_)
            clear hK13 K13
            try simp only [Act.put, List.setIfInBounds_toArray, List.set_cons_zero, List.set_cons_succ]
            refine wpAnyH_take (i := 14) (oi := { dst := some 36, op := Op.fieldAddr 24 (Operand.tmp 4) 4, type := 0, pos := "address.go:186", after := #[{ on := 0, ground := Ground.phase }, { on := 1, ground := Ground.phase }, { on := 2, ground := Ground.phase }, { on := 3, ground := Ground.phase }, { on := 4, ground := Ground.phase }, { on := 5, ground := Ground.phase }, { on := 6, ground := Ground.phase }, { on := 7, ground := Ground.phase }, { on := 8, ground := Ground.phase }, { on := 9, ground := Ground.phase }, { on := 10, ground := Ground.textOnly Departure.lateStores }, { on := 11, ground := Ground.textOnly Departure.lateStoresUnsure }, { on := 12, ground := Ground.phase }, { on := 13, ground := Ground.phase }], guard := none }) (v := .pointer (some ⟨k, 4, none⟩)) rfl (by kernel_rfl) (by kernel_rfl) (by kernel_rfl) (fun _ _ _ h => h) (Or.inl ⟨by rfl, fun w hSw => by (go_simp <;> rfl)⟩) hH13_13 ?_
            try simp only [Act.put, List.setIfInBounds_toArray, List.set_cons_zero, List.set_cons_succ]
            refine wpAnyH_ready (rs := [15]) (by kernel_rfl) (by simp) (AllReadyH.cons (o := { dst := none, op := Op.store 9 (Operand.tmp 36) (Operand.tmp 30), type := 0, pos := "address.go:186", after := #[{ on := 14, ground := Ground.data }, { on := 7, ground := Ground.data }, { on := 13, ground := Ground.chain }, { on := 0, ground := Ground.phase }, { on := 1, ground := Ground.phase }, { on := 2, ground := Ground.phase }, { on := 3, ground := Ground.phase }, { on := 4, ground := Ground.phase }, { on := 5, ground := Ground.phase }, { on := 6, ground := Ground.phase }, { on := 7, ground := Ground.phase }, { on := 8, ground := Ground.phase }, { on := 9, ground := Ground.phase }, { on := 10, ground := Ground.textOnly Departure.lateStores }, { on := 11, ground := Ground.textOnly Departure.lateStoresUnsure }, { on := 12, ground := Ground.phase }, { on := 13, ground := Ground.phase }], guard := none }) rfl (fun K15 hK15 => ?_) AllReadyH.nil)
            have lc := (P13_60.out).c4
            have lf := (P13_60.out).f4
            go_simp
            clear lc lf
            have P15_61 := Lib.hid (P13_60.out.put 4 (.string pt2))
            simp only [List.setIfInBounds_toArray, List.set_cons_zero, List.set_cons_succ] at P15_61
            refine hK15.out _ _ trivial (fun hH15_15 => ?_)
            clear hK15 K15
            try simp only [Act.put, List.setIfInBounds_toArray, List.set_cons_zero, List.set_cons_succ]
            refine wpAnyH_take (i := 16) (oi := { dst := some 37, op := Op.fieldAddr 24 (Operand.tmp 4) 5, type := 0, pos := "address.go:186", after := #[{ on := 0, ground := Ground.phase }, { on := 1, ground := Ground.phase }, { on := 2, ground := Ground.phase }, { on := 3, ground := Ground.phase }, { on := 4, ground := Ground.phase }, { on := 5, ground := Ground.phase }, { on := 6, ground := Ground.phase }, { on := 7, ground := Ground.phase }, { on := 8, ground := Ground.phase }, { on := 9, ground := Ground.phase }, { on := 10, ground := Ground.phase }, { on := 11, ground := Ground.phase }, { on := 12, ground := Ground.phase }, { on := 13, ground := Ground.phase }, { on := 14, ground := Ground.phase }, { on := 15, ground := Ground.phase }], guard := none }) (v := .pointer (some ⟨k, 5, none⟩)) rfl (by kernel_rfl) (by kernel_rfl) (by kernel_rfl) (fun _ _ _ h => h) (Or.inl ⟨by rfl, fun w hSw => by (go_simp <;> rfl)⟩) hH15_15 ?_
            try simp only [Act.put, List.setIfInBounds_toArray, List.set_cons_zero, List.set_cons_succ]
            refine wpAnyH_ready (rs := [17]) (by kernel_rfl) (by simp) (AllReadyH.cons (o := { dst := none, op := Op.store 9 (Operand.tmp 37) (Operand.tmp 34), type := 0, pos := "address.go:186", after := #[{ on := 16, ground := Ground.data }, { on := 11, ground := Ground.data }, { on := 15, ground := Ground.chain }, { on := 0, ground := Ground.phase }, { on := 1, ground := Ground.phase }, { on := 2, ground := Ground.phase }, { on := 3, ground := Ground.phase }, { on := 4, ground := Ground.phase }, { on := 5, ground := Ground.phase }, { on := 6, ground := Ground.phase }, { on := 7, ground := Ground.phase }, { on := 8, ground := Ground.phase }, { on := 9, ground := Ground.phase }, { on := 10, ground := Ground.phase }, { on := 11, ground := Ground.phase }, { on := 12, ground := Ground.phase }, { on := 13, ground := Ground.phase }, { on := 14, ground := Ground.phase }, { on := 15, ground := Ground.phase }], guard := none }) rfl (fun K17 hK17 => ?_) AllReadyH.nil)
            have lc := (P15_61.out).c5
            have lf := (P15_61.out).f5
            go_simp
            clear lc lf
            have P17_62 := Lib.hid (P15_61.out.put 5 (.string qu2))
            simp only [List.setIfInBounds_toArray, List.set_cons_zero, List.set_cons_succ] at P17_62
            refine hK17.out _ _ trivial (fun hH17_17 => ?_)
            clear hK17 K17
            try simp only [Act.put, List.setIfInBounds_toArray, List.set_cons_zero, List.set_cons_succ]
            refine wpAnyH_done (by kernel_rfl) ?_ _
            have HL := Lib.hid P17_62.out
            refine NoPanic.normal ?_
            go_wp2_with fail
            go_meet
            exact HL.out
        · have lc := (P0.out).c5
          go_simp
          clear lc
          refine hK9.out _ _ trivial (fun hH7_9 => ?_)
          clear hK9 K9
          try simp only [Act.put, List.setIfInBounds_toArray, List.set_cons_zero, List.set_cons_succ]
          refine wpAnyH_ready (rs := [1]) (by kernel_rfl) (by simp) (AllReadyH.cons (o := { dst := some 24, op := Op.load 9 (Operand.tmp 23), type := 9, pos := "address.go:186", after := #[{ on := 0, ground := Ground.data }], guard := none }) rfl (fun K1 hK1 => ?_) AllReadyH.nil)
          have lc := (P0.out).c1
          go_simp
          clear lc
          refine hK1.out _ _ trivial (fun hH8_1 => ?_)
          clear hK1 K1
          try simp only [Act.put, List.setIfInBounds_toArray, List.set_cons_zero, List.set_cons_succ]
          refine wpAnyH_ready (rs := [3]) (by kernel_rfl) (by simp) (AllReadyH.cons (o := { dst := some 26, op := Op.call { callee := Callee.value (Operand.func 24), args := #[Operand.tmp 24, Operand.tmp 25], argTypes := #[9, 38] }, type := 9, pos := "address.go:186", after := #[{ on := 1, ground := Ground.data }, { on := 2, ground := Ground.data }], guard := none }) rfl (fun K3 hK3 => ?_) AllReadyH.nil)
          go_simp
          with_reducible refine (HSU.out _).mono ?_
          rintro e x3_63 ⟨rfl, bx3_63⟩
          have P3_63 := Lib.hid (P0.out.up bx3_63)
          clear bx3_63
          refine hK3.out _ _ trivial (fun hH9_3 => ?_)
          clear hK3 K3
          try simp only [Act.put, List.setIfInBounds_toArray, List.set_cons_zero, List.set_cons_succ]
          refine wpAnyH_take (i := 12) (oi := { dst := some 35, op := Op.fieldAddr 24 (Operand.tmp 4) 1, type := 0, pos := "address.go:186", after := #[{ on := 0, ground := Ground.phase }, { on := 1, ground := Ground.phase }, { on := 2, ground := Ground.phase }, { on := 3, ground := Ground.phase }, { on := 4, ground := Ground.phase }, { on := 5, ground := Ground.phase }, { on := 6, ground := Ground.textOnly Departure.lateStores }, { on := 7, ground := Ground.textOnly Departure.lateStoresUnsure }, { on := 8, ground := Ground.phase }, { on := 9, ground := Ground.phase }, { on := 10, ground := Ground.textOnly Departure.lateStores }, { on := 11, ground := Ground.textOnly Departure.lateStoresUnsure }], guard := none }) (v := .pointer (some ⟨k, 1, none⟩)) rfl (by kernel_rfl) (by kernel_rfl) (by kernel_rfl) (fun _ _ _ h => h) (Or.inl ⟨by rfl, fun w hSw => by (go_simp <;> rfl)⟩) hH9_3 ?_
          try simp only [Act.put, List.setIfInBounds_toArray, List.set_cons_zero, List.set_cons_succ]
          refine wpAnyH_ready (rs := [7]) (by kernel_rfl) (by simp) (AllReadyH.cons (o := { dst := some 30, op := Op.call { callee := Callee.value (Operand.func 24), args := #[Operand.tmp 28, Operand.tmp 29], argTypes := #[9, 38] }, type := 9, pos := "address.go:186", after := #[{ on := 5, ground := Ground.data }, { on := 6, ground := Ground.data }, { on := 3, ground := Ground.chain }], guard := none }) rfl (fun K7 hK7 => ?_) AllReadyH.nil)
          go_simp
          with_reducible refine (HSP.out _).mono ?_
          rintro e x7_64 ⟨rfl, bx7_64⟩
          have P7_64 := Lib.hid (P3_63.out.up bx7_64)
          clear bx7_64
          refine hK7.out _ _ trivial (fun hH11_7 => ?_)
          clear hK7 K7
          try simp only [Act.put, List.setIfInBounds_toArray, List.set_cons_zero, List.set_cons_succ]
          refine wpAnyH_ready (rs := [11]) (by kernel_rfl) (by simp) (AllReadyH.cons (o := { dst := some 34, op := Op.call { callee := Callee.value (Operand.func 24), args := #[Operand.tmp 32, Operand.tmp 33], argTypes := #[9, 38] }, type := 9, pos := "address.go:186", after := #[{ on := 9, ground := Ground.data }, { on := 10, ground := Ground.data }, { on := 7, ground := Ground.chain }], guard := none }) rfl (fun K11 hK11 => ?_) AllReadyH.nil)
          go_simp
          with_reducible refine (HSQ.out _).mono ?_
          rintro e x11_65 ⟨rfl, bx11_65⟩
          have P11_65 := Lib.hid (P7_64.out.up bx11_65)
          clear bx11_65
          refine hK11.out _ _ trivial (fun hH12_11 => ?_)
          clear hK11 K11
          try simp only [Act.put, List.setIfInBounds_toArray, List.set_cons_zero, List.set_cons_succ]
          refine wpAnyH_ready (rs := [13]) (by kernel_rfl) (by simp) (AllReadyH.cons (o := { dst := none, op := Op.store 9 (Operand.tmp 35) (Operand.tmp 26), type := 0, pos := "address.go:186", after := #[{ on := 12, ground := Ground.data }, { on := 3, ground := Ground.data }, { on := 11, ground := Ground.chain }, { on := 0, ground := Ground.phase }, { on := 1, ground := Ground.phase }, { on := 2, ground := Ground.phase }, { on := 3, ground := Ground.phase }, { on := 4, ground := Ground.phase }, { on := 5, ground := Ground.phase }, { on := 6, ground := Ground.textOnly Departure.lateStores }, { on := 7, ground := Ground.textOnly Departure.lateStoresUnsure }, { on := 8, ground := Ground.phase }, { on := 9, ground := Ground.phase }, { on := 10, ground := Ground.textOnly Departure.lateStores }, { on := 11, ground := Ground.textOnly Departure.lateStoresUnsure }], guard := none }) rfl (fun K13 hK13 => ?_) AllReadyH.nil)
          have lc := (P11_65.out).c1
          have lf := (P11_65.out).f1
          go_simp
          clear lc lf
          have P13_66 := Lib.hid (P11_65.out.put 1 (.string us2))
          simp only [List.setIfInBounds_toArray, List.set_cons_zero, List.set_cons_succ] at P13_66
          refine hK13.out _ _ trivial (fun hH13_13 => ?_)
          clear hK13 K13
          try simp only [Act.put, List.setIfInBounds_toArray, List.set_cons_zero, List.set_cons_succ]
          refine wpAnyH_take (i := 14) (oi := { dst := some 36, op := Op.fieldAddr 24 (Operand.tmp 4) 4, type := 0, pos := "address.go:186", after := #[{ on := 0, ground := Ground.phase }, { on := 1, ground := Ground.phase }, { on := 2, ground := Ground.phase }, { on := 3, ground := Ground.phase }, { on := 4, ground := Ground.phase }, { on := 5, ground := Ground.phase }, { on := 6, ground := Ground.phase }, { on := 7, ground := Ground.phase }, { on := 8, ground := Ground.phase }, { on := 9, ground := Ground.phase }, { on := 10, ground := Ground.textOnly Departure.lateStores }, { on := 11, ground := Ground.textOnly Departure.lateStoresUnsure }, { on := 12, ground := Ground.phase }, { on := 13, ground := Ground.phase }], guard := none }) (v := .pointer (some ⟨k, 4, none⟩)) rfl (by kernel_rfl) (by kernel_rfl) (by kernel_rfl) (fun _ _ _ h => h) (Or.inl ⟨by rfl, fun w hSw => by (go_simp <;> rfl)⟩) hH13_13 ?_
          try simp only [Act.put, List.setIfInBounds_toArray, List.set_cons_zero, List.set_cons_succ]
          refine wpAnyH_ready (rs := [15]) (by kernel_rfl) (by simp) (AllReadyH.cons (o := { dst := none, op := Op.store 9 (Operand.tmp 36) (Operand.tmp 30), type := 0, pos := "address.go:186", after := #[{ on := 14, ground := Ground.data }, { on := 7, ground := Ground.data }, { on := 13, ground := Ground.chain }, { on := 0, ground := Ground.phase }, { on := 1, ground := Ground.phase }, { on := 2, ground := Ground.phase }, { on := 3, ground := Ground.phase }, { on := 4, ground := Ground.phase }, { on := 5, ground := Ground.phase }, { on := 6, ground := Ground.phase }, { on := 7, ground := Ground.phase }, { on := 8, ground := Ground.phase }, { on := 9, ground := Ground.phase }, { on := 10, ground := Ground.textOnly Departure.lateStores }, { on := 11, ground := Ground.textOnly Departure.lateStoresUnsure }, { on := 12, ground := Ground.phase }, { on := 13, ground := Ground.phase }], guard := none }) rfl (fun K15 hK15 => ?_) AllReadyH.nil)
          have lc := (P13_66.out).c4
          have lf := (P13_66.out).f4
          go_simp
          clear lc lf
          have P15_67 := Lib.hid (P13_66.out.put 4 (.string pt2))
          simp only [List.setIfInBounds_toArray, List.set_cons_zero, List.set_cons_succ] at P15_67
          refine hK15.out _ _ trivial (fun hH15_15 => ?_)
          clear hK15 K15
          try simp only [Act.put, List.setIfInBounds_toArray, List.set_cons_zero, List.set_cons_succ]
          refine wpAnyH_take (i := 16) (oi := { dst := some 37, op := Op.fieldAddr 24 (Operand.tmp 4) 5, type := 0, pos := "address.go:186", after := #[{ on := 0, ground := Ground.phase }, { on := 1, ground := Ground.phase }, { on := 2, ground := Ground.phase }, { on := 3, ground := Ground.phase }, { on := 4, ground := Ground.phase }, { on := 5, ground := Ground.phase }, { on := 6, ground := Ground.phase }, { on := 7, ground := Ground.phase }, { on := 8, ground := Ground.phase }, { on := 9, ground := Ground.phase }, { on := 10, ground := Ground.phase }, { on := 11, ground := Ground.phase }, { on := 12, ground := Ground.phase }, { on := 13, ground := Ground.phase }, { on := 14, ground := Ground.phase }, { on := 15, ground := Ground.phase }], guard := none }) (v := .pointer (some ⟨k, 5, none⟩)) rfl (by kernel_rfl) (by kernel_rfl) (by kernel_rfl) (fun _ _ _ h => h) (Or.inl ⟨by rfl, fun w hSw => by (go_simp <;> rfl)⟩) hH15_15 ?_
          try simp only [Act.put, List.setIfInBounds_toArray, List.set_cons_zero, List.set_cons_succ]
          refine wpAnyH_ready (rs := [17]) (by kernel_rfl) (by simp) (AllReadyH.cons (o := { dst := none, op := Op.store 9 (Operand.tmp 37) (Operand.tmp 34), type := 0, pos := "address.go:186", after := #[{ on := 16, ground := Ground.data }, { on := 11, ground := Ground.data }, { on := 15, ground := Ground.chain }, { on := 0, ground := Ground.phase }, { on := 1, ground := Ground.phase }, { on := 2, ground := Ground.phase }, { on := 3, ground := Ground.phase }, { on := 4, ground := Ground.phase }, { on := 5, ground := Ground.phase }, { on := 6, ground := Ground.phase }, { on := 7, ground := Ground.phase }, { on := 8, ground := Ground.phase }, { on := 9, ground := Ground.phase }, { on := 10, ground := Ground.phase }, { on := 11, ground := Ground.phase }, { on := 12, ground := Ground.phase }, { on := 13, ground := Ground.phase }, { on := 14, ground := Ground.phase }, { on := 15, ground := Ground.phase }], guard := none }) rfl (fun K17 hK17 => ?_) AllReadyH.nil)
          have lc := (P15_67.out).c5
          have lf := (P15_67.out).f5
          go_simp
          clear lc lf
          have P17_68 := Lib.hid (P15_67.out.put 5 (.string qu2))
          simp only [List.setIfInBounds_toArray, List.set_cons_zero, List.set_cons_succ] at P17_68
          refine hK17.out _ _ trivial (fun hH17_17 => ?_)
          clear hK17 K17
          try simp only [Act.put, List.setIfInBounds_toArray, List.set_cons_zero, List.set_cons_succ]
          refine wpAnyH_done (by kernel_rfl) ?_ _
          have HL := Lib.hid P17_68.out
          refine NoPanic.normal ?_
          go_wp2_with fail
          go_meet
          exact HL.out
      · have lc := (P0.out).c5
        go_simp
        clear lc
        refine hK9.out _ _ trivial (fun hH6_9 => ?_)
        clear hK9 K9
        try simp only [Act.put, List.setIfInBounds_toArray, List.set_cons_zero, List.set_cons_succ]
        refine wpAnyH_ready (rs := [1, 5]) (by kernel_rfl) (by simp) (AllReadyH.cons (o := { dst := some 24, op := Op.load 9 (Operand.tmp 23), type := 9, pos := "address.go:186", after := #[{ on := 0, ground := Ground.data }], guard := none }) rfl (fun K1 hK1 => ?_) (AllReadyH.cons (o := { dst := some 28, op := Op.load 9 (Operand.tmp 27), type := 9, pos := "address.go:186", after := #[{ on := 4, ground := Ground.data }], guard := none }) rfl (fun K5 hK5 => ?_) AllReadyH.nil))
        · have lc := (P0.out).c1
          go_simp
          clear lc
          refine hK1.out _ _ trivial (fun hH7_1 => ?_)
          clear hK1 K1
          try simp only [Act.put, List.setIfInBounds_toArray, List.set_cons_zero, List.set_cons_succ]
          refine wpAnyH_ready (rs := [3, 5]) (by kernel_rfl) (by simp) (AllReadyH.cons (o := { dst := some 26, op := Op.call { callee := Callee.value (Operand.func 24), args := #[Operand.tmp 24, Operand.tmp 25], argTypes := #[9, 38] }, type := 9, pos := "address.go:186", after := #[{ on := 1, ground := Ground.data }, { on := 2, ground := Ground.data }], guard := none }) rfl (fun K3 hK3 => ?_) (AllReadyH.cons (o := { dst := some 28, op := Op.load 9 (Operand.tmp 27), type := 9, pos := "address.go:186", after := #[{ on := 4, ground := Ground.data }], guard := none }) rfl (fun K5 hK5 => ?_) AllReadyH.nil))
          · go_simp
            with_reducible refine (HSU.out _).mono ?_
            rintro e x3_69 ⟨rfl, bx3_69⟩
            have P3_69 := Lib.hid (P0.out.up bx3_69)
            clear bx3_69
            refine hK3.out _ _ trivial (fun hH8_3 => ?_)
            clear hK3 K3
            try simp only [Act.put, List.setIfInBounds_toArray, List.set_cons_zero, List.set_cons_succ]
            refine wpAnyH_ready (rs := [5]) (by kernel_rfl) (by simp) (AllReadyH.cons (o := { dst := some 28, op := Op.load 9 (Operand.tmp 27), type := 9, pos := "address.go:186", after := #[{ on := 4, ground := Ground.data }], guard := none }) rfl (fun K5 hK5 => ?_) AllReadyH.nil)
            have lc := (P3_69.out).c4
            go_simp
            clear lc
            refine hK5.out _ _ trivial (fun hH9_5 => ?_)
            clear hK5 K5
            try simp only [Act.put, List.setIfInBounds_toArray, List.set_cons_zero, List.set_cons_succ]
            refine wpAnyH_take (i := 12) (oi := { dst := some 35, op := Op.fieldAddr 24 (Operand.tmp 4) 1, type := 0, pos := "address.go:186", after := #[{ on := 0, ground := Ground.phase }, { on := 1, ground := Ground.phase }, { on := 2, ground := Ground.phase }, { on := 3, ground := Ground.phase }, { on := 4, ground := Ground.phase }, { on := 5, ground := Ground.phase }, { on := 6, ground := Ground.textOnly Departure.lateStores }, { on := 7, ground := Ground.textOnly Departure.lateStoresUnsure }, { on := 8, ground := Ground.phase }, { on := 9, ground := Ground.phase }, { on := 10, ground := Ground.textOnly Departure.lateStores }, { on := 11, ground := Ground.textOnly Departure.lateStoresUnsure }], guard := none }) (v := .pointer (some ⟨k, 1, none⟩)) rfl (by kernel_rfl) (by kernel_rfl) (by kernel_rfl) (fun _ _ _ h => h) (Or.inl ⟨by rfl, fun w hSw => by (go_simp <;> rfl)⟩) hH9_5 ?_
            try simp only [Act.put, List.setIfInBounds_toArray, List.set_cons_zero, List.set_cons_succ]
            refine wpAnyH_ready (rs := [7]) (by kernel_rfl) (by simp) (AllReadyH.cons (o := { dst := some 30, op := Op.call { callee := Callee.value (Operand.func 24), args := #[Operand.tmp 28, Operand.tmp 29], argTypes := #[9, 38] }, type := 9, pos := "address.go:186", after := #[{ on := 5, ground := Ground.data }, { on := 6, ground := Ground.data }, { on := 3, ground := Ground.chain }], guard := none }) rfl (fun K7 hK7 => ?_) AllReadyH.nil)
            go_simp
            with_reducible refine (HSP.out _).mono ?_
            rintro e x7_70 ⟨rfl, bx7_70⟩
            have P7_70 := Lib.hid (P3_69.out.up bx7_70)
            clear bx7_70
            refine hK7.out _ _ trivial (fun hH11_7 => ?_)
            clear hK7 K7
            try simp only [Act.put, List.setIfInBounds_toArray, List.set_cons_zero, List.set_cons_succ]
            refine wpAnyH_ready (rs := [11]) (by kernel_rfl) (by simp) (AllReadyH.cons (o := { dst := some 34, op := Op.call { callee := Callee.value (Operand.func 24), args := #[Operand.tmp 32, Operand.tmp 33], argTypes := #[9, 38] }, type := 9, pos := "address.go:186", after := #[{ on := 9, ground := Ground.data }, { on := 10, ground := Ground.data }, { on := 7, ground := Ground.chain }], guard := none }) rfl (fun K11 hK11 => ?_) AllReadyH.nil)
            go_simp
            with_reducible refine (HSQ.out _).mono ?_
            rintro e x11_71 ⟨rfl, bx11_71⟩
            have P11_71 := Lib.hid (P7_70.out.up bx11_71)
            clear bx11_71
            refine hK11.out _ _ trivial (fun hH12_11 => ?_)
            clear hK11 K11
            try simp only [Act.put, List.setIfInBounds_toArray, List.set_cons_zero, List.set_cons_succ]
            refine wpAnyH_ready (rs := [13]) (by kernel_rfl) (by simp) (AllReadyH.cons (o := { dst := none, op := Op.store 9 (Operand.tmp 35) (Operand.tmp 26), type := 0, pos := "address.go:186", after := #[{ on := 12, ground := Ground.data }, { on := 3, ground := Ground.data }, { on := 11, ground := Ground.chain }, { on := 0, ground := Ground.phase }, { on := 1, ground := Ground.phase }, { on := 2, ground := Ground.phase }, { on := 3, ground := Ground.phase }, { on := 4, ground := Ground.phase }, { on := 5, ground := Ground.phase }, { on := 6, ground := Ground.textOnly Departure.lateStores }, { on := 7, ground := Ground.textOnly Departure.lateStoresUnsure }, { on := 8, ground := Ground.phase }, { on := 9, ground := Ground.phase }, { on := 10, ground := Ground.textOnly Departure.lateStores }, { on := 11, ground := Ground.textOnly Departure.lateStoresUnsure }], guard := none }) rfl (fun K13 hK13 => ?_) AllReadyH.nil)
            have lc := (P11_71.out).c1
            have lf := (P11_71.out).f1
            go_simp
            clear lc lf
            have P13_72 := Lib.hid (P11_71.out.put 1 (.string us2))
            simp only [List.setIfInBounds_toArray, List.set_cons_zero, List.set_cons_succ] at P13_72
            refine hK13.out _ _ trivial (fun hH13_13 => ?_)
            clear hK13 K13
            try simp only [Act.put, List.setIfInBounds_toArray, List.set_cons_zero, List.set_cons_succ]
            refine wpAnyH_take (i := 14) (oi := { dst := some 36, op := Op.fieldAddr 24 (Operand.tmp 4) 4, type := 0, pos := "address.go:186", after := #[{ on := 0, ground := Ground.phase }, { on := 1, ground := Ground.phase }, { on := 2, ground := Ground.phase }, { on := 3, ground := Ground.phase }, { on := 4, ground := Ground.phase }, { on := 5, ground := Ground.phase }, { on := 6, ground := Ground.phase }, { on := 7, ground := Ground.phase }, { on := 8, ground := Ground.phase }, { on := 9, ground := Ground.phase }, { on := 10, ground := Ground.textOnly Departure.lateStores }, { on := 11, ground := Ground.textOnly Departure.lateStoresUnsure }, { on := 12, ground := Ground.phase }, { on := 13, ground := Ground.phase }], guard := none }) (v := .pointer (some ⟨k, 4, none⟩)) rfl (by kernel_rfl) (by kernel_rfl) (by kernel_rfl) (fun _ _ _ h => h) (Or.inl ⟨by rfl, fun w hSw => by (go_simp <;> rfl)⟩) hH13_13 ?_
            try simp only [Act.put, List.setIfInBounds_toArray, List.set_cons_zero, List.set_cons_succ]
            refine wpAnyH_ready (rs := [15]) (by kernel_rfl) (by simp) (AllReadyH.cons (o := { dst := none, op := Op.store 9 (Operand.tmp 36) (Operand.tmp 30), type := 0, pos := "address.go:186", after := #[{ on := 14, ground := Ground.data }, { on := 7, ground := Ground.data }, { on := 13, ground := Ground.chain }, { on := 0, ground := Ground.phase }, { on := 1, ground := Ground.phase }, { on := 2, ground := Ground.phase }, { on := 3, ground := Ground.phase }, { on := 4, ground := Ground.phase }, { on := 5, ground := Ground.phase }, { on := 6, ground := Ground.phase }, { on := 7, ground := Ground.phase }, { on := 8, ground := Ground.phase }, { on := 9, ground := Ground.phase }, { on := 10, ground := Ground.textOnly Departure.lateStores }, { on := 11, ground := Ground.textOnly Departure.lateStoresUnsure }, { on := 12, ground := Ground.phase }, { on := 13, ground := Ground.phase }], guard := none }) rfl (fun K15 hK15 => ?_) AllReadyH.nil)
            have lc := (P13_72.out).c4
            have lf := (P13_72.out).f4
            go_simp
            clear lc lf
            have P15_73 := Lib.hid (P13_72.out.put 4 (.string pt2))
            simp only [List.setIfInBounds_toArray, List.set_cons_zero, List.set_cons_succ] at P15_73
            refine hK15.out _ _ trivial (fun hH15_15 => ?_)
            clear hK15 K15
            try simp only [Act.put, List.setIfInBounds_toArray, List.set_cons_zero, List.set_cons_succ]
            refine wpAnyH_take (i := 16) (oi := { dst := some 37, op := Op.fieldAddr 24 (Operand.tmp 4) 5, type := 0, pos := "address.go:186", after := #[{ on := 0, ground := Ground.phase }, { on := 1, ground := Ground.phase }, { on := 2, ground := Ground.phase }, { on := 3, ground := Ground.phase }, { on := 4, ground := Ground.phase }, { on := 5, ground := Ground.phase }, { on := 6, ground := Ground.phase }, { on := 7, ground := Ground.phase }, { on := 8, ground := Ground.phase }, { on := 9, ground := Ground.phase }, { on := 10, ground := Ground.phase }, { on := 11, ground := Ground.phase }, { on := 12, ground := Ground.phase }, { on := 13, ground := Ground.phase }, { on := 14, ground := Ground.phase }, { on := 15, ground := Ground.phase }], guard := none }) (v := .pointer (some ⟨k, 5, none⟩)) rfl (by kernel_rfl) (by kernel_rfl) (by kernel_rfl) (fun _ _ _ h => h) (Or.inl ⟨by rfl, fun w hSw => by (go_simp <;> rfl)⟩) hH15_15 ?_
            try simp only [Act.put, List.setIfInBounds_toArray, List.set_cons_zero, List.set_cons_succ]
            refine wpAnyH_ready (rs := [17]) (by kernel_rfl) (by simp) (AllReadyH.cons (o := { dst := none, op := Op.store 9 (Operand.tmp 37) (Operand.tmp 34), type := 0, pos := "address.go:186", after := #[{ on := 16, ground := Ground.data }, { on := 11, ground := Ground.data }, { on := 15, ground := Ground.chain }, { on := 0, ground := Ground.phase }, { on := 1, ground := Ground.phase }, { on := 2, ground := Ground.phase }, { on := 3, ground := Ground.phase }, { on := 4, ground := Ground.phase }, { on := 5, ground := Ground.phase }, { on := 6, ground := Ground.phase }, { on := 7, ground := Ground.phase }, { on := 8, ground := Ground.phase }, { on := 9, ground := Ground.phase }, { on := 10, ground := Ground.phase }, { on := 11, ground := Ground.phase }, { on := 12, ground := Ground.phase }, { on := 13, ground := Ground.phase }, { on := 14, ground := Ground.phase }, { on := 15, ground := Ground.phase }], guard := none }) rfl (fun K17 hK17 => ?_) AllReadyH.nil)
            have lc := (P15_73.out).c5
            have lf := (P15_73.out).f5
            go_simp
            clear lc lf
            have P17_74 := Lib.hid (P15_73.out.put 5 (.string qu2))
            simp only [List.setIfInBounds_toArray, List.set_cons_zero, List.set_cons_succ] at P17_74
            refine hK17.out _ _ trivial (fun hH17_17 => ?_)
            clear hK17 K17
            try simp only [Act.put, List.setIfInBounds_toArray, List.set_cons_zero, List.set_cons_succ]
            refine wpAnyH_done (by kernel_rfl) ?_ _
            have HL := Lib.hid P17_74.out
            refine NoPanic.normal ?_
            go_wp2_with fail
            go_meet
            exact HL.out
          · have lc := (P0.out).c4
            go_simp
            clear lc
            refine hK5.out _ _ trivial (fun hH8_5 => ?_)
            clear hK5 K5
            try simp only [Act.put, List.setIfInBounds_toArray, List.set_cons_zero, List.set_cons_succ]
            refine wpAnyH_ready (rs := [3]) (by kernel_rfl) (by simp) (AllReadyH.cons (o := { dst := some 26, op := Op.call { callee := Callee.value (Operand.func 24), args := #[Operand.tmp 24, Operand.tmp 25], argTypes := #[9, 38] }, type := 9, pos := "address.go:186", after := #[{ on := 1, ground := Ground.data }, { on := 2, ground := Ground.data }], guard := none }) rfl (fun K3 hK3 => ?_) AllReadyH.nil)
            go_simp
            with_reducible refine (HSU.out _).mono ?_
            rintro e x3_75 ⟨rfl, bx3_75⟩
            have P3_75 := Lib.hid (P0.out.up bx3_75)
            clear bx3_75
            refine hK3.out _ _ trivial (fun hH9_3 => ?_)
            clear hK3 K3
            try simp only [Act.put, List.setIfInBounds_toArray, List.set_cons_zero, List.set_cons_succ]
            refine wpAnyH_take (i := 12) (oi := { dst := some 35, op := Op.fieldAddr 24 (Operand.tmp 4) 1, type := 0, pos := "address.go:186", after := #[{ on := 0, ground := Ground.phase }, { on := 1, ground := Ground.phase }, { on := 2, ground := Ground.phase }, { on := 3, ground := Ground.phase }, { on := 4, ground := Ground.phase }, { on := 5, ground := Ground.phase }, { on := 6, ground := Ground.textOnly Departure.lateStores }, { on := 7, ground := Ground.textOnly Departure.lateStoresUnsure }, { on := 8, ground := Ground.phase }, { on := 9, ground := Ground.phase }, { on := 10, ground := Ground.textOnly Departure.lateStores }, { on := 11, ground := Ground.textOnly Departure.lateStoresUnsure }], guard := none }) (v := .pointer (some ⟨k, 1, none⟩)) rfl (by kernel_rfl) (by kernel_rfl) (by kernel_rfl) (fun _ _ _ h => h) (Or.inl ⟨by rfl, fun w hSw => by (go_simp <;> rfl)⟩) hH9_3 ?_
            try simp only [Act.put, List.setIfInBounds_toArray, List.set_cons_zero, List.set_cons_succ]
            refine wpAnyH_ready (rs := [7]) (by kernel_rfl) (by simp) (AllReadyH.cons (o := { dst := some 30, op := Op.call { callee := Callee.value (Operand.func 24), args := #[Operand.tmp 28, Operand.tmp 29], argTypes := #[9, 38] }, type := 9, pos := "address.go:186", after := #[{ on := 5, ground := Ground.data }, { on := 6, ground := Ground.data }, { on := 3, ground := Ground.chain }], guard := none }) rfl (fun K7 hK7 => ?_) AllReadyH.nil)
            go_simp
            with_reducible refine (HSP.out _).mono ?_
            rintro e x7_76 ⟨rfl, bx7_76⟩
            have P7_76 := Lib.hid (P3_75.out.up bx7_76)
            clear bx7_76
            refine hK7.out _ _ trivial (fun hH11_7 => ?_)
            clear hK7 K7
            try simp only [Act.put, List.setIfInBounds_toArray, List.set_cons_zero, List.set_cons_succ]
            refine wpAnyH_ready (rs := [11]) (by kernel_rfl) (by simp) (AllReadyH.cons (o := { dst := some 34, op := Op.call { callee := Callee.value (Operand.func 24), args := #[Operand.tmp 32, Operand.tmp 33], argTypes := #[9, 38] }, type := 9, pos := "address.go:186", after := #[{ on := 9, ground := Ground.data }, { on := 10, ground := Ground.data }, { on := 7, ground := Ground.chain }], guard := none }) rfl (fun K11 hK11 => ?_) AllReadyH.nil)
            go_simp
            with_reducible refine (HSQ.out _).mono ?_
            rintro e x11_77 ⟨rfl, bx11_77⟩
            have P11_77 := Lib.hid (P7_76.out.up bx11_77)
            clear bx11_77
            refine hK11.out _ _ trivial (fun hH12_11 => ?_)
            clear hK11 K11
            try simp only [Act.put, List.setIfInBounds_toArray, List.set_cons_zero, List.set_cons_succ]
            refine wpAnyH_ready (rs := [13]) (by kernel_rfl) (by simp) (AllReadyH.cons (o := { dst := none, op := Op.store 9 (Operand.tmp 35) (Operand.tmp 26), type := 0, pos := "address.go:186", after := #[{ on := 12, ground := Ground.data }, { on := 3, ground := Ground.data }, { on := 11, ground := Ground.chain }, { on := 0, ground := Ground.phase }, { on := 1, ground := Ground.phase }, { on := 2, ground := Ground.phase }, { on := 3, ground := Ground.phase }, { on := 4, ground := Ground.phase }, { on := 5, ground := Ground.phase }, { on := 6, ground := Ground.textOnly Departure.lateStores }, { on := 7, ground := Ground.textOnly Departure.lateStoresUnsure }, { on := 8, ground := Ground.phase }, { on := 9, ground := Ground.phase }, { on := 10, ground := Ground.textOnly Departure.lateStores }, { on := 11, ground := Ground.textOnly Departure.lateStoresUnsure }], guard := none }) rfl (fun K13 hK13 => ?_) AllReadyH.nil)
            have lc := (P11_77.out).c1
            have lf := (P11_77.out).f1
            go_simp
            clear lc lf
            have P13_78 := Lib.hid (P11_77.out.put 1 (.string us2))
            simp only [List.setIfInBounds_toArray, List.set_cons_zero, List.set_cons_succ] at P13_78
            refine hK13.out _ _ trivial (fun hH13_13 => ?_)
            clear hK13 K13
            try simp only [Act.put, List.setIfInBounds_toArray, List.set_cons_zero, List.set_cons_succ]
            refine wpAnyH_take (i := 14) (oi := { dst := some 36, op := Op.fieldAddr 24 (Operand.tmp 4) 4, type := 0, pos := "address.go:186", after := #[{ on := 0, ground := Ground.phase }, { on := 1, ground := Ground.phase }, { on := 2, ground := Ground.phase }, { on := 3, ground := Ground.phase }, { on := 4, ground := Ground.phase }, { on := 5, ground := Ground.phase }, { on := 6, ground := Ground.phase }, { on := 7, ground := Ground.phase }, { on := 8, ground := Ground.phase }, { on := 9, ground := Ground.phase }, { on := 10, ground := Ground.textOnly Departure.lateStores }, { on := 11, ground := Ground.textOnly Departure.lateStoresUnsure }, { on := 12, ground := Ground.phase }, { on := 13, ground := Ground.phase }], guard := none }) (v := .pointer (some ⟨k, 4, none⟩)) rfl (by kernel_rfl) (by kernel_rfl) (by kernel_rfl) (fun _ _ _ h => h) (Or.inl ⟨by rfl, fun w hSw => by (go_simp <;> rfl)⟩) hH13_13 ?_
            try simp only [Act.put, List.setIfInBounds_toArray, List.set_cons_zero, List.set_cons_succ]
            refine wpAnyH_ready (rs := [15]) (by kernel_rfl) (by simp) (AllReadyH.cons (o := { dst := none, op := Op.store 9 (Operand.tmp 36) (Operand.tmp 30), type := 0, pos := "address.go:186", after := #[{ on := 14, ground := Ground.data }, { on := 7, ground := Ground.data }, { on := 13, ground := Ground.chain }, { on := 0, ground := Ground.phase }, { on := 1, ground := Ground.phase }, { on := 2, ground := Ground.phase }, { on := 3, ground := Ground.phase }, { on := 4, ground := Ground.phase }, { on := 5, ground := Ground.phase }, { on := 6, ground := Ground.phase }, { on := 7, ground := Ground.phase }, { on := 8, ground := Ground.phase }, { on := 9, ground := Ground.phase }, { on := 10, ground := Ground.textOnly Departure.lateStores }, { on := 11, ground := Ground.textOnly Departure.lateStoresUnsure }, { on := 12, ground := Ground.phase }, { on := 13, ground := Ground.phase }], guard := none }) rfl (fun K15 hK15 => ?_) AllReadyH.nil)
            have lc := (P13_78.out).c4
            have lf := (P13_78.out).f4
            go_simp
            clear lc lf
            have P15_79 := Lib.hid (P13_78.out.put 4 (.string pt2))
            simp only [List.setIfInBounds_toArray, List.set_cons_zero, List.set_cons_succ] at P15_79
            refine hK15.out _ _ trivial (fun hH15_15 => ?_)
            clear hK15 K15
            try simp only [Act.put, List.setIfInBounds_toArray, List.set_cons_zero, List.set_cons_succ]
            refine wpAnyH_take (i := 16) (oi := { dst := some 37, op := Op.fieldAddr 24 (Operand.tmp 4) 5, type := 0, pos := "address.go:186", after := #[{ on := 0, ground := Ground.phase }, { on := 1, ground := Ground.phase }, { on := 2, ground := Ground.phase }, { on := 3, ground := Ground.phase }, { on := 4, ground := Ground.phase }, { on := 5, ground := Ground.phase }, { on := 6, ground := Ground.phase }, { on := 7, ground := Ground.phase }, { on := 8, ground := Ground.phase }, { on := 9, ground := Ground.phase }, { on := 10, ground := Ground.phase }, { on := 11, ground := Ground.phase }, { on := 12, ground := Ground.phase }, { on := 13, ground := Ground.phase }, { on := 14, ground := Ground.phase }, { on := 15, ground := Ground.phase }], guard := none }) (v := .pointer (some ⟨k, 5, none⟩)) rfl (by kernel_rfl) (by kernel_rfl) (by kernel_rfl) (fun _ _ _ h => h) (Or.inl ⟨by rfl, fun w hSw => by (go_simp <;> rfl)⟩) hH15_15 ?_
            try simp only [Act.put, List.setIfInBounds_toArray, List.set_cons_zero, List.set_cons_succ]
            refine wpAnyH_ready (rs := [17]) (by kernel_rfl) (by simp) (AllReadyH.cons (o := { dst := none, op := Op.store 9 (Operand.tmp 37) (Operand.tmp 34), type := 0, pos := "address.go:186", after := #[{ on := 16, ground := Ground.data }, { on := 11, ground := Ground.data }, { on := 15, ground := Ground.chain }, { on := 0, ground := Ground.phase }, { on := 1, ground := Ground.phase }, { on := 2, ground := Ground.phase }, { on := 3, ground := Ground.phase }, { on := 4, ground := Ground.phase }, { on := 5, ground := Ground.phase }, { on := 6, ground := Ground.phase }, { on := 7, ground := Ground.phase }, { on := 8, ground := Ground.phase }, { on := 9, ground := Ground.phase }, { on := 10, ground := Ground.phase }, { on := 11, ground := Ground.phase }, { on := 12, ground := Ground.phase }, { on := 13, ground := Ground.phase }, { on := 14, ground := Ground.phase }, { on := 15, ground := Ground.phase }], guard := none }) rfl (fun K17 hK17 => ?_) AllReadyH.nil)
            have lc := (P15_79.out).c5
            have lf := (P15_79.out).f5
            go_simp
            clear lc lf
            have P17_80 := Lib.hid (P15_79.out.put 5 (.string qu2))
            simp only [List.setIfInBounds_toArray, List.set_cons_zero, List.set_cons_succ] at P17_80
            refine hK17.out _ _ trivial (fun hH17_17 => ?_)
            clear hK17 K17
            try simp only [Act.put, List.setIfInBounds_toArray, List.set_cons_zero, List.set_cons_succ]
            refine wpAnyH_done (by kernel_rfl) ?_ _
            have HL := Lib.hid P17_80.out
            refine NoPanic.normal ?_
            go_wp2_with fail
            go_meet
            exact HL.out
        · have lc := (P0.out).c4
          go_simp
          clear lc
          refine hK5.out _ _ trivial (fun hH7_5 => ?_)
          clear hK5 K5
          try simp only [Act.put, List.setIfInBounds_toArray, List.set_cons_zero, List.set_cons_succ]
          refine wpAnyH_ready (rs := [1]) (by kernel_rfl) (by simp) (AllReadyH.cons (o := { dst := some 24, op := Op.load 9 (Operand.tmp 23), type := 9, pos := "address.go:186", after := #[{ on := 0, ground := Ground.data }], guard := none }) rfl (fun K1 hK1 => ?_) AllReadyH.nil)
          have lc := (P0.out).c1
          go_simp
          clear lc
          refine hK1.out _ _ trivial (fun hH8_1 => ?_)
          clear hK1 K1
          try simp only [Act.put, List.setIfInBounds_toArray, List.set_cons_zero, List.set_cons_succ]
          refine wpAnyH_ready (rs := [3]) (by kernel_rfl) (by simp) (AllReadyH.cons (o := { dst := some 26, op := Op.call { callee := Callee.value (Operand.func 24), args := #[Operand.tmp 24, Operand.tmp 25], argTypes := #[9, 38] }, type := 9, pos := "address.go:186", after := #[{ on := 1, ground := Ground.data }, { on := 2, ground := Ground.data }], guard := none }) rfl (fun K3 hK3 => ?_) AllReadyH.nil)
          go_simp
          with_reducible refine (HSU.out _).mono ?_
          rintro e x3_81 ⟨rfl, bx3_81⟩
          have P3_81 := Lib.hid (P0.out.up bx3_81)
          clear bx3_81
          refine hK3.out _ _ trivial (fun hH9_3 => ?_)
          clear hK3 K3
          try simp only [Act.put, List.setIfInBounds_toArray, List.set_cons_zero, List.set_cons_succ]
          refine wpAnyH_take (i := 12) (oi := { dst := some 35, op := Op.fieldAddr 24 (Operand.tmp 4) 1, type := 0, pos := "address.go:186", after := #[{ on := 0, ground := Ground.phase }, { on := 1, ground := Ground.phase }, { on := 2, ground := Ground.phase }, { on := 3, ground := Ground.phase }, { on := 4, ground := Ground.phase }, { on := 5, ground := Ground.phase }, { on := 6, ground := Ground.textOnly Departure.lateStores }, { on := 7, ground := Ground.textOnly Departure.lateStoresUnsure }, { on := 8, ground := Ground.phase }, { on := 9, ground := Ground.phase }, { on := 10, ground := Ground.textOnly Departure.lateStores }, { on := 11, ground := Ground.textOnly Departure.lateStoresUnsure }], guard := none }) (v := .pointer (some ⟨k, 1, none⟩)) rfl (by kernel_rfl) (by kernel_rfl) (by kernel_rfl) (fun _ _ _ h => h) (Or.inl ⟨by rfl, fun w hSw => by (go_simp <;> rfl)⟩) hH9_3 ?_
          try simp only [Act.put, List.setIfInBounds_toArray, List.set_cons_zero, List.set_cons_succ]
          refine wpAnyH_ready (rs := [7]) (by kernel_rfl) (by simp) (AllReadyH.cons (o := { dst := some 30, op := Op.call { callee := Callee.value (Operand.func 24), args := #[Operand.tmp 28, Operand.tmp 29], argTypes := #[9, 38] }, type := 9, pos := "address.go:186", after := #[{ on := 5, ground := Ground.data }, { on := 6, ground := Ground.data }, { on := 3, ground := Ground.chain }], guard := none }) rfl (fun K7 hK7 => ?_) AllReadyH.nil)
          go_simp
          with_reducible refine (HSP.out _).mono ?_
          rintro e x7_82 ⟨rfl, bx7_82⟩
          have P7_82 := Lib.hid (P3_81.out.up bx7_82)
          clear bx7_82
          refine hK7.out _ _ trivial (fun hH11_7 => ?_)
          clear hK7 K7
          try simp only [Act.put, List.setIfInBounds_toArray, List.set_cons_zero, List.set_cons_succ]
          refine wpAnyH_ready (rs := [11]) (by kernel_rfl) (by simp) (AllReadyH.cons (o := { dst := some 34, op := Op.call { callee := Callee.value (Operand.func 24), args := #[Operand.tmp 32, Operand.tmp 33], argTypes := #[9, 38] }, type := 9, pos := "address.go:186", after := #[{ on := 9, ground := Ground.data }, { on := 10, ground := Ground.data }, { on := 7, ground := Ground.chain }], guard := none }) rfl (fun K11 hK11 => ?_) AllReadyH.nil)
          go_simp
          with_reducible refine (HSQ.out _).mono ?_
          rintro e x11_83 ⟨rfl, bx11_83⟩
          have P11_83 := Lib.hid (P7_82.out.up bx11_83)
          clear bx11_83
          refine hK11.out _ _ trivial (fun hH12_11 => ?_)
          clear hK11 K11
          try simp only [Act.put, List.setIfInBounds_toArray, List.set_cons_zero, List.set_cons_succ]
          refine wpAnyH_ready (rs := [13]) (by kernel_rfl) (by simp) (AllReadyH.cons (o := { dst := none, op := Op.store 9 (Operand.tmp 35) (Operand.tmp 26), type := 0, pos := "address.go:186", after := #[{ on := 12, ground := Ground.data }, { on := 3, ground := Ground.data }, { on := 11, ground := Ground.chain }, { on := 0, ground := Ground.phase }, { on := 1, ground := Ground.phase }, { on := 2, ground := Ground.phase }, { on := 3, ground := Ground.phase }, { on := 4, ground := Ground.phase }, { on := 5, ground := Ground.phase }, { on := 6, ground := Ground.textOnly Departure.lateStores }, { on := 7, ground := Ground.textOnly Departure.lateStoresUnsure }, { on := 8, ground := Ground.phase }, { on := 9, ground := Ground.phase }, { on := 10, ground := Ground.textOnly Departure.lateStores }, { on := 11, ground := Ground.textOnly Departure.lateStoresUnsure }], guard := none }) rfl (fun K13 hK13 => ?_) AllReadyH.nil)
          have lc := (P11_83.out).c1
          have lf := (P11_83.out).f1
          go_simp
          clear lc lf
          have P13_84 := Lib.hid (P11_83.out.put 1 (.string us2))
          simp only [List.setIfInBounds_toArray, List.set_cons_zero, List.set_cons_succ] at P13_84
          refine hK13.out _ _ trivial (fun hH13_13 => ?_)
          clear hK13 K13
          try simp only [Act.put, List.setIfInBounds_toArray, List.set_cons_zero, List.set_cons_succ]
          refine wpAnyH_take (i := 14) (oi := { dst := some 36, op := Op.fieldAddr 24 (Operand.tmp 4) 4, type := 0, pos := "address.go:186", after := #[{ on := 0, ground := Ground.phase }, { on := 1, ground := Ground.phase }, { on := 2, ground := Ground.phase }, { on := 3, ground := Ground.phase }, { on := 4, ground := Ground.phase }, { on := 5, ground := Ground.phase }, { on := 6, ground := Ground.phase }, { on := 7, ground := Ground.phase }, { on := 8, ground := Ground.phase }, { on := 9, ground := Ground.phase }, { on := 10, ground := Ground.textOnly Departure.lateStores }, { on := 11, ground := Ground.textOnly Departure.lateStoresUnsure }, { on := 12, ground := Ground.phase }, { on := 13, ground := Ground.phase }], guard := none }) (v := .pointer (some ⟨k, 4, none⟩)) rfl (by kernel_rfl) (by kernel_rfl) (by kernel_rfl) (fun _ _ _ h => h) (Or.inl ⟨by rfl, fun w hSw => by (go_simp <;> rfl)⟩) hH13_13 ?_
          try simp only [Act.put, List.setIfInBounds_toArray, List.set_cons_zero, List.set_cons_succ]
          refine wpAnyH_ready (rs := [15]) (by kernel_rfl) (by simp) (AllReadyH.cons (o := { dst := none, op := Op.store 9 (Operand.tmp 36) (Operand.tmp 30), type := 0, pos := "address.go:186", after := #[{ on := 14, ground := Ground.data }, { on := 7, ground := Ground.data }, { on := 13, ground := Ground.chain }, { on := 0, ground := Ground.phase }, { on := 1, ground := Ground.phase }, { on := 2, ground := Ground.phase }, { on := 3, ground := Ground.phase }, { on := 4, ground := Ground.phase }, { on := 5, ground := Ground.phase }, { on := 6, ground := Ground.phase }, { on := 7, ground := Ground.phase }, { on := 8, ground := Ground.phase }, { on := 9, ground := Ground.phase }, { on := 10, ground := Ground.textOnly Departure.lateStores }, { on := 11, ground := Ground.textOnly Departure.lateStoresUnsure }, { on := 12, ground := Ground.phase }, { on := 13, ground := Ground.phase }], guard := none }) rfl (fun K15 hK15 => ?_) AllReadyH.nil)
          have lc := (P13_84.out).c4
          have lf := (P13_84.out).f4
          go_simp
          clear lc lf
          have P15_85 := Lib.hid (P13_84.out.put 4 (.string pt2))
          simp only [List.setIfInBounds_toArray, List.set_cons_zero, List.set_cons_succ] at P15_85
          refine hK15.out _ _ trivial (fun hH15_15 => ?_)
          clear hK15 K15
          try simp only [Act.put, List.setIfInBounds_toArray, List.set_cons_zero, List.set_cons_succ]
          refine wpAnyH_take (i := 16) (oi := { dst := some 37, op := Op.fieldAddr 24 (Operand.tmp 4) 5, type := 0, pos := "address.go:186", after := #[{ on := 0, ground := Ground.phase }, { on := 1, ground := Ground.phase }, { on := 2, ground := Ground.phase }, { on := 3, ground := Ground.phase }, { on := 4, ground := Ground.phase }, { on := 5, ground := Ground.phase }, { on := 6, ground := Ground.phase }, { on := 7, ground := Ground.phase }, { on := 8, ground := Ground.phase }, { on := 9, ground := Ground.phase }, { on := 10, ground := Ground.phase }, { on := 11, ground := Ground.phase }, { on := 12, ground := Ground.phase }, { on := 13, ground := Ground.phase }, { on := 14, ground := Ground.phase }, { on := 15, ground := Ground.phase }], guard := none }) (v := .pointer (some ⟨k, 5, none⟩)) rfl (by kernel_rfl) (by kernel_rfl) (by kernel_rfl) (fun _ _ _ h => h) (Or.inl ⟨by rfl, fun w hSw => by (go_simp <;> rfl)⟩) hH15_15 ?_
          try simp only [Act.put, List.setIfInBounds_toArray, List.set_cons_zero, List.set_cons_succ]
          refine wpAnyH_ready (rs := [17]) (by kernel_rfl) (by simp) (AllReadyH.cons (o := { dst := none, op := Op.store 9 (Operand.tmp 37) (Operand.tmp 34), type := 0, pos := "address.go:186", after := #[{ on := 16, ground := Ground.data }, { on := 11, ground := Ground.data }, { on := 15, ground := Ground.chain }, { on := 0, ground := Ground.phase }, { on := 1, ground := Ground.phase }, { on := 2, ground := Ground.phase }, { on := 3, ground := Ground.phase }, { on := 4, ground := Ground.phase }, { on := 5, ground := Ground.phase }, { on := 6, ground := Ground.phase }, { on := 7, ground := Ground.phase }, { on := 8, ground := Ground.phase }, { on := 9, ground := Ground.phase }, { on := 10, ground := Ground.phase }, { on := 11, ground := Ground.phase }, { on := 12, ground := Ground.phase }, { on := 13, ground := Ground.phase }, { on := 14, ground := Ground.phase }, { on := 15, ground := Ground.phase }], guard := none }) rfl (fun K17 hK17 => ?_) AllReadyH.nil)
          have lc := (P15_85.out).c5
          have lf := (P15_85.out).f5
          go_simp
          clear lc lf
          have P17_86 := Lib.hid (P15_85.out.put 5 (.string qu2))
          simp only [List.setIfInBounds_toArray, List.set_cons_zero, List.set_cons_succ] at P17_86
          refine hK17.out _ _ trivial (fun hH17_17 => ?_)
          clear hK17 K17
          try simp only [Act.put, List.setIfInBounds_toArray, List.set_cons_zero, List.set_cons_succ]
          refine wpAnyH_done (by kernel_rfl) ?_ _
          have HL := Lib.hid P17_86.out
          refine NoPanic.normal ?_
          go_wp2_with fail
          go_meet
          exact HL.out
  case rest =>
    have HX := Lib.hid hcut
    clear hcut P5 HLO HSH HSU HSP HSQ HP
    have c0 := HX.out.c0
    have c1 := HX.out.c1
    have c2 := HX.out.c2
    have c3 := HX.out.c3
    have c4 := HX.out.c4
    have c5 := HX.out.c5
    have c6 := HX.out.c6
    have c7 := HX.out.c7
    go_wp2_with fail
    with_reducible refine (HJ.out _).mono ?_
    rintro e w8 ⟨rfl, b8⟩
    have PX := Lib.hid (HX.out.up b8)
    clear b8 c0 c1 c2 c3 c4 c5 c6 c7
    go_wp2_with fail
    go_ret2
    exact ⟨rfl, PX.out.2.1⟩
end Go.Proofs.YtjcaadihkbhlhaaDoor
