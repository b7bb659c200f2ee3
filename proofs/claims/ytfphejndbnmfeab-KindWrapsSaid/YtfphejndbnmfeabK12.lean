import Derived.Test.YtfphejndbnmfeabK11
import Derived.Deep.DeepCutAuto
namespace Go.Proofs.Ytfphejndbnmfeab
open Go.RowKit

theorem item_two {nm : ByteArray} {A : List Int} : itemB (2 :: A) = true ∧ itemN nm (2 :: A) = nm ∧ itemL (2 :: A) = A := by
  have h : bareL (2 :: A) = 2 :: A := by unfold bareL; rw [non_cons]; rfl
  unfold itemB itemN itemL
  rw [h, lst_cons]; exact ⟨rfl, rfl, rfl⟩
theorem bare_two {A : List Int} : bareL (2 :: A) = 2 :: A := by unfold bareL; rw [non_cons]; rfl
theorem bare_one {A : List Int} : bareL (1 :: A) = A := by unfold bareL; rw [non_cons]; rfl
theorem Box.set1 {w : World} {b : Nat} {nm : ByteArray} {a : Option Addr} {len cap : Nat} (h : Box w b nm a len cap) (a' : Option Addr) (len' cap' : Nat) :
    Box (w.setCell ⟨b, 1, none⟩ (.slice a' len' cap')) b nm a' len' cap' := by
  unfold Box at h ⊢
  rw [heap_setCell, if_pos rfl, h]
  rfl
theorem Box.other1 {w : World} {b c : Nat} {nm : ByteArray} {a : Option Addr} {len cap : Nat} (h : Box w c nm a len cap) (hne : b ≠ c) (v : Value) :
    Box (w.setCell ⟨b, 1, none⟩ v) c nm a len cap := by
  unfold Box at h ⊢
  rw [heap_setCell, if_neg hne]; exact h
theorem view_set1 {w : World} {a : Option Addr} {len : Nat} {L : List Int} (h : View w a len L) {g : Nat} {n' : ByteArray} {a' : Option Addr} {l' c' : Nat} (hb : Box w g n' a' l' c') (v : Value) :
    View (w.setCell ⟨g, 1, none⟩ v) a len L := by
  refine ⟨h.1, fun k hk => ?_⟩
  obtain ⟨b, off, e, hx, hc⟩ := h.2 k hk
  have hne : g ≠ b := by
    intro e'
    subst e'
    rw [hb.cell] at hc
    rcases (show off + k = 0 ∨ off + k = 1 ∨ 2 ≤ off + k by omega) with e0 | e0 | e0
    · rw [e0] at hc; simp at hc
    · rw [e0] at hc; simp at hc
    · rw [Array.getElem?_eq_none (by simpa using e0)] at hc; cases hc
  refine ⟨b, off, e, by simpa using hx, ?_⟩
  rw [World.cell?_setCell_far _ _ _ _ hne]; exact hc
theorem Two.set1 {n1 : ByteArray} {p1 : Option Addr} {m1 q1 : Nat} {n2 : ByteArray} {p2 : Option Addr} {m2 q2 : Nat} {w W : World} (h : Two n1 p1 m1 q1 n2 p2 m2 q2 w W) {g : Nat} (hg : w.heap.size + 1 < g) (v : Value) : Two n1 p1 m1 q1 n2 p2 m2 q2 w (W.setCell ⟨g, 1, none⟩ v) :=
  ⟨h.1.other1 (by omega) _, h.2.1.other1 (by omega) _, h.2.2.setCell (by show w.heap.size ≤ g; omega) _⟩
theorem wpList_append_view {w : World} {ops : Array Oper} {rest : List Oper} {o : Oper} {a : Act} {Q : Exit → Act → World → Prop}
    {B : Nat} {v : Value} {K : List Int} {ad : Option Addr} {l c : Nat} {L : List Int}
    (hg : o.guard = none) (s x : Operand) (hop : o.op = Op.call { callee := Callee.builtin Builtin.append, args := #[s, x], argTypes := #[23, 23] })
    (hs : a.eval s = v) (hown : w.ownsRow B 5 1 v K.length (K.map (Value.int .u8))) (hx : a.eval x = .slice ad l c) (hv : View w ad l L) (hn : Nils ad l c) (hl : l ≤ 1000) (hk : K.length ≤ 1000) (hB : B ≤ w.heap.size)
    (hK : ∀ (a' : Option Addr) (c' : Nat) (w' : World), w'.ownsRow B 5 1 (.slice a' (K ++ L).length c') (K ++ L).length ((K ++ L).map (Value.int .u8)) → View w' a' (K ++ L).length (K ++ L) → (K ++ L).length ≤ c' → w.grownBy w' v.ownBlock → wpList Try.prog ops Q rest (a.put o.dst (.slice a' (K ++ L).length c')) w') :
    wpList Try.prog ops Q (o :: rest) a w := by
  refine wpList_plain hg fun KK hKK => ?_
  obtain ⟨v', w', hrun, r1, r2⟩ := append_view hown hv hn hl hk hB o.type
  obtain ⟨a', c', rfl, h1, h2⟩ := own_view r1
  unfold Oper.wp
  simp [-List.length_append, execOp, hop, resolve, invoke, builtin, hs, hx, hrun, Result.andThen]
  exact hKK _ _ (hK a' c' w' r1 h1 h2 r2)
set_option maxRecDepth 10000 in
set_option maxHeartbeats 4000000 in
theorem wraps_walk (n1 : ByteArray) (p1 : Option Addr) (m1 q1 : Nat) (n2 : ByteArray) (p2 : Option Addr) (m2 q2 : Nat) (A B : List Int) (w : World)
    (hv1 : View w p1 m1 A) (hc1 : m1 ≤ q1) (hn1 : Nils p1 m1 q1) (hr1 : ∀ x ∈ A, 0 ≤ x ∧ x < 256) (hv2 : View w p2 m2 B) (hc2 : m2 ≤ q2) (hn2 : Nils p2 m2 q2) (hm1 : ¬ 20 < m1) (hm2 : ¬ 20 < m2) :
    Calls Try.prog 5 #[refV n1 p1 m1 q1, refV n2 p2 m2 q2] w fun e w' => e = .returned (.bool true) ∧ Below w.heap.size w w' := by
  have hx1 : Box ((w.alloc (.cells #[.string n1, .slice p1 m1 q1] 25)).alloc (.cells #[.string n2, .slice p2 m2 q2] 25)) w.heap.size n1 p1 m1 q1 := by
    have h : Box (w.alloc (.cells #[.string n1, .slice p1 m1 q1] 25)) w.heap.size n1 p1 m1 q1 := heap_alloc_new w _
    exact h.up ((Below.refl _ _).alloc (Nat.le_refl _) _)
  have hx2 : Box ((w.alloc (.cells #[.string n1, .slice p1 m1 q1] 25)).alloc (.cells #[.string n2, .slice p2 m2 q2] 25)) (w.heap.size + 1) n2 p2 m2 q2 := by
    have h := heap_alloc_new (w.alloc (.cells #[.string n1, .slice p1 m1 q1] 25)) (.cells #[.string n2, .slice p2 m2 q2] 25)
    unfold Box; simpa using h
  have hbl : Below w.heap.size w ((w.alloc (.cells #[.string n1, .slice p1 m1 q1] 25)).alloc (.cells #[.string n2, .slice p2 m2 q2] 25)) := ((Below.refl _ w).alloc (Nat.le_refl _) _).alloc (by simp) _
  have HT0 : Hid (Two n1 p1 m1 q1 n2 p2 m2 q2 w ((w.alloc (.cells #[.string n1, .slice p1 m1 q1] 25)).alloc (.cells #[.string n2, .slice p2 m2 q2] 25))) := Lib.hid ⟨hx1, hx2, hbl⟩
  have HV1 := Lib.hid hv1
  have HV2 := Lib.hid hv2
  have HC1 := Lib.hid hc1
  have HC2 := Lib.hid hc2
  have HN1 := Lib.hid hn1
  have HN2 := Lib.hid hn2
  have HR1 := Lib.hid hr1
  have HM1 : Hid (m1 ≤ 20) := Lib.hid (by omega)
  have HM2 : Hid (m2 ≤ 20) := Lib.hid (by omega)
  clear hx1 hx2 hbl hv1 hv2 hc1 hc2 hn1 hn2 hr1
  unfold refV
  go_enter Try.func5, Try.ntmps5
  go_wp2_with fail
  refine (alive_true _).mono ?_
  rintro e w1 ⟨rfl, b1⟩
  have hT1 := HT0.out.up b1
  have a0 := hT1.1.c0
  have a1 := hT1.1.c1
  have a2 := hT1.2.1.c0
  have a3 := hT1.2.1.c1
  have HT1 := Lib.hid hT1
  clear b1 hT1
  go_wp2_with fail
  refine (fits_any n1 n2 p1 p2 m1 q1 m2 q2 A B _ (HV1.out.below HT1.out.2.2) (HV2.out.below HT1.out.2.2) HC1.out HC2.out).mono ?_
  rintro e w2 ⟨rfl, b2⟩
  have HT2 := Lib.hid (HT1.out.up b2)
  obtain ⟨f, hf⟩ : ∃ f, f = fits n1 A n2 B := ⟨_, rfl⟩
  have HF := Lib.hid hf
  rw [← hf]
  clear b2 hf a0 a1 a2 a3 hm1 hm2
  have HB1 := Lib.hid HT2.out.1
  have HV1w2 := Lib.hid (HV1.out.below HT2.out.2.2)
  go_upto_region 5 with fail
  go_cut [7] (fun s7 wx => ∃ (g : Nat) (a' : Option Addr) (c' : Nat), s7 = .pointer (some ⟨g, 0, none⟩) ∧ w2.heap.size ≤ g ∧ Box wx g n1 a' (A.length + 1) c' ∧ View wx a' (A.length + 1) (2 :: A) ∧ A.length + 1 ≤ c' ∧ Below w2.heap.size w2 wx)
  case first =>
    refine wp_region_held_drew (S := fun W => Below w2.heap.size w2 W) (by kernel_rfl) (Below.refl _ _).drew (fun hHeld => ?_)
    refine wpAnyH_take (i := 0) (oi := { dst := some 30, op := Op.fieldAddr 25 (Operand.tmp 2) 0, type := 0, pos := "outright.go:56", after := #[], guard := none }) (v := .pointer (some ⟨w.heap.size, 0, none⟩)) rfl (by kernel_rfl) (by kernel_rfl) (by kernel_rfl) (fun _ _ _ h => h) (Or.inl ⟨by rfl, fun w hSw => by (go_simp <;> rfl)⟩) hHeld ?_
    try simp only [Act.put, List.setIfInBounds_toArray, List.set_cons_zero, List.set_cons_succ]
    refine wpAnyH_take (i := 1) (oi := { dst := some 31, op := Op.load 9 (Operand.tmp 30), type := 9, pos := "outright.go:56", after := #[{ on := 0, ground := Ground.data }], guard := none }) (v := .string n1) rfl (by kernel_rfl) (by kernel_rfl) (by kernel_rfl) (fun _ _ _ h => h) (Or.inl ⟨by rfl, fun w hSw => by (have g0 := (HB1.out.up hSw).c0; go_simp <;> rfl)⟩) hHeld ?_
    try simp only [Act.put, List.setIfInBounds_toArray, List.set_cons_zero, List.set_cons_succ]
    refine wpAnyH_take (i := 3) (oi := { dst := some 33, op := Op.fieldAddr 25 (Operand.tmp 2) 1, type := 0, pos := "outright.go:56", after := #[], guard := none }) (v := .pointer (some ⟨w.heap.size, 1, none⟩)) rfl (by kernel_rfl) (by kernel_rfl) (by kernel_rfl) (fun _ _ _ h => h) (Or.inl ⟨by rfl, fun w hSw => by (go_simp <;> rfl)⟩) hHeld ?_
    try simp only [Act.put, List.setIfInBounds_toArray, List.set_cons_zero, List.set_cons_succ]
    refine wpAnyH_take (i := 4) (oi := { dst := some 34, op := Op.load 23 (Operand.tmp 33), type := 23, pos := "outright.go:56", after := #[{ on := 3, ground := Ground.data }], guard := none }) (v := .slice p1 m1 q1) rfl (by kernel_rfl) (by kernel_rfl) (by kernel_rfl) (fun _ _ _ h => h) (Or.inl ⟨by rfl, fun w hSw => by (have g1 := (HB1.out.up hSw).c1; go_simp <;> rfl)⟩) hHeld ?_
    try simp only [Act.put, List.setIfInBounds_toArray, List.set_cons_zero, List.set_cons_succ]
    refine wpAnyH_ready (rs := [2, 7]) (by kernel_rfl) (by simp) (AllReadyH.cons (o := { dst := some 32, op := Op.buildSlice 23 1 #[(0, Operand.const (Value.int IntKind.u8 2))], type := 23, pos := "outright.go:56", after := #[], guard := none }) rfl (fun K2 hK2 => ?_) (AllReadyH.cons (o := { dst := some 7, op := Op.alloc 25, type := 0, pos := "outright.go:56", after := #[], guard := none }) rfl (fun K7 hK7 => ?_) AllReadyH.nil))
    · go_simp
      have hO := own_new w2.drew 2 (B := w2.heap.size) hHeld.size
      refine hK2.out _ _ (hHeld.alloc hHeld.size (.cells #[.int .u8 2] 5)) (fun hH4_2 => ?_)
      clear hK2 K2
      try simp only [Act.put, List.setIfInBounds_toArray, List.set_cons_zero, List.set_cons_succ]
      refine wpAnyH_ready (rs := [5, 7]) (by kernel_rfl) (by simp) (AllReadyH.cons (o := { dst := some 35, op := Op.call { callee := Callee.builtin Builtin.append, args := #[Operand.tmp 32, Operand.tmp 34], argTypes := #[23, 23] }, type := 23, pos := "outright.go:56", after := #[{ on := 2, ground := Ground.data }, { on := 4, ground := Ground.data }], guard := none }) rfl (fun K5 hK5 => ?_) (AllReadyH.cons (o := { dst := some 7, op := Op.alloc 25, type := 0, pos := "outright.go:56", after := #[], guard := none }) rfl (fun K7 hK7 => ?_) AllReadyH.nil))
      · refine step_append_view (K := [2]) (L := A) rfl (.tmp 32) (.tmp 34) rfl (by simp [Act.eval]) hO (by simp [Act.eval]) (HV1w2.out.below hH4_2) HN1.out (by have := HM1.out; omega) (by simp) hH4_2.size (fun a7 c7 wA hO7 hV7 hC7 hg7 => ?_)
        have hV : View wA a7 (A.length + 1) (2 :: A) := hV7
        have hC7' : A.length + 1 ≤ c7 := hC7
        refine hK5.out _ _ (hH4_2.grown hg7 hH4_2.size (fun k hk => (hO.lt k hk).1)) (fun hH5_5 => ?_)
        simp only [List.cons_append, List.nil_append, List.length_cons]
        clear hK5 K5
        try simp only [Act.put, List.setIfInBounds_toArray, List.set_cons_zero, List.set_cons_succ]
        refine wpAnyH_take (i := 6) (oi := { dst := some 36, op := Op.build 25 #[(0, Operand.tmp 31), (1, Operand.tmp 35)], type := 25, pos := "outright.go:56", after := #[{ on := 1, ground := Ground.data }, { on := 5, ground := Ground.data }], guard := none }) (v := .agg #[.string n1, .slice a7 (A.length + 1) c7]) rfl (by kernel_rfl) (by kernel_rfl) (by kernel_rfl) (fun _ _ _ h => h) (Or.inl ⟨by rfl, fun w hSw => by (go_simp <;> rfl)⟩) hH5_5 ?_
        try simp only [Act.put, List.setIfInBounds_toArray, List.set_cons_zero, List.set_cons_succ]
        refine wpAnyH_ready (rs := [7]) (by kernel_rfl) (by simp) (AllReadyH.cons (o := { dst := some 7, op := Op.alloc 25, type := 0, pos := "outright.go:56", after := #[], guard := none }) rfl (fun K7 hK7 => ?_) AllReadyH.nil)
        go_simp
        have hV := hV.below ((Below.refl _ _).alloc (Nat.le_refl _) (.cells #[.string ⟨#[]⟩, .slice none 0 0] 25))
        have hX : Box (wA.alloc (.cells #[.string ⟨#[]⟩, .slice none 0 0] 25)) wA.heap.size ⟨#[]⟩ none 0 0 := by have h := heap_alloc_new wA (.cells #[.string ⟨#[]⟩, .slice none 0 0] 25); simpa [Box] using h
        have hXge : w2.heap.size ≤ wA.heap.size := by first | exact hH5_5.size | (have := hH5_5.size; simp at this; omega)
        refine hK7.out _ _ (hH5_5.alloc hH5_5.size (.cells #[.string ⟨#[]⟩, .slice none 0 0] 25)) (fun hH7_7 => ?_)
        obtain ⟨W7, hW7⟩ : ∃ W, W = wA.alloc (.cells #[.string ⟨#[]⟩, .slice none 0 0] 25) := ⟨_, rfl⟩
        rw [← hW7] at hV hX hH7_7 ⊢
        clear hW7
        clear hK7 K7
        try simp only [Act.put, List.setIfInBounds_toArray, List.set_cons_zero, List.set_cons_succ]
        refine wpAnyH_ready (rs := [8]) (by kernel_rfl) (by simp) (AllReadyH.cons (o := { dst := none, op := Op.store 25 (Operand.tmp 7) (Operand.tmp 36), type := 0, pos := "outright.go:56", after := #[{ on := 7, ground := Ground.data }, { on := 6, ground := Ground.data }, { on := 5, ground := Ground.chain }, { on := 0, ground := Ground.phase }, { on := 1, ground := Ground.phase }, { on := 2, ground := Ground.phase }, { on := 3, ground := Ground.phase }, { on := 4, ground := Ground.phase }, { on := 5, ground := Ground.phase }, { on := 6, ground := Ground.phase }, { on := 7, ground := Ground.phase }], guard := none }) rfl (fun K8 hK8 => ?_) AllReadyH.nil)
        have d0 := hX.c0
        have d1 := hX.c1
        have f0 := hX.fz 0
        have f1 := hX.fz 1
        have hX2 := Lib.hid (hX.set n1 a7 (A.length + 1) c7)
        have hV2 := Lib.hid (view_set hV hX (.string n1) (.slice a7 (A.length + 1) c7))
        have hT2 := Lib.hid (below_set hH7_7 hXge (.string n1) (.slice a7 (A.length + 1) c7))
        go_simp
        refine hK8.out _ _ hT2.out (fun hH8_8 => ?_)
        clear hK8 K8
        try simp only [Act.put, List.setIfInBounds_toArray, List.set_cons_zero, List.set_cons_succ]
        refine wpAnyH_done (by kernel_rfl) ?_ _
        clear d0 d1 f0 f1 hX hV
        go_wp2_with fail
        go_meet
        exact ⟨_, _, _, rfl, hXge, hX2.out, hV2.out, hC7', hT2.out⟩
      · go_simp
        have hO := hO.alloc (.cells #[.string ⟨#[]⟩, .slice none 0 0] 25)
        have hX : Box ((w2.drew.alloc (.cells #[.int .u8 2] 5)).alloc (.cells #[.string ⟨#[]⟩, .slice none 0 0] 25)) (w2.heap.size + 1) ⟨#[]⟩ none 0 0 := by have h := heap_alloc_new (w2.drew.alloc (.cells #[.int .u8 2] 5)) (.cells #[.string ⟨#[]⟩, .slice none 0 0] 25); simpa [Box] using h
        have hXge : w2.heap.size ≤ (w2.heap.size + 1) := by first | exact hH4_2.size | (have := hH4_2.size; simp at this; omega)
        refine hK7.out _ _ (hH4_2.alloc hH4_2.size (.cells #[.string ⟨#[]⟩, .slice none 0 0] 25)) (fun hH5_7 => ?_)
        clear hK7 K7
        try simp only [Act.put, List.setIfInBounds_toArray, List.set_cons_zero, List.set_cons_succ]
        refine wpAnyH_ready (rs := [5]) (by kernel_rfl) (by simp) (AllReadyH.cons (o := { dst := some 35, op := Op.call { callee := Callee.builtin Builtin.append, args := #[Operand.tmp 32, Operand.tmp 34], argTypes := #[23, 23] }, type := 23, pos := "outright.go:56", after := #[{ on := 2, ground := Ground.data }, { on := 4, ground := Ground.data }], guard := none }) rfl (fun K5 hK5 => ?_) AllReadyH.nil)
        refine step_append_view (K := [2]) (L := A) rfl (.tmp 32) (.tmp 34) rfl (by simp [Act.eval]) hO (by simp [Act.eval]) (HV1w2.out.below hH5_7) HN1.out (by have := HM1.out; omega) (by simp) hH5_7.size (fun a7 c7 wA hO7 hV7 hC7 hg7 => ?_)
        have hX := box_grown hO hg7 hX
        have hV : View wA a7 (A.length + 1) (2 :: A) := hV7
        have hC7' : A.length + 1 ≤ c7 := hC7
        refine hK5.out _ _ (hH5_7.grown hg7 hH5_7.size (fun k hk => (hO.lt k hk).1)) (fun hH6_5 => ?_)
        simp only [List.cons_append, List.nil_append, List.length_cons]
        clear hK5 K5
        try simp only [Act.put, List.setIfInBounds_toArray, List.set_cons_zero, List.set_cons_succ]
        refine wpAnyH_take (i := 6) (oi := { dst := some 36, op := Op.build 25 #[(0, Operand.tmp 31), (1, Operand.tmp 35)], type := 25, pos := "outright.go:56", after := #[{ on := 1, ground := Ground.data }, { on := 5, ground := Ground.data }], guard := none }) (v := .agg #[.string n1, .slice a7 (A.length + 1) c7]) rfl (by kernel_rfl) (by kernel_rfl) (by kernel_rfl) (fun _ _ _ h => h) (Or.inl ⟨by rfl, fun w hSw => by (go_simp <;> rfl)⟩) hH6_5 ?_
        try simp only [Act.put, List.setIfInBounds_toArray, List.set_cons_zero, List.set_cons_succ]
        refine wpAnyH_ready (rs := [8]) (by kernel_rfl) (by simp) (AllReadyH.cons (o := { dst := none, op := Op.store 25 (Operand.tmp 7) (Operand.tmp 36), type := 0, pos := "outright.go:56", after := #[{ on := 7, ground := Ground.data }, { on := 6, ground := Ground.data }, { on := 5, ground := Ground.chain }, { on := 0, ground := Ground.phase }, { on := 1, ground := Ground.phase }, { on := 2, ground := Ground.phase }, { on := 3, ground := Ground.phase }, { on := 4, ground := Ground.phase }, { on := 5, ground := Ground.phase }, { on := 6, ground := Ground.phase }, { on := 7, ground := Ground.phase }], guard := none }) rfl (fun K8 hK8 => ?_) AllReadyH.nil)
        have d0 := hX.c0
        have d1 := hX.c1
        have f0 := hX.fz 0
        have f1 := hX.fz 1
        have hX2 := Lib.hid (hX.set n1 a7 (A.length + 1) c7)
        have hV2 := Lib.hid (view_set hV hX (.string n1) (.slice a7 (A.length + 1) c7))
        have hT2 := Lib.hid (below_set hH6_5 hXge (.string n1) (.slice a7 (A.length + 1) c7))
        go_simp
        refine hK8.out _ _ hT2.out (fun hH8_8 => ?_)
        clear hK8 K8
        try simp only [Act.put, List.setIfInBounds_toArray, List.set_cons_zero, List.set_cons_succ]
        refine wpAnyH_done (by kernel_rfl) ?_ _
        clear d0 d1 f0 f1 hX hV
        go_wp2_with fail
        go_meet
        exact ⟨_, _, _, rfl, hXge, hX2.out, hV2.out, hC7', hT2.out⟩
    · go_simp
      have hX : Box (w2.drew.alloc (.cells #[.string ⟨#[]⟩, .slice none 0 0] 25)) w2.heap.size ⟨#[]⟩ none 0 0 := by have h := heap_alloc_new w2.drew (.cells #[.string ⟨#[]⟩, .slice none 0 0] 25); simpa [Box] using h
      have hXge : w2.heap.size ≤ w2.heap.size := by first | exact hHeld.size | (have := hHeld.size; simp at this; omega)
      refine hK7.out _ _ (hHeld.alloc hHeld.size (.cells #[.string ⟨#[]⟩, .slice none 0 0] 25)) (fun hH4_7 => ?_)
      clear hK7 K7
      try simp only [Act.put, List.setIfInBounds_toArray, List.set_cons_zero, List.set_cons_succ]
      refine wpAnyH_ready (rs := [2]) (by kernel_rfl) (by simp) (AllReadyH.cons (o := { dst := some 32, op := Op.buildSlice 23 1 #[(0, Operand.const (Value.int IntKind.u8 2))], type := 23, pos := "outright.go:56", after := #[], guard := none }) rfl (fun K2 hK2 => ?_) AllReadyH.nil)
      go_simp
      have hO := own_new (w2.drew.alloc (.cells #[.string ⟨#[]⟩, .slice none 0 0] 25)) 2 (B := w2.heap.size) hH4_7.size
      have hX := hX.up ((Below.refl _ _).alloc (Nat.le_refl _) (.cells #[.int .u8 2] 5))
      refine hK2.out _ _ (hH4_7.alloc hH4_7.size (.cells #[.int .u8 2] 5)) (fun hH5_2 => ?_)
      clear hK2 K2
      try simp only [Act.put, List.setIfInBounds_toArray, List.set_cons_zero, List.set_cons_succ]
      refine wpAnyH_ready (rs := [5]) (by kernel_rfl) (by simp) (AllReadyH.cons (o := { dst := some 35, op := Op.call { callee := Callee.builtin Builtin.append, args := #[Operand.tmp 32, Operand.tmp 34], argTypes := #[23, 23] }, type := 23, pos := "outright.go:56", after := #[{ on := 2, ground := Ground.data }, { on := 4, ground := Ground.data }], guard := none }) rfl (fun K5 hK5 => ?_) AllReadyH.nil)
      refine step_append_view (K := [2]) (L := A) rfl (.tmp 32) (.tmp 34) rfl (by simp [Act.eval]) hO (by simp [Act.eval]) (HV1w2.out.below hH5_2) HN1.out (by have := HM1.out; omega) (by simp) hH5_2.size (fun a7 c7 wA hO7 hV7 hC7 hg7 => ?_)
      have hX := box_grown hO hg7 hX
      have hV : View wA a7 (A.length + 1) (2 :: A) := hV7
      have hC7' : A.length + 1 ≤ c7 := hC7
      refine hK5.out _ _ (hH5_2.grown hg7 hH5_2.size (fun k hk => (hO.lt k hk).1)) (fun hH6_5 => ?_)
      simp only [List.cons_append, List.nil_append, List.length_cons]
      clear hK5 K5
      try simp only [Act.put, List.setIfInBounds_toArray, List.set_cons_zero, List.set_cons_succ]
      refine wpAnyH_take (i := 6) (oi := { dst := some 36, op := Op.build 25 #[(0, Operand.tmp 31), (1, Operand.tmp 35)], type := 25, pos := "outright.go:56", after := #[{ on := 1, ground := Ground.data }, { on := 5, ground := Ground.data }], guard := none }) (v := .agg #[.string n1, .slice a7 (A.length + 1) c7]) rfl (by kernel_rfl) (by kernel_rfl) (by kernel_rfl) (fun _ _ _ h => h) (Or.inl ⟨by rfl, fun w hSw => by (go_simp <;> rfl)⟩) hH6_5 ?_
      try simp only [Act.put, List.setIfInBounds_toArray, List.set_cons_zero, List.set_cons_succ]
      refine wpAnyH_ready (rs := [8]) (by kernel_rfl) (by simp) (AllReadyH.cons (o := { dst := none, op := Op.store 25 (Operand.tmp 7) (Operand.tmp 36), type := 0, pos := "outright.go:56", after := #[{ on := 7, ground := Ground.data }, { on := 6, ground := Ground.data }, { on := 5, ground := Ground.chain }, { on := 0, ground := Ground.phase }, { on := 1, ground := Ground.phase }, { on := 2, ground := Ground.phase }, { on := 3, ground := Ground.phase }, { on := 4, ground := Ground.phase }, { on := 5, ground := Ground.phase }, { on := 6, ground := Ground.phase }, { on := 7, ground := Ground.phase }], guard := none }) rfl (fun K8 hK8 => ?_) AllReadyH.nil)
      have d0 := hX.c0
      have d1 := hX.c1
      have f0 := hX.fz 0
      have f1 := hX.fz 1
      have hX2 := Lib.hid (hX.set n1 a7 (A.length + 1) c7)
      have hV2 := Lib.hid (view_set hV hX (.string n1) (.slice a7 (A.length + 1) c7))
      have hT2 := Lib.hid (below_set hH6_5 hXge (.string n1) (.slice a7 (A.length + 1) c7))
      go_simp
      refine hK8.out _ _ hT2.out (fun hH8_8 => ?_)
      clear hK8 K8
      try simp only [Act.put, List.setIfInBounds_toArray, List.set_cons_zero, List.set_cons_succ]
      refine wpAnyH_done (by kernel_rfl) ?_ _
      clear d0 d1 f0 f1 hX hV
      go_wp2_with fail
      go_meet
      exact ⟨_, _, _, rfl, hXge, hX2.out, hV2.out, hC7', hT2.out⟩
  case rest =>
  obtain ⟨gP, aP, cP, rfl, hgP, hbP, hvP, hcP, b3⟩ := hcut
  obtain ⟨w3, rfl⟩ : ∃ w3, w3 = wc := ⟨_, rfl⟩
  have HT3 := Lib.hid (HT2.out.up b3)
  have HBP := Lib.hid hbP
  have HVP := Lib.hid hvP
  have HCP := Lib.hid hcP
  have HGP : Hid (w.heap.size + 1 < gP) := Lib.hid (by have := HT2.out.le; omega)
  have HB2w3 := Lib.hid HT3.out.2.1
  have HV2w3 := Lib.hid (HV2.out.below HT3.out.2.2)
  clear b3 hbP hvP hcP hgP HB1 HV1w2
  go_upto_region 6 with fail
  go_cut [8] (fun s8 wx => ∃ (g : Nat) (a' : Option Addr) (c' : Nat), s8 = .pointer (some ⟨g, 0, none⟩) ∧ w3.heap.size ≤ g ∧ Box wx g n2 a' (B.length + 1) c' ∧ View wx a' (B.length + 1) (2 :: B) ∧ B.length + 1 ≤ c' ∧ Below w3.heap.size w3 wx)
  case first =>
    refine wp_region_held_drew (S := fun W => Below w3.heap.size w3 W) (by kernel_rfl) (Below.refl _ _).drew (fun hHeld => ?_)
    refine wpAnyH_take (i := 0) (oi := { dst := some 37, op := Op.fieldAddr 25 (Operand.tmp 3) 0, type := 0, pos := "outright.go:57", after := #[], guard := none }) (v := .pointer (some ⟨w.heap.size + 1, 0, none⟩)) rfl (by kernel_rfl) (by kernel_rfl) (by kernel_rfl) (fun _ _ _ h => h) (Or.inl ⟨by rfl, fun w hSw => by (go_simp <;> rfl)⟩) hHeld ?_
    try simp only [Act.put, List.setIfInBounds_toArray, List.set_cons_zero, List.set_cons_succ]
    refine wpAnyH_take (i := 1) (oi := { dst := some 38, op := Op.load 9 (Operand.tmp 37), type := 9, pos := "outright.go:57", after := #[{ on := 0, ground := Ground.data }], guard := none }) (v := .string n2) rfl (by kernel_rfl) (by kernel_rfl) (by kernel_rfl) (fun _ _ _ h => h) (Or.inl ⟨by rfl, fun w hSw => by (have g0 := (HB2w3.out.up hSw).c0; go_simp <;> rfl)⟩) hHeld ?_
    try simp only [Act.put, List.setIfInBounds_toArray, List.set_cons_zero, List.set_cons_succ]
    refine wpAnyH_take (i := 3) (oi := { dst := some 40, op := Op.fieldAddr 25 (Operand.tmp 3) 1, type := 0, pos := "outright.go:57", after := #[], guard := none }) (v := .pointer (some ⟨w.heap.size + 1, 1, none⟩)) rfl (by kernel_rfl) (by kernel_rfl) (by kernel_rfl) (fun _ _ _ h => h) (Or.inl ⟨by rfl, fun w hSw => by (go_simp <;> rfl)⟩) hHeld ?_
    try simp only [Act.put, List.setIfInBounds_toArray, List.set_cons_zero, List.set_cons_succ]
    refine wpAnyH_take (i := 4) (oi := { dst := some 41, op := Op.load 23 (Operand.tmp 40), type := 23, pos := "outright.go:57", after := #[{ on := 3, ground := Ground.data }], guard := none }) (v := .slice p2 m2 q2) rfl (by kernel_rfl) (by kernel_rfl) (by kernel_rfl) (fun _ _ _ h => h) (Or.inl ⟨by rfl, fun w hSw => by (have g1 := (HB2w3.out.up hSw).c1; go_simp <;> rfl)⟩) hHeld ?_
    try simp only [Act.put, List.setIfInBounds_toArray, List.set_cons_zero, List.set_cons_succ]
    refine wpAnyH_ready (rs := [2, 7]) (by kernel_rfl) (by simp) (AllReadyH.cons (o := { dst := some 39, op := Op.buildSlice 23 1 #[(0, Operand.const (Value.int IntKind.u8 2))], type := 23, pos := "outright.go:57", after := #[], guard := none }) rfl (fun K2 hK2 => ?_) (AllReadyH.cons (o := { dst := some 8, op := Op.alloc 25, type := 0, pos := "outright.go:57", after := #[], guard := none }) rfl (fun K7 hK7 => ?_) AllReadyH.nil))
    · go_simp
      have hO := own_new w3.drew 2 (B := w3.heap.size) hHeld.size
      refine hK2.out _ _ (hHeld.alloc hHeld.size (.cells #[.int .u8 2] 5)) (fun hH4_2 => ?_)
      clear hK2 K2
      try simp only [Act.put, List.setIfInBounds_toArray, List.set_cons_zero, List.set_cons_succ]
      refine wpAnyH_ready (rs := [5, 7]) (by kernel_rfl) (by simp) (AllReadyH.cons (o := { dst := some 42, op := Op.call { callee := Callee.builtin Builtin.append, args := #[Operand.tmp 39, Operand.tmp 41], argTypes := #[23, 23] }, type := 23, pos := "outright.go:57", after := #[{ on := 2, ground := Ground.data }, { on := 4, ground := Ground.data }], guard := none }) rfl (fun K5 hK5 => ?_) (AllReadyH.cons (o := { dst := some 8, op := Op.alloc 25, type := 0, pos := "outright.go:57", after := #[], guard := none }) rfl (fun K7 hK7 => ?_) AllReadyH.nil))
      · refine step_append_view (K := [2]) (L := B) rfl (.tmp 39) (.tmp 41) rfl (by simp [Act.eval]) hO (by simp [Act.eval]) (HV2w3.out.below hH4_2) HN2.out (by have := HM2.out; omega) (by simp) hH4_2.size (fun a7 c7 wA hO7 hV7 hC7 hg7 => ?_)
        have hV : View wA a7 (B.length + 1) (2 :: B) := hV7
        have hC7' : B.length + 1 ≤ c7 := hC7
        refine hK5.out _ _ (hH4_2.grown hg7 hH4_2.size (fun k hk => (hO.lt k hk).1)) (fun hH5_5 => ?_)
        simp only [List.cons_append, List.nil_append, List.length_cons]
        clear hK5 K5
        try simp only [Act.put, List.setIfInBounds_toArray, List.set_cons_zero, List.set_cons_succ]
        refine wpAnyH_take (i := 6) (oi := { dst := some 43, op := Op.build 25 #[(0, Operand.tmp 38), (1, Operand.tmp 42)], type := 25, pos := "outright.go:57", after := #[{ on := 1, ground := Ground.data }, { on := 5, ground := Ground.data }], guard := none }) (v := .agg #[.string n2, .slice a7 (B.length + 1) c7]) rfl (by kernel_rfl) (by kernel_rfl) (by kernel_rfl) (fun _ _ _ h => h) (Or.inl ⟨by rfl, fun w hSw => by (go_simp <;> rfl)⟩) hH5_5 ?_
        try simp only [Act.put, List.setIfInBounds_toArray, List.set_cons_zero, List.set_cons_succ]
        refine wpAnyH_ready (rs := [7]) (by kernel_rfl) (by simp) (AllReadyH.cons (o := { dst := some 8, op := Op.alloc 25, type := 0, pos := "outright.go:57", after := #[], guard := none }) rfl (fun K7 hK7 => ?_) AllReadyH.nil)
        go_simp
        have hV := hV.below ((Below.refl _ _).alloc (Nat.le_refl _) (.cells #[.string ⟨#[]⟩, .slice none 0 0] 25))
        have hX : Box (wA.alloc (.cells #[.string ⟨#[]⟩, .slice none 0 0] 25)) wA.heap.size ⟨#[]⟩ none 0 0 := by have h := heap_alloc_new wA (.cells #[.string ⟨#[]⟩, .slice none 0 0] 25); simpa [Box] using h
        have hXge : w3.heap.size ≤ wA.heap.size := by first | exact hH5_5.size | (have := hH5_5.size; simp at this; omega)
        refine hK7.out _ _ (hH5_5.alloc hH5_5.size (.cells #[.string ⟨#[]⟩, .slice none 0 0] 25)) (fun hH7_7 => ?_)
        obtain ⟨W7, hW7⟩ : ∃ W, W = wA.alloc (.cells #[.string ⟨#[]⟩, .slice none 0 0] 25) := ⟨_, rfl⟩
        rw [← hW7] at hV hX hH7_7 ⊢
        clear hW7
        clear hK7 K7
        try simp only [Act.put, List.setIfInBounds_toArray, List.set_cons_zero, List.set_cons_succ]
        refine wpAnyH_ready (rs := [8]) (by kernel_rfl) (by simp) (AllReadyH.cons (o := { dst := none, op := Op.store 25 (Operand.tmp 8) (Operand.tmp 43), type := 0, pos := "outright.go:57", after := #[{ on := 7, ground := Ground.data }, { on := 6, ground := Ground.data }, { on := 5, ground := Ground.chain }, { on := 0, ground := Ground.phase }, { on := 1, ground := Ground.phase }, { on := 2, ground := Ground.phase }, { on := 3, ground := Ground.phase }, { on := 4, ground := Ground.phase }, { on := 5, ground := Ground.phase }, { on := 6, ground := Ground.phase }, { on := 7, ground := Ground.phase }], guard := none }) rfl (fun K8 hK8 => ?_) AllReadyH.nil)
        have d0 := hX.c0
        have d1 := hX.c1
        have f0 := hX.fz 0
        have f1 := hX.fz 1
        have hX2 := Lib.hid (hX.set n2 a7 (B.length + 1) c7)
        have hV2 := Lib.hid (view_set hV hX (.string n2) (.slice a7 (B.length + 1) c7))
        have hT2 := Lib.hid (below_set hH7_7 hXge (.string n2) (.slice a7 (B.length + 1) c7))
        go_simp
        refine hK8.out _ _ hT2.out (fun hH8_8 => ?_)
        clear hK8 K8
        try simp only [Act.put, List.setIfInBounds_toArray, List.set_cons_zero, List.set_cons_succ]
        refine wpAnyH_done (by kernel_rfl) ?_ _
        clear d0 d1 f0 f1 hX hV
        go_wp2_with fail
        go_meet
        exact ⟨_, _, _, rfl, hXge, hX2.out, hV2.out, hC7', hT2.out⟩
      · go_simp
        have hO := hO.alloc (.cells #[.string ⟨#[]⟩, .slice none 0 0] 25)
        have hX : Box ((w3.drew.alloc (.cells #[.int .u8 2] 5)).alloc (.cells #[.string ⟨#[]⟩, .slice none 0 0] 25)) (w3.heap.size + 1) ⟨#[]⟩ none 0 0 := by have h := heap_alloc_new (w3.drew.alloc (.cells #[.int .u8 2] 5)) (.cells #[.string ⟨#[]⟩, .slice none 0 0] 25); simpa [Box] using h
        have hXge : w3.heap.size ≤ (w3.heap.size + 1) := by first | exact hH4_2.size | (have := hH4_2.size; simp at this; omega)
        refine hK7.out _ _ (hH4_2.alloc hH4_2.size (.cells #[.string ⟨#[]⟩, .slice none 0 0] 25)) (fun hH5_7 => ?_)
        clear hK7 K7
        try simp only [Act.put, List.setIfInBounds_toArray, List.set_cons_zero, List.set_cons_succ]
        refine wpAnyH_ready (rs := [5]) (by kernel_rfl) (by simp) (AllReadyH.cons (o := { dst := some 42, op := Op.call { callee := Callee.builtin Builtin.append, args := #[Operand.tmp 39, Operand.tmp 41], argTypes := #[23, 23] }, type := 23, pos := "outright.go:57", after := #[{ on := 2, ground := Ground.data }, { on := 4, ground := Ground.data }], guard := none }) rfl (fun K5 hK5 => ?_) AllReadyH.nil)
        refine step_append_view (K := [2]) (L := B) rfl (.tmp 39) (.tmp 41) rfl (by simp [Act.eval]) hO (by simp [Act.eval]) (HV2w3.out.below hH5_7) HN2.out (by have := HM2.out; omega) (by simp) hH5_7.size (fun a7 c7 wA hO7 hV7 hC7 hg7 => ?_)
        have hX := box_grown hO hg7 hX
        have hV : View wA a7 (B.length + 1) (2 :: B) := hV7
        have hC7' : B.length + 1 ≤ c7 := hC7
        refine hK5.out _ _ (hH5_7.grown hg7 hH5_7.size (fun k hk => (hO.lt k hk).1)) (fun hH6_5 => ?_)
        simp only [List.cons_append, List.nil_append, List.length_cons]
        clear hK5 K5
        try simp only [Act.put, List.setIfInBounds_toArray, List.set_cons_zero, List.set_cons_succ]
        refine wpAnyH_take (i := 6) (oi := { dst := some 43, op := Op.build 25 #[(0, Operand.tmp 38), (1, Operand.tmp 42)], type := 25, pos := "outright.go:57", after := #[{ on := 1, ground := Ground.data }, { on := 5, ground := Ground.data }], guard := none }) (v := .agg #[.string n2, .slice a7 (B.length + 1) c7]) rfl (by kernel_rfl) (by kernel_rfl) (by kernel_rfl) (fun _ _ _ h => h) (Or.inl ⟨by rfl, fun w hSw => by (go_simp <;> rfl)⟩) hH6_5 ?_
        try simp only [Act.put, List.setIfInBounds_toArray, List.set_cons_zero, List.set_cons_succ]
        refine wpAnyH_ready (rs := [8]) (by kernel_rfl) (by simp) (AllReadyH.cons (o := { dst := none, op := Op.store 25 (Operand.tmp 8) (Operand.tmp 43), type := 0, pos := "outright.go:57", after := #[{ on := 7, ground := Ground.data }, { on := 6, ground := Ground.data }, { on := 5, ground := Ground.chain }, { on := 0, ground := Ground.phase }, { on := 1, ground := Ground.phase }, { on := 2, ground := Ground.phase }, { on := 3, ground := Ground.phase }, { on := 4, ground := Ground.phase }, { on := 5, ground := Ground.phase }, { on := 6, ground := Ground.phase }, { on := 7, ground := Ground.phase }], guard := none }) rfl (fun K8 hK8 => ?_) AllReadyH.nil)
        have d0 := hX.c0
        have d1 := hX.c1
        have f0 := hX.fz 0
        have f1 := hX.fz 1
        have hX2 := Lib.hid (hX.set n2 a7 (B.length + 1) c7)
        have hV2 := Lib.hid (view_set hV hX (.string n2) (.slice a7 (B.length + 1) c7))
        have hT2 := Lib.hid (below_set hH6_5 hXge (.string n2) (.slice a7 (B.length + 1) c7))
        go_simp
        refine hK8.out _ _ hT2.out (fun hH8_8 => ?_)
        clear hK8 K8
        try simp only [Act.put, List.setIfInBounds_toArray, List.set_cons_zero, List.set_cons_succ]
        refine wpAnyH_done (by kernel_rfl) ?_ _
        clear d0 d1 f0 f1 hX hV
        go_wp2_with fail
        go_meet
        exact ⟨_, _, _, rfl, hXge, hX2.out, hV2.out, hC7', hT2.out⟩
    · go_simp
      have hX : Box (w3.drew.alloc (.cells #[.string ⟨#[]⟩, .slice none 0 0] 25)) w3.heap.size ⟨#[]⟩ none 0 0 := by have h := heap_alloc_new w3.drew (.cells #[.string ⟨#[]⟩, .slice none 0 0] 25); simpa [Box] using h
      have hXge : w3.heap.size ≤ w3.heap.size := by first | exact hHeld.size | (have := hHeld.size; simp at this; omega)
      refine hK7.out _ _ (hHeld.alloc hHeld.size (.cells #[.string ⟨#[]⟩, .slice none 0 0] 25)) (fun hH4_7 => ?_)
      clear hK7 K7
      try simp only [Act.put, List.setIfInBounds_toArray, List.set_cons_zero, List.set_cons_succ]
      refine wpAnyH_ready (rs := [2]) (by kernel_rfl) (by simp) (AllReadyH.cons (o := { dst := some 39, op := Op.buildSlice 23 1 #[(0, Operand.const (Value.int IntKind.u8 2))], type := 23, pos := "outright.go:57", after := #[], guard := none }) rfl (fun K2 hK2 => ?_) AllReadyH.nil)
      go_simp
      have hO := own_new (w3.drew.alloc (.cells #[.string ⟨#[]⟩, .slice none 0 0] 25)) 2 (B := w3.heap.size) hH4_7.size
      have hX := hX.up ((Below.refl _ _).alloc (Nat.le_refl _) (.cells #[.int .u8 2] 5))
      refine hK2.out _ _ (hH4_7.alloc hH4_7.size (.cells #[.int .u8 2] 5)) (fun hH5_2 => ?_)
      clear hK2 K2
      try simp only [Act.put, List.setIfInBounds_toArray, List.set_cons_zero, List.set_cons_succ]
      refine wpAnyH_ready (rs := [5]) (by kernel_rfl) (by simp) (AllReadyH.cons (o := { dst := some 42, op := Op.call { callee := Callee.builtin Builtin.append, args := #[Operand.tmp 39, Operand.tmp 41], argTypes := #[23, 23] }, type := 23, pos := "outright.go:57", after := #[{ on := 2, ground := Ground.data }, { on := 4, ground := Ground.data }], guard := none }) rfl (fun K5 hK5 => ?_) AllReadyH.nil)
      refine step_append_view (K := [2]) (L := B) rfl (.tmp 39) (.tmp 41) rfl (by simp [Act.eval]) hO (by simp [Act.eval]) (HV2w3.out.below hH5_2) HN2.out (by have := HM2.out; omega) (by simp) hH5_2.size (fun a7 c7 wA hO7 hV7 hC7 hg7 => ?_)
      have hX := box_grown hO hg7 hX
      have hV : View wA a7 (B.length + 1) (2 :: B) := hV7
      have hC7' : B.length + 1 ≤ c7 := hC7
      refine hK5.out _ _ (hH5_2.grown hg7 hH5_2.size (fun k hk => (hO.lt k hk).1)) (fun hH6_5 => ?_)
      simp only [List.cons_append, List.nil_append, List.length_cons]
      clear hK5 K5
      try simp only [Act.put, List.setIfInBounds_toArray, List.set_cons_zero, List.set_cons_succ]
      refine wpAnyH_take (i := 6) (oi := { dst := some 43, op := Op.build 25 #[(0, Operand.tmp 38), (1, Operand.tmp 42)], type := 25, pos := "outright.go:57", after := #[{ on := 1, ground := Ground.data }, { on := 5, ground := Ground.data }], guard := none }) (v := .agg #[.string n2, .slice a7 (B.length + 1) c7]) rfl (by kernel_rfl) (by kernel_rfl) (by kernel_rfl) (fun _ _ _ h => h) (Or.inl ⟨by rfl, fun w hSw => by (go_simp <;> rfl)⟩) hH6_5 ?_
      try simp only [Act.put, List.setIfInBounds_toArray, List.set_cons_zero, List.set_cons_succ]
      refine wpAnyH_ready (rs := [8]) (by kernel_rfl) (by simp) (AllReadyH.cons (o := { dst := none, op := Op.store 25 (Operand.tmp 8) (Operand.tmp 43), type := 0, pos := "outright.go:57", after := #[{ on := 7, ground := Ground.data }, { on := 6, ground := Ground.data }, { on := 5, ground := Ground.chain }, { on := 0, ground := Ground.phase }, { on := 1, ground := Ground.phase }, { on := 2, ground := Ground.phase }, { on := 3, ground := Ground.phase }, { on := 4, ground := Ground.phase }, { on := 5, ground := Ground.phase }, { on := 6, ground := Ground.phase }, { on := 7, ground := Ground.phase }], guard := none }) rfl (fun K8 hK8 => ?_) AllReadyH.nil)
      have d0 := hX.c0
      have d1 := hX.c1
      have f0 := hX.fz 0
      have f1 := hX.fz 1
      have hX2 := Lib.hid (hX.set n2 a7 (B.length + 1) c7)
      have hV2 := Lib.hid (view_set hV hX (.string n2) (.slice a7 (B.length + 1) c7))
      have hT2 := Lib.hid (below_set hH6_5 hXge (.string n2) (.slice a7 (B.length + 1) c7))
      go_simp
      refine hK8.out _ _ hT2.out (fun hH8_8 => ?_)
      clear hK8 K8
      try simp only [Act.put, List.setIfInBounds_toArray, List.set_cons_zero, List.set_cons_succ]
      refine wpAnyH_done (by kernel_rfl) ?_ _
      clear d0 d1 f0 f1 hX hV
      go_wp2_with fail
      go_meet
      exact ⟨_, _, _, rfl, hXge, hX2.out, hV2.out, hC7', hT2.out⟩
  case rest =>
  obtain ⟨gQ, aQ, cQ, rfl, hgQ, hbQ, hvQ, hcQ, b4⟩ := hcut
  obtain ⟨w4, rfl⟩ : ∃ w4, w4 = wc := ⟨_, rfl⟩
  have HT4 := Lib.hid (HT3.out.up b4)
  have HBP4 := Lib.hid (HBP.out.up b4)
  have HVP4 := Lib.hid (HVP.out.below b4)
  have HGQ : Hid (gP < gQ) := Lib.hid (by have := HBP.out.lt; omega)
  have HBQ4 := Lib.hid hbQ
  have HVQ4 := Lib.hid hvQ
  have HCQ := Lib.hid hcQ
  clear b4 hbQ hvQ hcQ hgQ
  have hbp := HBP4.out
  have e0 := hbp.c0
  have e1 := hbp.c1
  clear hbp
  go_wp2_with fail
  refine (Item_any n1 aP (A.length + 1) cP (2 :: A) _ HVP4.out HCP.out (by have := HV1.out.1; have := HM1.out; omega)).mono ?_
  rintro e w5 ⟨v5, rfl, hr5, b5⟩
  rw [(item_two (nm := n1)).1]
  rw [item_two.2.1, (item_two (nm := n1)).2.2] at hr5
  obtain ⟨aX, lX, cX, rfl, hvX, hcX⟩ := hr5
  have HT5 := Lib.hid (HT4.out.up b5)
  have HBP5 := Lib.hid (HBP4.out.up b5)
  have HVP5 := Lib.hid (HVP4.out.below b5)
  have HBQ5 := Lib.hid (HBQ4.out.up b5)
  have HVQ5 := Lib.hid (HVQ4.out.below b5)
  have HVX := Lib.hid hvX
  clear b5 hvX hcX e0 e1
  unfold refV
  go_wp2_with fail
  obtain ⟨w6, hw6⟩ : ∃ W, W = w5.alloc (.cells #[.string n1, .slice aX lX cX] 25) := ⟨_, rfl⟩
  have b6 : Below w5.heap.size w5 w6 := by rw [hw6]; exact (Below.refl _ _).alloc (Nat.le_refl _) _
  have hbx : Box w6 w5.heap.size n1 aX lX cX := by rw [hw6]; exact heap_alloc_new _ _
  rw [← hw6]
  obtain ⟨gX, hgX⟩ : ∃ g, g = w5.heap.size := ⟨_, rfl⟩
  have HT6 := Lib.hid (HT5.out.up b6)
  have HBP6 := Lib.hid (HBP5.out.up b6)
  have HVP6 := Lib.hid (HVP5.out.below b6)
  have HBQ6 := Lib.hid (HBQ5.out.up b6)
  have HVQ6 := Lib.hid (HVQ5.out.below b6)
  have HVX6 := Lib.hid (HVX.out.below b6)
  rw [← hgX] at hbx ⊢
  have HBX6 := Lib.hid hbx
  have HBA6 := Lib.hid HT6.out.1
  have HV16 := Lib.hid (HV1.out.below HT6.out.2.2)
  have HFT : Hid (fits n1 (2 :: A) n2 (2 :: B) = f) := Lib.hid (by rw [HF.out, fits_eq, fits_eq, fit_two])
  have HRP : Hid (∀ x ∈ (2 :: A), 0 ≤ x ∧ x < 256) := Lib.hid (by
    intro x hx
    rcases List.mem_cons.1 hx with rfl | hx
    · omega
    · exact HR1.out x hx)
  clear hw6 b6 hbx hgX
  refine wp_region_held_drew (S := fun W => Below w6.heap.size w6 W) (by kernel_rfl) (Below.refl _ _).drew (fun hHeld => ?_)
  refine wpAnyH_take (i := 0) (oi := { dst := some 49, op := Op.load 25 (Operand.tmp 7), type := 25, pos := "outright.go:59", after := #[], guard := none }) (v := .agg #[.string n1, .slice aP (A.length + 1) cP]) rfl (by kernel_rfl) (by kernel_rfl) (by kernel_rfl) (fun _ _ _ h => h) (Or.inl ⟨by rfl, fun w hSw => by (have g0 := (HBP6.out.up hSw).c0; have g1 := (HBP6.out.up hSw).c1; go_simp <;> rfl)⟩) hHeld ?_
  try simp only [Act.put, List.setIfInBounds_toArray, List.set_cons_zero, List.set_cons_succ]
  refine wpAnyH_take (i := 1) (oi := { dst := some 50, op := Op.load 25 (Operand.tmp 8), type := 25, pos := "outright.go:59", after := #[], guard := none }) (v := .agg #[.string n2, .slice aQ (B.length + 1) cQ]) rfl (by kernel_rfl) (by kernel_rfl) (by kernel_rfl) (fun _ _ _ h => h) (Or.inl ⟨by rfl, fun w hSw => by (have g0 := (HBQ6.out.up hSw).c0; have g1 := (HBQ6.out.up hSw).c1; go_simp <;> rfl)⟩) hHeld ?_
  try simp only [Act.put, List.setIfInBounds_toArray, List.set_cons_zero, List.set_cons_succ]
  refine wpAnyH_take (i := 3) (oi := { dst := some 52, op := Op.move (Operand.tmp 6), type := 4, pos := "outright.go:59", after := #[], guard := none }) (v := .bool f) rfl (by kernel_rfl) (by kernel_rfl) (by kernel_rfl) (fun _ _ _ h => h) (Or.inl ⟨by rfl, fun w hSw => by (go_simp <;> rfl)⟩) hHeld ?_
  try simp only [Act.put, List.setIfInBounds_toArray, List.set_cons_zero, List.set_cons_succ]
  refine wpAnyH_ready (rs := [2]) (by kernel_rfl) (by simp) (AllReadyH.cons (o := { dst := some 51, op := Op.call { callee := Callee.value (Operand.func 17), args := #[Operand.tmp 49, Operand.tmp 50], argTypes := #[25, 25] }, type := 4, pos := "outright.go:59", after := #[{ on := 0, ground := Ground.data }, { on := 1, ground := Ground.data }], guard := none }) rfl (fun K2 hK2 => ?_) AllReadyH.nil)
  go_simp
  refine (fits_any n1 n2 aP aQ (A.length + 1) cP (B.length + 1) cQ (2 :: A) (2 :: B) _ (HVP6.out.below hHeld) (HVQ6.out.below hHeld) HCP.out HCQ.out).mono ?_
  rintro e wh ⟨rfl, bwh⟩
  rw [HFT.out]
  refine hK2.out _ _ (hHeld.trans (bwh.mono hHeld.size)) (fun hH3_2 => ?_)
  clear bwh
  clear hK2 K2
  try simp only [Act.put, List.setIfInBounds_toArray, List.set_cons_zero, List.set_cons_succ]
  refine wpAnyH_take (i := 4) (oi := { dst := some 53, op := Op.binOp BinOp.neq 4 (Operand.tmp 51) (Operand.tmp 52) 4, type := 4, pos := "outright.go:59", after := #[{ on := 2, ground := Ground.data }, { on := 3, ground := Ground.data }], guard := none }) (v := .bool false) rfl (by kernel_rfl) (by kernel_rfl) (by kernel_rfl) (fun _ _ _ h => h) (Or.inl ⟨by rfl, fun w hSw => by (go_simp <;> rfl)⟩) hH3_2 ?_
  try simp only [Act.put, List.setIfInBounds_toArray, List.set_cons_zero, List.set_cons_succ]
  refine wpAnyH_take (i := 5) (oi := { dst := some 54, op := Op.move (Operand.tmp 53), type := 4, pos := "outright.go:59", after := #[{ on := 4, ground := Ground.data }, { on := 2, ground := Ground.chain }], guard := none }) (v := .bool false) rfl (by kernel_rfl) (by kernel_rfl) (by kernel_rfl) (fun _ _ _ h => h) (Or.inl ⟨by rfl, fun w hSw => by (go_simp <;> rfl)⟩) hH3_2 ?_
  try simp only [Act.put, List.setIfInBounds_toArray, List.set_cons_zero, List.set_cons_succ]
  refine wpAnyH_take (i := 6) (oi := { dst := some 55, op := Op.move (Operand.tmp 10), type := 4, pos := "outright.go:59", after := #[{ on := 5, ground := Ground.guard }], guard := some (5, false) }) (v := .bool true) rfl (by kernel_rfl) (by kernel_rfl) (by kernel_rfl) (fun _ _ _ h => h) (Or.inl ⟨by rfl, fun w hSw => by (go_simp <;> rfl)⟩) hH3_2 ?_
  try simp only [Act.put, List.setIfInBounds_toArray, List.set_cons_zero, List.set_cons_succ]
  refine wpAnyH_take (i := 7) (oi := { dst := some 56, op := Op.unOp UnOp.not 4 (Operand.tmp 55), type := 4, pos := "outright.go:59", after := #[{ on := 6, ground := Ground.data }, { on := 5, ground := Ground.guard }], guard := some (5, false) }) (v := .bool false) rfl (by kernel_rfl) (by kernel_rfl) (by kernel_rfl) (fun _ _ _ h => h) (Or.inl ⟨by rfl, fun w hSw => by (go_simp <;> rfl)⟩) hH3_2 ?_
  try simp only [Act.put, List.setIfInBounds_toArray, List.set_cons_zero, List.set_cons_succ]
  refine wpAnyH_take (i := 8) (oi := { dst := some 57, op := Op.pick (Operand.tmp 54) (Operand.const (Value.bool true)) (Operand.tmp 56), type := 4, pos := "outright.go:59", after := #[{ on := 5, ground := Ground.data }, { on := 7, ground := Ground.data }], guard := none }) (v := .bool false) rfl (by kernel_rfl) (by kernel_rfl) (by kernel_rfl) (fun _ _ _ h => h) (Or.inl ⟨by rfl, fun w hSw => by (go_simp <;> rfl)⟩) hH3_2 ?_
  try simp only [Act.put, List.setIfInBounds_toArray, List.set_cons_zero, List.set_cons_succ]
  refine wpAnyH_take (i := 9) (oi := { dst := some 58, op := Op.move (Operand.tmp 57), type := 4, pos := "outright.go:59", after := #[{ on := 8, ground := Ground.data }, { on := 5, ground := Ground.chain }], guard := none }) (v := .bool false) rfl (by kernel_rfl) (by kernel_rfl) (by kernel_rfl) (fun _ _ _ h => h) (Or.inl ⟨by rfl, fun w hSw => by (go_simp <;> rfl)⟩) hH3_2 ?_
  try simp only [Act.put, List.setIfInBounds_toArray, List.set_cons_zero, List.set_cons_succ]
  refine wpAnyH_take (i := 10) (oi := { dst := some 59, op := Op.load 25 (Operand.tmp 9), type := 25, pos := "outright.go:59", after := #[{ on := 9, ground := Ground.guard }], guard := some (9, false) }) (v := .agg #[.string n1, .slice aX lX cX]) rfl (by kernel_rfl) (by kernel_rfl) (by kernel_rfl) (fun _ _ _ h => h) (Or.inl ⟨by rfl, fun w hSw => by (have g0 := (HBX6.out.up hSw).c0; have g1 := (HBX6.out.up hSw).c1; go_simp <;> rfl)⟩) hH3_2 ?_
  try simp only [Act.put, List.setIfInBounds_toArray, List.set_cons_zero, List.set_cons_succ]
  refine wpAnyH_take (i := 11) (oi := { dst := some 60, op := Op.load 25 (Operand.tmp 2), type := 25, pos := "outright.go:59", after := #[{ on := 9, ground := Ground.guard }], guard := some (9, false) }) (v := .agg #[.string n1, .slice p1 m1 q1]) rfl (by kernel_rfl) (by kernel_rfl) (by kernel_rfl) (fun _ _ _ h => h) (Or.inl ⟨by rfl, fun w hSw => by (have g0 := (HBA6.out.up hSw).c0; have g1 := (HBA6.out.up hSw).c1; go_simp <;> rfl)⟩) hH3_2 ?_
  try simp only [Act.put, List.setIfInBounds_toArray, List.set_cons_zero, List.set_cons_succ]
  refine wpAnyH_ready (rs := [12]) (by kernel_rfl) (by simp) (AllReadyH.cons (o := { dst := some 61, op := Op.call { callee := Callee.value (Operand.func 15), args := #[Operand.tmp 59, Operand.tmp 60], argTypes := #[25, 25] }, type := 4, pos := "outright.go:59", after := #[{ on := 10, ground := Ground.data }, { on := 11, ground := Ground.data }, { on := 9, ground := Ground.chain }, { on := 9, ground := Ground.guard }], guard := some (9, false) }) rfl (fun K12 hK12 => ?_) AllReadyH.nil)
  go_simp
  refine (same_any n1 aX p1 lX cX m1 q1 A _ (HVX6.out.below hH3_2) (HV16.out.below hH3_2) HR1.out).mono ?_
  rintro e wi ⟨rfl, bwi⟩
  refine hK12.out _ _ (hH3_2.trans (bwi.mono hH3_2.size)) (fun hH12_12 => ?_)
  clear bwi
  clear hK12 K12
  try simp only [Act.put, List.setIfInBounds_toArray, List.set_cons_zero, List.set_cons_succ]
  refine wpAnyH_take (i := 13) (oi := { dst := some 62, op := Op.unOp UnOp.not 4 (Operand.tmp 61), type := 4, pos := "outright.go:59", after := #[{ on := 12, ground := Ground.data }, { on := 9, ground := Ground.guard }], guard := some (9, false) }) (v := .bool false) rfl (by kernel_rfl) (by kernel_rfl) (by kernel_rfl) (fun _ _ _ h => h) (Or.inl ⟨by rfl, fun w hSw => by (go_simp <;> rfl)⟩) hH12_12 ?_
  try simp only [Act.put, List.setIfInBounds_toArray, List.set_cons_zero, List.set_cons_succ]
  refine wpAnyH_take (i := 14) (oi := { dst := some 63, op := Op.pick (Operand.tmp 58) (Operand.const (Value.bool true)) (Operand.tmp 62), type := 4, pos := "outright.go:59", after := #[{ on := 9, ground := Ground.data }, { on := 13, ground := Ground.data }], guard := none }) (v := .bool false) rfl (by kernel_rfl) (by kernel_rfl) (by kernel_rfl) (fun _ _ _ h => h) (Or.inl ⟨by rfl, fun w hSw => by (go_simp <;> rfl)⟩) hH12_12 ?_
  try simp only [Act.put, List.setIfInBounds_toArray, List.set_cons_zero, List.set_cons_succ]
  refine wpAnyH_take (i := 15) (oi := { dst := some 64, op := Op.move (Operand.tmp 63), type := 4, pos := "outright.go:59", after := #[{ on := 14, ground := Ground.data }, { on := 12, ground := Ground.chain }], guard := none }) (v := .bool false) rfl (by kernel_rfl) (by kernel_rfl) (by kernel_rfl) (fun _ _ _ h => h) (Or.inl ⟨by rfl, fun w hSw => by (go_simp <;> rfl)⟩) hH12_12 ?_
  try simp only [Act.put, List.setIfInBounds_toArray, List.set_cons_zero, List.set_cons_succ]
  refine wpAnyH_take (i := 16) (oi := { dst := some 65, op := Op.load 25 (Operand.tmp 7), type := 25, pos := "outright.go:59", after := #[{ on := 15, ground := Ground.guard }], guard := some (15, false) }) (v := .agg #[.string n1, .slice aP (A.length + 1) cP]) rfl (by kernel_rfl) (by kernel_rfl) (by kernel_rfl) (fun _ _ _ h => h) (Or.inl ⟨by rfl, fun w hSw => by (have g0 := (HBP6.out.up hSw).c0; have g1 := (HBP6.out.up hSw).c1; go_simp <;> rfl)⟩) hH12_12 ?_
  try simp only [Act.put, List.setIfInBounds_toArray, List.set_cons_zero, List.set_cons_succ]
  refine wpAnyH_take (i := 18) (oi := { dst := some 67, op := Op.load 25 (Operand.tmp 7), type := 25, pos := "outright.go:59", after := #[{ on := 15, ground := Ground.guard }], guard := some (15, false) }) (v := .agg #[.string n1, .slice aP (A.length + 1) cP]) rfl (by kernel_rfl) (by kernel_rfl) (by kernel_rfl) (fun _ _ _ h => h) (Or.inl ⟨by rfl, fun w hSw => by (have g0 := (HBP6.out.up hSw).c0; have g1 := (HBP6.out.up hSw).c1; go_simp <;> rfl)⟩) hH12_12 ?_
  try simp only [Act.put, List.setIfInBounds_toArray, List.set_cons_zero, List.set_cons_succ]
  refine wpAnyH_ready (rs := [17]) (by kernel_rfl) (by simp) (AllReadyH.cons (o := { dst := some 66, op := Op.call { callee := Callee.value (Operand.func 14), args := #[Operand.tmp 65], argTypes := #[25] }, type := 25, pos := "outright.go:59", after := #[{ on := 16, ground := Ground.data }, { on := 15, ground := Ground.chain }, { on := 15, ground := Ground.guard }], guard := some (15, false) }) rfl (fun K17 hK17 => ?_) AllReadyH.nil)
  go_simp
  refine (Bare_any n1 aP (A.length + 1) cP (2 :: A) _ (HVP6.out.below hH12_12) HCP.out (by have := HV1.out.1; have := HM1.out; omega)).mono ?_
  rintro e wj ⟨vj, rfl, hrj, bwj⟩
  rw [bare_two] at hrj
  obtain ⟨aB, lB, cB, rfl, hvB, hcB⟩ := hrj
  have HVB := Lib.hid hvB
  clear hvB hcB
  unfold refV
  refine hK17.out _ _ (hH12_12.trans (bwj.mono hH12_12.size)) (fun hH18_17 => ?_)
  clear bwj
  clear hK17 K17
  try simp only [Act.put, List.setIfInBounds_toArray, List.set_cons_zero, List.set_cons_succ]
  refine wpAnyH_ready (rs := [19]) (by kernel_rfl) (by simp) (AllReadyH.cons (o := { dst := some 68, op := Op.call { callee := Callee.value (Operand.func 15), args := #[Operand.tmp 66, Operand.tmp 67], argTypes := #[25, 25] }, type := 4, pos := "outright.go:59", after := #[{ on := 17, ground := Ground.data }, { on := 18, ground := Ground.data }, { on := 17, ground := Ground.chain }, { on := 15, ground := Ground.guard }], guard := some (15, false) }) rfl (fun K19 hK19 => ?_) AllReadyH.nil)
  go_simp
  refine (same_any n1 aB aP lB cB (A.length + 1) cP (2 :: A) _ HVB.out (HVP6.out.below hH18_17) HRP.out).mono ?_
  rintro e wz ⟨rfl, bwz⟩
  refine hK19.out _ _ (hH18_17.trans (bwz.mono hH18_17.size)) (fun hH19_19 => ?_)
  clear bwz
  clear hK19 K19
  try simp only [Act.put, List.setIfInBounds_toArray, List.set_cons_zero, List.set_cons_succ]
  refine wpAnyH_take (i := 20) (oi := { dst := some 69, op := Op.unOp UnOp.not 4 (Operand.tmp 68), type := 4, pos := "outright.go:59", after := #[{ on := 19, ground := Ground.data }, { on := 15, ground := Ground.guard }], guard := some (15, false) }) (v := .bool false) rfl (by kernel_rfl) (by kernel_rfl) (by kernel_rfl) (fun _ _ _ h => h) (Or.inl ⟨by rfl, fun w hSw => by (go_simp <;> rfl)⟩) hH19_19 ?_
  try simp only [Act.put, List.setIfInBounds_toArray, List.set_cons_zero, List.set_cons_succ]
  refine wpAnyH_take (i := 21) (oi := { dst := some 70, op := Op.pick (Operand.tmp 64) (Operand.const (Value.bool true)) (Operand.tmp 69), type := 4, pos := "outright.go:59", after := #[{ on := 15, ground := Ground.data }, { on := 20, ground := Ground.data }], guard := none }) (v := .bool false) rfl (by kernel_rfl) (by kernel_rfl) (by kernel_rfl) (fun _ _ _ h => h) (Or.inl ⟨by rfl, fun w hSw => by (go_simp <;> rfl)⟩) hH19_19 ?_
  try simp only [Act.put, List.setIfInBounds_toArray, List.set_cons_zero, List.set_cons_succ]
  refine wpAnyH_done (by kernel_rfl) ?_ _
  have HL8 := Lib.hid hH19_19
  clear hHeld
  have HT7 := Lib.hid (HT6.out.up HL8.out)
  have HBP7 := Lib.hid (HBP6.out.up HL8.out)
  have HBQ7 := Lib.hid (HBQ6.out.up HL8.out)
  clear HBP6 HBQ6 HVP6 HVQ6 HVX6 HBX6 HBA6 HV16 HFT HRP
  obtain ⟨w7, hw7⟩ : ∃ W, W = wz := ⟨_, rfl⟩
  rw [← hw7] at HT7 HBP7 HBQ7 ⊢
  clear HL8 hw7
  have HBLt : Hid (Below w7.heap.size w7 (w7.alloc (.cells #[.int .u8 1] 5))) := Lib.hid ((Below.refl _ _).alloc (Nat.le_refl _) _)
  have ha1 := (HT7.out.1.up HBLt.out).c1
  have HV17 := Lib.hid (HV1.out.below (HT7.out.up HBLt.out).2.2)
  go_upto_region 11 with (at_builtin; refine wpList_append_view (B := w7.heap.size) (K := [1]) (L := A) rfl (.tmp 71) (.tmp 73) rfl rfl (own_new _ 1 (Nat.le_refl _)) rfl HV17.out HN1.out (by have := HM1.out; omega) (by simp) (by simp) ?_; intro a8 c8 wB ho8 hv8 hc8 hg8; have b8 := Lib.hid (HBLt.out.grown hg8 HBLt.out.size (fun k hk => ((own_new w7 1 (Nat.le_refl _)).lt k hk).1)); have d1 := (HBP7.out.up b8.out).c1; have d2 := (HBP7.out.up b8.out).fz 1; simp only [List.cons_append, List.nil_append, List.length_cons])
  clear ha1
  obtain ⟨w8, hw8⟩ : ∃ W, W = wB.setCell ⟨gP, 1, none⟩ (.slice a8 (A.length + 1) c8) := ⟨_, rfl⟩
  rw [← hw8]
  have HTB := HT7.out.up b8.out
  have HT8 : Hid (Two n1 p1 m1 q1 n2 p2 m2 q2 w w8) := Lib.hid (by rw [hw8]; exact HTB.set1 HGP.out _)
  have HBP8 : Hid (Box w8 gP n1 a8 (A.length + 1) c8) := Lib.hid (by rw [hw8]; exact (HBP7.out.up b8.out).set1 _ _ _)
  have HBQ8 : Hid (Box w8 gQ n2 aQ (B.length + 1) cQ) := Lib.hid (by rw [hw8]; exact (HBQ7.out.up b8.out).other1 (by have := HGQ.out; omega) _)
  have HVP8 : Hid (View w8 a8 (A.length + 1) (1 :: A)) := Lib.hid (by rw [hw8]; exact view_set1 hv8 (HBP7.out.up b8.out) _)
  have HC8 : Hid (A.length + 1 ≤ c8) := Lib.hid hc8
  clear hw8 HTB b8 d1 d2 ho8 hv8 hc8 hg8 HT7 HBP7 HBQ7 HBLt HV17
  have HBLt : Hid (Below w8.heap.size w8 (w8.alloc (.cells #[.int .u8 1] 5))) := Lib.hid ((Below.refl _ _).alloc (Nat.le_refl _) _)
  have ha2 := (HT8.out.2.1.up HBLt.out).c1
  have HV28 := Lib.hid (HV2.out.below (HT8.out.up HBLt.out).2.2)
  go_upto_region 12 with (at_builtin; refine wpList_append_view (B := w8.heap.size) (K := [1]) (L := B) rfl (.tmp 76) (.tmp 78) rfl rfl (own_new _ 1 (Nat.le_refl _)) rfl HV28.out HN2.out (by have := HM2.out; omega) (by simp) (by simp) ?_; intro a9 c9 wC ho9 hv9 hc9 hg9; have b9 := Lib.hid (HBLt.out.grown hg9 HBLt.out.size (fun k hk => ((own_new w8 1 (Nat.le_refl _)).lt k hk).1)); have d1 := (HBQ8.out.up b9.out).c1; have d2 := (HBQ8.out.up b9.out).fz 1; simp only [List.cons_append, List.nil_append, List.length_cons])
  clear ha2
  obtain ⟨w9, hw9⟩ : ∃ W, W = wC.setCell ⟨gQ, 1, none⟩ (.slice a9 (B.length + 1) c9) := ⟨_, rfl⟩
  rw [← hw9]
  have HTB := HT8.out.up b9.out
  have HT9 : Hid (Two n1 p1 m1 q1 n2 p2 m2 q2 w w9) := Lib.hid (by rw [hw9]; exact HTB.set1 (by have := HGP.out; have := HGQ.out; omega) _)
  have HBP9 : Hid (Box w9 gP n1 a8 (A.length + 1) c8) := Lib.hid (by rw [hw9]; exact (HBP8.out.up b9.out).other1 (by have := HGQ.out; omega) _)
  have HBQ9 : Hid (Box w9 gQ n2 a9 (B.length + 1) c9) := Lib.hid (by rw [hw9]; exact (HBQ8.out.up b9.out).set1 _ _ _)
  have HVP9 : Hid (View w9 a8 (A.length + 1) (1 :: A)) := Lib.hid (by rw [hw9]; exact view_set1 (HVP8.out.below b9.out) (HBQ8.out.up b9.out) _)
  have HVQ9 : Hid (View w9 a9 (B.length + 1) (1 :: B)) := Lib.hid (by rw [hw9]; exact view_set1 hv9 (HBQ8.out.up b9.out) _)
  have HC9 : Hid (B.length + 1 ≤ c9) := Lib.hid hc9
  clear hw9 HTB b9 d1 d2 ho9 hv9 hc9 hg9 HBLt HV28 HT8 HBP8 HBQ8 HVP8
  have HBA9 := Lib.hid HT9.out.1
  have HV19 := Lib.hid (HV1.out.below HT9.out.2.2)
  have HFO : Hid (fits n1 (1 :: A) n2 (1 :: B) = f) := Lib.hid (by rw [HF.out, fits_eq, fits_eq, fit_one])
  refine wp_region_held_drew (S := fun W => Below w9.heap.size w9 W) (by kernel_rfl) (Below.refl _ _).drew (fun hHeld => ?_)
  refine wpAnyH_take (i := 0) (oi := { dst := some 81, op := Op.load 25 (Operand.tmp 7), type := 25, pos := "outright.go:64", after := #[], guard := none }) (v := .agg #[.string n1, .slice a8 (A.length + 1) c8]) rfl (by kernel_rfl) (by kernel_rfl) (by kernel_rfl) (fun _ _ _ h => h) (Or.inl ⟨by rfl, fun w hSw => by (have g0 := (HBP9.out.up hSw).c0; have g1 := (HBP9.out.up hSw).c1; go_simp <;> rfl)⟩) hHeld ?_
  try simp only [Act.put, List.setIfInBounds_toArray, List.set_cons_zero, List.set_cons_succ]
  refine wpAnyH_take (i := 2) (oi := { dst := some 83, op := Op.load 25 (Operand.tmp 2), type := 25, pos := "outright.go:64", after := #[], guard := none }) (v := .agg #[.string n1, .slice p1 m1 q1]) rfl (by kernel_rfl) (by kernel_rfl) (by kernel_rfl) (fun _ _ _ h => h) (Or.inl ⟨by rfl, fun w hSw => by (have g0 := (HBA9.out.up hSw).c0; have g1 := (HBA9.out.up hSw).c1; go_simp <;> rfl)⟩) hHeld ?_
  try simp only [Act.put, List.setIfInBounds_toArray, List.set_cons_zero, List.set_cons_succ]
  refine wpAnyH_ready (rs := [1]) (by kernel_rfl) (by simp) (AllReadyH.cons (o := { dst := some 82, op := Op.call { callee := Callee.value (Operand.func 14), args := #[Operand.tmp 81], argTypes := #[25] }, type := 25, pos := "outright.go:64", after := #[{ on := 0, ground := Ground.data }], guard := none }) rfl (fun K1 hK1 => ?_) AllReadyH.nil)
  go_simp
  refine (Bare_any n1 a8 (A.length + 1) c8 (1 :: A) _ (HVP9.out.below hHeld) HC8.out (by have := HV1.out.1; have := HM1.out; omega)).mono ?_
  rintro e wj ⟨vj, rfl, hrj, bwj⟩
  rw [bare_one] at hrj
  obtain ⟨aB, lB, cB, rfl, hvB, hcB⟩ := hrj
  have HVB := Lib.hid hvB
  clear hvB hcB
  unfold refV
  refine hK1.out _ _ (hHeld.trans (bwj.mono hHeld.size)) (fun hH2_1 => ?_)
  clear bwj
  clear hK1 K1
  try simp only [Act.put, List.setIfInBounds_toArray, List.set_cons_zero, List.set_cons_succ]
  refine wpAnyH_ready (rs := [3]) (by kernel_rfl) (by simp) (AllReadyH.cons (o := { dst := some 84, op := Op.call { callee := Callee.value (Operand.func 15), args := #[Operand.tmp 82, Operand.tmp 83], argTypes := #[25, 25] }, type := 4, pos := "outright.go:64", after := #[{ on := 1, ground := Ground.data }, { on := 2, ground := Ground.data }, { on := 1, ground := Ground.chain }], guard := none }) rfl (fun K3 hK3 => ?_) AllReadyH.nil)
  go_simp
  refine (same_any n1 aB p1 lB cB m1 q1 A _ HVB.out (HV19.out.below hH2_1) HR1.out).mono ?_
  rintro e wk ⟨rfl, bwk⟩
  refine hK3.out _ _ (hH2_1.trans (bwk.mono hH2_1.size)) (fun hH3_3 => ?_)
  clear bwk
  clear hK3 K3
  try simp only [Act.put, List.setIfInBounds_toArray, List.set_cons_zero, List.set_cons_succ]
  refine wpAnyH_take (i := 4) (oi := { dst := some 85, op := Op.unOp UnOp.not 4 (Operand.tmp 84), type := 4, pos := "outright.go:64", after := #[{ on := 3, ground := Ground.data }], guard := none }) (v := .bool false) rfl (by kernel_rfl) (by kernel_rfl) (by kernel_rfl) (fun _ _ _ h => h) (Or.inl ⟨by rfl, fun w hSw => by (go_simp <;> rfl)⟩) hH3_3 ?_
  try simp only [Act.put, List.setIfInBounds_toArray, List.set_cons_zero, List.set_cons_succ]
  refine wpAnyH_take (i := 5) (oi := { dst := some 86, op := Op.move (Operand.tmp 85), type := 4, pos := "outright.go:64", after := #[{ on := 4, ground := Ground.data }, { on := 3, ground := Ground.chain }], guard := none }) (v := .bool false) rfl (by kernel_rfl) (by kernel_rfl) (by kernel_rfl) (fun _ _ _ h => h) (Or.inl ⟨by rfl, fun w hSw => by (go_simp <;> rfl)⟩) hH3_3 ?_
  try simp only [Act.put, List.setIfInBounds_toArray, List.set_cons_zero, List.set_cons_succ]
  refine wpAnyH_take (i := 6) (oi := { dst := some 87, op := Op.load 25 (Operand.tmp 7), type := 25, pos := "outright.go:64", after := #[{ on := 5, ground := Ground.guard }], guard := some (5, false) }) (v := .agg #[.string n1, .slice a8 (A.length + 1) c8]) rfl (by kernel_rfl) (by kernel_rfl) (by kernel_rfl) (fun _ _ _ h => h) (Or.inl ⟨by rfl, fun w hSw => by (have g0 := (HBP9.out.up hSw).c0; have g1 := (HBP9.out.up hSw).c1; go_simp <;> rfl)⟩) hH3_3 ?_
  try simp only [Act.put, List.setIfInBounds_toArray, List.set_cons_zero, List.set_cons_succ]
  refine wpAnyH_take (i := 7) (oi := { dst := some 88, op := Op.load 25 (Operand.tmp 8), type := 25, pos := "outright.go:64", after := #[{ on := 5, ground := Ground.guard }], guard := some (5, false) }) (v := .agg #[.string n2, .slice a9 (B.length + 1) c9]) rfl (by kernel_rfl) (by kernel_rfl) (by kernel_rfl) (fun _ _ _ h => h) (Or.inl ⟨by rfl, fun w hSw => by (have g0 := (HBQ9.out.up hSw).c0; have g1 := (HBQ9.out.up hSw).c1; go_simp <;> rfl)⟩) hH3_3 ?_
  try simp only [Act.put, List.setIfInBounds_toArray, List.set_cons_zero, List.set_cons_succ]
  refine wpAnyH_take (i := 9) (oi := { dst := some 90, op := Op.move (Operand.tmp 6), type := 4, pos := "outright.go:64", after := #[{ on := 5, ground := Ground.guard }], guard := some (5, false) }) (v := .bool f) rfl (by kernel_rfl) (by kernel_rfl) (by kernel_rfl) (fun _ _ _ h => h) (Or.inl ⟨by rfl, fun w hSw => by (go_simp <;> rfl)⟩) hH3_3 ?_
  try simp only [Act.put, List.setIfInBounds_toArray, List.set_cons_zero, List.set_cons_succ]
  refine wpAnyH_ready (rs := [8]) (by kernel_rfl) (by simp) (AllReadyH.cons (o := { dst := some 89, op := Op.call { callee := Callee.value (Operand.func 17), args := #[Operand.tmp 87, Operand.tmp 88], argTypes := #[25, 25] }, type := 4, pos := "outright.go:64", after := #[{ on := 6, ground := Ground.data }, { on := 7, ground := Ground.data }, { on := 5, ground := Ground.chain }, { on := 5, ground := Ground.guard }], guard := some (5, false) }) rfl (fun K8 hK8 => ?_) AllReadyH.nil)
  go_simp
  refine (fits_any n1 n2 a8 a9 (A.length + 1) c8 (B.length + 1) c9 (1 :: A) (1 :: B) _ (HVP9.out.below hH3_3) (HVQ9.out.below hH3_3) HC8.out HC9.out).mono ?_
  rintro e wy ⟨rfl, bwy⟩
  rw [HFO.out]
  refine hK8.out _ _ (hH3_3.trans (bwy.mono hH3_3.size)) (fun hH9_8 => ?_)
  clear bwy
  clear hK8 K8
  try simp only [Act.put, List.setIfInBounds_toArray, List.set_cons_zero, List.set_cons_succ]
  refine wpAnyH_take (i := 10) (oi := { dst := some 91, op := Op.binOp BinOp.neq 4 (Operand.tmp 89) (Operand.tmp 90) 4, type := 4, pos := "outright.go:64", after := #[{ on := 8, ground := Ground.data }, { on := 9, ground := Ground.data }, { on := 5, ground := Ground.guard }], guard := some (5, false) }) (v := .bool false) rfl (by kernel_rfl) (by kernel_rfl) (by kernel_rfl) (fun _ _ _ h => h) (Or.inl ⟨by rfl, fun w hSw => by (go_simp <;> rfl)⟩) hH9_8 ?_
  try simp only [Act.put, List.setIfInBounds_toArray, List.set_cons_zero, List.set_cons_succ]
  refine wpAnyH_take (i := 11) (oi := { dst := some 92, op := Op.pick (Operand.tmp 86) (Operand.const (Value.bool true)) (Operand.tmp 91), type := 4, pos := "outright.go:64", after := #[{ on := 5, ground := Ground.data }, { on := 10, ground := Ground.data }], guard := none }) (v := .bool false) rfl (by kernel_rfl) (by kernel_rfl) (by kernel_rfl) (fun _ _ _ h => h) (Or.inl ⟨by rfl, fun w hSw => by (go_simp <;> rfl)⟩) hH9_8 ?_
  try simp only [Act.put, List.setIfInBounds_toArray, List.set_cons_zero, List.set_cons_succ]
  refine wpAnyH_done (by kernel_rfl) ?_ _
  have HL12 := Lib.hid hH9_8
  clear hHeld
  have HT10 := Lib.hid (HT9.out.up HL12.out)
  have HBP10 := Lib.hid (HBP9.out.up HL12.out)
  have HVP10 := Lib.hid (HVP9.out.below HL12.out)
  clear HBP9 HBQ9 HVP9 HVQ9 HBA9 HV19 HFO
  obtain ⟨w10, hw10⟩ : ∃ W, W = wy := ⟨_, rfl⟩
  rw [← hw10] at HT10 HBP10 HVP10 ⊢
  clear HL12 hw10
  have hbp := HBP10.out
  have e0 := hbp.c0
  have e1 := hbp.c1
  have e2 := HT10.out.1.c0
  have e3 := HT10.out.1.c1
  clear hbp
  have HV10 := Lib.hid (HV1.out.below HT10.out.2.2)
  have HFB : Hid (fits n1 A n1 A = true → fits n1 (1 :: A) n1 A = true) := Lib.hid (fun h => by
    rw [fits_eq] at h ⊢
    rw [show (n1.toList == n1.toList) = true from by simp] at h ⊢
    exact fit_bare A h)
  go_wp2_with fail
  refine (fits_any n1 n1 p1 p1 m1 q1 m1 q1 A A _ HV10.out HV10.out HC1.out HC1.out).mono ?_
  rintro e w11 ⟨rfl, b11⟩
  have HT11 := Lib.hid (HT10.out.up b11)
  have hbp := HBP10.out.up b11
  have k0 := hbp.c0
  have k1 := hbp.c1
  have k2 := HT11.out.1.c0
  have k3 := HT11.out.1.c1
  have HVP11 := Lib.hid (HVP10.out.below b11)
  have HV11 := Lib.hid (HV10.out.below b11)
  clear b11 hbp e0 e1 e2 e3
  obtain ⟨fa, hfa⟩ : ∃ x, x = fits n1 A n1 A := ⟨_, rfl⟩
  rw [← hfa] at HFB ⊢
  clear hfa
  cases fa
  · go_wp2_with fail
    go_ret
    exact ⟨rfl, HT11.out.2.2⟩
  · have HX := Lib.hid (HFB.out rfl)
    go_wp2_with fail
    refine (fits_any n1 n1 a8 p1 (A.length + 1) c8 m1 q1 (1 :: A) A _ HVP11.out HV11.out HC8.out HC1.out).mono ?_
    rintro e w12 ⟨rfl, b12⟩
    rw [HX.out]
    have HT12 := Lib.hid (HT11.out.up b12)
    clear b12 k0 k1 k2 k3
    go_wp2_with fail
    go_ret
    exact ⟨rfl, HT12.out.2.2⟩
set_option maxRecDepth 10000 in
theorem wraps_big (n1 : ByteArray) (p1 : Option Addr) (m1 q1 : Nat) (n2 : ByteArray) (p2 : Option Addr) (m2 q2 : Nat) (w : World) (hbig : 20 < m1 ∨ 20 < m2) :
    Calls Try.prog 5 #[refV n1 p1 m1 q1, refV n2 p2 m2 q2] w fun e w' => e = .returned (.bool true) ∧ Below w.heap.size w w' := by
  have hx1 : Box ((w.alloc (.cells #[.string n1, .slice p1 m1 q1] 25)).alloc (.cells #[.string n2, .slice p2 m2 q2] 25)) w.heap.size n1 p1 m1 q1 := by
    have h : Box (w.alloc (.cells #[.string n1, .slice p1 m1 q1] 25)) w.heap.size n1 p1 m1 q1 := heap_alloc_new w _
    exact h.up ((Below.refl _ _).alloc (Nat.le_refl _) _)
  have hx2 : Box ((w.alloc (.cells #[.string n1, .slice p1 m1 q1] 25)).alloc (.cells #[.string n2, .slice p2 m2 q2] 25)) (w.heap.size + 1) n2 p2 m2 q2 := by
    have h := heap_alloc_new (w.alloc (.cells #[.string n1, .slice p1 m1 q1] 25)) (.cells #[.string n2, .slice p2 m2 q2] 25)
    unfold Box; simpa using h
  have hbl : Below w.heap.size w ((w.alloc (.cells #[.string n1, .slice p1 m1 q1] 25)).alloc (.cells #[.string n2, .slice p2 m2 q2] 25)) := ((Below.refl _ w).alloc (Nat.le_refl _) _).alloc (by simp) _
  have HT0 : Hid (Two n1 p1 m1 q1 n2 p2 m2 q2 w ((w.alloc (.cells #[.string n1, .slice p1 m1 q1] 25)).alloc (.cells #[.string n2, .slice p2 m2 q2] 25))) := Lib.hid ⟨hx1, hx2, hbl⟩
  clear hx1 hx2 hbl
  have hsp : (20 < m1) ∨ (¬ 20 < m1 ∧ 20 < m2) := by omega
  clear hbig
  unfold refV
  rcases hsp with g1 | ⟨g1, g2⟩
  · go_enter Try.func5, Try.ntmps5
    go_wp2_with fail
    refine (alive_true _).mono ?_
    rintro e w1 ⟨rfl, b1⟩
    have hT1 := HT0.out.up b1
    have a0 := hT1.1.c0
    have a1 := hT1.1.c1
    have a2 := hT1.2.1.c0
    have a3 := hT1.2.1.c1
    have HT1 := Lib.hid hT1
    clear b1 hT1
    go_wp2_with fail
    go_ret
    exact ⟨rfl, HT1.out.2.2⟩
  · go_enter Try.func5, Try.ntmps5
    go_wp2_with fail
    refine (alive_true _).mono ?_
    rintro e w1 ⟨rfl, b1⟩
    have hT1 := HT0.out.up b1
    have a0 := hT1.1.c0
    have a1 := hT1.1.c1
    have a2 := hT1.2.1.c0
    have a3 := hT1.2.1.c1
    have HT1 := Lib.hid hT1
    clear b1 hT1
    go_wp2_with fail
    go_ret
    exact ⟨rfl, HT1.out.2.2⟩
theorem wraps_all (n1 : ByteArray) (p1 : Option Addr) (m1 q1 : Nat) (n2 : ByteArray) (p2 : Option Addr) (m2 q2 : Nat) (A B : List Int) (w : World)
    (hv1 : View w p1 m1 A) (hc1 : m1 ≤ q1) (hn1 : Nils p1 m1 q1) (hr1 : ∀ x ∈ A, 0 ≤ x ∧ x < 256) (hv2 : View w p2 m2 B) (hc2 : m2 ≤ q2) (hn2 : Nils p2 m2 q2) :
    Calls Try.prog 5 #[refV n1 p1 m1 q1, refV n2 p2 m2 q2] w fun e w' => e = .returned (.bool true) ∧ Below w.heap.size w w' := by
  by_cases h : 20 < m1 ∨ 20 < m2
  · exact wraps_big n1 p1 m1 q1 n2 p2 m2 q2 w h
  · exact wraps_walk n1 p1 m1 q1 n2 p2 m2 q2 A B w hv1 hc1 hn1 hr1 hv2 hc2 hn2 (by omega) (by omega)
end Go.Proofs.Ytfphejndbnmfeab
