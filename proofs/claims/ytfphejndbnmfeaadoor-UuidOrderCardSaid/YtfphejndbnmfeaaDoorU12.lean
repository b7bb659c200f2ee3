import Derived.Test.YtfphejndbnmfeaaDoorU9
import Derived.Test.YtfphejndbnmfeaaDoorPlain2
import Derived.Test.YtfphejndbnmfeaaDoorU3
import Derived.Deep.RegionHeld3
namespace Go.Proofs.YtfphejndbnmfeaaDoor
open Go.RowKit

theorem lit_fold {L : List Int} (hl : L.length = 16) {G : Nat → Int} (hG : G = fun i => L.getD i 0) : (#[.int .u8 (G 0), .int .u8 (G 1), .int .u8 (G 2), .int .u8 (G 3), .int .u8 (G 4), .int .u8 (G 5), .int .u8 (G 6), .int .u8 (G 7), .int .u8 (G 8), .int .u8 (G 9), .int .u8 (G 10), .int .u8 (G 11), .int .u8 (G 12), .int .u8 (G 13), .int .u8 (G 14), .int .u8 (G 15)] : Array Value) = arC L := by
  have sL : (arC L).size = 16 := by rw [arC_size, hl]
  have h := fold16 sL
  rw [← h, hG]
  apply Array.ext
  · rfl
  · intro i h1 h2
    have hi : i < 16 := by simpa using h1
    have e1 := lit_at (fun i => L.getD i 0) i hi
    have e2 := arC_at (L := L) (k := i) (by rw [hl]; exact hi)
    rw [← h] at e2
    rw [Array.getElem?_eq_getElem h1] at e1
    rw [Array.getElem?_eq_getElem h2] at e2
    rw [Option.some.injEq] at e1 e2
    exact e1.trans e2.symm
theorem text2 (L : List Int) (hl : L.length = 16) (ho : okB L) (w : World) (hp : Prt w) (xs : Array Value) (hx : xs = arC L) :
    Calls Tryd.prog 34 #[.agg xs] w fun e w' => e = .returned (.string (txS L)) ∧ Below w.heap.size w w' ∧ Prt w' := by
  subst hx
  exact (text_any L hl ho w hp).mono fun _ _ h => ⟨h.1, h.2, hp.below h.2 hp.1⟩
/-- What is held while texts are made: the table of parts is there, and what was there at the beginning. -/
def Rest (w0 w : World) : Prop := Prt w ∧ Below w0.heap.size w0 w ∧ w0.heap.size + 2 ≤ w.heap.size
theorem range_arr {w : World} {b : Nat} {L : List Int} (h : Arr w b L) (hl : L.length = 16) : w.rangeAt b 0 (arC L).toList := by
  intro j v hv
  have hj : j < 16 := by
    have := (List.getElem?_eq_some_iff.1 hv).1
    simp [arC_size, hl] at this; exact this
  have e : (arC L)[j]? = some v := by simpa using hv
  rw [arC_at (by omega)] at e
  rw [Nat.zero_add, h.2 j hj, e]
theorem range_below {w w' : World} {b o : Nat} {cs : List Value} {B : Nat} (h : w.rangeAt b o cs) (hb : Below B w w') (hB : b < B) : w'.rangeAt b o cs :=
  fun j v hv => (hb.cell (p := ⟨b, o + j, none⟩) hB).trans (h j v hv)
theorem text3 (L A B : List Int) (hl : L.length = 16) (ho : okB L) (w0 w : World) (hs : w.rangeAt w0.heap.size 0 (arC A).toList ∧ w.rangeAt (w0.heap.size + 1) 0 (arC B).toList ∧ Rest w0 w) :
    Calls Tryd.prog 34 #[.agg (arC L)] w fun e w' => e = .returned (.string (txS L)) ∧ (w'.rangeAt w0.heap.size 0 (arC A).toList ∧ w'.rangeAt (w0.heap.size + 1) 0 (arC B).toList ∧ Rest w0 w') := by
  obtain ⟨r1, r2, hp, hb, hz⟩ := hs
  exact (text_any L hl ho w hp).mono fun _ _ h => ⟨h.1, range_below r1 h.2 (by omega), range_below r2 h.2 (by omega), hp.below h.2 hp.1, hb.trans (h.2.mono (by omega)), by have := h.2.size; omega⟩
theorem new_set (w : World) (L : List Int) (i : Nat) (x : Int) : (w.alloc (.cells (arC L) 50)).setCell ⟨w.heap.size, i, none⟩ (.int .u8 x) = w.alloc (.cells (arC (L.set i x)) 50) := by
  rw [World.setCell_alloc_at _ _ _ _ _ rfl, arC_set]
theorem new_frozen (w : World) (L : List Int) (i : Nat) : (w.alloc (.cells (arC L) 50)).frozen? ⟨w.heap.size, i, none⟩ = false := by
  simp only [World.frozen?, heap_alloc_new]
  simp
theorem arr_range {w : World} {b : Nat} {L : List Int} (h : w.rangeAt b 0 (arC L).toList) (hl : L.length = 16) (hb : b < w.heap.size) : Arr w b L := by
  refine ⟨hb, fun k hk => ?_⟩
  have := h k (.int .u8 (L.getD k 0)) (by rw [Array.getElem?_toList]; exact arC_at (by omega))
  rw [Nat.zero_add] at this; exact this
theorem toList_toArray (c : Array Value) : c.toList.toArray = c := by simp
set_option maxRecDepth 10000 in
set_option maxHeartbeats 20000000 in
theorem order_walk (A B : List Int) (i : Int) (w : World) (hp : Prt w) (lA : A.length = 16) (oA : okB A) (lB : B.length = 16) (oB : okB B) (i0 : 0 ≤ i) (i1 : i ≤ 255) :
    Calls Tryd.prog 13 #[arV A, arV B, .int .u8 i] w fun e w' => e = .returned (.bool true) ∧ Below w.heap.size w w' := by
  have HP := Lib.hid hp
  have sA : (arC A).size = 16 := by rw [arC_size, lA]
  have sB : (arC B).size = 16 := by rw [arC_size, lB]
  have HLA := Lib.hid lA
  have HOA := Lib.hid oA
  have HLB := Lib.hid lB
  have HOB := Lib.hid oB
  have hA : Arr ((w.alloc (.cells (arC A) 50)).alloc (.cells (arC B) 50)) w.heap.size A := (arr_new w A 50 lA).alloc _
  have hB : Arr ((w.alloc (.cells (arC A) 50)).alloc (.cells (arC B) 50)) (w.heap.size + 1) B := by
    have := arr_new (w.alloc (.cells (arC A) 50)) B 50 lB
    simpa using this
  have hB0 : Below w.heap.size w ((w.alloc (.cells (arC A) 50)).alloc (.cells (arC B) 50)) := ((Below.refl _ w).alloc (Nat.le_refl _) _).alloc (by simp) _
  have HA0 := Lib.hid hA
  have HB0 := Lib.hid hB
  have HBL0 := Lib.hid hB0
  have hi16 : 0 ≤ i % 16 ∧ i % 16 < 16 := by omega
  clear hp lA oA lB oB hA hB hB0
  unfold arV
  go_enter Tryd.func13, Tryd.ntmps13
  go_wp2_with fail
  refine (alive_true _ (HP.out.below HBL0.out HP.out.1)).mono ?_
  rintro e w1 ⟨rfl, b1⟩
  have HA1 : Hid (Arr w1 w.heap.size A) := Lib.hid (HA0.out.below b1 HA0.out.1)
  have HB1 : Hid (Arr w1 (w.heap.size + 1) B) := Lib.hid (HB0.out.below b1 HB0.out.1)
  have HBL1 : Hid (Below w.heap.size w w1) := Lib.hid (HBL0.out.trans (b1.mono HBL0.out.size))
  clear b1
  obtain ⟨G1, hG1⟩ : ∃ G : Nat → Int, G = fun i => A.getD i 0 := ⟨_, rfl⟩
  obtain ⟨G2, hG2⟩ : ∃ G : Nat → Int, G = fun i => B.getD i 0 := ⟨_, rfl⟩
  have HF1 := Lib.hid (lit_fold HLA.out hG1)
  have HF2 := Lib.hid (lit_fold HLB.out hG2)
  have HG1 := Lib.hid hG1
  have HG2 := Lib.hid hG2
  have c1 : ∀ i, i < 16 → w1.cell? ⟨w.heap.size, i, none⟩ = some (.int .u8 (G1 i)) := fun i hi => by rw [hG1]; exact HA1.out.2 i hi
  have c2 : ∀ i, i < 16 → w1.cell? ⟨w.heap.size + 1, i, none⟩ = some (.int .u8 (G2 i)) := fun i hi => by rw [hG2]; exact HB1.out.2 i hi
  clear hG1 hG2
  go_wp2_with fail
  rw [HF1.out, HF2.out]
  refine (compare_any A B HLA.out HLB.out _).mono ?_
  rintro e w2 ⟨rfl, b2⟩
  have HA2 : Hid (Arr w2 w.heap.size A) := Lib.hid (HA1.out.below b2 HA1.out.1)
  have HB2 : Hid (Arr w2 (w.heap.size + 1) B) := Lib.hid (HB1.out.below b2 HB1.out.1)
  have HBL2 : Hid (Below w.heap.size w w2) := Lib.hid (HBL1.out.trans (b2.mono HBL1.out.size))
  clear b2 c1 c2
  obtain ⟨n, hn⟩ : ∃ n, n = cmpA A B := ⟨_, rfl⟩
  have hr := cmp_range A B
  rw [← hn] at hr ⊢
  have HN := Lib.hid hn
  clear hn
  have c1 : ∀ i, i < 16 → w2.drew.cell? ⟨w.heap.size, i, none⟩ = some (.int .u8 (G1 i)) := fun i hi => by rw [HG1.out]; exact HA2.out.2 i hi
  have c2 : ∀ i, i < 16 → w2.drew.cell? ⟨w.heap.size + 1, i, none⟩ = some (.int .u8 (G2 i)) := fun i hi => by rw [HG2.out]; exact HB2.out.2 i hi
  go_wp2_with fail
  clear c1 c2
  have r1 : w2.rangeAt w.heap.size 0 (arC A).toList := range_arr HA2.out HLA.out
  have r2 : w2.rangeAt (w.heap.size + 1) 0 (arC B).toList := range_arr HB2.out HLB.out
  have hR : Rest w w2.drew := ⟨HP.out.below HBL2.out.drew HP.out.1, HBL2.out.drew, by have := HB2.out.1; show w.heap.size + 2 ≤ w2.heap.size; omega⟩
  have s1 : (Tryd.prog.info? 50).map (·.size) = some (arC A).toList.length := by rw [Array.length_toList, sA]; exact info50
  have s2 : (Tryd.prog.info? 50).map (·.size) = some (arC B).toList.length := by rw [Array.length_toList, sB]; exact info50
  have l1 : (arC A).toList.length = 16 := by rw [Array.length_toList, sA]
  have l2 : (arC B).toList.length = 16 := by rw [Array.length_toList, sB]
  have u50 := Tryd.underlying50
  refine wp_region_held_drew (S := (fun W => W.rangeAt w.heap.size 0 (arC A).toList ∧ W.rangeAt (w.heap.size + 1) 0 (arC B).toList ∧ Rest w W)) (by kernel_rfl) ⟨r1, r2, hR⟩ (fun hHeld => ?_)
  refine wpAnyH_take (i := 0) (oi := { dst := some 17, op := Op.load 50 (Operand.tmp 3), type := 50, pos := "outright.go:59", after := #[], guard := none }) rfl (by kernel_rfl) (by kernel_rfl) (by kernel_rfl) (fun _ _ _ h => h) (yieldsIf_load_mid (by rfl) 50 (.tmp 3) rfl w.heap.size 0 rfl (arC A).toList (.array 16 5) (fun _ h => h.1) u50 rfl s1) hHeld ?_
  try simp only [Act.put, List.setIfInBounds_toArray, List.set_cons_zero, List.set_cons_succ]
  refine wpAnyH_take (i := 2) (oi := { dst := some 19, op := Op.load 50 (Operand.tmp 4), type := 50, pos := "outright.go:59", after := #[], guard := none }) rfl (by kernel_rfl) (by kernel_rfl) (by kernel_rfl) (fun _ _ _ h => h) (yieldsIf_load_mid (by rfl) 50 (.tmp 4) rfl (w.heap.size + 1) 0 rfl (arC B).toList (.array 16 5) (fun _ h => h.2.1) u50 rfl s2) hHeld ?_
  try simp only [Act.put, List.setIfInBounds_toArray, List.set_cons_zero, List.set_cons_succ]
  refine wpAnyH_ready (rs := [1]) (by kernel_rfl) (by simp) (AllReadyH.cons (o := { dst := some 18, op := Op.call { callee := Callee.value (Operand.func 34), args := #[Operand.tmp 17], argTypes := #[50] }, type := 9, pos := "outright.go:59", after := #[{ on := 0, ground := Ground.data }], guard := none }) rfl (fun K1 hK1 => ?_) AllReadyH.nil)
  go_simp
  refine (text3 A A B HLA.out HOA.out w _ hHeld).mono ?_
  rintro e wa1 ⟨rfl, hs1⟩
  refine hK1.out _ _ hs1 (fun hHeld1 => ?_)
  clear hK1 K1
  try simp only [Act.put, List.setIfInBounds_toArray, List.set_cons_zero, List.set_cons_succ]
  refine wpAnyH_ready (rs := [3]) (by kernel_rfl) (by simp) (AllReadyH.cons (o := { dst := some 20, op := Op.call { callee := Callee.value (Operand.func 34), args := #[Operand.tmp 19], argTypes := #[50] }, type := 9, pos := "outright.go:59", after := #[{ on := 2, ground := Ground.data }, { on := 1, ground := Ground.chain }], guard := none }) rfl (fun K3 hK3 => ?_) AllReadyH.nil)
  go_simp
  refine (text3 B A B HLB.out HOB.out w _ hHeld1).mono ?_
  rintro e wa3 ⟨rfl, hs3⟩
  refine hK3.out _ _ hs3 (fun hHeld3 => ?_)
  clear hK3 K3
  try simp only [Act.put, List.setIfInBounds_toArray, List.set_cons_zero, List.set_cons_succ]
  refine wpAnyH_take (i := 4) (oi := { dst := some 9, op := Op.assign (Operand.tmp 18), type := 9, pos := "outright.go:59", after := #[{ on := 1, ground := Ground.data }, { on := 3, ground := Ground.chain }, { on := 0, ground := Ground.phase }, { on := 1, ground := Ground.phase }, { on := 2, ground := Ground.textOnly Departure.lateStores }, { on := 3, ground := Ground.textOnly Departure.lateStoresUnsure }], guard := none }) (v := .string (txS A)) rfl (by kernel_rfl) (by kernel_rfl) (by kernel_rfl) (fun _ _ _ h => h) (Or.inl ⟨by rfl, fun w hSw => by (go_simp <;> rfl)⟩) hHeld3 ?_
  try simp only [Act.put, List.setIfInBounds_toArray, List.set_cons_zero, List.set_cons_succ]
  refine wpAnyH_take (i := 5) (oi := { dst := some 10, op := Op.assign (Operand.tmp 20), type := 9, pos := "outright.go:59", after := #[{ on := 3, ground := Ground.data }, { on := 4, ground := Ground.chain }, { on := 0, ground := Ground.phase }, { on := 1, ground := Ground.phase }, { on := 2, ground := Ground.phase }, { on := 3, ground := Ground.phase }, { on := 4, ground := Ground.phase }], guard := none }) (v := .string (txS B)) rfl (by kernel_rfl) (by kernel_rfl) (by kernel_rfl) (fun _ _ _ h => h) (Or.inl ⟨by rfl, fun w hSw => by (go_simp <;> rfl)⟩) hHeld3 ?_
  try simp only [Act.put, List.setIfInBounds_toArray, List.set_cons_zero, List.set_cons_succ]
  refine wpAnyH_done (by kernel_rfl) ?_ _
  obtain ⟨q1, q2, hq3, hq4, hq5⟩ := hHeld3
  clear hHeld hHeld1 r1 r2 hR s1 s2 l1 l2 u50 hs1 hs3
  have HQ := Lib.hid (⟨hq3, hq4, hq5⟩ : Rest w wa3)
  have HR1 := Lib.hid q1
  have HR2 := Lib.hid q2
  clear q1 q2 hq3 hq4 hq5
  as_aux_lemma =>
    have HS3 : Hid (w.heap.size + 2 ≤ wa3.heap.size) := Lib.hid HQ.out.2.2
    have HA3 : Hid (Arr wa3 w.heap.size A) := Lib.hid (arr_range HR1.out HLA.out (by have := HS3.out; omega))
    have HB3 : Hid (Arr wa3 (w.heap.size + 1) B) := Lib.hid (arr_range HR2.out HLB.out (by have := HS3.out; omega))
    have c1 : ∀ i, i < 16 → wa3.cell? ⟨w.heap.size, i, none⟩ = some (.int .u8 (G1 i)) := fun i hi => by rw [HG1.out]; exact HA3.out.2 i hi
    have c2 : ∀ i, i < 16 → wa3.cell? ⟨w.heap.size + 1, i, none⟩ = some (.int .u8 (G2 i)) := fun i hi => by rw [HG2.out]; exact HB3.out.2 i hi
    have hless : Op.bytesLess (txS A).toList (txS B).toList = decide (n < 0) := by rw [tx_less HOA.out HOB.out HLA.out HLB.out, HN.out]
    obtain ⟨S, hS⟩ : ∃ S, S = txS A := ⟨_, rfl⟩
    obtain ⟨T, hT⟩ : ∃ T, T = txS B := ⟨_, rfl⟩
    rw [← hS, ← hT] at hless
    rw [← hS, ← hT]
    have q1 : ∀ w, (Op.equalIn 10000 50 (.agg #[.int .u8 (G1 0), .int .u8 (G1 1), .int .u8 (G1 2), .int .u8 (G1 3), .int .u8 (G1 4), .int .u8 (G1 5), .int .u8 (G1 6), .int .u8 (G1 7), .int .u8 (G1 8), .int .u8 (G1 9), .int .u8 (G1 10), .int .u8 (G1 11), .int .u8 (G1 12), .int .u8 (G1 13), .int .u8 (G1 14), .int .u8 (G1 15)]) (.agg #[.int .u8 (G2 0), .int .u8 (G2 1), .int .u8 (G2 2), .int .u8 (G2 3), .int .u8 (G2 4), .int .u8 (G2 5), .int .u8 (G2 6), .int .u8 (G2 7), .int .u8 (G2 8), .int .u8 (G2 9), .int .u8 (G2 10), .int .u8 (G2 11), .int .u8 (G2 12), .int .u8 (G2 13), .int .u8 (G2 14), .int .u8 (G2 15)])).run Tryd.prog w = .ok (n == 0) w := fun w => by
      have h := eq_lit G1 G2 w
      rw [HG1.out, HG2.out, ← cmp_zero, ← HN.out] at h
      rw [HG1.out, HG2.out]; exact h
    have HSW : Hid (cmpA B A = -n) := Lib.hid (by rw [cmp_swap, HN.out])
    clear hS hT
    go_wp2_with fail
    rw [HF1.out, HF2.out]
    refine (compare_any B A HLB.out HLA.out _).mono ?_
    rintro e w4 ⟨rfl, b4⟩
    rw [HSW.out]
    as_aux_lemma =>
      have HA4 : Hid (Arr w4 w.heap.size A) := Lib.hid (HA3.out.below b4 HA3.out.1)
      have HBL4 : Hid (Below w.heap.size w w4) := Lib.hid (HQ.out.2.1.trans (b4.mono (by have := HS3.out; omega)))
      have HS4 : Hid (w.heap.size < w4.heap.size) := Lib.hid HA4.out.1
      clear b4 c1 c2 q1 hless
      have c1 : ∀ i, i < 16 → w4.cell? ⟨w.heap.size, i, none⟩ = some (.int .u8 (G1 i)) := fun i hi => by rw [HG1.out]; exact HA4.out.2 i hi
      obtain ⟨U, hU⟩ : ∃ U : Nat → World, U = fun j => w4.alloc (.cells (arC (pre G1 j)) 50) := ⟨_, rfl⟩
      have hU0 : w4.alloc (.cells #[.int .u8 0, .int .u8 0, .int .u8 0, .int .u8 0, .int .u8 0, .int .u8 0, .int .u8 0, .int .u8 0, .int .u8 0, .int .u8 0, .int .u8 0, .int .u8 0, .int .u8 0, .int .u8 0, .int .u8 0, .int .u8 0] 50) = U 0 := by rw [hU, ← z_lit]; rfl
      have hUw : ∀ j, U j = w4.alloc (.cells (arC (pre G1 j)) 50) := fun j => by rw [hU]
      obtain ⟨C, hC⟩ : ∃ C : Nat → Nat → Int, C = fun j i => (pre G1 j).getD i 0 := ⟨_, rfl⟩
      have c0 : ∀ j i, i < 16 → (U j).cell? ⟨w4.heap.size, i, none⟩ = some (.int .u8 (C j i)) := fun j i hi => by
        rw [hUw, hC]; exact (arr_new w4 (pre G1 j) 50 (pre_length G1 j)).2 i hi
      have f0 : ∀ j i, (U j).frozen? ⟨w4.heap.size, i, none⟩ = false := fun j i => by rw [hUw]; exact new_frozen _ _ _
      have s0 : ∀ j, (U j).setCell ⟨w4.heap.size, j, none⟩ (.int .u8 (G1 j)) = U (j + 1) := fun j => by rw [hUw, hUw, new_set]; rfl
      obtain ⟨k, hk⟩ := Int.eq_ofNat_of_zero_le hi16.1
      have hk16 : k < 16 := by omega
      have hk2 : (k : Int) < 16 := by omega
      have hU16 : U 16 = w4.alloc (.cells (arC A) 50) := by rw [hUw, HG1.out, pre_all HLA.out]
      obtain ⟨x, hx⟩ : ∃ x, x = A.getD k 0 := ⟨_, rfl⟩
      have hxr := HOA.out k
      rw [← hx] at hxr
      obtain ⟨y, hy⟩ : ∃ y, y = (x + 1) % 256 := ⟨_, rfl⟩
      obtain ⟨V, hV⟩ : ∃ V, V = w4.alloc (.cells (arC (A.set k y)) 50) := ⟨_, rfl⟩
      have d1 : (U 16).cell? ⟨w4.heap.size, k, none⟩ = some (.int .u8 x) := by rw [hU16, hx]; exact (arr_new w4 A 50 HLA.out).2 k hk16
      have d3 : (U 16).setCell ⟨w4.heap.size, k, none⟩ (.int .u8 y) = V := by rw [hU16, hV, new_set]
      have lA2 : (A.set k y).length = 16 := by rw [List.length_set, HLA.out]
      have hAk : (A.set k y).getD k 0 = y := by
        have := HLA.out
        simp only [List.getD, List.getElem?_set, ↓reduceIte]; rw [if_pos (by omega)]; rfl
      have hvn : Arr V w4.heap.size (A.set k y) := by rw [hV]; exact arr_new w4 _ 50 lA2
      have hva : Arr V w.heap.size A := by rw [hV]; exact HA4.out.alloc _
      have e1 : V.cell? ⟨w4.heap.size, k, none⟩ = some (.int .u8 y) := by have := hvn.2 k hk16; rw [hAk] at this; exact this
      obtain ⟨G3, hG3⟩ : ∃ G : Nat → Int, G = fun i => (A.set k y).getD i 0 := ⟨_, rfl⟩
      have HF3 := Lib.hid (lit_fold lA2 hG3)
      have e2 : ∀ i, i < 16 → V.cell? ⟨w4.heap.size, i, none⟩ = some (.int .u8 (G3 i)) := fun i hi => by rw [hG3]; exact hvn.2 i hi
      have e3 : ∀ i, i < 16 → V.cell? ⟨w.heap.size, i, none⟩ = some (.int .u8 (G1 i)) := fun i hi => by rw [HG1.out]; exact hva.2 i hi
      have HBV : Hid (Below w.heap.size w V) := Lib.hid (by rw [hV]; exact HBL4.out.alloc HBL4.out.size _)
      have HY := Lib.hid hy
      have HXD := Lib.hid hx
      have HL2 := Lib.hid lA2
      have HK := Lib.hid hk16
      clear hU hUw hC hU16 hx hV lA2 hAk hvn hva hG3 hk16
      have hyw : (x + 1) % 256 = y := hy.symm
      clear hy
      by_cases hy0 : y = 0
      · as_aux_lemma =>
          subst hy0
          clear e2
          go_wp2_with fail
          go_ret
          exact ⟨rfl, HBV.out⟩
      · as_aux_lemma =>
          have hyn : (y == 0) = false := by simp [hy0]
          have HM : Hid (cmpA A (A.set k y) = -1) := Lib.hid (by
            have h1 : y = x + 1 := by omega
            rw [h1, HXD.out]; exact cmp_more HLA.out k HK.out)
          clear hy0
          go_wp2_with fail
          rw [HF1.out, HF3.out]
          refine (compare_any A (A.set k y) HLA.out HL2.out _).mono ?_
          rintro e w5 ⟨rfl, b5⟩
          rw [HM.out]
          go_wp2_with fail
          go_ret
          exact ⟨rfl, HBV.out.trans (b5.mono HBV.out.size)⟩
end Go.Proofs.YtfphejndbnmfeaaDoor
