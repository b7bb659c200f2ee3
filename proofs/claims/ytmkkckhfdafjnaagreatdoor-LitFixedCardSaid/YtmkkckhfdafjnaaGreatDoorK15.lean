import Derived.Test.YtmkkckhfdafjnaaGreatDoorK14
/- Layer 18: read, of literals. -/
namespace Go.Proofs.YtmkkckhfdafjnaaGreatDoor.Li
open Go.RowKit Go.Maps
/-- What the tokens from a place tell. -/
def vaR (s : LTok) (a : Int) : LR Out := if 0 ≤ a ∧ a < s.n then ltL s a.toNat else .bad 0 2
/-- Cells are told, and a place; or an error, and its token. -/
def VaP (w : World) (x : LR Out) (e : Ending) (w' : World) : Prop := match x with
  | .ok (j, M) => ∃ v, e = .returned (.tuple #[v, .int .i64 j, .int .i64 0]) ∧ w'.ownsRow w.heap.size 46 5 v M.length (rw5 M) ∧ Below w.heap.size w w'
  | .bad a m => e = .returned (.tuple #[.slice none 0 0, .int .i64 a, .int .i64 m]) ∧ Below w.heap.size w w'
theorem set1_heap {w : World} {N i : Nat} {cs : Array Value} {t : TypeId} {fz : Nat × Nat} {p : Value} (hg : w.heap[N]? = some (.cells cs t fz)) : (w.setCell ⟨N, i, none⟩ p).heap[N]? = some (.cells (cs.setIfInBounds i p) t fz) := by
  simp [World.setCell, Array.getElem?_modify, hg]
theorem ltL_ok {s : LTok} {i j : Nat} {N : List CR} (h : ltL s i = .ok (j, N)) : i < j ∧ j ≤ s.n ∧ N.length ≤ 2048 ∧ 0 < N.length := by
  obtain ⟨f, g⟩ := vaL_goes s 17 ⟨#[]⟩ 0 _ _ _ _ (by decide) h
  exact ⟨f.lt, f.le, f.top, g⟩
set_option maxRecDepth 20000 in
set_option maxHeartbeats 4000000 in
theorem readc_any (s : LTok) (a : Int) (w : World) (hl : LimP w.heap.size w) (ht : TkP w w.heap.size s) : Calls Tryz.prog 38 #[.slice s.a s.n s.c, .int .i64 a, .bool s.fx, .func (.func 39) #[] #[]] w (VaP w (vaR s a)) := by
  have hmf : ∀ (fn : Fn) (first cap : Array Value) (w : World), (Instr.makeFunc fn first cap).run Tryz.prog w = .ok (.func fn first cap) w := fun _ _ _ _ => rfl
  obtain ⟨W0, hW0⟩ : ∃ W0, W0 = (((w.alloc (.cells #[.slice none 0 0] 37)).alloc (.cells #[.int .i64 0] 3)).alloc (.cells #[.int .i64 0] 23)).alloc (.cells #[.slice none 0 0] 37) := ⟨_, rfl⟩
  obtain ⟨N, hN⟩ : ∃ N, N = w.heap.size := ⟨_, rfl⟩
  have hB0 : W0.heap.size = N + 4 := by rw [hW0, hN]; simp
  have b0 : Below w.heap.size w W0 := by rw [hW0]; exact ((((Below.refl _ _).alloc (Nat.le_refl _) _).alloc (by simp) _).alloc (by simp; omega) _).alloc (by simp; omega) _
  have n3 : W0.heap[N + 3]? = some (.cells #[.slice none 0 0] 37) := by
    have e := heap_alloc_new (((w.alloc (.cells #[.slice none 0 0] 37)).alloc (.cells #[.int .i64 0] 3)).alloc (.cells #[.int .i64 0] 23)) (.cells #[.slice none 0 0] 37)
    rw [hW0, hN]; simpa using e
  have n2 : W0.heap[N + 2]? = some (.cells #[.int .i64 0] 23) := by
    have e := heap_alloc_new ((w.alloc (.cells #[.slice none 0 0] 37)).alloc (.cells #[.int .i64 0] 3)) (.cells #[.int .i64 0] 23)
    rw [hW0, hN, heap_alloc_old _ _ (by simp)]; simpa using e
  have n1 : W0.heap[N + 1]? = some (.cells #[.int .i64 0] 3) := by
    have e := heap_alloc_new (w.alloc (.cells #[.slice none 0 0] 37)) (.cells #[.int .i64 0] 3)
    rw [hW0, hN, heap_alloc_old _ _ (by simp), heap_alloc_old _ _ (by simp)]; simpa using e
  have n0 : W0.heap[N]? = some (.cells #[.slice none 0 0] 37) := by
    rw [hW0, hN, heap_alloc_old _ _ (by simp; omega), heap_alloc_old _ _ (by simp; omega), heap_alloc_old _ _ (by simp), heap_alloc_new]
  obtain ⟨Z, hZ⟩ : ∃ Z, Z = vaR s a := ⟨_, rfl⟩
  rw [← hZ]
  unfold vaR at hZ
  by_cases hin : 0 ≤ a ∧ a < s.n
  case neg =>
    have HZ : Hid (Z = .bad 0 2) := Lib.hid (by rw [hZ, if_neg hin])
    have hor : a < 0 ∨ (¬ a < 0 ∧ (s.n : Int) ≤ a) := by omega
    have HB0 := Lib.hid b0
    clear hZ hin n0 n1 n2 n3 hB0 b0
    rcases hor with q | ⟨q, q2⟩
    all_goals
      go_enter_defers Tryz.func38, Tryz.ntmps38
      go_wp2_with fail
      obtain ⟨WE, hWE⟩ : ∃ WE, WE = (((w.alloc (.cells #[.slice none 0 0] 37)).alloc (.cells #[.int .i64 0] 3)).alloc (.cells #[.int .i64 2] 23)).alloc (.cells #[.slice none 0 0] 37) := ⟨_, rfl⟩
      have bE : Below w.heap.size w WE := by rw [hWE]; exact ((((Below.refl _ _).alloc (Nat.le_refl _) _).alloc (by simp) _).alloc (by simp; omega) _).alloc (by simp; omega) _
      have e0 : WE.cell? ⟨w.heap.size, 0, none⟩ = some (.slice none 0 0) := by
        have e : WE.heap[w.heap.size]? = some (.cells #[.slice none 0 0] 37) := by
          rw [hWE, heap_alloc_old _ _ (by simp; omega), heap_alloc_old _ _ (by simp; omega), heap_alloc_old _ _ (by simp), heap_alloc_new]
        simp [World.cell?, e]
      have e1 : WE.cell? ⟨w.heap.size + 1, 0, none⟩ = some (.int .i64 0) := by
        have e : WE.heap[w.heap.size + 1]? = some (.cells #[.int .i64 0] 3) := by
          have e := heap_alloc_new (w.alloc (.cells #[.slice none 0 0] 37)) (.cells #[.int .i64 0] 3)
          rw [hWE, heap_alloc_old _ _ (by simp), heap_alloc_old _ _ (by simp)]; simpa using e
        simp [World.cell?, e]
      have e2 : WE.cell? ⟨w.heap.size + 1 + 1, 0, none⟩ = some (.int .i64 2) := by
        have e : WE.heap[w.heap.size + 1 + 1]? = some (.cells #[.int .i64 2] 23) := by
          have e := heap_alloc_new ((w.alloc (.cells #[.slice none 0 0] 37)).alloc (.cells #[.int .i64 0] 3)) (.cells #[.int .i64 2] 23)
          rw [hWE, heap_alloc_old _ _ (by simp)]; simpa using e
        simp [World.cell?, e]
      rw [← hWE]
      clear hWE
      rw [HZ.out]
      simp [bodyPostD, Leaves, settle, results, Tryz.results38, go_sem, e0, e1, e2]
      exact ⟨rfl, bE⟩
  case pos =>
    obtain ⟨i, rfl⟩ : ∃ i : Nat, a = i := ⟨a.toNat, by omega⟩
    have hi : i < s.n := by omega
    have q1 : ¬ ((i : Int) < 0) := by omega
    have q2 : ¬ ((s.n : Int) ≤ i) := by omega
    have HZ : Hid (Z = ltL s i) := Lib.hid (by rw [hZ, if_pos hin]; rfl)
    have HL0 : Hid (LimP (N + 4) W0) := Lib.hid (by
      have e := b0.block _ hl.1
      refine ⟨by have := hl.1; omega, ?_, ?_⟩
      · rw [← hl.2.1]; unfold World.cell?; dsimp only; rw [e]
      · rw [← hl.2.2]; unfold World.cell?; dsimp only; rw [e])
    obtain ⟨W1, hW1⟩ : ∃ W1, W1 = W0.alloc (.cells #[.slice s.a s.n s.c, .int .i64 i, .bool s.fx, .int .i64 0, .slice none 0 0] 119) := ⟨_, rfl⟩
    have b1 : Below w.heap.size w W1 := by rw [hW1]; exact b0.alloc (by omega) _
    have hk1 : ∀ k, k < N + 4 → W1.heap[k]? = W0.heap[k]? := fun k hk => by rw [hW1]; exact heap_alloc_old _ _ (by omega)
    have HR1 : Hid (RdB W1 (N + 4) s i 0 (.slice none 0 0) []) := Lib.hid (by
      refine ⟨by rw [hW1, ← hB0]; exact heap_alloc_new _ _, ⟨fun j hj => ?_, ht.2⟩, World.ownsRow_nil _ _ _ _⟩
      obtain ⟨b, off, e, h0, h1, h2, h3⟩ := ht.1 j hj
      have c : ∀ o, W1.cell? ⟨b, o, none⟩ = w.cell? ⟨b, o, none⟩ := fun o => World.cell?_of_block (b1.block b h0)
      exact ⟨b, off, e, by omega, by rw [c]; exact h1, by rw [c]; exact h2, by rw [c]; exact h3⟩)
    have HL1 : Hid (LimP (N + 4) W1) := Lib.hid (by
      have e := b1.block _ hl.1
      refine ⟨by have := hl.1; omega, ?_, ?_⟩
      · rw [← hl.2.1]; unfold World.cell?; dsimp only; rw [e]
      · rw [← hl.2.2]; unfold World.cell?; dsimp only; rw [e])
    have HNN : Hid (W1.heap[N]? = some (.cells #[.slice none 0 0] 37) ∧ W1.heap[N + 1]? = some (.cells #[.int .i64 0] 3) ∧ W1.heap[N + 2]? = some (.cells #[.int .i64 0] 23) ∧ W1.heap[N + 3]? = some (.cells #[.slice none 0 0] 37)) := Lib.hid ⟨(hk1 _ (by omega)).trans n0, (hk1 _ (by omega)).trans n1, (hk1 _ (by omega)).trans n2, (hk1 _ (by omega)).trans n3⟩
    have HLT := Lib.hid (literal_any W1 HR1.out HL1.out (by omega))
    obtain ⟨X, hX⟩ : ∃ X, X = ltL s i := ⟨_, rfl⟩
    have HOK := Lib.hid (fun j M => ltL_ok (s := s) (i := i) (j := j) (N := M))
    rw [← hX] at HLT HZ HOK
    have HB1 := Lib.hid b1
    have HN := Lib.hid hN
    rw [hN] at HLT
    clear hZ hin n0 n1 n2 n3 hB0 b0 b1 hk1 hX hN HL0 hl ht
    go_enter_defers Tryz.func38, Tryz.ntmps38
    go_wp2_with fail
    rw [← hW0, ← hW1]
    clear hW0 hW1
    cases X with
    | bad b m =>
      have HL1 : Hid (Calls Tryz.prog 39 #[.pointer (some ⟨w.heap.size + 4, 0, none⟩)] W1 fun e w' => e = thr b m ∧ Below (w.heap.size + 4) W1 w') := HLT
      refine HL1.out.mono ?_
      rintro e w3 ⟨he, b3⟩
      unfold thr at he
      subst he
      have HB3 := Lib.hid b3
      clear b3
      (try go_wp2_with fail)
      have hNn := HN.out
      have hsz : N + 4 < W1.heap.size := HR1.out.lt
      have k0 : w3.heap[w.heap.size]? = some (.cells #[.slice none 0 0] 37) := by rw [← hNn]; exact (HB3.out.block _ (by omega)).trans HNN.out.1
      have k1 : w3.heap[w.heap.size + 1]? = some (.cells #[.int .i64 0] 3) := by rw [← hNn]; exact (HB3.out.block _ (by omega)).trans HNN.out.2.1
      have k2 : w3.heap[w.heap.size + 2]? = some (.cells #[.int .i64 0] 23) := by rw [← hNn]; exact (HB3.out.block _ (by omega)).trans HNN.out.2.2.1
      have k3 : w3.heap[w.heap.size + 3]? = some (.cells #[.slice none 0 0] 37) := by rw [← hNn]; exact (HB3.out.block _ (by omega)).trans HNN.out.2.2.2
      have hs3 : w.heap.size + 4 < w3.heap.size := by have := HB3.out.size; omega
      refine leaves_cons (f := 63) (args := #[.pointer (some ⟨w.heap.size + 1 + 1 + 1, 0, none⟩), .pointer (some ⟨w.heap.size, 0, none⟩), .pointer (some ⟨w.heap.size + 1, 0, none⟩), .pointer (some ⟨w.heap.size + 1 + 1, 0, none⟩)]) (by simp) (by simp [go_sem]) ?_
      refine (rcatchP w.heap.size m b (.slice none 0 0) (.int .i64 0) (.int .i64 0) [] w3 (by simp [World.cell?, k3]) (by simp [World.cell?, k0]) (by simp [World.frozen?, k0]) (by simp [World.cell?, k1]) (by simp [World.frozen?, k1]) (by simp [World.cell?, k2]) (by simp [World.frozen?, k2]) (by omega)).mono ?_
      rintro e u' w'' ⟨rfl, rfl, W, bW, hw⟩
      rw [HZ.out]
      have j0 : W.heap[w.heap.size]? = some (.cells #[.slice none 0 0] 37) := (bW.block _ (by omega)).trans k0
      have j1 : W.heap[w.heap.size + 1]? = some (.cells #[.int .i64 0] 3) := (bW.block _ (by omega)).trans k1
      have j2 : W.heap[w.heap.size + 2]? = some (.cells #[.int .i64 0] 23) := (bW.block _ (by omega)).trans k2
      have m0 : w''.heap[w.heap.size]? = some (.cells #[.slice none 0 0] 37) := by
        rw [hw, Below.heap_setCell _ ⟨w.heap.size + 2, 0, none⟩ _ _ (show w.heap.size ≠ w.heap.size + 2 by omega), Below.heap_setCell _ ⟨w.heap.size + 1, 0, none⟩ _ _ (show w.heap.size ≠ w.heap.size + 1 by omega)]
        simp [World.setCell, Array.getElem?_modify, j0]
      have m1 : w''.heap[w.heap.size + 1]? = some (.cells #[.int .i64 b] 3) := by
        rw [hw, Below.heap_setCell _ ⟨w.heap.size + 2, 0, none⟩ _ _ (show w.heap.size + 1 ≠ w.heap.size + 2 by omega)]
        simp [World.setCell, Array.getElem?_modify, j1]
      have m2 : w''.heap[w.heap.size + 1 + 1]? = some (.cells #[.int .i64 m] 23) := by
        have j3 : ((W.setCell ⟨w.heap.size, 0, none⟩ (.slice none 0 0)).setCell ⟨w.heap.size + 1, 0, none⟩ (.int .i64 b)).heap[w.heap.size + 2]? = some (.cells #[.int .i64 0] 23) := by
          rw [Below.heap_setCell _ ⟨w.heap.size + 1, 0, none⟩ _ _ (show w.heap.size + 2 ≠ w.heap.size + 1 by omega), Below.heap_setCell _ ⟨w.heap.size, 0, none⟩ _ _ (show w.heap.size + 2 ≠ w.heap.size by omega)]
          exact j2
        rw [hw]
        exact set1_heap j3
      have d0 : w''.cell? ⟨w.heap.size, 0, none⟩ = some (.slice none 0 0) := by simp [World.cell?, m0]
      have d1 : w''.cell? ⟨w.heap.size + 1, 0, none⟩ = some (.int .i64 b) := by simp [World.cell?, m1]
      have d2 : w''.cell? ⟨w.heap.size + 1 + 1, 0, none⟩ = some (.int .i64 m) := by simp [World.cell?, m2]
      have bw : Below w.heap.size w w'' := by
        rw [hw]
        exact ((((HB1.out.trans (HB3.out.mono (by omega))).trans (bW.mono (by omega))).setCell (by simp) _).setCell (by simp) _).setCell (by simp) _
      clear hw
      simp [Leaves, settle, results, Tryz.results38, go_sem, d0, d1, d2]
      exact ⟨rfl, bw⟩
    | ok y =>
      obtain ⟨j, M⟩ := y
      have HL1 : Hid (Calls Tryz.prog 39 #[.pointer (some ⟨w.heap.size + 4, 0, none⟩)] W1 fun e w' => ∃ v', e = .returned v' ∧ RdB w' (w.heap.size + 4) s j 0 v' M ∧ Fr (w.heap.size + 4) (.slice none 0 0) v' W1 w') := HLT
      obtain ⟨g1, g2, g3, g4⟩ := HOK.out j M rfl
      refine HL1.out.mono ?_
      rintro e w3 ⟨v3, rfl, r3, f3⟩
      have HR3 := Lib.hid r3
      have HB3 := Lib.hid (f3.below (fun k e => by cases e) (Nat.le_of_lt (HN.out ▸ HR1.out.lt)))
      obtain ⟨q, cap, rfl, hpq, hqs⟩ := r3.addr g4
      have hNn := HN.out
      have hsz : N + 4 < W1.heap.size := HR1.out.lt
      have k0 : w3.heap[w.heap.size]? = some (.cells #[.slice none 0 0] 37) := by rw [← hNn]; exact (HB3.out.block _ (by omega)).trans HNN.out.1
      have k1 : w3.heap[w.heap.size + 1]? = some (.cells #[.int .i64 0] 3) := by rw [← hNn]; exact (HB3.out.block _ (by omega)).trans HNN.out.2.1
      have k2 : w3.heap[w.heap.size + 2]? = some (.cells #[.int .i64 0] 23) := by rw [← hNn]; exact (HB3.out.block _ (by omega)).trans HNN.out.2.2.1
      have x0 : w3.cell? ⟨w.heap.size, 0, none⟩ = some (.slice none 0 0) := by simp [World.cell?, k0]
      have y0 : w3.frozen? ⟨w.heap.size, 0, none⟩ = false := by simp [World.frozen?, k0]
      have x1 : w3.cell? ⟨w.heap.size + 1, 0, none⟩ = some (.int .i64 0) := by simp [World.cell?, k1]
      have y1 : w3.frozen? ⟨w.heap.size + 1, 0, none⟩ = false := by simp [World.frozen?, k1]
      have x2 : w3.cell? ⟨w.heap.size + 1 + 1, 0, none⟩ = some (.int .i64 0) := by simp [World.cell?, k2]
      have y2 : w3.frozen? ⟨w.heap.size + 1 + 1, 0, none⟩ = false := by simp [World.frozen?, k2]
      have x4 : w3.cell? ⟨w.heap.size + 1 + 1 + 1 + 1, 1, none⟩ = some (.int .i64 j) := r3.c1
      have HK := Lib.hid (And.intro k0 (And.intro k1 k2))
      clear r3 f3 hNn k0 k1 k2
      go_wp2_with fail
      go_region
      all_goals
        go_wp2_with fail
        obtain ⟨V, hV⟩ : ∃ V, V = Value.slice (some ⟨q, 0, none⟩) M.length cap := ⟨_, rfl⟩
        rw [← hV]
        obtain ⟨Wf, hWf⟩ : ∃ Wf, Wf = ((((w3.setCell ⟨w.heap.size, 0, none⟩ V).setCell ⟨w.heap.size, 0, none⟩ V).setCell ⟨w.heap.size + 1, 0, none⟩ (.int .i64 j)).setCell ⟨w.heap.size + 1 + 1, 0, none⟩ (.int .i64 0)).drew := ⟨_, rfl⟩
        have hkeep : ∀ k, k ≠ w.heap.size → k ≠ w.heap.size + 1 → k ≠ w.heap.size + 1 + 1 → Wf.heap[k]? = w3.heap[k]? := fun k h1 h2 h3 => by
          rw [hWf]
          show ((((w3.setCell ⟨w.heap.size, 0, none⟩ V).setCell ⟨w.heap.size, 0, none⟩ V).setCell ⟨w.heap.size + 1, 0, none⟩ (.int .i64 j)).setCell ⟨w.heap.size + 1 + 1, 0, none⟩ (.int .i64 0)).heap[k]? = _
          rw [Below.heap_setCell _ ⟨w.heap.size + 1 + 1, 0, none⟩ _ _ h3, Below.heap_setCell _ ⟨w.heap.size + 1, 0, none⟩ _ _ h2, Below.heap_setCell _ ⟨w.heap.size, 0, none⟩ _ _ h1, Below.heap_setCell _ ⟨w.heap.size, 0, none⟩ _ _ h1]
        have m0 : Wf.heap[w.heap.size]? = some (.cells #[V] 37) := by
          rw [hWf]
          show ((((w3.setCell ⟨w.heap.size, 0, none⟩ V).setCell ⟨w.heap.size, 0, none⟩ V).setCell ⟨w.heap.size + 1, 0, none⟩ (.int .i64 j)).setCell ⟨w.heap.size + 1 + 1, 0, none⟩ (.int .i64 0)).heap[w.heap.size]? = _
          rw [Below.heap_setCell _ ⟨w.heap.size + 1 + 1, 0, none⟩ _ _ (show w.heap.size ≠ w.heap.size + 1 + 1 by omega), Below.heap_setCell _ ⟨w.heap.size + 1, 0, none⟩ _ _ (show w.heap.size ≠ w.heap.size + 1 by omega)]
          exact set1_heap (set1_heap HK.out.1)
        have m1 : Wf.heap[w.heap.size + 1]? = some (.cells #[.int .i64 j] 3) := by
          rw [hWf]
          show ((((w3.setCell ⟨w.heap.size, 0, none⟩ V).setCell ⟨w.heap.size, 0, none⟩ V).setCell ⟨w.heap.size + 1, 0, none⟩ (.int .i64 j)).setCell ⟨w.heap.size + 1 + 1, 0, none⟩ (.int .i64 0)).heap[w.heap.size + 1]? = _
          rw [Below.heap_setCell _ ⟨w.heap.size + 1 + 1, 0, none⟩ _ _ (show w.heap.size + 1 ≠ w.heap.size + 1 + 1 by omega)]
          refine set1_heap (cs := #[.int .i64 0]) ?_
          rw [Below.heap_setCell _ ⟨w.heap.size, 0, none⟩ _ _ (show w.heap.size + 1 ≠ w.heap.size by omega), Below.heap_setCell _ ⟨w.heap.size, 0, none⟩ _ _ (show w.heap.size + 1 ≠ w.heap.size by omega)]
          exact HK.out.2.1
        have m2 : Wf.heap[w.heap.size + 1 + 1]? = some (.cells #[.int .i64 0] 23) := by
          rw [hWf]
          show ((((w3.setCell ⟨w.heap.size, 0, none⟩ V).setCell ⟨w.heap.size, 0, none⟩ V).setCell ⟨w.heap.size + 1, 0, none⟩ (.int .i64 j)).setCell ⟨w.heap.size + 1 + 1, 0, none⟩ (.int .i64 0)).heap[w.heap.size + 1 + 1]? = _
          refine set1_heap (cs := #[.int .i64 0]) ?_
          rw [Below.heap_setCell _ ⟨w.heap.size + 1, 0, none⟩ _ _ (show w.heap.size + 1 + 1 ≠ w.heap.size + 1 by omega), Below.heap_setCell _ ⟨w.heap.size, 0, none⟩ _ _ (show w.heap.size + 1 + 1 ≠ w.heap.size by omega), Below.heap_setCell _ ⟨w.heap.size, 0, none⟩ _ _ (show w.heap.size + 1 + 1 ≠ w.heap.size by omega)]
          exact HK.out.2.2
        have bw : Below w.heap.size w Wf := by
          rw [hWf]
          exact (((((HB1.out.trans (HB3.out.mono (by omega))).setCell (by simp) _).setCell (by simp) _).setCell (by simp) _).setCell (by simp; omega) _).drew
        have hrow : Wf.ownsRow w.heap.size 46 5 V M.length (rw5 M) := by
          rw [hV]
          exact own_base (own_move HR3.out.row (fun k hk => by
            cases hk
            exact hkeep q (by omega) (by omega) (by omega))) (by omega)
        have d0 : Wf.cell? ⟨w.heap.size, 0, none⟩ = some V := by simp [World.cell?, m0]
        have d1 : Wf.cell? ⟨w.heap.size + 1, 0, none⟩ = some (.int .i64 j) := by simp [World.cell?, m1]
        have d2 : Wf.cell? ⟨w.heap.size + 1 + 1, 0, none⟩ = some (.int .i64 0) := by simp [World.cell?, m2]
        rw [← hWf]
        clear hWf hkeep m0 m1 m2
        refine leaves_cons (f := 63) (args := #[.pointer (some ⟨w.heap.size + 1 + 1 + 1, 0, none⟩), .pointer (some ⟨w.heap.size, 0, none⟩), .pointer (some ⟨w.heap.size + 1, 0, none⟩), .pointer (some ⟨w.heap.size + 1 + 1, 0, none⟩)]) (by simp) (by simp [go_sem]) ?_
        refine (rcatchI _ _ _ _ Wf).mono ?_
        rintro e u' w'' ⟨rfl, rfl, rfl⟩
        rw [HZ.out]
        simp [Leaves, settle, results, Tryz.results38, go_sem, d0, d1, d2]
        exact ⟨_, rfl, hrow, bw⟩
end Go.Proofs.YtmkkckhfdafjnaaGreatDoor.Li
/- Layer 18: Value; the tokens of marks and names. -/
namespace Go.Proofs.YtmkkckhfdafjnaaGreatDoor.Li
open Go.RowKit Go.Maps
theorem valc_any (s : LTok) (a : Int) (w : World) (hl : LimP w.heap.size w) (ht : TkP w w.heap.size s) : Calls Tryz.prog 10 #[.slice s.a s.n s.c, .int .i64 a, .bool s.fx] w (VaP w (vaR s a)) := by
  have H := readc_any s a w hl ht
  obtain ⟨X, hX⟩ : ∃ X, X = vaR s a := ⟨_, rfl⟩
  rw [← hX] at H
  rw [← hX]
  clear hX
  go_enter Tryz.func10, Tryz.ntmps10
  go_wp2_with fail
  cases X with
  | bad b m =>
    refine H.mono ?_
    rintro e w' ⟨rfl, bw⟩
    go_wp2_with fail
    go_ret3
    exact ⟨rfl, bw⟩
  | ok y =>
    obtain ⟨j, M⟩ := y
    refine H.mono ?_
    rintro e w' ⟨v, rfl, ho, bw⟩
    go_wp2_with fail
    go_ret3
    exact ⟨v, rfl, ho, bw⟩
theorem ret_t3 {R : Ending → World → Prop} {fn : Func} {tmps : Array Value} {w : World} {g k : Nat} {cs : Array Value} (hr : fn.results = #[.cell k 59]) (h2 : tmps.getD k undef = .pointer (some ⟨g, 0, none⟩)) (hg : w.heap[g]? = some (.cells cs 59)) (hs : cs.size = 3)
    (hR : R (.returned (.agg cs)) w) : bodyPost Tryz.prog fn R .ret ⟨tmps, []⟩ w := by
  obtain ⟨i0, hin, hz0, hz1, hz2⟩ := infoT
  refine bodyPost_ret (v := .agg cs) ?_ rfl hR
  exact results_cell_row hr tmps w g 59 cs (0, 0) _ h2 hg Tryz.underlying59 rfl (by rw [hin]; simp [hz1, hs])
theorem markT_any (x : ByteArray) (w : World) : Calls Tryz.prog 44 #[.string x] w fun e w' => e = .returned (.agg #[.int .u8 4, .string x, .int .i64 0]) ∧ Below w.heap.size w w' := by
  go_enter Tryz.func44, Tryz.ntmps44
  go_wp2_with fail
  exact ret_t3 Tryz.results44 rfl (heap_alloc_new _ _) rfl ⟨rfl, (Below.refl _ _).alloc (Nat.le_refl _) _⟩
theorem nameT_any (x : ByteArray) (w : World) : Calls Tryz.prog 45 #[.string x] w fun e w' => e = .returned (.agg #[.int .u8 1, .string x, .int .i64 0]) ∧ Below w.heap.size w w' := by
  go_enter Tryz.func45, Tryz.ntmps45
  go_wp2_with fail
  exact ret_t3 Tryz.results45 rfl (heap_alloc_new _ _) rfl ⟨rfl, (Below.refl _ _).alloc (Nat.le_refl _) _⟩
end Go.Proofs.YtmkkckhfdafjnaaGreatDoor.Li
/- Layer 18: mayBe. -/
namespace Go.Proofs.YtmkkckhfdafjnaaGreatDoor.Li
open Go.RowKit Go.Maps
/-- May a cell's name be, and its text, if it is an enum's? -/
def mbC (c : CR) : Bool := (decide (c.nm.toList.isEmpty = true) || nmB c.nm) && !(decide (c.k = 4) && !decide ((namedL c.tx).k = 4))
def mbB (g : Nat → CR) (n : Nat) : Bool := (List.range n).all (fun i => mbC (g i)) && ckC g n
theorem mb_no {g : Nat → CR} {n i : Nat} (hi : i < n) (h : mbC (g i) = false) : mbB g n = false := by
  unfold mbB
  rw [Bool.and_eq_false_iff]
  refine .inl (List.all_eq_false.2 ⟨i, List.mem_range.2 hi, by simpa using h⟩)
theorem mb_all {g : Nat → CR} {n : Nat} (h : ∀ j, j < n → mbC (g j) = true) : mbB g n = ckC g n := by
  unfold mbB
  rw [List.all_eq_true.2 (fun i hi => h i (List.mem_range.1 hi)), Bool.true_and]
theorem fldC (c : CR) (W : World) : (Instr.field 46 (clV c) 0).run Tryz.prog W = .ok (.int .u8 c.k) W := by
  have u := Tryz.underlying46
  have u2 := Tryz.underlying5
  have z := Tryz.sizeOf5
  unfold clV Instr.field
  go_simp
  first | rfl | simp [run_underlying u, u, u2, z, Value.cells]
set_option maxRecDepth 20000 in
set_option maxHeartbeats 2000000 in
theorem mayBe_any (a : Option Addr) (n cap : Nat) (g : Nat → CR) (w : World) (hv : CV w a n g) (hcw : CW n g) (hn : n ≤ 100000) (hs : ∀ i, i < n → (g i).nm.size ≤ 1000000) : Calls Tryz.prog 41 #[.slice a n cap] w fun e w' => e = .returned (.bool (mbB g n)) ∧ Below w.heap.size w w' := by
  obtain ⟨x, hx⟩ : ∃ x, x = mbB g n := ⟨_, rfl⟩
  rw [← hx]
  replace hx := Lib.hid hx
  have HV := Lib.hid hv
  have HC := Lib.hid (fun W (b : Below w.heap.size w W) => cCheck_any a n cap g W (hv.below b) hcw)
  clear hv hcw
  have hn' : (n : Int) ≤ 9223372036854775807 := by omega
  go_enter Tryz.func41, Tryz.ntmps41
  go_wp2_with fail
  go_loopw [7] (fun v7 wr => ∃ i : Nat, i ≤ n ∧ v7 = .int .i64 i ∧ Hid (∀ j, j < i → mbC (g j) = true) ∧ Hid (Below w.heap.size w wr)) (fun v7 _ => n - (intOf v7).toNat)
  case atStart => exact ⟨0, Nat.zero_le _, rfl, Lib.hid (fun j hj => by omega), Lib.hid (Below.refl _ _)⟩
  case round =>
    obtain ⟨i, hi, rfl, HN, HB⟩ := hrel
    by_cases h1 : i < n
    · obtain ⟨b, off, rfl⟩ := HV.out.addr (by omega)
      obtain ⟨_, d0, d1, d2, d3, d4⟩ := (HV.out.below HB.out).at_ h1
      have hg1 : (i : Int) < n := by omega
      have hg0 : (0 : Int) ≤ i := by omega
      obtain ⟨c, hc⟩ : ∃ c, c = g i := ⟨_, rfl⟩
      rw [← hc] at d0 d1 d2 d3 d4
      have hnms : c.nm.size ≤ 1000000 := hc ▸ hs i h1
      have hM : mbC (g i) = ((decide (c.nm.toList.isEmpty = true) || nmB c.nm) && !(decide (c.k = 4) && !decide ((namedL c.tx).k = 4))) := by rw [← hc]; rfl
      have HNM := Lib.hid (fun W => lname_any c.nm W hnms)
      have HND := Lib.hid (fun W => named_any c.tx W)
      obtain ⟨Q, hQ⟩ : ∃ Q, Q = nmB c.nm := ⟨_, rfl⟩
      obtain ⟨D, hD⟩ : ∃ D, D = namedL c.tx := ⟨_, rfl⟩
      clear hc
      rw [← hQ, ← hD] at hM
      rw [← hQ] at HNM
      rw [← hD] at HND
      clear hQ hD
      have hfl : ∀ W : World, (Instr.field 46 (clV D) 0).run Tryz.prog W = .ok (.int .u8 D.k) W := fldC D
      have hb : ∀ (e : Bool), c.nm.toList.isEmpty = e → Hid (mbC (g i) = ((decide (e = true) || Q) && !(decide (c.k = 4) && !decide (D.k = 4)))) := fun e h => Lib.hid (by rw [hM, h])
      clear hM
      have hna : (c.nm.toList.isEmpty = true) ∨ (c.nm.toList.isEmpty = false ∧ Q = true) ∨ (c.nm.toList.isEmpty = false ∧ Q = false) := by
        cases c.nm.toList.isEmpty <;> cases Q <;> simp
      have hka : (¬ (c.k : Int) = 4) ∨ ((c.k : Int) = 4 ∧ (D.k : Int) = 4) ∨ ((c.k : Int) = 4 ∧ ¬ (D.k : Int) = 4) := by omega
      rcases hna with ha | ⟨ha, hq⟩ | ⟨ha, hq⟩
      · have HM := hb _ ha
        clear hb
        rcases hka with hk | ⟨hk, hd⟩ | ⟨hk, hd⟩
        · have HT : Hid (mbC (g i) = true) := Lib.hid (by rw [HM.out, decide_eq_false (show ¬ c.k = 4 by omega)] <;> rfl)
          have HN2 : Hid (∀ j, j < i + 1 → mbC (g j) = true) := Lib.hid (fun j hj => by
            by_cases e : j = i
            · subst e; exact HT.out
            · exact HN.out j (by omega))
          clear HM HT HN
          go_wp2_with (first | (go_at_call 43; refine (HNM.out _).mono ?_; rintro e w2 ⟨rfl, rfl⟩) | (go_at_call 65; refine (HND.out _).mono ?_; rintro e w2 ⟨rfl, b2⟩; have B2 := Lib.hid b2; clear b2))
          exact ⟨⟨i + 1, by omega, by go_num, HN2, Lib.hid (HB.out.trans ((below_box wr _).mono HB.out.size))⟩, by simp [intOf]; omega⟩
        · have HT : Hid (mbC (g i) = true) := Lib.hid (by rw [HM.out, decide_eq_true (show c.k = 4 by omega), decide_eq_true (show D.k = 4 by omega)] <;> rfl)
          have HN2 : Hid (∀ j, j < i + 1 → mbC (g j) = true) := Lib.hid (fun j hj => by
            by_cases e : j = i
            · subst e; exact HT.out
            · exact HN.out j (by omega))
          clear HM HT HN
          go_wp2_with (first | (go_at_call 43; refine (HNM.out _).mono ?_; rintro e w2 ⟨rfl, rfl⟩) | (go_at_call 65; refine (HND.out _).mono ?_; rintro e w2 ⟨rfl, b2⟩; have B2 := Lib.hid b2; clear b2))
          exact ⟨⟨i + 1, by omega, by go_num, HN2, Lib.hid (HB.out.trans (((below_box wr _).mono HB.out.size).trans (B2.out.mono (by have := HB.out.size; simp; omega))))⟩, by simp [intOf]; omega⟩
        · have HX : Hid (x = false) := Lib.hid (by rw [hx.out]; exact mb_no h1 (by rw [HM.out, decide_eq_true (show c.k = 4 by omega), decide_eq_false (show ¬ D.k = 4 by omega)] <;> rfl))
          clear HM HN
          go_wp2_with (first | (go_at_call 43; refine (HNM.out _).mono ?_; rintro e w2 ⟨rfl, rfl⟩) | (go_at_call 65; refine (HND.out _).mono ?_; rintro e w2 ⟨rfl, b2⟩; have B2 := Lib.hid b2; clear b2))
          go_ret
          exact ⟨ret_bool HX.out.symm, HB.out.trans (((below_box wr _).mono HB.out.size).trans (B2.out.mono (by have := HB.out.size; simp; omega)))⟩
      · have HM := hb _ ha
        clear hb
        subst hq
        rcases hka with hk | ⟨hk, hd⟩ | ⟨hk, hd⟩
        · have HT : Hid (mbC (g i) = true) := Lib.hid (by rw [HM.out, decide_eq_false (show ¬ c.k = 4 by omega)] <;> rfl)
          have HN2 : Hid (∀ j, j < i + 1 → mbC (g j) = true) := Lib.hid (fun j hj => by
            by_cases e : j = i
            · subst e; exact HT.out
            · exact HN.out j (by omega))
          clear HM HT HN
          go_wp2_with (first | (go_at_call 43; refine (HNM.out _).mono ?_; rintro e w2 ⟨rfl, rfl⟩) | (go_at_call 65; refine (HND.out _).mono ?_; rintro e w2 ⟨rfl, b2⟩; have B2 := Lib.hid b2; clear b2))
          exact ⟨⟨i + 1, by omega, by go_num, HN2, Lib.hid (HB.out.trans ((below_box wr _).mono HB.out.size))⟩, by simp [intOf]; omega⟩
        · have HT : Hid (mbC (g i) = true) := Lib.hid (by rw [HM.out, decide_eq_true (show c.k = 4 by omega), decide_eq_true (show D.k = 4 by omega)] <;> rfl)
          have HN2 : Hid (∀ j, j < i + 1 → mbC (g j) = true) := Lib.hid (fun j hj => by
            by_cases e : j = i
            · subst e; exact HT.out
            · exact HN.out j (by omega))
          clear HM HT HN
          go_wp2_with (first | (go_at_call 43; refine (HNM.out _).mono ?_; rintro e w2 ⟨rfl, rfl⟩) | (go_at_call 65; refine (HND.out _).mono ?_; rintro e w2 ⟨rfl, b2⟩; have B2 := Lib.hid b2; clear b2))
          exact ⟨⟨i + 1, by omega, by go_num, HN2, Lib.hid (HB.out.trans (((below_box wr _).mono HB.out.size).trans (B2.out.mono (by have := HB.out.size; simp; omega))))⟩, by simp [intOf]; omega⟩
        · have HX : Hid (x = false) := Lib.hid (by rw [hx.out]; exact mb_no h1 (by rw [HM.out, decide_eq_true (show c.k = 4 by omega), decide_eq_false (show ¬ D.k = 4 by omega)] <;> rfl))
          clear HM HN
          go_wp2_with (first | (go_at_call 43; refine (HNM.out _).mono ?_; rintro e w2 ⟨rfl, rfl⟩) | (go_at_call 65; refine (HND.out _).mono ?_; rintro e w2 ⟨rfl, b2⟩; have B2 := Lib.hid b2; clear b2))
          go_ret
          exact ⟨ret_bool HX.out.symm, HB.out.trans (((below_box wr _).mono HB.out.size).trans (B2.out.mono (by have := HB.out.size; simp; omega)))⟩
      · have HM := hb _ ha
        clear hb
        subst hq
        have HX : Hid (x = false) := Lib.hid (by rw [hx.out]; exact mb_no h1 (by rw [HM.out]; rfl))
        clear HM HN
        go_wp2_with (first | (go_at_call 43; refine (HNM.out _).mono ?_; rintro e w2 ⟨rfl, rfl⟩) | (go_at_call 65; refine (HND.out _).mono ?_; rintro e w2 ⟨rfl, b2⟩; have B2 := Lib.hid b2; clear b2))
        go_ret
        exact ⟨ret_bool HX.out.symm, HB.out.trans ((below_box wr _).mono HB.out.size)⟩
    · have e1 : i = n := by omega
      subst e1
      have HX : Hid (x = ckC g i) := Lib.hid (by rw [hx.out]; exact mb_all HN.out)
      have hg1 : ¬ (i : Int) < i := by omega
      clear HN
      have HC1 := HC.out _ HB.out
      obtain ⟨K, hK⟩ : ∃ K, K = ckC g i := ⟨_, rfl⟩
      rw [← hK] at HC1 HX
      replace HC1 := Lib.hid HC1
      clear hK
      cases K with
      | true =>
        have HC2 : Hid (Calls Tryz.prog 66 #[.slice a i cap] wr fun e w' => e = .returned (.int .i64 0) ∧ Below wr.heap.size wr w') := HC1
        clear HC1
        go_wp2_with (go_at_call 66; refine HC2.out.mono ?_; rintro e w2 ⟨rfl, b2⟩; have B2 := Lib.hid b2; clear b2)
        go_ret
        exact ⟨ret_bool HX.out.symm, HB.out.trans (B2.out.mono HB.out.size)⟩
      | false =>
        have HC2 : Hid (Calls Tryz.prog 66 #[.slice a i cap] wr fun e w' => e = .returned (.int .i64 8) ∧ Below wr.heap.size wr w') := HC1
        clear HC1
        go_wp2_with (go_at_call 66; refine HC2.out.mono ?_; rintro e w2 ⟨rfl, b2⟩; have B2 := Lib.hid b2; clear b2)
        go_ret
        exact ⟨ret_bool HX.out.symm, HB.out.trans (B2.out.mono HB.out.size)⟩
end Go.Proofs.YtmkkckhfdafjnaaGreatDoor.Li
/- Layer 18: put, of a value that has none within. -/
namespace Go.Proofs.YtmkkckhfdafjnaaGreatDoor.Li
open Go.RowKit Go.Maps
theorem push1 {w0 w w1 w' : World} {v v' : Value} {L : List TkR} {t : TkR} {o : Obj} (hB : Below w0.heap.size w0 w) (hO : OwT w0.heap.size w v L) (b1 : Below w.heap.size w w1) (hg : (w1.alloc o).grownBy w' v.ownBlock) (ho : w'.ownsRow w0.heap.size 59 3 v' (L.length + 1) (rw3 (gt L) L.length ++ [.int .u8 t.k, .string t.s, .int .i64 t.a])) : Below w0.heap.size w0 w' ∧ OwT w0.heap.size w' v' (L ++ [t]) := by
  have hlt := fun k e => hO.lt k e
  have hsz : (w1.alloc o).heap.size = w1.heap.size + 1 := by simp
  have hb := hB.trans (b1.mono hB.size)
  refine ⟨⟨hg.os.trans hb.os, hg.tape.trans hb.tape, hg.output.trans hb.output, Nat.le_trans hb.size (Nat.le_trans (by omega) hg.size), fun k hk => ?_⟩, ?_⟩
  · have hk2 := Nat.lt_of_lt_of_le hk hb.size
    exact ((hg.block k (by omega) (fun e => by have := (hlt k e.symm).1; omega)).trans (heap_alloc_old _ _ hk2)).trans (hb.block k hk)
  · unfold OwT
    rw [List.length_append, List.length_singleton, rw3_snoc]
    exact ho
theorem push2 {w0 w w1 w' : World} {v v' : Value} {L : List TkR} {t u : TkR} {o : Obj} (hB : Below w0.heap.size w0 w) (hO : OwT w0.heap.size w v L) (b1 : Below w.heap.size w w1) (hg : (w1.alloc o).grownBy w' v.ownBlock) (ho : w'.ownsRow w0.heap.size 59 3 v' (L.length + 2) (rw3 (gt L) L.length ++ [.int .u8 t.k, .string t.s, .int .i64 t.a, .int .u8 u.k, .string u.s, .int .i64 u.a])) : Below w0.heap.size w0 w' ∧ OwT w0.heap.size w' v' (L ++ [t, u]) := by
  have hlt := fun k e => hO.lt k e
  have hsz : (w1.alloc o).heap.size = w1.heap.size + 1 := by simp
  have hb := hB.trans (b1.mono hB.size)
  refine ⟨⟨hg.os.trans hb.os, hg.tape.trans hb.tape, hg.output.trans hb.output, Nat.le_trans hb.size (Nat.le_trans (by omega) hg.size), fun k hk => ?_⟩, ?_⟩
  · have hk2 := Nat.lt_of_lt_of_le hk hb.size
    exact ((hg.block k (by omega) (fun e => by have := (hlt k e.symm).1; omega)).trans (heap_alloc_old _ _ hk2)).trans (hb.block k hk)
  · have e1 := rw3_snoc L t
    have e2 := rw3_snoc (L ++ [t]) u
    rw [List.length_append, List.length_singleton, e1, List.append_assoc, List.append_assoc] at e2
    unfold OwT
    rw [show (L ++ [t, u]).length = L.length + 1 + 1 by simp]
    show w'.ownsRow w0.heap.size 59 3 v' (L.length + 1 + 1) (rw3 (gt (L ++ ([t] ++ [u]))) (L.length + 1 + 1))
    rw [e2]
    exact ho
theorem step_tok {ops : Array Oper} {o : Oper} {a : Act} {w : World} {K : Act → World → Prop} {Q : Exit → Act → World → Prop} {E : Prop} (hgd : o.guard = none) (s x : Operand)
    (ho : o.op = .call { callee := .builtin .append, args := #[s, x], argTypes := #[22, 22] }) (B m : Nat) (v : Value) (n : Nat) (R : List Value) (M : List Value) (b : Nat) (hs : a.eval s = v) (hx : a.eval x = .slice (some ⟨b, 0, none⟩) m m) (hO : w.ownsRow B 59 3 v n R) (hb : w.heap[b]? = some (.cells M.toArray 59)) (hM : M.length = m * 3) (hc : ∀ u ∈ M, u.oneCell' = true) (hl : n + m ≤ 200000) (hB : B ≤ w.heap.size)
    (hK : ∀ v' w', w'.ownsRow B 59 3 v' (n + m) (R ++ M) → w.grownBy w' v.ownBlock → K (a.put o.dst v') w') : if Region.wanted o (yielded ops a.tmps) = true then Oper.wp Tryz.prog o a w K Q else E := by
  have hw : Region.wanted o (yielded ops a.tmps) = true := by simp [Region.wanted, hgd]
  rw [if_pos hw]
  obtain ⟨i0, hin, hz0, hz1, hz2⟩ := infoT
  have hnews : ∀ j u, M[j]? = some u → w.cell? ((⟨b, 0, none⟩ : Addr).add j) = some u := fun j u hj => by
    simp only [Addr.add_lit, Nat.zero_add, World.cell?, hb]
    simpa using hj
  obtain ⟨v', w', hrun, r1, r2, _, r3⟩ := run_append_own_at (P := Tryz.prog) (w := w) B 22 o.type 59 i0 (.agg #[.int .u8 0, .string ⟨#[]⟩, .int .i64 0]) 3 32 Tryz.underlying22 hin hz0 hz1 hz2 rfl (by decide) v n R hO ⟨b, 0, none⟩ m m M hM hnews hc (by unfold maxLen; omega) (by omega) hB
  unfold Oper.wp
  simp [execOp, ho, resolve, invoke, builtin, hs, hx, hrun, Result.andThen]
  exact hK v' w' r1 r2
/-- What put answers. -/
def PuP (w0 : World) (L : List TkR) (x : List TkR × Nat) (e : Ending) (w' : World) : Prop := ∃ v', e = .returned (.tuple #[v', .int .i64 x.2]) ∧ Below w0.heap.size w0 w' ∧ OwT w0.heap.size w' v' (L ++ x.1)
set_option maxRecDepth 20000 in
set_option maxHeartbeats 4000000 in
theorem put_null (w0 : World) (a : Option Addr) (n cap : Nat) (g : Nat → CR) (hv : CV w0 a n g) (p : Nat) (hp : p < n) (hn : n ≤ 100000) (hk : ((g p).k : Int) = 0) (w : World) (v : Value) (L : List TkR) (hB : Below w0.heap.size w0 w) (hO : OwT w0.heap.size w v L) (hl : L.length ≤ 100000) : Calls Tryz.prog 42 #[v, .slice a n cap, .int .i64 p] w (PuP w0 L ([nmT tNull], p + 1)) := by
  obtain ⟨i0, hin, hz0, hz1, hz2⟩ := infoT
  obtain ⟨b, off, rfl⟩ := hv.addr (by omega)
  obtain ⟨_, d0, d1, d2, d3, d4⟩ := (hv.below hB).at_ hp
  have hp0 : (0 : Int) ≤ p := by omega
  have hp1 : (p : Int) < n := by omega
  have hp2 : (p : Int) ≤ 100000 := by omega
  obtain ⟨c, hc⟩ : ∃ c, c = g p := ⟨_, rfl⟩
  rw [← hc] at d0 d1 d2 d3 d4 hk
  clear hc
  have HN := Lib.hid nameT_any
  have HM := Lib.hid markT_any
  have HBB := Lib.hid hB
  have HO := Lib.hid hO
  have HB1 := Lib.hid (fun o => below_box w o)
  clear hv hB hO
  go_enter Tryz.func42, Tryz.ntmps42
  go_wp2_with fail
  refine (HN.out _ _).mono ?_
  rintro e w2 ⟨rfl, b2⟩
  have B2 := Lib.hid b2
  have OW := Lib.hid (own_below (own_below HO.out (HB1.out _)) b2)
  have BW := Lib.hid ((HB1.out _).trans (b2.mono (HB1.out _).size))
  clear b2
  go_wp2_with (at_builtin; go_loud (refine wpList_append_own _ rfl _ _ 22 rfl w0.heap.size 59 i0 (.agg #[.int .u8 0, .string ⟨#[]⟩, .int .i64 0]) 3 32 Tryz.underlying22 hin hz0 hz1 hz2 rfl (by decide) _ L.length (rw3 (gt L) L.length) rfl (World.ownsRow.alloc OW.out _) ⟨_, 0, none⟩ 1 1 [.int .u8 1, .string tNull, .int .i64 0] rfl rfl (news_at2 _ _ _ _ rfl (by simp)) (by intro u hu; simp at hu; rcases hu with rfl | rfl | rfl <;> rfl) (by unfold maxLen; omega) (by omega) (by have h1 := HBB.out.size; have h3 := BW.out.size; simp; omega) ?_; intro v' w3 ho hg hne; clear hne))
  go_wp2_with fail
  go_ret2
  exact ⟨v', rfl, push1 (t := nmT tNull) HBB.out HO.out BW.out hg ho⟩
set_option maxRecDepth 20000 in
set_option maxHeartbeats 4000000 in
theorem put_true (w0 : World) (a : Option Addr) (n cap : Nat) (g : Nat → CR) (hv : CV w0 a n g) (p : Nat) (hp : p < n) (hn : n ≤ 100000) (hk : ((g p).k : Int) = 1) (h1 : (g p).n = 1) (w : World) (v : Value) (L : List TkR) (hB : Below w0.heap.size w0 w) (hO : OwT w0.heap.size w v L) (hl : L.length ≤ 100000) : Calls Tryz.prog 42 #[v, .slice a n cap, .int .i64 p] w (PuP w0 L ([nmT tTrue], p + 1)) := by
  obtain ⟨i0, hin, hz0, hz1, hz2⟩ := infoT
  obtain ⟨b, off, rfl⟩ := hv.addr (by omega)
  obtain ⟨_, d0, d1, d2, d3, d4⟩ := (hv.below hB).at_ hp
  have hp0 : (0 : Int) ≤ p := by omega
  have hp1 : (p : Int) < n := by omega
  have hp2 : (p : Int) ≤ 100000 := by omega
  obtain ⟨c, hc⟩ : ∃ c, c = g p := ⟨_, rfl⟩
  rw [← hc] at d0 d1 d2 d3 d4 hk h1
  clear hc
  have HN := Lib.hid nameT_any
  have HM := Lib.hid markT_any
  have HBB := Lib.hid hB
  have HO := Lib.hid hO
  have HB1 := Lib.hid (fun o => below_box w o)
  clear hv hB hO
  go_enter Tryz.func42, Tryz.ntmps42
  go_wp2_with fail
  refine (HN.out _ _).mono ?_
  rintro e w2 ⟨rfl, b2⟩
  have B2 := Lib.hid b2
  have OW := Lib.hid (own_below (own_below HO.out (HB1.out _)) b2)
  have BW := Lib.hid ((HB1.out _).trans (b2.mono (HB1.out _).size))
  clear b2
  go_wp2_with (at_builtin; go_loud (refine wpList_append_own _ rfl _ _ 22 rfl w0.heap.size 59 i0 (.agg #[.int .u8 0, .string ⟨#[]⟩, .int .i64 0]) 3 32 Tryz.underlying22 hin hz0 hz1 hz2 rfl (by decide) _ L.length (rw3 (gt L) L.length) rfl (World.ownsRow.alloc OW.out _) ⟨_, 0, none⟩ 1 1 [.int .u8 1, .string tTrue, .int .i64 0] rfl rfl (news_at2 _ _ _ _ rfl (by simp)) (by intro u hu; simp at hu; rcases hu with rfl | rfl | rfl <;> rfl) (by unfold maxLen; omega) (by omega) (by have h1 := HBB.out.size; have h3 := BW.out.size; simp; omega) ?_; intro v' w3 ho hg hne; clear hne))
  go_wp2_with fail
  go_ret2
  exact ⟨v', rfl, push1 (t := nmT tTrue) HBB.out HO.out BW.out hg ho⟩
set_option maxRecDepth 20000 in
set_option maxHeartbeats 4000000 in
theorem put_false (w0 : World) (a : Option Addr) (n cap : Nat) (g : Nat → CR) (hv : CV w0 a n g) (p : Nat) (hp : p < n) (hn : n ≤ 100000) (hk : ((g p).k : Int) = 1) (h1 : ¬ (g p).n = 1) (w : World) (v : Value) (L : List TkR) (hB : Below w0.heap.size w0 w) (hO : OwT w0.heap.size w v L) (hl : L.length ≤ 100000) : Calls Tryz.prog 42 #[v, .slice a n cap, .int .i64 p] w (PuP w0 L ([nmT tFalse], p + 1)) := by
  obtain ⟨i0, hin, hz0, hz1, hz2⟩ := infoT
  obtain ⟨b, off, rfl⟩ := hv.addr (by omega)
  obtain ⟨_, d0, d1, d2, d3, d4⟩ := (hv.below hB).at_ hp
  have hp0 : (0 : Int) ≤ p := by omega
  have hp1 : (p : Int) < n := by omega
  have hp2 : (p : Int) ≤ 100000 := by omega
  obtain ⟨c, hc⟩ : ∃ c, c = g p := ⟨_, rfl⟩
  rw [← hc] at d0 d1 d2 d3 d4 hk h1
  clear hc
  have HN := Lib.hid nameT_any
  have HM := Lib.hid markT_any
  have HBB := Lib.hid hB
  have HO := Lib.hid hO
  have HB1 := Lib.hid (fun o => below_box w o)
  clear hv hB hO
  go_enter Tryz.func42, Tryz.ntmps42
  go_wp2_with fail
  refine (HN.out _ _).mono ?_
  rintro e w2 ⟨rfl, b2⟩
  have B2 := Lib.hid b2
  have OW := Lib.hid (own_below (own_below HO.out (HB1.out _)) b2)
  have BW := Lib.hid ((HB1.out _).trans (b2.mono (HB1.out _).size))
  clear b2
  go_wp2_with (at_builtin; go_loud (refine wpList_append_own _ rfl _ _ 22 rfl w0.heap.size 59 i0 (.agg #[.int .u8 0, .string ⟨#[]⟩, .int .i64 0]) 3 32 Tryz.underlying22 hin hz0 hz1 hz2 rfl (by decide) _ L.length (rw3 (gt L) L.length) rfl (World.ownsRow.alloc OW.out _) ⟨_, 0, none⟩ 1 1 [.int .u8 1, .string tFalse, .int .i64 0] rfl rfl (news_at2 _ _ _ _ rfl (by simp)) (by intro u hu; simp at hu; rcases hu with rfl | rfl | rfl <;> rfl) (by unfold maxLen; omega) (by omega) (by have h1 := HBB.out.size; have h3 := BW.out.size; simp; omega) ?_; intro v' w3 ho hg hne; clear hne))
  go_wp2_with fail
  go_ret2
  exact ⟨v', rfl, push1 (t := nmT tFalse) HBB.out HO.out BW.out hg ho⟩
set_option maxRecDepth 20000 in
set_option maxHeartbeats 4000000 in
theorem put_text (w0 : World) (a : Option Addr) (n cap : Nat) (g : Nat → CR) (hv : CV w0 a n g) (p : Nat) (hp : p < n) (hn : n ≤ 100000) (hk : ((g p).k : Int) = 3) (w : World) (v : Value) (L : List TkR) (hB : Below w0.heap.size w0 w) (hO : OwT w0.heap.size w v L) (hl : L.length ≤ 100000) : Calls Tryz.prog 42 #[v, .slice a n cap, .int .i64 p] w (PuP w0 L ([⟨3, (g p).tx, 0⟩], p + 1)) := by
  obtain ⟨i0, hin, hz0, hz1, hz2⟩ := infoT
  obtain ⟨b, off, rfl⟩ := hv.addr (by omega)
  obtain ⟨_, d0, d1, d2, d3, d4⟩ := (hv.below hB).at_ hp
  have hp0 : (0 : Int) ≤ p := by omega
  have hp1 : (p : Int) < n := by omega
  have hp2 : (p : Int) ≤ 100000 := by omega
  obtain ⟨c, hc⟩ : ∃ c, c = g p := ⟨_, rfl⟩
  rw [← hc] at d0 d1 d2 d3 d4 hk ⊢
  clear hc
  have HN := Lib.hid nameT_any
  have HM := Lib.hid markT_any
  have HBB := Lib.hid hB
  have HO := Lib.hid hO
  have HB1 := Lib.hid (fun o => below_box w o)
  clear hv hB hO
  go_enter Tryz.func42, Tryz.ntmps42
  have OW := Lib.hid (fun o => own_below HO.out (HB1.out o))
  go_wp2_with (at_builtin; go_loud (refine wpList_append_own _ rfl _ _ 22 rfl w0.heap.size 59 i0 (.agg #[.int .u8 0, .string ⟨#[]⟩, .int .i64 0]) 3 32 Tryz.underlying22 hin hz0 hz1 hz2 rfl (by decide) _ L.length (rw3 (gt L) L.length) rfl (World.ownsRow.alloc (OW.out _) _) ⟨_, 0, none⟩ 1 1 [.int .u8 3, .string c.tx, .int .i64 0] rfl rfl (news_at2 _ _ _ _ rfl (by simp)) (by intro u hu; simp at hu; rcases hu with rfl | rfl | rfl <;> rfl) (by unfold maxLen; omega) (by omega) (by have h1 := HBB.out.size; simp; omega) ?_; intro v' w3 ho hg hne; clear hne))
  go_wp2_with fail
  go_ret2
  exact ⟨v', rfl, push1 (t := ⟨3, c.tx, 0⟩) HBB.out HO.out (HB1.out _) hg ho⟩
set_option maxRecDepth 20000 in
set_option maxHeartbeats 4000000 in
theorem put_enum (w0 : World) (a : Option Addr) (n cap : Nat) (g : Nat → CR) (hv : CV w0 a n g) (p : Nat) (hp : p < n) (hn : n ≤ 100000) (k0 : ¬ ((g p).k : Int) = 0) (k1 : ¬ ((g p).k : Int) = 1) (k2 : ¬ ((g p).k : Int) = 2) (k3 : ¬ ((g p).k : Int) = 3) (k5 : ¬ ((g p).k : Int) = 5) (k6 : ¬ ((g p).k : Int) = 6) (k7 : ¬ ((g p).k : Int) = 7) (w : World) (v : Value) (L : List TkR) (hB : Below w0.heap.size w0 w) (hO : OwT w0.heap.size w v L) (hl : L.length ≤ 100000) : Calls Tryz.prog 42 #[v, .slice a n cap, .int .i64 p] w (PuP w0 L ([nmT (g p).tx], p + 1)) := by
  obtain ⟨i0, hin, hz0, hz1, hz2⟩ := infoT
  obtain ⟨b, off, rfl⟩ := hv.addr (by omega)
  obtain ⟨_, d0, d1, d2, d3, d4⟩ := (hv.below hB).at_ hp
  have hp0 : (0 : Int) ≤ p := by omega
  have hp1 : (p : Int) < n := by omega
  have hp2 : (p : Int) ≤ 100000 := by omega
  obtain ⟨c, hc⟩ : ∃ c, c = g p := ⟨_, rfl⟩
  rw [← hc] at d0 d1 d2 d3 d4 k0 k1 k2 k3 k5 k6 k7 ⊢
  clear hc
  have HN := Lib.hid nameT_any
  have HM := Lib.hid markT_any
  have HBB := Lib.hid hB
  have HO := Lib.hid hO
  have HB1 := Lib.hid (fun o => below_box w o)
  clear hv hB hO
  go_enter Tryz.func42, Tryz.ntmps42
  go_wp2_with fail
  refine (HN.out _ _).mono ?_
  rintro e w2 ⟨rfl, b2⟩
  have B2 := Lib.hid b2
  have OW := Lib.hid (own_below (own_below HO.out (HB1.out _)) b2)
  have BW := Lib.hid ((HB1.out _).trans (b2.mono (HB1.out _).size))
  clear b2
  go_wp2_with (at_builtin; go_loud (refine wpList_append_own _ rfl _ _ 22 rfl w0.heap.size 59 i0 (.agg #[.int .u8 0, .string ⟨#[]⟩, .int .i64 0]) 3 32 Tryz.underlying22 hin hz0 hz1 hz2 rfl (by decide) _ L.length (rw3 (gt L) L.length) rfl (World.ownsRow.alloc OW.out _) ⟨_, 0, none⟩ 1 1 [.int .u8 1, .string c.tx, .int .i64 0] rfl rfl (news_at2 _ _ _ _ rfl (by simp)) (by intro u hu; simp at hu; rcases hu with rfl | rfl | rfl <;> rfl) (by unfold maxLen; omega) (by omega) (by have h1 := HBB.out.size; have h3 := BW.out.size; simp; omega) ?_; intro v' w3 ho hg hne; clear hne))
  go_wp2_with fail
  go_ret2
  exact ⟨v', rfl, push1 (t := nmT c.tx) HBB.out HO.out BW.out hg ho⟩
set_option maxRecDepth 20000 in
set_option maxHeartbeats 4000000 in
theorem put_int (w0 : World) (a : Option Addr) (n cap : Nat) (g : Nat → CR) (hv : CV w0 a n g) (p : Nat) (hp : p < n) (hn : n ≤ 100000) (hk : ((g p).k : Int) = 2) (hnn : i64ok (g p).n) (w : World) (v : Value) (L : List TkR) (hB : Below w0.heap.size w0 w) (hO : OwT w0.heap.size w v L) (hT : Tabs w) (hl : L.length ≤ 100000) : Calls Tryz.prog 42 #[v, .slice a n cap, .int .i64 p] w (PuP w0 L ([⟨2, itT (g p).n, 0⟩], p + 1)) := by
  obtain ⟨i0, hin, hz0, hz1, hz2⟩ := infoT
  obtain ⟨b, off, rfl⟩ := hv.addr (by omega)
  obtain ⟨_, d0, d1, d2, d3, d4⟩ := (hv.below hB).at_ hp
  have hp0 : (0 : Int) ≤ p := by omega
  have hp1 : (p : Int) < n := by omega
  have hp2 : (p : Int) ≤ 100000 := by omega
  obtain ⟨c, hc⟩ : ∃ c, c = g p := ⟨_, rfl⟩
  rw [← hc] at d0 d1 d2 d3 d4 hk hnn ⊢
  clear hc
  have HN := Lib.hid nameT_any
  have HM := Lib.hid markT_any
  have HBB := Lib.hid hB
  have HO := Lib.hid hO
  have HB1 := Lib.hid (fun o => below_box w o)
  clear hv hB hO
  have HW := Lib.hid (fun o => swrite_any c.n (w.alloc o) (hT.later (below_box w o)) hnn)
  clear hT hnn
  go_enter Tryz.func42, Tryz.ntmps42
  go_wp2_with fail
  refine (HW.out _).mono ?_
  rintro e w2 ⟨rfl, b2⟩
  have B2 := Lib.hid b2
  have OW := Lib.hid (own_below (own_below HO.out (HB1.out _)) b2)
  have BW := Lib.hid ((HB1.out _).trans (b2.mono (HB1.out _).size))
  clear b2
  go_wp2_with (at_builtin; go_loud (refine wpList_append_own _ rfl _ _ 22 rfl w0.heap.size 59 i0 (.agg #[.int .u8 0, .string ⟨#[]⟩, .int .i64 0]) 3 32 Tryz.underlying22 hin hz0 hz1 hz2 rfl (by decide) _ L.length (rw3 (gt L) L.length) rfl (World.ownsRow.alloc OW.out _) ⟨_, 0, none⟩ 1 1 [.int .u8 2, .string (itT c.n), .int .i64 0] rfl rfl (news_at2 _ _ _ _ rfl (by simp)) (by intro u hu; simp at hu; rcases hu with rfl | rfl | rfl <;> rfl) (by unfold maxLen; omega) (by omega) (by have h1 := HBB.out.size; have h3 := BW.out.size; simp; omega) ?_; intro v' w3 ho hg hne; clear hne))
  go_wp2_with fail
  go_ret2
  exact ⟨v', rfl, push1 (t := ⟨2, itT c.n, 0⟩) HBB.out HO.out BW.out hg ho⟩
set_option maxRecDepth 20000 in
set_option maxHeartbeats 4000000 in
theorem put_var (w0 : World) (a : Option Addr) (n cap : Nat) (g : Nat → CR) (hv : CV w0 a n g) (p : Nat) (hp : p < n) (hn : n ≤ 100000) (hk : ((g p).k : Int) = 5) (w : World) (v : Value) (L : List TkR) (hB : Below w0.heap.size w0 w) (hO : OwT w0.heap.size w v L) (hl : L.length ≤ 100000) : Calls Tryz.prog 42 #[v, .slice a n cap, .int .i64 p] w (PuP w0 L ([mkT mDollar, nmT (g p).tx], p + 1)) := by
  obtain ⟨i0, hin, hz0, hz1, hz2⟩ := infoT
  obtain ⟨b, off, rfl⟩ := hv.addr (by omega)
  obtain ⟨_, d0, d1, d2, d3, d4⟩ := (hv.below hB).at_ hp
  have hp0 : (0 : Int) ≤ p := by omega
  have hp1 : (p : Int) < n := by omega
  have hp2 : (p : Int) ≤ 100000 := by omega
  obtain ⟨c, hc⟩ : ∃ c, c = g p := ⟨_, rfl⟩
  rw [← hc] at d0 d1 d2 d3 d4 hk ⊢
  clear hc
  have HN := Lib.hid nameT_any
  have HM := Lib.hid markT_any
  have HBB := Lib.hid hB
  have HO := Lib.hid hO
  have HB1 := Lib.hid (fun o => below_box w o)
  clear hv hB hO
  go_enter Tryz.func42, Tryz.ntmps42
  go_wp2_with fail
  obtain ⟨A, hA⟩ : ∃ A, A = w.alloc (.cells #[.int .u8 5, .string c.nm, .string c.tx, .int .i64 c.n, .int .i64 c.m] 46) := ⟨_, rfl⟩
  have BA : Hid (Below w.heap.size w A) := Lib.hid (by rw [hA]; exact HB1.out _)
  have hgA : A.heap[w.heap.size]? = some (.cells #[.int .u8 5, .string c.nm, .string c.tx, .int .i64 c.n, .int .i64 c.m] 46) := by rw [hA]; exact heap_alloc_new _ _
  have hAs : w.heap.size < A.heap.size := by rw [hA]; simp
  have HCA : Hid (∀ W, Below A.heap.size A W → W.cell? ⟨w.heap.size, 2, none⟩ = some (.string c.tx)) := Lib.hid (fun W k => by
    have := (k.block _ hAs).trans hgA
    simp [World.cell?, this])
  have hc2 : A.cell? ⟨w.heap.size, 2, none⟩ = some (.string c.tx) := HCA.out _ (Below.refl _ _)
  rw [← hA]
  clear hA hgA hAs HB1 hin hz0 hz1 hz2
  obtain ⟨y, hy⟩ : ∃ y, y = w.heap.size := ⟨_, rfl⟩
  rw [← hy] at hc2 HCA ⊢
  have HY := Lib.hid hy
  clear hy
  have HDR : Hid (∀ W, Below A.drew.heap.size A.drew W → Below A.heap.size A W) := Lib.hid (fun W k => ((Below.refl A.heap.size A).drew).trans k)
  go_region_law (first
    | (go_simp; go_at_call 44; refine (HM.out _ _).mono ?_; rintro e w2 ⟨rfl, b2⟩; have B2 : Hid (Below A.heap.size A w2) := Lib.hid (HDR.out _ b2); have hc3 := HCA.out _ B2.out; clear b2)
    | (go_simp; go_at_call 45; refine (HN.out _ _).mono ?_; rintro e w3 ⟨rfl, b3⟩; have B3 : Hid (Below w.heap.size w w3) := Lib.hid (BA.out.trans ((B2.out.trans (b3.mono B2.out.size)).mono BA.out.size)); have OW := Lib.hid (own_below HO.out B3.out); clear b3)
    | (refine step_tok rfl (.tmp 61) (.tmp 66) rfl w0.heap.size 2 v L.length (rw3 (gt L) L.length) [.int .u8 4, .string mDollar, .int .i64 0, .int .u8 1, .string c.tx, .int .i64 0] w3.heap.size (by simp [Act.eval, Act.put]) (by simp [Act.eval, Act.put]) (World.ownsRow.alloc OW.out _) (heap_alloc_new _ _) rfl (by intro u hu; simp at hu; rcases hu with rfl | rfl | rfl | rfl | rfl | rfl <;> rfl) (by omega) (by have := HBB.out.size; have := B3.out.size; simp; omega) ?_; intro v' w4 ho hg))
  all_goals
    go_wp2_with fail
    go_ret2
    exact ⟨v', rfl, push2 (t := mkT mDollar) (u := nmT c.tx) HBB.out HO.out B3.out hg ho⟩
end Go.Proofs.YtmkkckhfdafjnaaGreatDoor.Li
/- Layer 18: put, of any value. -/
namespace Go.Proofs.YtmkkckhfdafjnaaGreatDoor.Li
open Go.RowKit Go.Maps
theorem kids_succ {g : Nat → CR} {n r m : Nat} {obj : Bool} {ns : List ByteArray} {q e : Nat} (h : kidsF (wk g n r) g n obj (m + 1) ns q = some e) : q < n ∧ ∃ q1 ns', wk g n r q = some q1 ∧ q < q1 ∧ q1 ≤ n ∧ kidsF (wk g n r) g n obj m ns' q1 = some e := by
  rw [kidsF] at h
  split at h
  · cases h
  rename_i hn
  split at h
  · cases hx : wk g n r q with
    | none => rw [hx] at h; cases h
    | some q1 =>
      rw [hx] at h
      have hlt := wk_lt _ _ _ hx
      exact ⟨by omega, q1, _, rfl, hlt.1, hlt.2, h⟩
  · cases h
theorem kw_succ {g : Nat → CR} {n r m : Nat} {obj : Bool} {q q1 : Nat} (h : wk g n r q = some q1) : kwF (tkW g r) g obj (m + 1) q = (mbT obj (g q).nm ++ (tkW g r q).1 ++ (kwF (tkW g r) g obj m q1).1, (kwF (tkW g r) g obj m q1).2) := by
  rw [kwF, tkW_end h]
/-- What may stand in cells. -/
structure PuC (g : Nat → CR) (n : Nat) : Prop where
  top : n ≤ 100000
  nn : ∀ i, i < n → i64ok (g i).n
  mm : ∀ i, i < n → headP (g i) = true → 0 ≤ (g i).m ∧ (g i).m ≤ 100000
def PuV (w0 : World) (a : Option Addr) (n cap : Nat) (g : Nat → CR) (r : Nat) : Prop := ∀ (p e : Nat) (w : World) (v : Value) (L : List TkR), wk g n r p = some e → Below w0.heap.size w0 w → OwT w0.heap.size w v L → L.length + (tkW g r p).1.length ≤ 100000 → Calls Tryz.prog 42 #[v, .slice a n cap, .int .i64 p] w (PuP w0 L ((tkW g r p).1, e))
theorem lf_ne {c : CR} (h6 : ¬ c.k = 6) (h7 : ¬ c.k = 7) : headP c = false := by unfold headP; simp [h6, h7]
theorem put_leaf (w0 : World) (hT0 : Tabs w0) (a : Option Addr) (n cap : Nat) (g : Nat → CR) (hv : CV w0 a n g) (hC : PuC g n) (p : Nat) (hp : p < n) (hh : headP (g p) = false) (w : World) (v : Value) (L : List TkR) (hB : Below w0.heap.size w0 w) (hO : OwT w0.heap.size w v L) (hl : L.length ≤ 100000) : Calls Tryz.prog 42 #[v, .slice a n cap, .int .i64 p] w (PuP w0 L (lfT (g p), p + 1)) := by
  have hn := hC.top
  have h67 : ¬ (g p).k = 6 ∧ ¬ (g p).k = 7 := by
    unfold headP at hh
    simpa using hh
  unfold lfT
  by_cases k0 : (g p).k = 0
  · rw [if_pos k0]; exact put_null w0 a n cap g hv p hp hn (by omega) w v L hB hO hl
  rw [if_neg k0]
  by_cases k1 : (g p).k = 1
  · rw [if_pos k1]
    by_cases h1 : (g p).n = 1
    · rw [if_pos h1]; exact put_true w0 a n cap g hv p hp hn (by omega) h1 w v L hB hO hl
    · rw [if_neg h1]; exact put_false w0 a n cap g hv p hp hn (by omega) h1 w v L hB hO hl
  rw [if_neg k1]
  by_cases k2 : (g p).k = 2
  · rw [if_pos k2]; exact put_int w0 a n cap g hv p hp hn (by omega) (hC.nn p hp) w v L hB hO (hT0.later hB) hl
  rw [if_neg k2]
  by_cases k3 : (g p).k = 3
  · rw [if_pos k3]; exact put_text w0 a n cap g hv p hp hn (by omega) w v L hB hO hl
  rw [if_neg k3]
  by_cases k5 : (g p).k = 5
  · rw [if_pos k5]; exact put_var w0 a n cap g hv p hp hn (by omega) w v L hB hO hl
  rw [if_neg k5]
  exact put_enum w0 a n cap g hv p hp hn (by omega) (by omega) (by omega) (by omega) (by omega) (by omega) (by omega) w v L hB hO hl
set_option maxRecDepth 20000 in
set_option maxHeartbeats 4000000 in
theorem put_list (w0 : World) (a : Option Addr) (n cap : Nat) (g : Nat → CR) (hv : CV w0 a n g) (hn : n ≤ 100000) (r : Nat) (ih : PuV w0 a n cap g r) (p e m : Nat) (hp : p < n) (hk : ((g p).k : Int) = 6) (hm : (g p).m = (m : Nat)) (hm2 : m ≤ 100000) (hks : kidsF (wk g n r) g n false m [] (p + 1) = some e) (w : World) (v : Value) (L : List TkR) (hB : Below w0.heap.size w0 w) (hO : OwT w0.heap.size w v L) (KT : List TkR) (hKT : KT = (kwF (tkW g r) g false m (p + 1)).1) (hl : L.length + (KT.length + 2) ≤ 100000) : Calls Tryz.prog 42 #[v, .slice a n cap, .int .i64 p] w (PuP w0 L (mkT mLB :: (KT ++ [mkT mRB]), e)) := by
  obtain ⟨i0, hin, hz0, hz1, hz2⟩ := infoT
  obtain ⟨b, off, rfl⟩ := hv.addr (by omega)
  obtain ⟨_, d0, d1, d2, d3, d4⟩ := (hv.below hB).at_ hp
  have hp0 : (0 : Int) ≤ p := by omega
  have hp1 : (p : Int) < n := by omega
  have hp2 : (p : Int) ≤ 100000 := by omega
  rw [hm] at d4
  obtain ⟨c, hc⟩ : ∃ c, c = g p := ⟨_, rfl⟩
  rw [← hc] at d0 d1 d2 d3 hk
  clear hc hm
  have HN := Lib.hid nameT_any
  have HM := Lib.hid markT_any
  have HBB := Lib.hid hB
  have HO := Lib.hid hO
  have HV := Lib.hid hv
  have HI := Lib.hid ih
  have HKS := Lib.hid hks
  have HKT := Lib.hid hKT
  have HB1 := Lib.hid (fun o => below_box w o)
  have hmi : (m : Int) ≤ 100000 := by omega
  clear hv hB hO ih hks hKT
  go_enter Tryz.func42, Tryz.ntmps42
  go_wp2_with fail
  obtain ⟨A, hA⟩ : ∃ A, A = w.alloc (.cells #[.int .u8 6, .string c.nm, .string c.tx, .int .i64 c.n, .int .i64 m] 46) := ⟨_, rfl⟩
  have BA : Hid (Below w.heap.size w A) := Lib.hid (by rw [hA]; exact HB1.out _)
  have HGA : Hid (A.heap[w.heap.size]? = some (.cells #[.int .u8 6, .string c.nm, .string c.tx, .int .i64 c.n, .int .i64 m] 46)) := Lib.hid (by rw [hA]; exact heap_alloc_new _ _)
  have HAS : Hid (w.heap.size < A.heap.size) := Lib.hid (by rw [hA]; simp)
  rw [← hA]
  clear hA HB1
  obtain ⟨y, hy⟩ : ∃ y, y = w.heap.size := ⟨_, rfl⟩
  have HY := Lib.hid hy
  rw [← hy] at HGA HAS ⊢
  clear hy
  refine (HM.out _ _).mono ?_
  rintro e0 w2 ⟨rfl, b2⟩
  have BW := Lib.hid (BA.out.trans (b2.mono BA.out.size))
  have OW := Lib.hid (own_below HO.out BW.out)
  have HG2 : Hid (y < w2.heap.size ∧ w2.heap[y]? = some (.cells #[.int .u8 6, .string c.nm, .string c.tx, .int .i64 c.n, .int .i64 m] 46)) := Lib.hid ⟨Nat.lt_of_lt_of_le HAS.out b2.size, (b2.block _ HAS.out).trans HGA.out⟩
  clear b2 HGA HAS
  go_wp2_with (at_builtin; go_loud (refine wpList_append_own _ rfl _ _ 22 rfl w0.heap.size 59 i0 (.agg #[.int .u8 0, .string ⟨#[]⟩, .int .i64 0]) 3 32 Tryz.underlying22 hin hz0 hz1 hz2 rfl (by decide) _ L.length (rw3 (gt L) L.length) rfl (World.ownsRow.alloc OW.out _) ⟨_, 0, none⟩ 1 1 [.int .u8 4, .string mLB, .int .i64 0] rfl rfl (news_at2 _ _ _ _ rfl (by simp)) (by intro u hu; simp at hu; rcases hu with rfl | rfl | rfl <;> rfl) (by unfold maxLen; omega) (by omega) (by have h1 := HBB.out.size; have h3 := BW.out.size; simp; omega) ?_; intro v' w3 ho hg hne; clear hne; have h4 : w3.cell? ⟨y, 4, none⟩ = some (.int .i64 m) := by (have q1 : w3.heap[y]? = _ := (hg.block y (by simp; have := HG2.out.1; omega) (fun e => by have := (HO.out.lt _ e.symm).2; have := HY.out; omega)).trans ((heap_alloc_old _ _ HG2.out.1).trans HG2.out.2); simp [World.cell?, q1])))
  have P3 := Lib.hid (push1 (t := mkT mLB) HBB.out HO.out BW.out hg ho)
  clear ho hg BW OW HG2
  obtain ⟨L1, hL1⟩ : ∃ L1, L1 = L ++ [mkT mLB] := ⟨_, rfl⟩
  rw [← hL1] at P3
  have HL1 := Lib.hid hL1
  have hl1 : L1.length + (KT.length + 1) ≤ 100000 := by rw [hL1, List.length_append, List.length_singleton]; omega
  clear hL1
  go_loopw [0, 9, 77] (fun v0 v9 v77 wr => ∃ (i q : Nat) (T : List TkR) (ns : List ByteArray), i ≤ m ∧ v77 = .int .i64 i ∧ v9 = .int .i64 q ∧ Hid (Below w0.heap.size w0 wr) ∧ Hid (OwT w0.heap.size wr v0 (L1 ++ T)) ∧ Hid (kidsF (wk g n r) g n false (m - i) ns q = some e) ∧ Hid (T ++ (kwF (tkW g r) g false (m - i) q).1 = KT)) (fun _ _ v77 _ => m - (intOf v77).toNat)
  case atStart => exact ⟨0, p + 1, [], [], Nat.zero_le _, rfl, by go_num, Lib.hid P3.out.1, Lib.hid (by rw [List.append_nil]; exact P3.out.2), Lib.hid HKS.out, Lib.hid (by rw [HKT.out]; rfl)⟩
  case round =>
    obtain ⟨i, q, T, ns, hi, rfl, rfl, HBR, HOR, HKR, HTR⟩ := hrel
    clear h4
    by_cases h1 : i < m
    · obtain ⟨k, hmk⟩ : ∃ k, m - i = k + 1 := ⟨m - i - 1, by omega⟩
      have hk2 := HKR.out
      rw [hmk] at hk2
      obtain ⟨hq, q1, ns1, hw1, hqq, hq1, hk3⟩ := kids_succ hk2
      have ht2 := HTR.out
      rw [hmk, kw_succ hw1] at ht2
      dsimp only at ht2
      have hlt : (i : Int) < m := by omega
      have hq0 : (0 : Int) ≤ q := by omega
      have hqn : (q : Int) < n := by omega
      have hlen : T.length + (0 + (tkW g r q).1.length) ≤ KT.length := by
        rw [← ht2]
        simp [mbT]
        (try omega)
      have HK3 : Hid (kidsF (wk g n r) g n false (m - (i + 1)) ns1 q1 = some e) := Lib.hid (by rw [show m - (i + 1) = k by omega]; exact hk3)
      have HT3 : Hid ((T ++ ([] ++ (tkW g r q).1)) ++ (kwF (tkW g r) g false (m - (i + 1)) q1).1 = KT) := Lib.hid (by rw [show m - (i + 1) = k by omega, ← ht2]; simp [mbT])
      have HI1 := Lib.hid (fun w v L => HI.out q q1 w v L hw1)
      clear hk2 hk3 ht2 hmk hw1 HKR HTR HKS HKT HI
      go_wp2_with (go_at_call 42; refine (HI1.out _ _ (L1 ++ T) HBR.out HOR.out (by rw [List.length_append]; omega)).mono ?_; rintro e3 w6 ⟨v6, rfl, b6, o6⟩; have P7 := Lib.hid (And.intro b6 o6); clear b6 o6)
      go_roundw
      case rel => exact ⟨i + 1, q1, T ++ ([] ++ (tkW g r q).1), ns1, by omega, by go_num, rfl, Lib.hid P7.out.1, Lib.hid (by have := P7.out.2; simpa using this), HK3, HT3⟩
      case measure => simp [intOf]; omega
    · have e1 : i = m := by omega
      subst e1
      have hqe := HKR.out
      have hTK := HTR.out
      rw [Nat.sub_self] at hqe hTK
      have hqe2 : q = e := by simpa [kidsF] using hqe
      have hTK2 : T = KT := by simpa [kwF] using hTK
      subst hqe2 hTK2
      have hlt : ¬ (i : Int) < i := by omega
      clear hqe hTK HKR HTR HKS HKT HI
      go_wp2_with fail
      refine (HM.out _ _).mono ?_
      rintro e1 w4 ⟨rfl, b4⟩
      have BW := Lib.hid b4
      have OW := Lib.hid (own_below HOR.out BW.out)
      clear b4
      obtain ⟨L2, hL2⟩ : ∃ L2, L2 = L1 ++ T := ⟨_, rfl⟩
      rw [← hL2] at OW HOR
      have HL2 := Lib.hid hL2
      have hl2 : L2.length = L1.length + T.length := by rw [hL2, List.length_append]
      clear hL2
      go_wp2_with ((at_builtin; go_loud (refine wpList_append_own _ rfl _ _ 22 rfl w0.heap.size 59 i0 (.agg #[.int .u8 0, .string ⟨#[]⟩, .int .i64 0]) 3 32 Tryz.underlying22 hin hz0 hz1 hz2 rfl (by decide) _ L2.length (rw3 (gt L2) L2.length) rfl (World.ownsRow.alloc OW.out _) ⟨_, 0, none⟩ 1 1 [.int .u8 4, .string mRB, .int .i64 0] rfl rfl (news_at2 _ _ _ _ rfl (by simp)) (by intro u hu; simp at hu; rcases hu with rfl | rfl | rfl <;> rfl) (by unfold maxLen; omega) (by omega) (by have h1 := HBR.out.size; have h3 := BW.out.size; simp; omega) ?_; intro v' w3 ho hg hne; clear hne)))
      go_wp2_with fail
      have P6 := push1 (t := mkT mRB) HBR.out HOR.out BW.out hg ho
      go_ret2
      exact ⟨_, rfl, P6.1, by have := P6.2; rw [HL2.out, HL1.out] at this; simpa using this⟩
set_option maxRecDepth 20000 in
set_option maxHeartbeats 4000000 in
theorem put_obj (w0 : World) (a : Option Addr) (n cap : Nat) (g : Nat → CR) (hv : CV w0 a n g) (hn : n ≤ 100000) (r : Nat) (ih : PuV w0 a n cap g r) (p e m : Nat) (hp : p < n) (hk : ((g p).k : Int) = 7) (hm : (g p).m = (m : Nat)) (hm2 : m ≤ 100000) (hks : kidsF (wk g n r) g n true m [] (p + 1) = some e) (w : World) (v : Value) (L : List TkR) (hB : Below w0.heap.size w0 w) (hO : OwT w0.heap.size w v L) (KT : List TkR) (hKT : KT = (kwF (tkW g r) g true m (p + 1)).1) (hl : L.length + (KT.length + 2) ≤ 100000) : Calls Tryz.prog 42 #[v, .slice a n cap, .int .i64 p] w (PuP w0 L (mkT mLC :: (KT ++ [mkT mRC]), e)) := by
  obtain ⟨i0, hin, hz0, hz1, hz2⟩ := infoT
  obtain ⟨b, off, rfl⟩ := hv.addr (by omega)
  obtain ⟨_, d0, d1, d2, d3, d4⟩ := (hv.below hB).at_ hp
  have hp0 : (0 : Int) ≤ p := by omega
  have hp1 : (p : Int) < n := by omega
  have hp2 : (p : Int) ≤ 100000 := by omega
  rw [hm] at d4
  obtain ⟨c, hc⟩ : ∃ c, c = g p := ⟨_, rfl⟩
  rw [← hc] at d0 d1 d2 d3 hk
  clear hc hm
  have HN := Lib.hid nameT_any
  have HM := Lib.hid markT_any
  have HBB := Lib.hid hB
  have HO := Lib.hid hO
  have HV := Lib.hid hv
  have HI := Lib.hid ih
  have HKS := Lib.hid hks
  have HKT := Lib.hid hKT
  have HB1 := Lib.hid (fun o => below_box w o)
  have hmi : (m : Int) ≤ 100000 := by omega
  clear hv hB hO ih hks hKT
  go_enter Tryz.func42, Tryz.ntmps42
  go_wp2_with fail
  obtain ⟨A, hA⟩ : ∃ A, A = w.alloc (.cells #[.int .u8 7, .string c.nm, .string c.tx, .int .i64 c.n, .int .i64 m] 46) := ⟨_, rfl⟩
  have BA : Hid (Below w.heap.size w A) := Lib.hid (by rw [hA]; exact HB1.out _)
  have HGA : Hid (A.heap[w.heap.size]? = some (.cells #[.int .u8 7, .string c.nm, .string c.tx, .int .i64 c.n, .int .i64 m] 46)) := Lib.hid (by rw [hA]; exact heap_alloc_new _ _)
  have HAS : Hid (w.heap.size < A.heap.size) := Lib.hid (by rw [hA]; simp)
  rw [← hA]
  clear hA HB1
  obtain ⟨y, hy⟩ : ∃ y, y = w.heap.size := ⟨_, rfl⟩
  have HY := Lib.hid hy
  rw [← hy] at HGA HAS ⊢
  clear hy
  refine (HM.out _ _).mono ?_
  rintro e0 w2 ⟨rfl, b2⟩
  have BW := Lib.hid (BA.out.trans (b2.mono BA.out.size))
  have OW := Lib.hid (own_below HO.out BW.out)
  have HG2 : Hid (y < w2.heap.size ∧ w2.heap[y]? = some (.cells #[.int .u8 7, .string c.nm, .string c.tx, .int .i64 c.n, .int .i64 m] 46)) := Lib.hid ⟨Nat.lt_of_lt_of_le HAS.out b2.size, (b2.block _ HAS.out).trans HGA.out⟩
  clear b2 HGA HAS
  go_wp2_with (at_builtin; go_loud (refine wpList_append_own _ rfl _ _ 22 rfl w0.heap.size 59 i0 (.agg #[.int .u8 0, .string ⟨#[]⟩, .int .i64 0]) 3 32 Tryz.underlying22 hin hz0 hz1 hz2 rfl (by decide) _ L.length (rw3 (gt L) L.length) rfl (World.ownsRow.alloc OW.out _) ⟨_, 0, none⟩ 1 1 [.int .u8 4, .string mLC, .int .i64 0] rfl rfl (news_at2 _ _ _ _ rfl (by simp)) (by intro u hu; simp at hu; rcases hu with rfl | rfl | rfl <;> rfl) (by unfold maxLen; omega) (by omega) (by have h1 := HBB.out.size; have h3 := BW.out.size; simp; omega) ?_; intro v' w3 ho hg hne; clear hne; have h4 : w3.cell? ⟨y, 4, none⟩ = some (.int .i64 m) := by (have q1 : w3.heap[y]? = _ := (hg.block y (by simp; have := HG2.out.1; omega) (fun e => by have := (HO.out.lt _ e.symm).2; have := HY.out; omega)).trans ((heap_alloc_old _ _ HG2.out.1).trans HG2.out.2); simp [World.cell?, q1])))
  have P3 := Lib.hid (push1 (t := mkT mLC) HBB.out HO.out BW.out hg ho)
  clear ho hg BW OW HG2
  obtain ⟨L1, hL1⟩ : ∃ L1, L1 = L ++ [mkT mLC] := ⟨_, rfl⟩
  rw [← hL1] at P3
  have HL1 := Lib.hid hL1
  have hl1 : L1.length + (KT.length + 1) ≤ 100000 := by rw [hL1, List.length_append, List.length_singleton]; omega
  clear hL1
  go_loopw [0, 9, 100] (fun v0 v9 v100 wr => ∃ (i q : Nat) (T : List TkR) (ns : List ByteArray), i ≤ m ∧ v100 = .int .i64 i ∧ v9 = .int .i64 q ∧ Hid (Below w0.heap.size w0 wr) ∧ Hid (OwT w0.heap.size wr v0 (L1 ++ T)) ∧ Hid (kidsF (wk g n r) g n true (m - i) ns q = some e) ∧ Hid (T ++ (kwF (tkW g r) g true (m - i) q).1 = KT)) (fun _ _ v100 _ => m - (intOf v100).toNat)
  case atStart => exact ⟨0, p + 1, [], [], Nat.zero_le _, rfl, by go_num, Lib.hid P3.out.1, Lib.hid (by rw [List.append_nil]; exact P3.out.2), Lib.hid HKS.out, Lib.hid (by rw [HKT.out]; rfl)⟩
  case round =>
    obtain ⟨i, q, T, ns, hi, rfl, rfl, HBR, HOR, HKR, HTR⟩ := hrel
    clear h4
    by_cases h1 : i < m
    · obtain ⟨k, hmk⟩ : ∃ k, m - i = k + 1 := ⟨m - i - 1, by omega⟩
      have hk2 := HKR.out
      rw [hmk] at hk2
      obtain ⟨hq, q1, ns1, hw1, hqq, hq1, hk3⟩ := kids_succ hk2
      have ht2 := HTR.out
      rw [hmk, kw_succ hw1] at ht2
      dsimp only at ht2
      have hlt : (i : Int) < m := by omega
      have hq0 : (0 : Int) ≤ q := by omega
      have hqn : (q : Int) < n := by omega
      have hlen : T.length + (2 + (tkW g r q).1.length) ≤ KT.length := by
        rw [← ht2]
        simp [mbT]
        (try omega)
      have HK3 : Hid (kidsF (wk g n r) g n true (m - (i + 1)) ns1 q1 = some e) := Lib.hid (by rw [show m - (i + 1) = k by omega]; exact hk3)
      have HT3 : Hid ((T ++ ([nmT (g q).nm, mkT mColon] ++ (tkW g r q).1)) ++ (kwF (tkW g r) g true (m - (i + 1)) q1).1 = KT) := Lib.hid (by rw [show m - (i + 1) = k by omega, ← ht2]; simp [mbT])
      have HI1 := Lib.hid (fun w v L => HI.out q q1 w v L hw1)
      clear hk2 hk3 ht2 hmk hw1 HKR HTR HKS HKT HI
      obtain ⟨_, f0, f1, f2, f3, f4⟩ := (HV.out.below HBR.out).at_ hq
      obtain ⟨x, hx⟩ : ∃ x, x = (g q).nm := ⟨_, rfl⟩
      rw [← hx] at f1 HT3
      clear hx f0 f2 f3 f4
      go_wp2_with fail
      refine (HN.out _ _).mono ?_
      rintro e1 w4 ⟨rfl, b4⟩
      have B4 := Lib.hid b4
      clear b4
      go_wp2_with fail
      refine (HM.out _ _).mono ?_
      rintro e2 w5 ⟨rfl, b5⟩
      have BW := Lib.hid (B4.out.trans (b5.mono B4.out.size))
      have OW := Lib.hid (own_below HOR.out BW.out)
      have hLT : (L1 ++ T).length ≤ 99000 + 1000 := by rw [List.length_append]; omega
      clear b5 B4
      obtain ⟨L2, hL2⟩ : ∃ L2, L2 = L1 ++ T := ⟨_, rfl⟩
      rw [← hL2] at OW HOR hLT
      have HL2 := Lib.hid hL2
      have hl2 : L2.length = L1.length + T.length := by rw [hL2, List.length_append]
      clear hL2
      go_wp2_with ((at_builtin; go_loud (refine wpList_append_own _ rfl _ _ 22 rfl w0.heap.size 59 i0 (.agg #[.int .u8 0, .string ⟨#[]⟩, .int .i64 0]) 3 32 Tryz.underlying22 hin hz0 hz1 hz2 rfl (by decide) _ L2.length (rw3 (gt L2) L2.length) rfl (World.ownsRow.alloc OW.out _) ⟨_, 0, none⟩ 2 2 [.int .u8 1, .string x, .int .i64 0, .int .u8 4, .string mColon, .int .i64 0] rfl rfl (news_at2 _ _ _ _ rfl (by simp)) (by intro u hu; simp at hu; rcases hu with rfl | rfl | rfl | rfl | rfl | rfl <;> rfl) (by unfold maxLen; omega) (by omega) (by have h1 := HBR.out.size; have h3 := BW.out.size; simp; omega) ?_; intro v' w3 ho hg hne; clear hne)))
      have P6 := Lib.hid (push2 (t := nmT x) (u := mkT mColon) HBR.out HOR.out BW.out hg ho)
      clear ho hg BW OW
      refine (HI1.out w3 v' (L2 ++ [nmT x, mkT mColon]) P6.out.1 P6.out.2 (by simp; omega)).mono ?_
      rintro e3 w6 ⟨v6, rfl, b6, o6⟩
      have P7 := Lib.hid (And.intro b6 o6)
      clear b6 o6
      go_wp2_with fail
      go_roundw
      case rel => exact ⟨i + 1, q1, T ++ ([nmT x, mkT mColon] ++ (tkW g r q).1), ns1, by omega, by go_num, rfl, Lib.hid P7.out.1, Lib.hid (by have := P7.out.2; rw [HL2.out] at this; simpa using this), HK3, HT3⟩
      case measure => simp [intOf]; omega
    · have e1 : i = m := by omega
      subst e1
      have hqe := HKR.out
      have hTK := HTR.out
      rw [Nat.sub_self] at hqe hTK
      have hqe2 : q = e := by simpa [kidsF] using hqe
      have hTK2 : T = KT := by simpa [kwF] using hTK
      subst hqe2 hTK2
      have hlt : ¬ (i : Int) < i := by omega
      clear hqe hTK HKR HTR HKS HKT HI
      go_wp2_with fail
      refine (HM.out _ _).mono ?_
      rintro e1 w4 ⟨rfl, b4⟩
      have BW := Lib.hid b4
      have OW := Lib.hid (own_below HOR.out BW.out)
      clear b4
      obtain ⟨L2, hL2⟩ : ∃ L2, L2 = L1 ++ T := ⟨_, rfl⟩
      rw [← hL2] at OW HOR
      have HL2 := Lib.hid hL2
      have hl2 : L2.length = L1.length + T.length := by rw [hL2, List.length_append]
      clear hL2
      go_wp2_with ((at_builtin; go_loud (refine wpList_append_own _ rfl _ _ 22 rfl w0.heap.size 59 i0 (.agg #[.int .u8 0, .string ⟨#[]⟩, .int .i64 0]) 3 32 Tryz.underlying22 hin hz0 hz1 hz2 rfl (by decide) _ L2.length (rw3 (gt L2) L2.length) rfl (World.ownsRow.alloc OW.out _) ⟨_, 0, none⟩ 1 1 [.int .u8 4, .string mRC, .int .i64 0] rfl rfl (news_at2 _ _ _ _ rfl (by simp)) (by intro u hu; simp at hu; rcases hu with rfl | rfl | rfl <;> rfl) (by unfold maxLen; omega) (by omega) (by have h1 := HBR.out.size; have h3 := BW.out.size; simp; omega) ?_; intro v' w3 ho hg hne; clear hne)))
      go_wp2_with fail
      have P6 := push1 (t := mkT mRC) HBR.out HOR.out BW.out hg ho
      go_ret2
      exact ⟨_, rfl, P6.1, by have := P6.2; rw [HL2.out, HL1.out] at this; simpa using this⟩
theorem put_any (w0 : World) (hT0 : Tabs w0) (a : Option Addr) (n cap : Nat) (g : Nat → CR) (hv : CV w0 a n g) (hC : PuC g n) : ∀ r, PuV w0 a n cap g r := by
  intro r
  induction r with
  | zero =>
    intro p e w v L hw hB hO hl
    have hlt := wk_lt _ _ _ hw
    rw [wk_z] at hw
    split at hw
    · cases hw
    split at hw
    · rename_i h
      cases hw
      simp only [Bool.and_eq_true, Bool.not_eq_true'] at h
      unfold tkW at hl ⊢
      exact put_leaf w0 hT0 a n cap g hv hC p (by omega) h.2 w v L hB hO (by omega)
    · cases hw
  | succ r ih =>
    intro p e w v L hw hB hO hl
    have hlt := wk_lt _ _ _ hw
    rw [wk_s] at hw
    split at hw
    · cases hw
    split at hw
    · rename_i hone
      split at hw
      · rename_i hh
        have hmm := hC.mm p (by omega) hh
        obtain ⟨m, hm⟩ := Int.eq_ofNat_of_zero_le hmm.1
        unfold tkW at hl ⊢
        rw [if_pos hh] at hl ⊢
        rw [hm, Int.toNat_natCast] at hw hl ⊢
        dsimp only at hl ⊢
        have h67 : (g p).k = 6 ∨ (g p).k = 7 := by
          unfold headP at hh
          simpa using hh
        rcases h67 with k | k
        · rw [k] at hl hw ⊢
          exact put_list w0 a n cap g hv hC.top r ih p e m (by omega) (by omega) hm (by omega) hw w v L hB hO _ rfl (by simp at hl; simp; omega)
        · rw [k] at hl hw ⊢
          exact put_obj w0 a n cap g hv hC.top r ih p e m (by omega) (by omega) hm (by omega) hw w v L hB hO _ rfl (by simp at hl; simp; omega)
      · rename_i hh
        cases hw
        unfold tkW at hl ⊢
        rw [if_neg hh] at hl ⊢
        exact put_leaf w0 hT0 a n cap g hv hC p (by omega) (by simpa using hh) w v L hB hO (by omega)
    · cases hw
end Go.Proofs.YtmkkckhfdafjnaaGreatDoor.Li
/- Layer 18: Tokens. -/
namespace Go.Proofs.YtmkkckhfdafjnaaGreatDoor.Li
open Go.RowKit Go.Maps
def ToP (w : World) (g : Nat → CR) (b : Bool) (e : Ending) (w' : World) : Prop := match b with
  | true => ∃ v', e = .returned (.tuple #[v', .int .i64 0]) ∧ Below w.heap.size w w' ∧ OwT w.heap.size w' v' (tkW g 16 0).1
  | false => e = .returned (.tuple #[.slice none 0 0, .int .i64 8]) ∧ Below w.heap.size w w'
theorem tokens_any (a : Option Addr) (n cap : Nat) (g : Nat → CR) (w : World) (hT : Tabs w) (hv : CV w a n g) (hcw : CW n g) (hC : PuC g n) (hs : ∀ i, i < n → (g i).nm.size ≤ 1000000) (hlen : (tkW g 16 0).1.length ≤ 100000) : Calls Tryz.prog 19 #[.slice a n cap] w (ToP w g (mbB g n)) := by
  have HMB := Lib.hid (mayBe_any a n cap g w hv hcw hC.top hs)
  have hck : mbB g n = true → wk g n 16 0 = some n := fun h => by
    unfold mbB ckC at h
    simp only [Bool.and_eq_true, decide_eq_true_eq] at h
    exact h.2.2
  obtain ⟨x, hx⟩ : ∃ x, x = mbB g n := ⟨_, rfl⟩
  rw [← hx] at HMB hck ⊢
  clear hx hcw hs
  cases x with
  | false =>
    clear hck
    go_enter Tryz.func19, Tryz.ntmps19
    go_wp2_with (go_at_call 41; refine HMB.out.mono ?_; rintro e w2 ⟨rfl, b2⟩; have B2 := Lib.hid b2; clear b2)
    go_ret2
    exact ⟨rfl, B2.out⟩
  | true =>
    have HP := Lib.hid (fun w1 (b : Below w.heap.size w w1) => put_any w hT a n cap g hv hC 16 0 n w1 (.slice none 0 0) [] (hck rfl) b)
    clear hck hv hC
    go_enter Tryz.func19, Tryz.ntmps19
    go_wp2_with (go_at_call 41; refine HMB.out.mono ?_; rintro e w2 ⟨rfl, b2⟩; have B2 := Lib.hid b2; clear b2)
    refine (HP.out w2 B2.out (World.ownsRow_nil _ _ _ _) (by simpa using hlen)).mono ?_
    rintro e w3 ⟨v3, rfl, b3, o3⟩
    have B3 := Lib.hid (And.intro b3 o3)
    clear b3 o3
    go_wp2_with fail
    go_ret2
    exact ⟨_, rfl, B3.out.1, by simpa using B3.out.2⟩
end Go.Proofs.YtmkkckhfdafjnaaGreatDoor.Li
/- Layer 18: the law's 'same'. -/
namespace Go.Proofs.YtmkkckhfdafjnaaGreatDoor.Li
open Go.RowKit Go.Maps
set_option maxRecDepth 20000 in
set_option maxHeartbeats 2000000 in
theorem same18_any (a a' : Option Addr) (n c c' : Nat) (g g' : Nat → TkR) (w : World) (hn : n ≤ 100000) (hks : ∀ i, i < n → alT (g i) (g' i)) (hv : TkV w a n g) (hv' : TkV w a' n g') : Calls Tryz.prog 26 #[.slice a n c, .slice a' n c'] w fun e w' => e = .returned (.bool true) ∧ Below w.heap.size w w' := by
  have hn1 : (n : Int) ≤ 9223372036854775807 := by omega
  have HV := Lib.hid (fun V (k : Below w.heap.size w V) => hv.below k)
  have HV' := Lib.hid (fun V (k : Below w.heap.size w V) => hv'.below k)
  have HKS := Lib.hid hks
  clear hv hv' hks
  go_enter Tryz.func26, Tryz.ntmps26
  go_wp2_with fail
  go_loopw [5, 5] (fun v4 _ wr => ∃ i : Nat, i ≤ n ∧ v4 = .int .i64 i ∧ Hid (Below w.heap.size w wr)) (fun v4 _ _ => n - (intOf v4).toNat)
  case atStart => exact ⟨0, Nat.zero_le _, rfl, Lib.hid (Below.refl _ _)⟩
  case round =>
    obtain ⟨i, hi, rfl, HB⟩ := hrel
    by_cases hin : i < n
    · have hii : (i : Int) < n := by omega
      have hi00 : (0 : Int) ≤ i := by omega
      obtain ⟨b, off, ha⟩ := (HV.out _ HB.out).addr (by omega)
      obtain ⟨b', off', ha'⟩ := (HV'.out _ HB.out).addr (by omega)
      subst ha ha'
      obtain ⟨_, d0, d1, d2⟩ := (HV.out _ HB.out).at_ hin
      obtain ⟨_, e0, e1, e2⟩ := (HV'.out _ HB.out).at_ hin
      obtain ⟨k1, k2⟩ := HKS.out i hin
      obtain ⟨X, hX⟩ : ∃ X, X = g' i := ⟨_, rfl⟩
      obtain ⟨Y, hY⟩ : ∃ Y, Y = g i := ⟨_, rfl⟩
      rw [← hX] at e0 e1 e2 k1 k2
      rw [← hY] at d0 d1 d2 k1 k2
      obtain ⟨k, s, t⟩ := X
      obtain ⟨k', s', t'⟩ := Y
      dsimp only at d0 d1 d2 e0 e1 e2 k1 k2
      subst k1
      clear hX hY
      rcases k2 with k2 | ⟨k2, k3⟩
      · subst k2
        go_wp2_with fail
        go_quiet (fail)
        go_wp2_with fail
        go_roundw
        case rel => exact ⟨i + 1, by omega, by go_num, Lib.hid (by first | exact below_drewN HB.out _ | exact HB.out)⟩
        case measure => (simp [intOf]; omega)
      · subst k2 k3
        unfold tm0 at e1
        unfold t0 at d1
        go_wp2_with fail
        go_quiet (fail)
        go_wp2_with fail
        go_roundw
        case rel => exact ⟨i + 1, by omega, by go_num, Lib.hid (by first | exact below_drewN HB.out _ | exact HB.out)⟩
        case measure => (simp [intOf]; omega)
    · obtain rfl : i = n := by omega
      go_wp2_with fail
      go_ret
      exact ⟨rfl, HB.out⟩
end Go.Proofs.YtmkkckhfdafjnaaGreatDoor.Li
/- Layer 18: the law's value, alive. -/
namespace Go.Proofs.YtmkkckhfdafjnaaGreatDoor.Li
open Go.RowKit Go.Maps
def alS : ByteArray := ⟨#[91, 36, 120, 44, 123, 97, 58, 82, 69, 68, 125, 93, 32, 122]⟩
def alL : List TkR := [⟨4, ⟨#[91]⟩, 0⟩, ⟨4, ⟨#[36]⟩, 1⟩, ⟨1, ⟨#[120]⟩, 2⟩, ⟨4, ⟨#[123]⟩, 4⟩, ⟨1, ⟨#[97]⟩, 5⟩, ⟨4, ⟨#[58]⟩, 6⟩, ⟨1, ⟨#[82, 69, 68]⟩, 7⟩, ⟨4, ⟨#[125]⟩, 10⟩, ⟨4, ⟨#[93]⟩, 11⟩, ⟨1, ⟨#[122]⟩, 13⟩, ⟨0, ⟨#[]⟩, 14⟩]
def alC : List CR := [⟨6, ⟨#[]⟩, ⟨#[]⟩, 0, 2⟩, ⟨5, ⟨#[]⟩, ⟨#[120]⟩, 0, 0⟩, ⟨7, ⟨#[]⟩, ⟨#[]⟩, 0, 1⟩, ⟨4, ⟨#[97]⟩, ⟨#[82, 69, 68]⟩, 0, 0⟩]
theorem al_lex : lexM alS = .ok alL := by kernel_rfl
theorem al_val (a : Option Addr) (c : Nat) : vaR ⟨a, 11, c, gt alL, false⟩ 0 = .ok (9, alC) := by kernel_rfl
theorem tkp_of {w : World} {a : Option Addr} {n c : Nat} {g : Nat → TkR} {fx : Bool} (h : TkV w a n g) (hn : n ≤ 100000) (hs : ∀ i, i < n → (g i).s.size ≤ 1000000) : TkP w w.heap.size ⟨a, n, c, g, fx⟩ := ⟨h, hn, hs⟩
set_option maxRecDepth 20000 in
set_option maxHeartbeats 2000000 in
theorem value18_ok (s : ByteArray) (fx : Bool) (w : World) (l : List TkR) (j : Nat) (M : List CR) (hc : LxC w) (hl : LimP w.heap.size w) (hs : s.size ≤ 1000000) (hX : lexM s = .ok l) (hn : l.length ≤ 100000) (hsm : ∀ i, i < l.length → (gt l i).s.size ≤ 1000000) (hv : ∀ a c, vaR ⟨a, l.length, c, gt l, fx⟩ 0 = .ok (j, M)) : Calls Tryz.prog 40 #[.string s, .bool fx] w fun e w' => ∃ v, e = .returned (.tuple #[v, .int .i64 j, .int .i64 0]) ∧ w'.ownsRow w.heap.size 46 5 v M.length (rw5 M) ∧ Below w.heap.size w w' := by
  have HX := lex_any s w hc hs
  rw [hX] at HX
  replace HX := Lib.hid HX
  have HL := Lib.hid hl
  have HV := Lib.hid hv
  clear hX hc hl hv
  go_enter Tryz.func40, Tryz.ntmps40
  go_wp2_with fail
  refine HX.out.mono ?_
  rintro e w1 ⟨b1, v1, rfl, o1⟩
  obtain ⟨a, c, rfl, t1⟩ := own_tk o1
  have B1 := Lib.hid b1
  have HVC := valc_any ⟨a, l.length, c, gt l, fx⟩ 0 w1 (HL.out.up b1) (tkp_of t1 hn hsm)
  rw [HV.out a c] at HVC
  replace HVC := Lib.hid HVC
  clear b1 o1 t1 HX
  go_wp2_with fail
  refine HVC.out.mono ?_
  rintro e w2 ⟨v2, rfl, o2, b2⟩
  have B2 := Lib.hid (And.intro o2 b2)
  clear o2 b2
  go_wp2_with fail
  go_ret3
  exact ⟨v2, rfl, own_base B2.out.1 B1.out.size, B1.out.trans (B2.out.2.mono B1.out.size)⟩
set_option maxRecDepth 20000 in
set_option maxHeartbeats 2000000 in
theorem alive18_any (w : World) (hc : LxC w) (hl : LimP w.heap.size w) : Calls Tryz.prog 14 #[] w fun e w' => e = .returned (.bool true) ∧ Below w.heap.size w w' := by
  have HV := Lib.hid (value18_ok alS false w alL 9 alC hc hl (by decide) al_lex (by decide) (by decide) al_val)
  clear hc hl
  go_enter Tryz.func14, Tryz.ntmps14
  go_wp2_with fail
  refine HV.out.mono ?_
  rintro e w1 ⟨v1, rfl, o1, b1⟩
  have B1 := Lib.hid b1
  have o1' : w1.ownsRow w.heap.size 46 5 v1 4 (rw5 alC) := o1
  obtain ⟨ad, cp, rfl, t1, _⟩ := own_cv (L := alC) rfl o1'
  have T1 := Lib.hid t1
  clear b1 o1 o1' HV t1
  go_wp2_with fail
  have o2 : (w1.alloc (.cells #[.int .u8 6, .string ⟨#[]⟩, .string ⟨#[]⟩, .int .i64 0, .int .i64 2, .int .u8 5, .string ⟨#[]⟩, .string ⟨#[120]⟩, .int .i64 0, .int .i64 0, .int .u8 7, .string ⟨#[]⟩, .string ⟨#[]⟩, .int .i64 0, .int .i64 1, .int .u8 4, .string ⟨#[97]⟩, .string ⟨#[82, 69, 68]⟩, .int .i64 0, .int .i64 0] 46)).ownsRow w1.heap.size 46 5 (.slice (some ⟨w1.heap.size, 0, none⟩) 4 4) 4 (rw5 alC) :=
    ⟨rfl, .inr ⟨w1.heap.size, 4, _, rfl, Nat.le_refl _, heap_alloc_new _ _, Nat.le_refl _, by decide, rfl, rfl⟩⟩
  obtain ⟨ad2, cp2, e2, t2, _⟩ := own_cv (L := alC) rfl o2
  injection e2 with e2a e2b e2c
  subst e2a e2c
  have b2 := below_box w1 (.cells #[.int .u8 6, .string ⟨#[]⟩, .string ⟨#[]⟩, .int .i64 0, .int .i64 2, .int .u8 5, .string ⟨#[]⟩, .string ⟨#[120]⟩, .int .i64 0, .int .i64 0, .int .u8 7, .string ⟨#[]⟩, .string ⟨#[]⟩, .int .i64 0, .int .i64 1, .int .u8 4, .string ⟨#[97]⟩, .string ⟨#[82, 69, 68]⟩, .int .i64 0, .int .i64 0] 46)
  have B2 := Lib.hid (B1.out.trans (b2.mono B1.out.size))
  have HS := rsame_any ad (some ⟨w1.heap.size, 0, none⟩) 4 4 cp 4 (gl alC) (gl alC) _ (T1.out.below b2) t2 (by decide)
  rw [show smB (gl alC) 4 (gl alC) 4 = true from sm_lists rfl] at HS
  clear o2 t2 b2 T1
  refine HS.mono ?_
  rintro e w3 ⟨rfl, b3⟩
  have B3 := Lib.hid (B2.out.trans (b3.mono B2.out.size))
  clear b3 HS
  go_wp2_with fail
  go_ret
  exact ⟨rfl, B3.out⟩
end Go.Proofs.YtmkkckhfdafjnaaGreatDoor.Li
/- Layer 18: an error has a number (plain). -/
namespace Go.Proofs.YtmkkckhfdafjnaaGreatDoor.Li
open Go.RowKit Go.Maps
/-- An error's number is not 0. -/
def NzR {α : Type} (x : LR α) : Prop := ∀ a m, x = .bad a m → m ≠ 0
theorem NzR.okk {α : Type} (x : α) : NzR (.ok x : LR α) := fun _ _ h => by cases h
theorem NzR.badd {α : Type} {p : Nat} {e : Int} (h : e ≠ 0) : NzR (.bad p e : LR α) := fun _ _ k => by cases k; exact h
theorem NzR.bind {α β : Type} {x : LR α} {f : α → LR β} (h : NzR x) (k : ∀ y, NzR (f y)) : NzR (x.bind f) := by
  cases x with
  | ok a => exact k a
  | bad p e => exact NzR.badd (h p e rfl)
theorem hd_nz (s : LTok) (i : Nat) : NzR (hdL s i) := by
  unfold hdL
  repeat' split
  all_goals first | exact NzR.okk _ | exact NzR.badd (by decide)
theorem nw_nz (s : LTok) (ns : List ByteArray) (i : Nat) : NzR (nwL s ns i) := by
  unfold nwL
  repeat' split
  all_goals first | exact NzR.okk _ | exact NzR.badd (by decide)
theorem ls_nz (s : LTok) (val : Nat → List CR → LR Out) (hv : ∀ j M, NzR (val j M)) (k : Nat) : ∀ f j M, NzR (lsF s val k f j M)
  | 0, j, M => NzR.badd (by decide)
  | f + 1, j, M => by
    unfold lsF
    split
    · exact NzR.okk _
    · exact (hv j M).bind fun y => ls_nz s val hv k f _ _
theorem ob_nz (s : LTok) (val : ByteArray → Nat → List CR → LR Out) (hv : ∀ nm j M, NzR (val nm j M)) (k : Nat) : ∀ f j ns M, NzR (obF s val k f j ns M)
  | 0, j, ns, M => NzR.badd (by decide)
  | f + 1, j, ns, M => by
    unfold obF
    split
    · exact NzR.okk _
    · refine (nw_nz s ns j).bind fun nm => ?_
      split
      · exact (hv _ _ _).bind fun y => ob_nz s val hv k f _ _ _
      · exact NzR.badd (by decide)
theorem va_nz (s : LTok) : ∀ f nm op i L, NzR (vaL s f nm op i L)
  | 0, nm, op, i, L => NzR.badd (by decide)
  | f + 1, nm, op, i, L => by
    unfold vaL
    refine (hd_nz s i).bind fun c => ?_
    split
    · exact NzR.badd (by decide)
    split
    · exact NzR.badd (by decide)
    unfold bdL
    split
    · split
      · exact NzR.okk _
      · exact NzR.badd (by decide)
    split
    · exact ls_nz s _ (fun j M => va_nz s f _ _ _ _) _ _ _ _
    split
    · exact ob_nz s _ (fun nm j M => va_nz s f _ _ _ _) _ _ _ _ _
    · exact NzR.okk _
theorem vaR_nz (s : LTok) (a : Int) : NzR (vaR s a) := by
  unfold vaR ltL
  split
  · exact va_nz s _ _ _ _ _
  · exact NzR.badd (by decide)
end Go.Proofs.YtmkkckhfdafjnaaGreatDoor.Li
/- Layer 18: what LitFixed needs of what is read (plain). -/
namespace Go.Proofs.YtmkkckhfdafjnaaGreatDoor.Li
open Go.RowKit Go.Maps
theorem gl_mem2 {N : List CR} {i : Nat} (h : i < N.length) : gl N i ∈ N := by
  unfold gl
  rw [List.getD_eq_getElem?_getD, List.getElem?_eq_getElem h]
  exact List.getElem_mem h
theorem alT_at {s : LTok} : ∀ {T : List TkR} {i k : Nat}, AlT s i T → k < T.length → alT (gt T k) (tkA s (i + k))
  | [], i, k, _, h => absurd h (Nat.not_lt_zero k)
  | t :: r, i, 0, h, _ => h.1
  | t :: r, i, k + 1, h, hk => by
    have := alT_at (k := k) h.2 (by simpa using hk)
    rw [show i + (k + 1) = i + 1 + k by omega]
    exact this
theorem named_en {x : ByteArray} (h : ¬ (x = tNull ∨ x = tFalse ∨ x = tTrue)) : (namedL x).k = 4 := by
  unfold namedL
  rw [if_neg (fun e => h (.inl e)), if_neg (fun e => h (.inr (.inl e))), if_neg (fun e => h (.inr (.inr e)))]
theorem okl_mb {c : CR} (h : OkL c) : mbC c = true := by
  unfold mbC
  have e1 : (decide (c.nm.toList.isEmpty = true) || nmB c.nm) = true := by
    rcases h.nm with e | e
    · rw [e, show (decide (((⟨#[]⟩ : ByteArray)).toList.isEmpty = true)) = true from by rw [Nm.list_empty]; rfl, Bool.true_or]
    · rw [e, Bool.or_true]
  rw [e1, Bool.true_and]
  by_cases k : c.k = 4
  · rw [decide_eq_true (named_en (h.en k))]; simp
  · rw [decide_eq_false k]; rfl
/-- What is read, and its tokens. -/
structure LfF (s : LTok) (a : Int) (j : Nat) (N : List CR) : Prop where
  a0 : 0 ≤ a
  lt : a.toNat < j
  le : j ≤ s.n
  pos : 0 < N.length
  top : N.length ≤ 2048
  mb : mbB (gl N) N.length = true
  cw : CW N.length (gl N)
  pc : PuC (gl N) N.length
  nm : ∀ i, i < N.length → (gl N i).nm.size ≤ 1000000
  tl : (tkW (gl N) 16 0).1.length = j - a.toNat
  al : ∀ k, k < j - a.toNat → alT (gt (tkW (gl N) 16 0).1 k) (tkA s (a.toNat + k))
theorem lf_facts {s : LTok} (hs : TkO s) {a : Int} {j : Nat} {N : List CR} (h : vaR s a = .ok (j, N)) : LfF s a j N := by
  unfold vaR at h
  split at h
  · rename_i hin
    obtain ⟨sv, h1, h2, h3⟩ := lt_rd hs h
    have hok : ∀ i, i < N.length → OkL (gl N i) := fun i hi => sv.ok _ (gl_mem2 hi)
    have hm : mbB (gl N) N.length = true := by
      rw [mb_all (fun i hi => okl_mb (hok i hi))]
      unfold ckC
      rw [decide_eq_true sv.pos, decide_eq_true h3, sv.hd, sv.wk]
      simp [em]
      (try rfl)
    refine ⟨hin.1, h1, h2, sv.pos, h3, hm, fun i hi => ?_, ⟨by omega, fun i hi => (hok i hi).nn, fun i hi _ => ?_⟩, fun i hi => ?_, sv.tl, fun k hk => alT_at sv.tk (by rw [sv.tl]; exact hk)⟩
    · have o := hok i hi
      have := o.nms
      have := o.tx
      have := o.mm
      exact ⟨o.k, by unfold maxLen; omega, by omega, by omega, by omega⟩
    · have := (hok i hi).mm
      omega
    · have := (hok i hi).nms
      omega
  · cases h
theorem lf_fix {a : Option Addr} {n c : Nat} {g : Nat → TkR} {p : Int} {j : Nat} {N : List CR} (h : vaR ⟨a, n, c, g, true⟩ p = .ok (j, N)) : vaR ⟨a, n, c, g, false⟩ p = .ok (j, N) ∧ NoV N := by
  unfold vaR at h ⊢
  split at h
  · rename_i hin
    rw [if_pos hin]
    exact va_fix ⟨a, n, c, g, true⟩ 17 ⟨#[]⟩ 0 _ _ _ _ (by decide) (fun c hc => by cases hc) h
  · cases h
theorem tko_lex {s : ByteArray} (hs : s.size ≤ 1000) {M : List TkR} (hT : Toks s 0 M) {a : Option Addr} {c : Nat} {fx : Bool} : TkO ⟨a, M.length + 1, c, gt (M ++ [⟨0, ⟨#[]⟩, s.size⟩]), fx⟩ := by
  have key : ∀ i, i < M.length + 1 → okT (gt (M ++ [⟨0, ⟨#[]⟩, (s.size : Int)⟩]) i) = true ∧ (gt (M ++ [⟨0, ⟨#[]⟩, (s.size : Int)⟩]) i).s.size ≤ 3000 := fun i hi => by
    by_cases h : i < M.length
    · have e : gt (M ++ [⟨0, ⟨#[]⟩, (s.size : Int)⟩]) i = gt M i := by
        unfold gt; simp [List.getD_eq_getElem?_getD, List.getElem?_append, h]
      rw [e]
      exact toks_ok hs M 0 i hT h
    · have e : gt (M ++ [⟨0, ⟨#[]⟩, (s.size : Int)⟩]) i = ⟨0, ⟨#[]⟩, (s.size : Int)⟩ := by
        have : i = M.length := by omega
        subst this
        unfold gt; simp [List.getD_eq_getElem?_getD]
      rw [e]
      exact ⟨okT_end _, Nat.zero_le _⟩
  exact ⟨fun i hi => (key i hi).1, fun i hi => (key i hi).2⟩
end Go.Proofs.YtmkkckhfdafjnaaGreatDoor.Li
