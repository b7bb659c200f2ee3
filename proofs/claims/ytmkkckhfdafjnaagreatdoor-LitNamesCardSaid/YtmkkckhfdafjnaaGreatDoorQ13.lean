import Derived.Test.YtmkkckhfdafjnaaGreatDoorQ12
import Derived.Test.YtmkkckhfdafjnaaGreatDoorQ10
/- Layer 18: read, of a type. -/
namespace Go.Proofs.YtmkkckhfdafjnaaGreatDoor.Li
open Go.RowKit Go.Maps Rt
theorem rcatchtI (a b c d : Addr) (w : World) : CallsD Tryz.prog 51 #[.pointer (some a), .pointer (some b), .pointer (some c), .pointer (some d)] .returning w fun e u' w' => e = .returned (.tuple #[]) ∧ u' = .returning ∧ w' = w := by
  have hnil : ∀ w : World, (binOp BinOp.eql 20 .nilIface .nilIface).run Tryz.prog w = .ok (.bool true) w := fun _ => by kernel_rfl
  refine callsD_of_wpS Tryz.func51 rfl fun c₀ cs hu => ?_
  apply wpS_seq
  apply wpS_region
  simp [wpOpsS, go_sem, recoverD, hu, Tryz.ntmps51, Exit.thenS]
  refine wpS_of_wp ?_
  simp only [Array.replicate, List.replicate, List.setIfInBounds_toArray, List.set, List.append_toArray, List.cons_append, List.nil_append]
  go_wp2_with fail
  cases c₀
  simp_all [bodyPostS, results, Tryz.results51]
set_option maxRecDepth 20000 in
set_option maxHeartbeats 4000000 in
theorem rcatchtP (N : Nat) (e x : Int) (v0 v0' v1 v2 : Value) (older : List PanicEntry) (w : World) (h3 : w.cell? ⟨N + 3, 0, none⟩ = some (.string ⟨#[]⟩)) (h3' : w.cell? ⟨N + 3, 1, none⟩ = some (.slice none 0 0)) (h0 : w.cell? ⟨N, 0, none⟩ = some v0) (z0 : w.frozen? ⟨N, 0, none⟩ = false) (h0' : w.cell? ⟨N, 1, none⟩ = some v0') (z0' : w.frozen? ⟨N, 1, none⟩ = false) (h1 : w.cell? ⟨N + 1, 0, none⟩ = some v1) (z1 : w.frozen? ⟨N + 1, 0, none⟩ = false) (h2 : w.cell? ⟨N + 2, 0, none⟩ = some v2) (z2 : w.frozen? ⟨N + 2, 0, none⟩ = false) (hN : N + 3 < w.heap.size) : CallsD Tryz.prog 51 #[.pointer (some ⟨N + 3, 0, none⟩), .pointer (some ⟨N, 0, none⟩), .pointer (some ⟨N + 1, 0, none⟩), .pointer (some ⟨N + 2, 0, none⟩)] (.panicking ({ v := .iface 115 (.agg #[.int .i64 e, .int .i64 x]), recovered := false } :: older)) w fun r u' w' => r = .returned (.tuple #[]) ∧ u' = .panicking ({ v := .iface 115 (.agg #[.int .i64 e, .int .i64 x]), recovered := true } :: older) ∧ ∃ W, Below w.heap.size w W ∧ w' = (((W.setCell ⟨N, 0, none⟩ (.string ⟨#[]⟩)).setCell ⟨N, 1, none⟩ (.slice none 0 0)).setCell ⟨N + 1, 0, none⟩ (.int .i64 x)).setCell ⟨N + 2, 0, none⟩ (.int .i64 e) := by
  have hnil : ∀ w : World, (binOp BinOp.eql 20 (.iface 115 (.agg #[.int .i64 e, .int .i64 x])) .nilIface).run Tryz.prog w = .ok (.bool false) w := fun _ => by kernel_rfl
  have hta : ∀ w : World, (Instr.typeAssert (.iface 115 (.agg #[.int .i64 e, .int .i64 x])) 20 115 true).run Tryz.prog w = .ok (.tuple #[.agg #[.int .i64 e, .int .i64 x], .bool true]) w := fun _ => by kernel_rfl
  refine callsD_of_wpS Tryz.func51 rfl fun c₀ cs hu => ?_
  apply wpS_seq
  apply wpS_region
  simp [wpOpsS, go_sem, recoverD, hu, Tryz.ntmps51, Exit.thenS]
  refine wpS_of_wp ?_
  simp only [Array.replicate, List.replicate, List.setIfInBounds_toArray, List.set, List.append_toArray, List.cons_append, List.nil_append]
  clear hu
  have n0 : ¬ (w.heap.size = N) := by omega
  have n1 : ¬ (w.heap.size = N + 1) := by omega
  have n2 : ¬ (w.heap.size = N + 2) := by omega
  have m0 : ¬ (N = w.heap.size) := by omega
  have m1 : ¬ (N + 1 = w.heap.size) := by omega
  have m2 : ¬ (N + 2 = w.heap.size) := by omega
  have HBX := Lib.hid (below_box w (.cells #[.int .i64 e, .int .i64 x] 115))
  go_wp2_with fail
  obtain ⟨A, hA⟩ : ∃ A, A = w.alloc (.cells #[.int .i64 e, .int .i64 x] 115) := ⟨_, rfl⟩
  rw [← hA] at HBX ⊢
  have hk : ∀ k, k < w.heap.size → A.heap[k]? = w.heap[k]? := fun k h => HBX.out.block k h
  have g3 : A.cell? ⟨N + 3, 0, none⟩ = some (.string ⟨#[]⟩) := (World.cell?_of_block (hk _ hN)).trans h3
  have g3' : A.cell? ⟨N + 3, 1, none⟩ = some (.slice none 0 0) := (World.cell?_of_block (hk _ hN)).trans h3'
  have g0' : A.cell? ⟨N, 1, none⟩ = some v0' := (World.cell?_of_block (hk N (by omega))).trans h0'
  have y0' : A.frozen? ⟨N, 1, none⟩ = false := by rw [← z0']; unfold World.frozen?; dsimp only; rw [hk N (by omega)]
  have g0 : A.cell? ⟨N, 0, none⟩ = some v0 := (World.cell?_of_block (hk N (by omega))).trans h0
  have g1 : A.cell? ⟨N + 1, 0, none⟩ = some v1 := (World.cell?_of_block (hk (N + 1) (by omega))).trans h1
  have g2 : A.cell? ⟨N + 2, 0, none⟩ = some v2 := (World.cell?_of_block (hk (N + 2) (by omega))).trans h2
  have y0 : A.frozen? ⟨N, 0, none⟩ = false := by rw [← z0]; unfold World.frozen?; dsimp only; rw [hk N (by omega)]
  have y1 : A.frozen? ⟨N + 1, 0, none⟩ = false := by rw [← z1]; unfold World.frozen?; dsimp only; rw [hk (N + 1) (by omega)]
  have y2 : A.frozen? ⟨N + 2, 0, none⟩ = false := by rw [← z2]; unfold World.frozen?; dsimp only; rw [hk (N + 2) (by omega)]
  have hx : A.heap[w.heap.size]? = some (.cells #[.int .i64 e, .int .i64 x] 115) := by rw [hA]; exact heap_alloc_new _ _
  have a0 : A.cell? ⟨w.heap.size, 0, none⟩ = some (.int .i64 e) := by unfold World.cell?; dsimp only; rw [hx]; rfl
  have a1 : A.cell? ⟨w.heap.size, 1, none⟩ = some (.int .i64 x) := by unfold World.cell?; dsimp only; rw [hx]; rfl
  clear hk hx hA h0 h0' h1 h2 h3 h3' z0 z0' z1 z2
  go_region
  all_goals
    go_wp2_with fail
    cases c₀
    simp [bodyPostS, results, Tryz.results51]
    exact ⟨A.drew, HBX.out.drew, rfl⟩
/-- What the tokens from a place tell. -/
def tyR (s : LTok) (a : Int) : LR TyO := if 0 ≤ a ∧ a < s.n then tyL s a.toNat else .bad 0 2
/-- A type is told, and a place; or an error, and its token. -/
def TyV (w : World) (x : LR TyO) (e : Ending) (w' : World) : Prop := match x with
  | .ok y => ∃ v, e = .returned (.tuple #[.agg #[.string y.nm, v], .int .i64 y.i, .int .i64 0]) ∧ BwP w.heap.size w' v y.ws ∧ Below w.heap.size w w'
  | .bad a m => e = .returned (.tuple #[.agg #[.string ⟨#[]⟩, .slice none 0 0], .int .i64 a, .int .i64 m]) ∧ Below w.heap.size w w'
set_option maxRecDepth 20000 in
set_option maxHeartbeats 4000000 in
theorem readt_any (s : LTok) (a : Int) (w : World) (hl : LimP w.heap.size w) (ht : TkP w w.heap.size s) : Calls Tryz.prog 32 #[.slice s.a s.n s.c, .int .i64 a, .bool s.fx, .func (.func 33) #[] #[]] w (TyV w (tyR s a)) := by
  have hmf : ∀ (fn : Fn) (first cap : Array Value) (w : World), (Instr.makeFunc fn first cap).run Tryz.prog w = .ok (.func fn first cap) w := fun _ _ _ _ => rfl
  obtain ⟨W0, hW0⟩ : ∃ W0, W0 = (((w.alloc (.cells #[.string ⟨#[]⟩, .slice none 0 0] 28)).alloc (.cells #[.int .i64 0] 3)).alloc (.cells #[.int .i64 0] 23)).alloc (.cells #[.string ⟨#[]⟩, .slice none 0 0] 28) := ⟨_, rfl⟩
  obtain ⟨N, hN⟩ : ∃ N, N = w.heap.size := ⟨_, rfl⟩
  have hB0 : W0.heap.size = N + 4 := by rw [hW0, hN]; simp
  have b0 : Below w.heap.size w W0 := by rw [hW0]; exact ((((Below.refl _ _).alloc (Nat.le_refl _) _).alloc (by simp) _).alloc (by simp; omega) _).alloc (by simp; omega) _
  have n3 : W0.heap[N + 3]? = some (.cells #[.string ⟨#[]⟩, .slice none 0 0] 28) := by
    have e := heap_alloc_new (((w.alloc (.cells #[.string ⟨#[]⟩, .slice none 0 0] 28)).alloc (.cells #[.int .i64 0] 3)).alloc (.cells #[.int .i64 0] 23)) (.cells #[.string ⟨#[]⟩, .slice none 0 0] 28)
    rw [hW0, hN]; simpa using e
  have n2 : W0.heap[N + 2]? = some (.cells #[.int .i64 0] 23) := by
    have e := heap_alloc_new ((w.alloc (.cells #[.string ⟨#[]⟩, .slice none 0 0] 28)).alloc (.cells #[.int .i64 0] 3)) (.cells #[.int .i64 0] 23)
    rw [hW0, hN, heap_alloc_old _ _ (by simp)]; simpa using e
  have n1 : W0.heap[N + 1]? = some (.cells #[.int .i64 0] 3) := by
    have e := heap_alloc_new (w.alloc (.cells #[.string ⟨#[]⟩, .slice none 0 0] 28)) (.cells #[.int .i64 0] 3)
    rw [hW0, hN, heap_alloc_old _ _ (by simp), heap_alloc_old _ _ (by simp)]; simpa using e
  have n0 : W0.heap[N]? = some (.cells #[.string ⟨#[]⟩, .slice none 0 0] 28) := by
    rw [hW0, hN, heap_alloc_old _ _ (by simp; omega), heap_alloc_old _ _ (by simp; omega), heap_alloc_old _ _ (by simp), heap_alloc_new]
  obtain ⟨Z, hZ⟩ : ∃ Z, Z = tyR s a := ⟨_, rfl⟩
  rw [← hZ]
  unfold tyR at hZ
  by_cases hin : 0 ≤ a ∧ a < s.n
  case neg =>
    have HZ : Hid (Z = .bad 0 2) := Lib.hid (by rw [hZ, if_neg hin])
    have hor : a < 0 ∨ (¬ a < 0 ∧ (s.n : Int) ≤ a) := by omega
    have HB0 := Lib.hid b0
    clear hZ hin n0 n1 n2 n3 hB0 b0
    rcases hor with q | ⟨q, q2⟩
    all_goals
      go_enter_defers Tryz.func32, Tryz.ntmps32
      go_wp2_with fail
      obtain ⟨WE, hWE⟩ : ∃ WE, WE = (((w.alloc (.cells #[.string ⟨#[]⟩, .slice none 0 0] 28)).alloc (.cells #[.int .i64 0] 3)).alloc (.cells #[.int .i64 2] 23)).alloc (.cells #[.string ⟨#[]⟩, .slice none 0 0] 28) := ⟨_, rfl⟩
      have bE : Below w.heap.size w WE := by rw [hWE]; exact ((((Below.refl _ _).alloc (Nat.le_refl _) _).alloc (by simp) _).alloc (by simp; omega) _).alloc (by simp; omega) _
      have e0 : WE.cell? ⟨w.heap.size, 0, none⟩ = some (.string ⟨#[]⟩) ∧ WE.cell? ⟨w.heap.size, 1, none⟩ = some (.slice none 0 0) := by
        have e : WE.heap[w.heap.size]? = some (.cells #[.string ⟨#[]⟩, .slice none 0 0] 28) := by
          rw [hWE, heap_alloc_old _ _ (by simp; omega), heap_alloc_old _ _ (by simp; omega), heap_alloc_old _ _ (by simp), heap_alloc_new]
        exact ⟨(ref_cells e).1, (ref_cells e).2.1⟩
      have e1 : WE.cell? ⟨w.heap.size + 1, 0, none⟩ = some (.int .i64 0) := by
        have e : WE.heap[w.heap.size + 1]? = some (.cells #[.int .i64 0] 3) := by
          have e := heap_alloc_new (w.alloc (.cells #[.string ⟨#[]⟩, .slice none 0 0] 28)) (.cells #[.int .i64 0] 3)
          rw [hWE, heap_alloc_old _ _ (by simp), heap_alloc_old _ _ (by simp)]; simpa using e
        simp [World.cell?, e]
      have e2 : WE.cell? ⟨w.heap.size + 1 + 1, 0, none⟩ = some (.int .i64 2) := by
        have e : WE.heap[w.heap.size + 1 + 1]? = some (.cells #[.int .i64 2] 23) := by
          have e := heap_alloc_new ((w.alloc (.cells #[.string ⟨#[]⟩, .slice none 0 0] 28)).alloc (.cells #[.int .i64 0] 3)) (.cells #[.int .i64 2] 23)
          rw [hWE, heap_alloc_old _ _ (by simp)]; simpa using e
        simp [World.cell?, e]
      rw [← hWE]
      clear hWE
      rw [HZ.out]
      simp [bodyPostD, Leaves, settle, results, Tryz.results32, go_sem, e0.1, e0.2, e1, e2]
      exact ⟨rfl, bE⟩
  case pos =>
    obtain ⟨i, rfl⟩ : ∃ i : Nat, a = i := ⟨a.toNat, by omega⟩
    have hi : i < s.n := by omega
    have q1 : ¬ ((i : Int) < 0) := by omega
    have q2 : ¬ ((s.n : Int) ≤ i) := by omega
    have HZ : Hid (Z = tyL s i) := Lib.hid (by rw [hZ, if_pos hin]; rfl)
    have HL0 : Hid (LimP (N + 4) W0) := Lib.hid (by
      have e := b0.block _ hl.1
      refine ⟨by have := hl.1; omega, ?_, ?_⟩
      · rw [← hl.2.1]; unfold World.cell?; dsimp only; rw [e]
      · rw [← hl.2.2]; unfold World.cell?; dsimp only; rw [e])
    obtain ⟨W1, hW1⟩ : ∃ W1, W1 = W0.alloc (.cells #[.slice s.a s.n s.c, .int .i64 i, .bool s.fx, .int .i64 0, .slice none 0 0] 119) := ⟨_, rfl⟩
    have b1 : Below w.heap.size w W1 := by rw [hW1]; exact b0.alloc (by omega) _
    have hk1 : ∀ k, k < N + 4 → W1.heap[k]? = W0.heap[k]? := fun k hk => by rw [hW1]; exact heap_alloc_old _ _ (by omega)
    have HR1 : Hid (Rt.RdB W1 (N + 4) s i 0 (.slice none 0 0)) := Lib.hid (by
      refine ⟨by rw [hW1, ← hB0]; exact heap_alloc_new _ _, ⟨fun j hj => ?_, ht.2⟩⟩
      obtain ⟨b, off, e, h0, h1, h2, h3⟩ := ht.1 j hj
      have c : ∀ o, W1.cell? ⟨b, o, none⟩ = w.cell? ⟨b, o, none⟩ := fun o => World.cell?_of_block (b1.block b h0)
      exact ⟨b, off, e, by omega, by rw [c]; exact h1, by rw [c]; exact h2, by rw [c]; exact h3⟩)
    have HL1 : Hid (LimP (N + 4) W1) := Lib.hid (by
      have e := b1.block _ hl.1
      refine ⟨by have := hl.1; omega, ?_, ?_⟩
      · rw [← hl.2.1]; unfold World.cell?; dsimp only; rw [e]
      · rw [← hl.2.2]; unfold World.cell?; dsimp only; rw [e])
    have HNN : Hid (W1.heap[N]? = some (.cells #[.string ⟨#[]⟩, .slice none 0 0] 28) ∧ W1.heap[N + 1]? = some (.cells #[.int .i64 0] 3) ∧ W1.heap[N + 2]? = some (.cells #[.int .i64 0] 23) ∧ W1.heap[N + 3]? = some (.cells #[.string ⟨#[]⟩, .slice none 0 0] 28)) := Lib.hid ⟨(hk1 _ (by omega)).trans n0, (hk1 _ (by omega)).trans n1, (hk1 _ (by omega)).trans n2, (hk1 _ (by omega)).trans n3⟩
    have HLT := Lib.hid (ref_any W1 HR1.out (by omega))
    obtain ⟨X, hX⟩ : ∃ X, X = tyL s i := ⟨_, rfl⟩
    rw [← hX] at HLT HZ
    have HB1 := Lib.hid b1
    have HN := Lib.hid hN
    rw [hN] at HLT
    clear hZ hin n0 n1 n2 n3 hB0 b0 b1 hk1 hX hN HL0 hl ht
    go_enter_defers Tryz.func32, Tryz.ntmps32
    go_wp2_with fail
    rw [← hW0, ← hW1]
    clear hW0 hW1
    cases X with
    | bad b m =>
      have HL1 : Hid (Calls Tryz.prog 33 #[.pointer (some ⟨w.heap.size + 4, 0, none⟩)] W1 fun e w' => e = thr b m ∧ Below (w.heap.size + 4) W1 w') := HLT
      refine HL1.out.mono ?_
      rintro e w3 ⟨he, b3⟩
      unfold thr at he
      subst he
      have HB3 := Lib.hid b3
      clear b3
      (try go_wp2_with fail)
      have hNn := HN.out
      have hsz : N + 4 < W1.heap.size := HR1.out.lt
      have k0 : w3.heap[w.heap.size]? = some (.cells #[.string ⟨#[]⟩, .slice none 0 0] 28) := by rw [← hNn]; exact (HB3.out.block _ (by omega)).trans HNN.out.1
      have k1 : w3.heap[w.heap.size + 1]? = some (.cells #[.int .i64 0] 3) := by rw [← hNn]; exact (HB3.out.block _ (by omega)).trans HNN.out.2.1
      have k2 : w3.heap[w.heap.size + 2]? = some (.cells #[.int .i64 0] 23) := by rw [← hNn]; exact (HB3.out.block _ (by omega)).trans HNN.out.2.2.1
      have k3 : w3.heap[w.heap.size + 3]? = some (.cells #[.string ⟨#[]⟩, .slice none 0 0] 28) := by rw [← hNn]; exact (HB3.out.block _ (by omega)).trans HNN.out.2.2.2
      have hs3 : w.heap.size + 4 < w3.heap.size := by have := HB3.out.size; omega
      refine leaves_cons (f := 51) (args := #[.pointer (some ⟨w.heap.size + 1 + 1 + 1, 0, none⟩), .pointer (some ⟨w.heap.size, 0, none⟩), .pointer (some ⟨w.heap.size + 1, 0, none⟩), .pointer (some ⟨w.heap.size + 1 + 1, 0, none⟩)]) (by simp) (by simp [go_sem]) ?_
      refine (rcatchtP w.heap.size m b (.string ⟨#[]⟩) (.slice none 0 0) (.int .i64 0) (.int .i64 0) [] w3 (by simp [World.cell?, k3]) (by simp [World.cell?, k3]) (by simp [World.cell?, k0]) (by simp [World.frozen?, k0]) (by simp [World.cell?, k0]) (by simp [World.frozen?, k0]) (by simp [World.cell?, k1]) (by simp [World.frozen?, k1]) (by simp [World.cell?, k2]) (by simp [World.frozen?, k2]) (by omega)).mono ?_
      rintro e u' w'' ⟨rfl, rfl, W, bW, hw⟩
      rw [HZ.out]
      have j0 : W.heap[w.heap.size]? = some (.cells #[.string ⟨#[]⟩, .slice none 0 0] 28) := (bW.block _ (by omega)).trans k0
      have j1 : W.heap[w.heap.size + 1]? = some (.cells #[.int .i64 0] 3) := (bW.block _ (by omega)).trans k1
      have j2 : W.heap[w.heap.size + 2]? = some (.cells #[.int .i64 0] 23) := (bW.block _ (by omega)).trans k2
      obtain ⟨V, hV⟩ : ∃ V, V = (W.setCell ⟨w.heap.size, 0, none⟩ (.string ⟨#[]⟩)).setCell ⟨w.heap.size, 1, none⟩ (.slice none 0 0) := ⟨_, rfl⟩
      have v0 : V.heap[w.heap.size]? = some (.cells #[.string ⟨#[]⟩, .slice none 0 0] 28) := by
        have := set1_heap (i := 1) (p := .slice none 0 0) (set1_heap (i := 0) (p := .string ⟨#[]⟩) j0)
        rw [hV]
        simpa using this
      have kV : ∀ k, k ≠ w.heap.size → V.heap[k]? = W.heap[k]? := fun k hk => by
        rw [hV, Below.heap_setCell _ ⟨w.heap.size, 1, none⟩ _ k hk, Below.heap_setCell _ ⟨w.heap.size, 0, none⟩ _ k hk]
      have bV : Below w.heap.size W V := by
        rw [hV]
        exact ((Below.refl _ _).setCell (by simp) _).setCell (by simp) _
      rw [← hV] at hw
      have m0 : w''.heap[w.heap.size]? = some (.cells #[.string ⟨#[]⟩, .slice none 0 0] 28) := by
        rw [hw, Below.heap_setCell _ ⟨w.heap.size + 2, 0, none⟩ _ _ (show w.heap.size ≠ w.heap.size + 2 by omega), Below.heap_setCell _ ⟨w.heap.size + 1, 0, none⟩ _ _ (show w.heap.size ≠ w.heap.size + 1 by omega)]
        exact v0
      have m1 : w''.heap[w.heap.size + 1]? = some (.cells #[.int .i64 b] 3) := by
        rw [hw, Below.heap_setCell _ ⟨w.heap.size + 2, 0, none⟩ _ _ (show w.heap.size + 1 ≠ w.heap.size + 2 by omega)]
        exact set1_heap (i := 0) (p := .int .i64 b) ((kV _ (by omega)).trans j1)
      have m2 : w''.heap[w.heap.size + 1 + 1]? = some (.cells #[.int .i64 m] 23) := by
        have j3 : (V.setCell ⟨w.heap.size + 1, 0, none⟩ (.int .i64 b)).heap[w.heap.size + 2]? = some (.cells #[.int .i64 0] 23) := by
          rw [Below.heap_setCell _ ⟨w.heap.size + 1, 0, none⟩ _ _ (show w.heap.size + 2 ≠ w.heap.size + 1 by omega)]
          exact (kV _ (by omega)).trans j2
        rw [hw]
        exact set1_heap j3
      obtain ⟨d0, d0', _⟩ := ref_cells m0
      have d1 : w''.cell? ⟨w.heap.size + 1, 0, none⟩ = some (.int .i64 b) := by simp [World.cell?, m1]
      have d2 : w''.cell? ⟨w.heap.size + 1 + 1, 0, none⟩ = some (.int .i64 m) := by simp [World.cell?, m2]
      have bw : Below w.heap.size w w'' := by
        rw [hw]
        exact ((((HB1.out.trans (HB3.out.mono (by omega))).trans (bW.mono (by omega))).trans bV).setCell (by simp) _).setCell (by simp) _
      clear hw hV
      simp [Leaves, settle, results, Tryz.results32, go_sem, d0, d0', d1, d2]
      exact ⟨rfl, bw⟩
    | ok y =>
      obtain ⟨j, yr, yn, yw⟩ := y
      have HL1 : Hid (Calls Tryz.prog 33 #[.pointer (some ⟨w.heap.size + 4, 0, none⟩)] W1 fun e w' => ∃ vw, e = .returned (.agg #[.string yn, vw]) ∧ BwP W1.heap.size w' vw yw ∧ Rt.RdB w' (w.heap.size + 4) s j 0 (.slice none 0 0) ∧ KpB (w.heap.size + 4) W1 w') := HLT
      refine HL1.out.mono ?_
      rintro e w3 ⟨va, rfl, a3, r3, f3⟩
      have HR3 := Lib.hid a3
      have HB3 := Lib.hid (f3.below (Nat.le_of_lt (HN.out ▸ HR1.out.lt)))
      obtain ⟨ad, m, cap, rfl⟩ := own_slice3 a3.1
      have hNn := HN.out
      have hsz : N + 4 < W1.heap.size := HR1.out.lt
      have k0 : w3.heap[w.heap.size]? = some (.cells #[.string ⟨#[]⟩, .slice none 0 0] 28) := by rw [← hNn]; exact (HB3.out.block _ (by omega)).trans HNN.out.1
      have k1 : w3.heap[w.heap.size + 1]? = some (.cells #[.int .i64 0] 3) := by rw [← hNn]; exact (HB3.out.block _ (by omega)).trans HNN.out.2.1
      have k2 : w3.heap[w.heap.size + 2]? = some (.cells #[.int .i64 0] 23) := by rw [← hNn]; exact (HB3.out.block _ (by omega)).trans HNN.out.2.2.1
      have x0 : w3.cell? ⟨w.heap.size, 0, none⟩ = some (.string ⟨#[]⟩) := by simp [World.cell?, k0]
      have x0' : w3.cell? ⟨w.heap.size, 1, none⟩ = some (.slice none 0 0) := by simp [World.cell?, k0]
      have y0' : w3.frozen? ⟨w.heap.size, 1, none⟩ = false := by simp [World.frozen?, k0]
      have y0 : w3.frozen? ⟨w.heap.size, 0, none⟩ = false := by simp [World.frozen?, k0]
      have x1 : w3.cell? ⟨w.heap.size + 1, 0, none⟩ = some (.int .i64 0) := by simp [World.cell?, k1]
      have y1 : w3.frozen? ⟨w.heap.size + 1, 0, none⟩ = false := by simp [World.frozen?, k1]
      have x2 : w3.cell? ⟨w.heap.size + 1 + 1, 0, none⟩ = some (.int .i64 0) := by simp [World.cell?, k2]
      have y2 : w3.frozen? ⟨w.heap.size + 1 + 1, 0, none⟩ = false := by simp [World.frozen?, k2]
      have x4 : w3.cell? ⟨w.heap.size + 1 + 1 + 1 + 1, 1, none⟩ = some (.int .i64 j) := r3.c1
      have HK := Lib.hid (And.intro k0 (And.intro k1 k2))
      clear r3 f3 a3 hNn k0 k1 k2
      go_wp2_with fail
      go_region
      all_goals
        go_wp2_with fail
        obtain ⟨Wf, hWf⟩ : ∃ Wf, Wf = ((((((w3.setCell ⟨w.heap.size, 0, none⟩ (.string yn)).setCell ⟨w.heap.size, 1, none⟩ (.slice ad m cap)).setCell ⟨w.heap.size, 0, none⟩ (.string yn)).setCell ⟨w.heap.size, 1, none⟩ (.slice ad m cap)).setCell ⟨w.heap.size + 1, 0, none⟩ (.int .i64 j)).setCell ⟨w.heap.size + 1 + 1, 0, none⟩ (.int .i64 0)).drew := ⟨_, rfl⟩
        obtain ⟨V, hV⟩ : ∃ V, V = (((w3.setCell ⟨w.heap.size, 0, none⟩ (.string yn)).setCell ⟨w.heap.size, 1, none⟩ (.slice ad m cap)).setCell ⟨w.heap.size, 0, none⟩ (.string yn)).setCell ⟨w.heap.size, 1, none⟩ (.slice ad m cap) := ⟨_, rfl⟩
        have v0 : V.heap[w.heap.size]? = some (.cells #[.string yn, .slice ad m cap] 28) := by
          have := set1_heap (i := 1) (p := .slice ad m cap) (set1_heap (i := 0) (p := .string yn) (set1_heap (i := 1) (p := .slice ad m cap) (set1_heap (i := 0) (p := .string yn) HK.out.1)))
          rw [hV]
          simpa using this
        have kV : ∀ k, k ≠ w.heap.size → V.heap[k]? = w3.heap[k]? := fun k hk => by
          rw [hV, Below.heap_setCell _ ⟨w.heap.size, 1, none⟩ _ k hk, Below.heap_setCell _ ⟨w.heap.size, 0, none⟩ _ k hk, Below.heap_setCell _ ⟨w.heap.size, 1, none⟩ _ k hk, Below.heap_setCell _ ⟨w.heap.size, 0, none⟩ _ k hk]
        have bV : Below w.heap.size w3 V := by
          rw [hV]
          exact ((((Below.refl _ _).setCell (by simp) _).setCell (by simp) _).setCell (by simp) _).setCell (by simp) _
        rw [← hWf]
        rw [← hV] at hWf
        have hkeep : ∀ k, k ≠ w.heap.size → k ≠ w.heap.size + 1 → k ≠ w.heap.size + 1 + 1 → Wf.heap[k]? = w3.heap[k]? := fun k h1 h2 h3 => by
          rw [hWf]
          show ((V.setCell ⟨w.heap.size + 1, 0, none⟩ (.int .i64 j)).setCell ⟨w.heap.size + 1 + 1, 0, none⟩ (.int .i64 0)).heap[k]? = _
          rw [Below.heap_setCell _ ⟨w.heap.size + 1 + 1, 0, none⟩ _ _ h3, Below.heap_setCell _ ⟨w.heap.size + 1, 0, none⟩ _ _ h2]
          exact kV k h1
        have m0 : Wf.heap[w.heap.size]? = some (.cells #[.string yn, .slice ad m cap] 28) := by
          rw [hWf]
          show ((V.setCell ⟨w.heap.size + 1, 0, none⟩ (.int .i64 j)).setCell ⟨w.heap.size + 1 + 1, 0, none⟩ (.int .i64 0)).heap[w.heap.size]? = _
          rw [Below.heap_setCell _ ⟨w.heap.size + 1 + 1, 0, none⟩ _ _ (show w.heap.size ≠ w.heap.size + 1 + 1 by omega), Below.heap_setCell _ ⟨w.heap.size + 1, 0, none⟩ _ _ (show w.heap.size ≠ w.heap.size + 1 by omega)]
          exact v0
        have m1 : Wf.heap[w.heap.size + 1]? = some (.cells #[.int .i64 j] 3) := by
          rw [hWf]
          show ((V.setCell ⟨w.heap.size + 1, 0, none⟩ (.int .i64 j)).setCell ⟨w.heap.size + 1 + 1, 0, none⟩ (.int .i64 0)).heap[w.heap.size + 1]? = _
          rw [Below.heap_setCell _ ⟨w.heap.size + 1 + 1, 0, none⟩ _ _ (show w.heap.size + 1 ≠ w.heap.size + 1 + 1 by omega)]
          exact set1_heap (i := 0) (p := .int .i64 j) ((kV _ (by omega)).trans HK.out.2.1)
        have m2 : Wf.heap[w.heap.size + 1 + 1]? = some (.cells #[.int .i64 0] 23) := by
          rw [hWf]
          show ((V.setCell ⟨w.heap.size + 1, 0, none⟩ (.int .i64 j)).setCell ⟨w.heap.size + 1 + 1, 0, none⟩ (.int .i64 0)).heap[w.heap.size + 1 + 1]? = _
          refine set1_heap (cs := #[.int .i64 0]) ?_
          rw [Below.heap_setCell _ ⟨w.heap.size + 1, 0, none⟩ _ _ (show w.heap.size + 1 + 1 ≠ w.heap.size + 1 by omega)]
          exact (kV _ (by omega)).trans HK.out.2.2
        have bw : Below w.heap.size w Wf := by
          rw [hWf]
          exact ((((HB1.out.trans (HB3.out.mono (by omega))).trans bV).setCell (by simp) _).setCell (by simp; omega) _).drew
        have hrow : BwP w.heap.size Wf (.slice ad m cap) yw := by
          have hNn2 := HN.out
          exact BwP.move (⟨own_base HR3.out.1 (by omega), HR3.out.2⟩ : BwP w.heap.size w3 (.slice ad m cap) yw) (fun k e => by have := (HR3.out.1.lt k e).1; exact hkeep k (by omega) (by omega) (by omega))
        obtain ⟨d0, d0', _⟩ := ref_cells m0
        have d1 : Wf.cell? ⟨w.heap.size + 1, 0, none⟩ = some (.int .i64 j) := by simp [World.cell?, m1]
        have d2 : Wf.cell? ⟨w.heap.size + 1 + 1, 0, none⟩ = some (.int .i64 0) := by simp [World.cell?, m2]
        clear hWf hkeep m0 m1 m2 hV kV bV v0
        refine leaves_cons (f := 51) (args := #[.pointer (some ⟨w.heap.size + 1 + 1 + 1, 0, none⟩), .pointer (some ⟨w.heap.size, 0, none⟩), .pointer (some ⟨w.heap.size + 1, 0, none⟩), .pointer (some ⟨w.heap.size + 1 + 1, 0, none⟩)]) (by simp) (by simp [go_sem]) ?_
        refine (rcatchtI _ _ _ _ Wf).mono ?_
        rintro e u' w'' ⟨rfl, rfl, rfl⟩
        rw [HZ.out]
        simp [Leaves, settle, results, Tryz.results32, go_sem, d0, d0', d1, d2]
        exact ⟨_, rfl, hrow, bw⟩
theorem TkP.up {w w' : World} {p p' : Nat} {s : LTok} (h : TkP w p s) (k : ∀ j, j < p → w'.heap[j]? = w.heap[j]?) (hp : p ≤ p') : TkP w' p' s := by
  have h' := h.kept k
  exact ⟨fun i hi => by
    obtain ⟨b, off, e, h0, r⟩ := h'.1 i hi
    exact ⟨b, off, e, by omega, r⟩, h'.2⟩
theorem litType_any (s : LTok) (hfx : s.fx = true) (a : Int) (w : World) (hl : LimP w.heap.size w) (ht : TkP w w.heap.size s) : Calls Tryz.prog 7 #[.slice s.a s.n s.c, .int .i64 a] w (TyV w (tyR s a)) := by
  have HB := Lib.hid (below_box w (.cells #[.string ⟨#[]⟩, .slice none 0 0] 28))
  have HG := Lib.hid (heap_alloc_new w (.cells #[.string ⟨#[]⟩, .slice none 0 0] 28))
  have H := readt_any s a _ (hl.up HB.out) (TkP.up ht (fun j hj => HB.out.block j hj) HB.out.size)
  rw [hfx] at H
  obtain ⟨X, hX⟩ : ∃ X, X = tyR s a := ⟨_, rfl⟩
  rw [← hX] at H
  rw [← hX]
  obtain ⟨W, hW⟩ : ∃ W, W = w.alloc (.cells #[.string ⟨#[]⟩, .slice none 0 0] 28) := ⟨_, rfl⟩
  rw [← hW] at H HB HG
  have hWs : W.heap.size = w.heap.size + 1 := by rw [hW]; simp
  have HW := Lib.hid hW
  have HH := Lib.hid H
  clear hX hW H hl ht
  go_enter Tryz.func7, Tryz.ntmps7
  go_wp2_with fail
  rw [← HW.out]
  have fin : ∀ (w' : World) (bw : Below W.heap.size W w') (x y : Value), ((w'.setCell ⟨w.heap.size, 0, none⟩ x).setCell ⟨w.heap.size, 1, none⟩ y).heap[w.heap.size]? = some (.cells #[x, y] 28) ∧ Below w.heap.size w ((w'.setCell ⟨w.heap.size, 0, none⟩ x).setCell ⟨w.heap.size, 1, none⟩ y) := fun w' bw x y => by
    have g := (bw.block w.heap.size (by omega)).trans HG.out
    refine ⟨?_, ((HB.out.trans (bw.mono (by omega))).setCell (by simp) _).setCell (by simp) _⟩
    have := set1_heap (i := 1) (p := y) (set1_heap (i := 0) (p := x) g)
    simpa using this
  have cls : ∀ (w' : World) (bw : Below W.heap.size W w'), w'.cell? ⟨w.heap.size, 0, none⟩ = some (.string ⟨#[]⟩) ∧ w'.cell? ⟨w.heap.size, 1, none⟩ = some (.slice none 0 0) ∧ ∀ o, w'.frozen? ⟨w.heap.size, o, none⟩ = false := fun w' bw => ref_cells ((bw.block w.heap.size (by omega)).trans HG.out)
  have HF := Lib.hid fin
  have HC := Lib.hid cls
  clear fin cls
  cases X with
  | bad b m =>
    refine HH.out.mono ?_
    rintro e w' ⟨rfl, bw⟩
    obtain ⟨c0, c1, cz⟩ := HC.out w' bw
    have z0 := cz 0
    have z1 := cz 1
    have F := Lib.hid (HF.out w' bw (.string ⟨#[]⟩) (.slice none 0 0))
    clear bw HH
    go_wp2_with fail
    obtain ⟨d0, d1, _⟩ := ref_cells F.out.1
    simp [bodyPost, results, Tryz.results7, go_sem, d0, d1]
    exact ⟨rfl, F.out.2⟩
  | ok y =>
    obtain ⟨yi, yr, yn, yw⟩ := y
    refine HH.out.mono ?_
    rintro e w' ⟨v, rfl, ho, bw⟩
    obtain ⟨ad, m, cap, rfl⟩ := own_slice3 ho.1
    obtain ⟨c0, c1, cz⟩ := HC.out w' bw
    have z0 := cz 0
    have z1 := cz 1
    have F := Lib.hid (HF.out w' bw (.string yn) (.slice ad m cap))
    have HO : Hid (BwP w.heap.size ((w'.setCell ⟨w.heap.size, 0, none⟩ (.string yn)).setCell ⟨w.heap.size, 1, none⟩ (.slice ad m cap)) (.slice ad m cap) yw) := Lib.hid (BwP.move (⟨own_base ho.1 (by omega), ho.2⟩ : BwP w.heap.size w' (.slice ad m cap) yw) (fun k e => by
      have := (ho.1.lt k e).1
      rw [Below.heap_setCell _ ⟨w.heap.size, 1, none⟩ _ k (by show k ≠ w.heap.size; omega), Below.heap_setCell _ ⟨w.heap.size, 0, none⟩ _ k (by show k ≠ w.heap.size; omega)]))
    clear bw HH ho
    go_wp2_with fail
    obtain ⟨d0, d1, _⟩ := ref_cells F.out.1
    simp [bodyPost, results, Tryz.results7, go_sem, d0, d1]
    exact ⟨_, rfl, HO.out, F.out.2⟩
end Go.Proofs.YtmkkckhfdafjnaaGreatDoor.Li
/- Layer 18: arguments, directives, types that are the same. -/
namespace Go.Proofs.YtmkkckhfdafjnaaGreatDoor.Li
open Go.RowKit Go.Maps
theorem calls_quiet {P : Program} {f : FuncId} {args : Array Value} {w : World} {n : Nat} {v : Value} (h : Calls P f args (w.drewN n) fun e w' => e = .returned v ∧ ∃ q, w' = (w.drewN n).drewN q) : Calls P f args (w.drewN n) fun e w'' => e = .returned v ∧ ∃ m, w'' = w.drewN m :=
  h.mono fun _ _ ⟨he, q, hq⟩ => ⟨he, n + q, hq.trans (World.drewN_drewN _ _ _)⟩
set_option maxRecDepth 20000 in
set_option maxHeartbeats 2000000 in
theorem rsameQ_any (a1 a2 : Option Addr) (n c1 c2 : Nat) (g : Nat → CR) (w : World) (hv1 : CV w a1 n g) (hv2 : CV w a2 n g) (hn : n ≤ maxLen) : Calls Tryz.prog 21 #[.slice a1 n c1, .slice a2 n c2] w fun r w' => r = .returned (.bool true) ∧ ∃ q, w' = w.drewN q := by
  unfold maxLen at hn
  have HV1 := Lib.hid hv1
  have HV2 := Lib.hid hv2
  clear hv1 hv2
  have hn' : (n : Int) ≤ 9223372036854775807 := by omega
  have hne : ((n : Int) != n) = false := by simp
  go_enter Tryz.func21, Tryz.ntmps21
  go_wp2_with fail
  go_loopw [5] (fun v5 wr => ∃ i : Nat, i ≤ n ∧ v5 = .int .i64 i ∧ Hid (∃ q, wr = w.drewN q)) (fun v5 _ => n - (intOf v5).toNat)
  case atStart => exact ⟨0, Nat.zero_le _, rfl, Lib.hid ⟨0, rfl⟩⟩
  case round =>
    obtain ⟨i, hi, rfl, HB⟩ := hrel
    obtain ⟨q0, hq0⟩ := HB.out
    have HBQ : Hid (Below w.heap.size w wr) := Lib.hid (by rw [hq0]; exact below_drewN (Below.refl _ _) _)
    clear hq0
    by_cases h1 : i < n
    · obtain ⟨b, off, rfl⟩ := HV1.out.addr (by omega)
      obtain ⟨b', off', rfl⟩ := HV2.out.addr (by omega)
      obtain ⟨_, d0, d1, d2, d3, d4⟩ := (HV1.out.below HBQ.out).at_ h1
      obtain ⟨_, e0, e1, e2, e3, e4⟩ := (HV2.out.below HBQ.out).at_ h1
      have hg1 : (i : Int) < n := by omega
      have hg0 : (0 : Int) ≤ i := by omega
      obtain ⟨c, hc⟩ : ∃ c, c = g i := ⟨_, rfl⟩
      rw [← hc] at d0 d1 d2 d3 d4 e0 e1 e2 e3 e4
      have hq := neq_cell c c
      unfold cv at hq
      rw [decide_eq_true rfl] at hq
      have hgd : ∀ (op : BinOp) (x y : Operand) (xs ys : Array Value) (W : World), (eqGuard op 46 x y (.agg xs) (.agg ys)).run Tryz.prog W = .ok () W := fun op x y xs ys W => run_eqGuard_agg W op _ x y xs ys (by kernel_rfl)
      clear hc
      go_wp2_with fail
      go_quiet (fail)
      go_wp2_with fail
      go_roundw
      case rel => exact ⟨i + 1, by omega, by go_num, Lib.hid (by obtain ⟨q, e⟩ := HB.out; rw [e]; exact ⟨_, World.drewN_drewN _ _ _⟩)⟩
      case measure => (simp [intOf]; omega)
    · have e1 : i = n := by omega
      subst e1
      have hg1 : ¬ (i : Int) < i := by omega
      go_wp2_with fail
      go_ret
      exact ⟨rfl, HB.out⟩
/-- Arguments in memory, to be read. -/
def AvW (w : World) (v : Value) (A : List AgR) : Prop := ∃ a c, v = .slice a A.length c ∧ ∀ (i : Nat) (n : ByteArray) (M : List CR), A[i]? = some (n, M) → ∃ b off ad cp, a = some ⟨b, off, none⟩ ∧ b < w.heap.size ∧ w.cell? ⟨b, off + i * 2, none⟩ = some (.string n) ∧ w.cell? ⟨b, off + i * 2 + 1, none⟩ = some (.slice ad M.length cp) ∧ CV w ad M.length (gl M)
/-- Directives in memory, to be read. -/
def DvW (w : World) (v : Value) (D : List DrR) : Prop := ∃ a c, v = .slice a D.length c ∧ ∀ (i : Nat) (n : ByteArray) (A : List AgR), D[i]? = some (n, A) → ∃ b off u, a = some ⟨b, off, none⟩ ∧ b < w.heap.size ∧ w.cell? ⟨b, off + i * 2, none⟩ = some (.string n) ∧ w.cell? ⟨b, off + i * 2 + 1, none⟩ = some u ∧ AvW w u A
theorem AvW.below {w w' : World} {v : Value} {A : List AgR} (h : AvW w v A) (b : Below w.heap.size w w') : AvW w' v A := by
  obtain ⟨a, c, e, h⟩ := h
  refine ⟨a, c, e, fun i n M hi => ?_⟩
  obtain ⟨bb, off, ad, cp, h1, h2, h3, h4, h5⟩ := h i n M hi
  exact ⟨bb, off, ad, cp, h1, Nat.lt_of_lt_of_le h2 b.size, (World.cell?_of_block (b.block bb h2)).trans h3, (World.cell?_of_block (b.block bb h2)).trans h4, h5.below b⟩
theorem DvW.below {w w' : World} {v : Value} {D : List DrR} (h : DvW w v D) (b : Below w.heap.size w w') : DvW w' v D := by
  obtain ⟨a, c, e, h⟩ := h
  refine ⟨a, c, e, fun i n M hi => ?_⟩
  obtain ⟨bb, off, u, h1, h2, h3, h4, h5⟩ := h i n M hi
  exact ⟨bb, off, u, h1, Nat.lt_of_lt_of_le h2 b.size, (World.cell?_of_block (b.block bb h2)).trans h3, (World.cell?_of_block (b.block bb h2)).trans h4, h5.below b⟩
set_option maxRecDepth 20000 in
set_option maxHeartbeats 4000000 in
theorem same_args (A : List (AgR)) (v v' : Value) (w : World) (hv : AvW w v A) (hv' : AvW w v' A) (hn : A.length ≤ 1000000) (hm : ∀ (i : Nat) (n : ByteArray) (M : List CR), A[i]? = some (n, M) → M.length ≤ 1000000) : Calls Tryz.prog 24 #[v, v'] w fun e w' => e = .returned (.bool true) ∧ ∃ q, w' = w.drewN q := by
  obtain ⟨a, c, rfl, hv⟩ := hv
  obtain ⟨a', c', rfl, hv'⟩ := hv'
  have HV := Lib.hid hv
  have HV' := Lib.hid hv'
  have HM := Lib.hid hm
  obtain ⟨n, hnn⟩ : ∃ n, n = A.length := ⟨_, rfl⟩
  rw [← hnn] at hn ⊢
  have HN := Lib.hid hnn
  have hn1 : (n : Int) ≤ 1000000 := by omega
  have hne : ((n : Int) != n) = false := by simp
  clear hv hv' hm hnn
  go_enter Tryz.func24, Tryz.ntmps24
  go_wp2_with fail
  go_loopw [5] (fun v5 wr => ∃ i : Nat, i ≤ n ∧ v5 = .int .i64 i ∧ Hid (∃ q, wr = w.drewN q)) (fun v5 _ => n - (intOf v5).toNat)
  case atStart => exact ⟨0, Nat.zero_le _, rfl, Lib.hid ⟨0, rfl⟩⟩
  case round =>
    obtain ⟨i, hi, rfl, HB⟩ := hrel
    obtain ⟨q0, hq0⟩ := HB.out
    have HBQ : Hid (Below w.heap.size w wr) := Lib.hid (by rw [hq0]; exact below_drewN (Below.refl _ _) _)
    have HQ := Lib.hid hq0
    have keep : ∀ b o, b < w.heap.size → wr.cell? ⟨b, o, none⟩ = w.cell? ⟨b, o, none⟩ := fun b o h => World.cell?_of_block (HBQ.out.block b h)
    clear hq0
    by_cases h1 : i < n
    · obtain ⟨x, M, hx⟩ : ∃ x M, A[i]? = some (x, M) := by
        have hl : i < A.length := by have := HN.out; omega
        exact ⟨A[i].1, A[i].2, by rw [List.getElem?_eq_getElem hl]⟩
      obtain ⟨b, off, ad, cp, ha, hb, d0, d1, dv⟩ := HV.out i x M hx
      obtain ⟨b', off', ad', cp', ha', hb', e0, e1, ev⟩ := HV'.out i x M hx
      subst ha ha'
      have HSM := Lib.hid (fun V (k : Below wr.heap.size wr V) => rsameQ_any ad ad' M.length cp cp' (gl M) V (dv.below (HBQ.out.trans (k.mono HBQ.out.size))) (ev.below (HBQ.out.trans (k.mono HBQ.out.size))) (by have := HM.out i x M hx; unfold maxLen; omega))


      have hg1 : (i : Int) < n := by omega
      have hg0 : (0 : Int) ≤ i := by omega
      rw [← keep _ _ hb] at d0 d1
      rw [← keep _ _ hb'] at e0 e1
      have hii : (i : Int) ≤ 1000000 := by omega
      (try clear dv ev)
      clear hx keep
      go_wp2_with fail
      go_quiet (first | (go_at_call 21; exact calls_quiet (HSM.out _ (below_drewN (Below.refl _ _) _))))
      go_wp2_with fail
      go_roundw
      case rel => exact ⟨i + 1, by omega, by go_num, Lib.hid (by rw [HQ.out]; exact ⟨_, World.drewN_drewN _ _ _⟩)⟩
      case measure => (simp [intOf]; omega)
    · have e1 : i = n := by omega
      subst e1
      have hg1 : ¬ (i : Int) < i := by omega
      go_wp2_with fail
      go_ret
      exact ⟨rfl, HB.out⟩
set_option maxRecDepth 20000 in
set_option maxHeartbeats 4000000 in
theorem same_dirs (A : List (DrR)) (v v' : Value) (w : World) (hv : DvW w v A) (hv' : DvW w v' A) (hn : A.length ≤ 1000000) (hm : ∀ (i : Nat) (n : ByteArray) (B : List AgR), A[i]? = some (n, B) → B.length ≤ 1000000 ∧ ∀ (j : Nat) (m : ByteArray) (M : List CR), B[j]? = some (m, M) → M.length ≤ 1000000) : Calls Tryz.prog 13 #[v, v'] w fun e w' => e = .returned (.bool true) ∧ ∃ q, w' = w.drewN q := by
  obtain ⟨a, c, rfl, hv⟩ := hv
  obtain ⟨a', c', rfl, hv'⟩ := hv'
  have HV := Lib.hid hv
  have HV' := Lib.hid hv'
  have HM := Lib.hid hm
  obtain ⟨n, hnn⟩ : ∃ n, n = A.length := ⟨_, rfl⟩
  rw [← hnn] at hn ⊢
  have HN := Lib.hid hnn
  have hn1 : (n : Int) ≤ 1000000 := by omega
  have hne : ((n : Int) != n) = false := by simp
  clear hv hv' hm hnn
  go_enter Tryz.func13, Tryz.ntmps13
  go_wp2_with fail
  go_loopw [5] (fun v5 wr => ∃ i : Nat, i ≤ n ∧ v5 = .int .i64 i ∧ Hid (∃ q, wr = w.drewN q)) (fun v5 _ => n - (intOf v5).toNat)
  case atStart => exact ⟨0, Nat.zero_le _, rfl, Lib.hid ⟨0, rfl⟩⟩
  case round =>
    obtain ⟨i, hi, rfl, HB⟩ := hrel
    obtain ⟨q0, hq0⟩ := HB.out
    have HBQ : Hid (Below w.heap.size w wr) := Lib.hid (by rw [hq0]; exact below_drewN (Below.refl _ _) _)
    have HQ := Lib.hid hq0
    have keep : ∀ b o, b < w.heap.size → wr.cell? ⟨b, o, none⟩ = w.cell? ⟨b, o, none⟩ := fun b o h => World.cell?_of_block (HBQ.out.block b h)
    clear hq0
    by_cases h1 : i < n
    · obtain ⟨x, M, hx⟩ : ∃ x M, A[i]? = some (x, M) := by
        have hl : i < A.length := by have := HN.out; omega
        exact ⟨A[i].1, A[i].2, by rw [List.getElem?_eq_getElem hl]⟩
      obtain ⟨b, off, u, ha, hb, d0, d1, dv⟩ := HV.out i x M hx
      obtain ⟨b', off', u', ha', hb', e0, e1, ev⟩ := HV'.out i x M hx
      subst ha ha'
      have HSM := Lib.hid (fun V (k : Below wr.heap.size wr V) => same_args M u u' V (dv.below (HBQ.out.trans (k.mono HBQ.out.size))) (ev.below (HBQ.out.trans (k.mono HBQ.out.size))) (HM.out i x M hx).1 (HM.out i x M hx).2)

      obtain ⟨a2, c2, rfl, _⟩ := dv
      obtain ⟨a3, c3, rfl, _⟩ := ev

      have hg1 : (i : Int) < n := by omega
      have hg0 : (0 : Int) ≤ i := by omega
      rw [← keep _ _ hb] at d0 d1
      rw [← keep _ _ hb'] at e0 e1
      have hii : (i : Int) ≤ 1000000 := by omega
      (try clear dv ev)
      clear hx keep
      go_wp2_with fail
      go_quiet (first | (go_at_call 24; exact calls_quiet (HSM.out _ (below_drewN (Below.refl _ _) _))))
      go_wp2_with fail
      go_roundw
      case rel => exact ⟨i + 1, by omega, by go_num, Lib.hid (by rw [HQ.out]; exact ⟨_, World.drewN_drewN _ _ _⟩)⟩
      case measure => (simp [intOf]; omega)
    · have e1 : i = n := by omega
      subst e1
      have hg1 : ¬ (i : Int) < i := by omega
      go_wp2_with fail
      go_ret
      exact ⟨rfl, HB.out⟩
/-- Wraps in memory, to be read. -/
def BvW (w : World) (v : Value) (ws : List Nat) : Prop := ∃ a c, v = .slice a ws.length c ∧ (a = none → c = 0) ∧ ∀ (i x : Nat), ws[i]? = some x → ∃ b off, a = some ⟨b, off, none⟩ ∧ b < w.heap.size ∧ w.cell? ⟨b, off + i, none⟩ = some (.int .u8 (x : Nat)) ∧ x < 256
theorem BvW.below {w w' : World} {v : Value} {ws : List Nat} (h : BvW w v ws) (k : Below w.heap.size w w') : BvW w' v ws := by
  obtain ⟨a, c, e, h0, h⟩ := h
  refine ⟨a, c, e, h0, fun i x hi => ?_⟩
  obtain ⟨b, off, h1, h2, h3, h4⟩ := h i x hi
  exact ⟨b, off, h1, Nat.lt_of_lt_of_le h2 k.size, (World.cell?_of_block (k.block b h2)).trans h3, h4⟩
theorem conv_view {w : World} {v : Value} {ws : List Nat} (h : BvW w v ws) : (convert 26 9 v).run Tryz.prog w = .ok (.string ⟨(ws.map UInt8.ofNat).toArray⟩) w := by
  obtain ⟨a, c, rfl, h0, h⟩ := h
  cases a with
  | none =>
    obtain rfl := h0 rfl
    have : ws = [] := by
      cases ws with
      | nil => rfl
      | cons x ws => obtain ⟨_, _, e, _⟩ := h 0 x rfl; cases e
    subst this
    exact Lib.run_convert_nil_bytes w 26 9 5 0 Tryz.underlying26 Tryz.underlying5 Tryz.underlying9
  | some ad =>
    have k := run_convert_bytes_back (P := Tryz.prog) w 26 9 5 ad c (ws.map UInt8.ofNat) Tryz.underlying26 Tryz.underlying5 Tryz.underlying9 (fun j hj => by
      have hj' : j < ws.length := by simpa using hj
      obtain ⟨b, off, h1, h2, h3, h4⟩ := h j ws[j] (List.getElem?_eq_getElem hj')
      cases h1
      rw [Addr.add_lit, h3]
      simp only [List.getElem_map]
      rw [UInt8.toNat_ofNat', Nat.mod_eq_of_lt (by omega)])
    rw [List.length_map] at k
    exact k
set_option maxRecDepth 20000 in
set_option maxHeartbeats 2000000 in
theorem same_type (nm : ByteArray) (ws : List Nat) (v v' : Value) (w : World) (hv : BvW w v ws) (hv' : BvW w v' ws) : Calls Tryz.prog 12 #[.agg #[.string nm, v], .agg #[.string nm, v']] w fun e w' => e = .returned (.bool true) ∧ Below w.heap.size w w' := by
  have hb : Below w.heap.size w ((w.alloc (.cells #[.string nm, v] 28)).alloc (.cells #[.string nm, v'] 28)) := ((Below.refl _ _).alloc (Nat.le_refl _) _).alloc (by simp) _
  have hc := conv_view (hv.below hb)
  have hc' := conv_view (hv'.below hb)
  obtain ⟨a, c, rfl, _⟩ := hv
  obtain ⟨a', c', rfl, _⟩ := hv'
  obtain ⟨S, hS⟩ : ∃ S : ByteArray, S = ⟨(ws.map UInt8.ofNat).toArray⟩ := ⟨_, rfl⟩
  rw [← hS] at hc hc'
  obtain ⟨n, hn⟩ : ∃ n, n = ws.length := ⟨_, rfl⟩
  rw [← hn] at hc hc' hb ⊢
  have HB := Lib.hid hb
  clear hS hn hb
  go_enter Tryz.func12, Tryz.ntmps12
  go_wp2_with fail
  go_ret
  exact ⟨rfl, HB.out⟩
end Go.Proofs.YtmkkckhfdafjnaaGreatDoor.Li
/- Layer 18: the law's fails. -/
namespace Go.Proofs.YtmkkckhfdafjnaaGreatDoor.Li
open Go.RowKit Go.Maps
set_option maxRecDepth 20000 in
set_option maxHeartbeats 2000000 in
theorem value18_bad (s : ByteArray) (fx : Bool) (w : World) (l : List TkR) (q : Nat) (m : Int) (hm0 : 0 ≤ m) (hc : LxC w) (hl : LimP w.heap.size w) (hs : s.size ≤ 1000000) (hX : lexM s = .ok l) (hn : l.length ≤ 100000) (hsm : ∀ i, i < l.length → (gt l i).s.size ≤ 1000000) (hv : ∀ a c, vaR ⟨a, l.length, c, gt l, fx⟩ 0 = .bad q m) : Calls Tryz.prog 40 #[.string s, .bool fx] w fun e w' => e = .returned (.tuple #[.slice none 0 0, .int .i64 q, .int .i64 m]) ∧ Below w.heap.size w w' := by
  have HX := lex_any s w hc hs
  rw [hX] at HX
  replace HX := Lib.hid HX
  have HL := Lib.hid hl
  have HV := Lib.hid hv
  have hmx : max (0 : Int) m = m := by omega
  clear hX hc hl hv
  go_enter Tryz.func40, Tryz.ntmps40
  go_wp2_with fail
  refine HX.out.mono ?_
  rintro e w1 ⟨b1, v1, rfl, o1⟩
  obtain ⟨a, c, rfl, t1⟩ := own_tk o1
  have B1 := Lib.hid b1
  have HVC := valc_any ⟨a, l.length, c, gt l, fx⟩ 0 w1 (HL.out.up b1) (tkp_of t1 hn hsm)
  rw [HV.out a c] at HVC
  replace HVC := Lib.hid HVC
  clear b1 o1 t1 HX
  go_wp2_with fail
  refine HVC.out.mono ?_
  rintro e w2 ⟨rfl, b2⟩
  have B2 := Lib.hid b2
  clear b2
  go_wp2_with fail
  go_ret3
  exact ⟨by first | rfl | rw [hmx], B1.out.trans (B2.out.mono B1.out.size)⟩
set_option maxRecDepth 20000 in
set_option maxHeartbeats 2000000 in
theorem fails18_any (s : ByteArray) (fx : Bool) (w : World) (l : List TkR) (q : Nat) (m : Int) (hm0 : 0 ≤ m) (hc : LxC w) (hl : LimP w.heap.size w) (hs : s.size ≤ 1000000) (hX : lexM s = .ok l) (hn : l.length ≤ 100000) (hsm : ∀ i, i < l.length → (gt l i).s.size ≤ 1000000) (hv : ∀ a c, vaR ⟨a, l.length, c, gt l, fx⟩ 0 = .bad q m) : Calls Tryz.prog 11 #[.string s, .bool fx, .int .i64 m, .int .i64 q] w fun e w' => e = .returned (.bool true) ∧ Below w.heap.size w w' := by
  have HV := Lib.hid (value18_bad s fx w l q m hm0 hc hl hs hX hn hsm hv)
  have h1 : (m == m) = true := by simp
  have h2 : ((q : Int) == q) = true := by simp
  clear hc hl hX hsm hv
  go_enter Tryz.func11, Tryz.ntmps11
  go_wp2_with fail
  refine HV.out.mono ?_
  rintro e w1 ⟨rfl, b1⟩
  have B1 := Lib.hid b1
  clear b1
  go_wp2_with fail
  go_ret
  exact ⟨rfl, B1.out⟩
end Go.Proofs.YtmkkckhfdafjnaaGreatDoor.Li
/- Layer 18: the five texts of LitNames that fail (plain). -/
namespace Go.Proofs.YtmkkckhfdafjnaaGreatDoor.Li
open Go.RowKit Go.Maps
def fS0 : ByteArray := ⟨#[36, 120]⟩
def fL0 : List TkR := [⟨4, ⟨#[36]⟩, 0⟩, ⟨1, ⟨#[120]⟩, 1⟩, ⟨0, ⟨#[]⟩, 2⟩]
theorem fX0 : lexM fS0 = .ok fL0 := by kernel_rfl
theorem fV0 (a : Option Addr) (c : Nat) : vaR ⟨a, fL0.length, c, gt fL0, true⟩ 0 = .bad 0 180 := by kernel_rfl
theorem fF0 (w : World) (hc : LxC w) (hl : LimP w.heap.size w) : Calls Tryz.prog 11 #[.string fS0, .bool true, .int .i64 180, .int .i64 0] w fun e w' => e = .returned (.bool true) ∧ Below w.heap.size w w' := fails18_any fS0 true w fL0 0 180 (by decide) hc hl (by decide) fX0 (by decide) (by decide) fV0
def fS1 : ByteArray := ⟨#[123, 97, 32, 49, 125]⟩
def fL1 : List TkR := [⟨4, ⟨#[123]⟩, 0⟩, ⟨1, ⟨#[97]⟩, 1⟩, ⟨2, ⟨#[49]⟩, 3⟩, ⟨4, ⟨#[125]⟩, 4⟩, ⟨0, ⟨#[]⟩, 5⟩]
theorem fX1 : lexM fS1 = .ok fL1 := by kernel_rfl
theorem fV1 (a : Option Addr) (c : Nat) : vaR ⟨a, fL1.length, c, gt fL1, true⟩ 0 = .bad 2 180 := by kernel_rfl
theorem fF1 (w : World) (hc : LxC w) (hl : LimP w.heap.size w) : Calls Tryz.prog 11 #[.string fS1, .bool true, .int .i64 180, .int .i64 2] w fun e w' => e = .returned (.bool true) ∧ Below w.heap.size w w' := fails18_any fS1 true w fL1 2 180 (by decide) hc hl (by decide) fX1 (by decide) (by decide) fV1
def fS2 : ByteArray := ⟨#[123, 97, 58, 49, 32, 97, 58, 50, 125]⟩
def fL2 : List TkR := [⟨4, ⟨#[123]⟩, 0⟩, ⟨1, ⟨#[97]⟩, 1⟩, ⟨4, ⟨#[58]⟩, 2⟩, ⟨2, ⟨#[49]⟩, 3⟩, ⟨1, ⟨#[97]⟩, 5⟩, ⟨4, ⟨#[58]⟩, 6⟩, ⟨2, ⟨#[50]⟩, 7⟩, ⟨4, ⟨#[125]⟩, 8⟩, ⟨0, ⟨#[]⟩, 9⟩]
theorem fX2 : lexM fS2 = .ok fL2 := by kernel_rfl
theorem fV2 (a : Option Addr) (c : Nat) : vaR ⟨a, fL2.length, c, gt fL2, true⟩ 0 = .bad 4 42 := by kernel_rfl
theorem fF2 (w : World) (hc : LxC w) (hl : LimP w.heap.size w) : Calls Tryz.prog 11 #[.string fS2, .bool true, .int .i64 42, .int .i64 4] w fun e w' => e = .returned (.bool true) ∧ Below w.heap.size w w' := fails18_any fS2 true w fL2 4 42 (by decide) hc hl (by decide) fX2 (by decide) (by decide) fV2
def fS3 : ByteArray := ⟨#[57, 50, 50, 51, 51, 55, 50, 48, 51, 54, 56, 53, 52, 55, 55, 53, 56, 48, 56]⟩
def fL3 : List TkR := [⟨2, ⟨#[57, 50, 50, 51, 51, 55, 50, 48, 51, 54, 56, 53, 52, 55, 55, 53, 56, 48, 56]⟩, 0⟩, ⟨0, ⟨#[]⟩, 19⟩]
theorem fX3 : lexM fS3 = .ok fL3 := by kernel_rfl
theorem fV3 (a : Option Addr) (c : Nat) : vaR ⟨a, fL3.length, c, gt fL3, true⟩ 0 = .bad 0 41 := by kernel_rfl
theorem fF3 (w : World) (hc : LxC w) (hl : LimP w.heap.size w) : Calls Tryz.prog 11 #[.string fS3, .bool true, .int .i64 41, .int .i64 0] w fun e w' => e = .returned (.bool true) ∧ Below w.heap.size w w' := fails18_any fS3 true w fL3 0 41 (by decide) hc hl (by decide) fX3 (by decide) (by decide) fV3
def fS4 : ByteArray := ⟨#[91, 91, 91, 91, 91, 91, 91, 91, 91, 91, 91, 91, 91, 91, 91, 91, 91]⟩
def fL4 : List TkR := [⟨4, ⟨#[91]⟩, 0⟩, ⟨4, ⟨#[91]⟩, 1⟩, ⟨4, ⟨#[91]⟩, 2⟩, ⟨4, ⟨#[91]⟩, 3⟩, ⟨4, ⟨#[91]⟩, 4⟩, ⟨4, ⟨#[91]⟩, 5⟩, ⟨4, ⟨#[91]⟩, 6⟩, ⟨4, ⟨#[91]⟩, 7⟩, ⟨4, ⟨#[91]⟩, 8⟩, ⟨4, ⟨#[91]⟩, 9⟩, ⟨4, ⟨#[91]⟩, 10⟩, ⟨4, ⟨#[91]⟩, 11⟩, ⟨4, ⟨#[91]⟩, 12⟩, ⟨4, ⟨#[91]⟩, 13⟩, ⟨4, ⟨#[91]⟩, 14⟩, ⟨4, ⟨#[91]⟩, 15⟩, ⟨4, ⟨#[91]⟩, 16⟩, ⟨0, ⟨#[]⟩, 17⟩]
theorem fX4 : lexM fS4 = .ok fL4 := by kernel_rfl
theorem fV4 (a : Option Addr) (c : Nat) : vaR ⟨a, fL4.length, c, gt fL4, true⟩ 0 = .bad 16 30 := by kernel_rfl
theorem fF4 (w : World) (hc : LxC w) (hl : LimP w.heap.size w) : Calls Tryz.prog 11 #[.string fS4, .bool true, .int .i64 30, .int .i64 16] w fun e w' => e = .returned (.bool true) ∧ Below w.heap.size w w' := fails18_any fS4 true w fL4 16 30 (by decide) hc hl (by decide) fX4 (by decide) (by decide) fV4
end Go.Proofs.YtmkkckhfdafjnaaGreatDoor.Li
/- Layer 18: what is owned can be read; LitNames' three texts. -/
namespace Go.Proofs.YtmkkckhfdafjnaaGreatDoor.Li
open Go.RowKit Go.Maps
theorem ag_view {B : Nat} {w : World} {v : Value} {A : List AgR} (h : AgP B w v A) : AvW w v A := by
  obtain ⟨X, h1, h2, h3⟩ := h
  obtain ⟨ad, cp, rfl⟩ := own_slice h1
  refine ⟨ad, cp, rfl, fun i n M hi => ?_⟩
  have hiA : i < A.length := (List.getElem?_eq_some_iff.1 hi).1
  obtain ⟨u, hx, hu⟩ := h3 i n M hi
  obtain ⟨q, cap, e, _, hq⟩ := own_addr h1 (by omega)
  injection e with e1 e2 e3
  subst e1 e3
  obtain ⟨x0, x1⟩ := rw2_at X i n u hx
  obtain ⟨ad2, cp2, rfl, cv, _⟩ := own_cv rfl hu
  exact ⟨q, 0, ad2, cp2, rfl, hq, by rw [Nat.zero_add, h1.cellAt _ (by omega)]; exact x0, by rw [Nat.zero_add, h1.cellAt _ (by omega)]; exact x1, cv⟩
theorem dr_view {B : Nat} {w : World} {v : Value} {D : List DrR} (h : DrP B w v D) : DvW w v D := by
  obtain ⟨X, h1, h2, h3⟩ := h
  obtain ⟨ad, cp, rfl⟩ := own_slice h1
  refine ⟨ad, cp, rfl, fun i n M hi => ?_⟩
  have hiA : i < D.length := (List.getElem?_eq_some_iff.1 hi).1
  obtain ⟨u, hx, hu⟩ := h3 i n M hi
  obtain ⟨q, cap, e, _, hq⟩ := own_addr h1 (by omega)
  injection e with e1 e2 e3
  subst e1 e3
  obtain ⟨x0, x1⟩ := rw2_at X i n u hx
  exact ⟨q, 0, u, rfl, hq, by rw [Nat.zero_add, h1.cellAt _ (by omega)]; exact x0, by rw [Nat.zero_add, h1.cellAt _ (by omega)]; exact x1, ag_view hu⟩
theorem bw_view {B : Nat} {w : World} {v : Value} {ws : List Nat} (h : BwP B w v ws) (hs : ∀ x ∈ ws, x < 256) : BvW w v ws := by
  obtain ⟨h1, h2⟩ := h
  cases hw : ws with
  | nil =>
    subst hw
    obtain rfl := h2 rfl
    exact ⟨none, 0, rfl, fun _ => rfl, fun i x hi => by cases hi⟩
  | cons y ys =>
    rw [← hw]
    have hl : 0 < ws.length := by rw [hw]; simp
    obtain ⟨q, cap, rfl, _, hq⟩ := own_addr h1 hl
    refine ⟨some ⟨q, 0, none⟩, cap, rfl, (fun e => nomatch e), fun i x hi => ?_⟩
    have hiA : i < ws.length := (List.getElem?_eq_some_iff.1 hi).1
    refine ⟨q, 0, rfl, hq, ?_, hs x (List.mem_of_getElem? hi)⟩
    rw [Nat.zero_add, h1.cellAt i (by omega), List.getElem?_map, hi]
    rfl
def nS0 : ByteArray := ⟨#[91, 73, 110, 116, 33, 93]⟩
def nT0 : ByteArray := ⟨#[73, 110, 116]⟩
def nL0 : List TkR := [⟨4, ⟨#[91]⟩, 0⟩, ⟨1, ⟨#[73, 110, 116]⟩, 1⟩, ⟨4, ⟨#[33]⟩, 4⟩, ⟨4, ⟨#[93]⟩, 5⟩, ⟨0, ⟨#[]⟩, 6⟩]
theorem nX0 : lexM nS0 = .ok nL0 := by kernel_rfl
theorem nV0 (a : Option Addr) (c : Nat) : tyR ⟨a, 5, c, gt nL0, true⟩ 0 = .ok ⟨4, 2, nT0, [2, 1]⟩ := by kernel_rfl
theorem nW0 (a : Option Addr) (c : Nat) : vaR ⟨a, 5, c, gt nL0, true⟩ 7 = .bad 0 2 := by kernel_rfl
def nS1 : ByteArray := ⟨#[64, 97, 32, 64, 98, 40, 99, 58, 49, 41]⟩
def nL1 : List TkR := [⟨4, ⟨#[64]⟩, 0⟩, ⟨1, ⟨#[97]⟩, 1⟩, ⟨4, ⟨#[64]⟩, 3⟩, ⟨1, ⟨#[98]⟩, 4⟩, ⟨4, ⟨#[40]⟩, 5⟩, ⟨1, ⟨#[99]⟩, 6⟩, ⟨4, ⟨#[58]⟩, 7⟩, ⟨2, ⟨#[49]⟩, 8⟩, ⟨4, ⟨#[41]⟩, 9⟩, ⟨0, ⟨#[]⟩, 10⟩]
theorem nX1 : lexM nS1 = .ok nL1 := by kernel_rfl
def nM1 : List CR := [⟨2, ⟨#[]⟩, ⟨#[]⟩, 1, 0⟩]
def nA1 : List AgR := [(⟨#[99]⟩, nM1)]
def nD1 : List DrR := [(⟨#[97]⟩, []), (⟨#[98]⟩, nA1)]
theorem nV1 (a : Option Addr) (c : Nat) : drR ⟨a, 10, c, gt nL1, true⟩ 0 = .ok (9, nD1) := by kernel_rfl
def nS2 : ByteArray := ⟨#[40, 41]⟩
def nL2 : List TkR := [⟨4, ⟨#[40]⟩, 0⟩, ⟨4, ⟨#[41]⟩, 1⟩, ⟨0, ⟨#[]⟩, 2⟩]
theorem nX2 : lexM nS2 = .ok nL2 := by kernel_rfl
theorem nV2 (a : Option Addr) (c : Nat) : agR ⟨a, 3, c, gt nL2, true⟩ 0 = .bad 1 180 := by kernel_rfl
/-- The directives of the law's own making. -/
theorem nd_view {w : World} {b0 b1 b2 : Nat} (h0 : w.heap[b0]? = some (.cells #[.int .u8 2, .string ⟨#[]⟩, .string ⟨#[]⟩, .int .i64 1, .int .i64 0] 46)) (h1 : w.heap[b1]? = some (.cells #[.string ⟨#[99]⟩, .slice (some ⟨b0, 0, none⟩) 1 1] 48)) (h2 : w.heap[b2]? = some (.cells #[.string ⟨#[97]⟩, .slice none 0 0, .string ⟨#[98]⟩, .slice (some ⟨b1, 0, none⟩) 1 1] 44)) : DvW w (.slice (some ⟨b2, 0, none⟩) 2 2) nD1 := by
  have l0 := (Array.getElem?_eq_some_iff.1 h0).1
  have l1 := (Array.getElem?_eq_some_iff.1 h1).1
  have l2 := (Array.getElem?_eq_some_iff.1 h2).1
  have hC : CV w (some ⟨b0, 0, none⟩) 1 (gl nM1) := fun i hi => by
    obtain rfl : i = 0 := by omega
    exact ⟨b0, 0, rfl, l0, by simp [World.cell?, h0]; rfl, by simp [World.cell?, h0]; rfl, by simp [World.cell?, h0]; rfl, by simp [World.cell?, h0]; rfl, by simp [World.cell?, h0]; rfl⟩
  have hA : AvW w (.slice (some ⟨b1, 0, none⟩) 1 1) nA1 := ⟨some ⟨b1, 0, none⟩, 1, rfl, fun i n M hi => by
    match i, hi with
    | 0, hi =>
      simp [nA1] at hi
      obtain ⟨rfl, rfl⟩ := hi
      exact ⟨b1, 0, some ⟨b0, 0, none⟩, 1, rfl, l1, by simp [World.cell?, h1], by simp [World.cell?, h1]; rfl, hC⟩
    | i + 1, hi => simp [nA1] at hi⟩
  refine ⟨some ⟨b2, 0, none⟩, 2, rfl, fun i n A hi => ?_⟩
  match i, hi with
  | 0, hi =>
    simp [nD1] at hi
    obtain ⟨rfl, rfl⟩ := hi
    exact ⟨b2, 0, .slice none 0 0, rfl, l2, by simp [World.cell?, h2], by simp [World.cell?, h2], none, 0, rfl, fun i n M hi => by cases hi⟩
  | 1, hi =>
    simp [nD1] at hi
    obtain ⟨rfl, rfl⟩ := hi
    exact ⟨b2, 0, .slice (some ⟨b1, 0, none⟩) 1 1, rfl, l2, by simp [World.cell?, h2], by simp [World.cell?, h2], hA⟩
  | i + 2, hi => simp [nD1] at hi
theorem nd_small : ∀ (i : Nat) (n : ByteArray) (B : List AgR), nD1[i]? = some (n, B) → B.length ≤ 1000000 ∧ ∀ (j : Nat) (m : ByteArray) (M : List CR), B[j]? = some (m, M) → M.length ≤ 1000000 := by
  intro i n B hi
  match i, hi with
  | 0, hi =>
    simp [nD1] at hi
    obtain ⟨rfl, rfl⟩ := hi
    exact ⟨by decide, fun j m M hj => by cases hj⟩
  | 1, hi =>
    simp [nD1] at hi
    obtain ⟨rfl, rfl⟩ := hi
    refine ⟨by decide, fun j m M hj => ?_⟩
    match j, hj with
    | 0, hj =>
      simp [nA1] at hj
      obtain ⟨rfl, rfl⟩ := hj
      decide
    | j + 1, hj => simp [nA1] at hj
  | i + 2, hi => simp [nD1] at hi
theorem nb_view {w : World} {b : Nat} (h : w.heap[b]? = some (.cells #[.int .u8 2, .int .u8 1] 5)) : BvW w (.slice (some ⟨b, 0, none⟩) 2 2) [2, 1] := by
  have l := (Array.getElem?_eq_some_iff.1 h).1
  refine ⟨some ⟨b, 0, none⟩, 2, rfl, (fun e => nomatch e), fun i x hi => ?_⟩
  match i, hi with
  | 0, hi =>
    simp at hi
    subst hi
    exact ⟨b, 0, rfl, l, by simp [World.cell?, h], by decide⟩
  | 1, hi =>
    simp at hi
    subst hi
    exact ⟨b, 0, rfl, l, by simp [World.cell?, h], by decide⟩
  | i + 2, hi => simp at hi
end Go.Proofs.YtmkkckhfdafjnaaGreatDoor.Li
/- Layer 18: LitNames' walk. -/
namespace Go.Proofs.YtmkkckhfdafjnaaGreatDoor.Li
open Go.RowKit Go.Maps
set_option maxRecDepth 20000 in
set_option maxHeartbeats 8000000 in
theorem litnames_walk (w : World) (hl : LimP w.heap.size w) (hc : LxC w) : Calls Tryz.prog 3 #[] w fun e w' => e = .returned (.bool true) ∧ Below w.heap.size w w' := by
  have HL := Lib.hid (fun V (b : Below w.heap.size w V) => hl.up b)
  have HC := Lib.hid (fun V (b : Below w.heap.size w V) => hc.up b)
  have HLX0 := Lib.hid (fun V (b : Below w.heap.size w V) => lex_any nS0 V (hc.up b) (by decide))
  have HLX1 := Lib.hid (fun V (b : Below w.heap.size w V) => lex_any nS1 V (hc.up b) (by decide))
  have HLX2 := Lib.hid (fun V (b : Below w.heap.size w V) => lex_any nS2 V (hc.up b) (by decide))
  rw [nX0] at HLX0
  rw [nX1] at HLX1
  rw [nX2] at HLX2
  unfold nS0 at HLX0
  unfold nS1 at HLX1
  unfold nS2 at HLX2
  clear hl hc
  go_enter Tryz.func3, Tryz.ntmps3
  go_wp2_with fail
  refine (HLX0.out _ (Below.refl _ _)).mono ?_
  rintro e w1 ⟨b1, v1, rfl, o1⟩
  have B1 := Lib.hid b1
  obtain ⟨a1, c1, rfl, t1⟩ := own_tk o1
  have T1 := Lib.hid t1
  have HTY := litType_any ⟨a1, 5, c1, gt nL0, true⟩ rfl 0 w1 (HL.out _ b1) (tkp_of t1 (by decide) (by decide))
  rw [nV0] at HTY
  have HTY1 : Hid (Calls Tryz.prog 7 #[.slice a1 5 c1, .int .i64 0] w1 fun e w' => ∃ v, e = .returned (.tuple #[.agg #[.string nT0, v], .int .i64 4, .int .i64 0]) ∧ BwP w1.heap.size w' v [2, 1] ∧ Below w1.heap.size w1 w') := Lib.hid HTY
  clear b1 o1 t1 HTY HLX0
  go_wp2_with fail
  refine HTY1.out.mono ?_
  rintro e w2 ⟨v2, rfl, bw2, b2⟩
  have B2 := Lib.hid (B1.out.trans (b2.mono B1.out.size))
  have V2 := Lib.hid (bw_view bw2 (by decide))
  have T2 := Lib.hid (T1.out.below b2)
  obtain ⟨a2, m2, c2, rfl⟩ := own_slice3 bw2.1
  clear bw2 b2 HTY1
  unfold nT0
  go_wp2_with fail
  obtain ⟨W2, hW2⟩ : ∃ W2, W2 = w2.alloc (.cells #[.string ⟨#[73, 110, 116]⟩, .slice a2 m2 c2] 28) := ⟨_, rfl⟩
  rw [← hW2]
  have kW2 := below_box w2 (.cells #[.string ⟨#[73, 110, 116]⟩, .slice a2 m2 c2] 28)
  have gW2 : W2.heap[w2.heap.size]? = some (.cells #[.string ⟨#[73, 110, 116]⟩, .slice a2 m2 c2] 28) := by rw [hW2]; exact heap_alloc_new _ _
  rw [← hW2] at kW2
  have B3 := Lib.hid (B2.out.trans (kW2.mono B2.out.size))
  have V3 := Lib.hid (V2.out.below kW2)
  have T3 := Lib.hid (T2.out.below kW2)
  have hsz2 : w2.heap.size < W2.heap.size := by rw [hW2]; simp
  obtain ⟨R, hR⟩ : ∃ R, R = w2.heap.size := ⟨_, rfl⟩
  rw [← hR] at gW2 hsz2 ⊢
  have GR := Lib.hid gW2
  have HR := Lib.hid hsz2
  clear hW2 kW2 gW2 V2 T2 hR hsz2
  refine (HLX1.out _ B3.out).mono ?_
  rintro e w4 ⟨b4, v4, rfl, o4⟩
  have B4 := Lib.hid (B3.out.trans (b4.mono B3.out.size))
  obtain ⟨a4, c4, rfl, t4⟩ := own_tk o4
  have V4 := Lib.hid (V3.out.below b4)
  have T4 := Lib.hid (T3.out.below b4)
  have G4 := Lib.hid ((b4.block R HR.out).trans GR.out)
  have H4 : Hid (R < w4.heap.size) := Lib.hid (Nat.lt_of_lt_of_le HR.out b4.size)
  have HTY := litDirectives_any ⟨a4, 10, c4, gt nL1, true⟩ 0 w4 (HL.out _ B4.out) (tkp_of t4 (by decide) (by decide))
  rw [nV1] at HTY
  have HTY1 : Hid (Calls Tryz.prog 8 #[.slice a4 10 c4, .int .i64 0, .bool true] w4 fun e w' => ∃ v, e = .returned (.tuple #[v, .int .i64 9, .int .i64 0]) ∧ DrP w4.heap.size w' v nD1 ∧ Below w4.heap.size w4 w') := Lib.hid HTY
  clear b4 o4 t4 HTY HLX1 V3 T3 GR HR
  go_wp2_with fail
  refine HTY1.out.mono ?_
  rintro e w5 ⟨v5, rfl, d5, b5⟩
  have B5 := Lib.hid (B4.out.trans (b5.mono B4.out.size))
  have V5 := Lib.hid (V4.out.below b5)
  have T5 := Lib.hid (T4.out.below b5)
  have G5 := Lib.hid ((b5.block R H4.out).trans G4.out)
  have H5 : Hid (R < w5.heap.size) := Lib.hid (Nat.lt_of_lt_of_le H4.out b5.size)
  have D5 := Lib.hid (dr_view d5)
  obtain ⟨a5, m5, c5, rfl⟩ : ∃ a m c, v5 = .slice a m c := by
    obtain ⟨_, q, _⟩ := d5
    exact own_slice3 q
  clear b5 d5 HTY1 V4 T4 G4 H4
  go_wp2_with fail
  refine (HLX2.out _ B5.out).mono ?_
  rintro e w6 ⟨b6, v6, rfl, o6⟩
  have B6 := Lib.hid (B5.out.trans (b6.mono B5.out.size))
  obtain ⟨a6, c6, rfl, t6⟩ := own_tk o6
  have HTY := litArguments_any ⟨a6, 3, c6, gt nL2, true⟩ 0 w6 (HL.out _ B6.out) (tkp_of t6 (by decide) (by decide))
  rw [nV2] at HTY
  have HTY1 : Hid (Calls Tryz.prog 9 #[.slice a6 3 c6, .int .i64 0, .bool true] w6 fun e w' => e = .returned (.tuple #[.slice none 0 0, .int .i64 1, .int .i64 180]) ∧ Below w6.heap.size w6 w') := Lib.hid HTY
  have B65 := Lib.hid b6
  clear b6 o6 t6 HTY HLX2
  go_wp2_with fail
  refine HTY1.out.mono ?_
  rintro e w7 ⟨rfl, b7⟩
  have B7 := Lib.hid (B6.out.trans (b7.mono B6.out.size))
  have B75 := Lib.hid (B65.out.trans (b7.mono B65.out.size))
  have V7 := Lib.hid (V5.out.below B75.out)
  have T7 := Lib.hid (T5.out.below B75.out)
  have G7 := Lib.hid ((B75.out.block R H5.out).trans G5.out)
  have H7 : Hid (R < w7.heap.size) := Lib.hid (Nat.lt_of_lt_of_le H5.out B75.out.size)
  have D7 := Lib.hid (D5.out.below B75.out)
  have HTY := valc_any ⟨a1, 5, c1, gt nL0, true⟩ 7 w7 (HL.out _ B7.out) (tkp_of T7.out (by decide) (by decide))
  rw [nW0] at HTY
  have HTY1 : Hid (Calls Tryz.prog 10 #[.slice a1 5 c1, .int .i64 7, .bool true] w7 fun e w' => e = .returned (.tuple #[.slice none 0 0, .int .i64 0, .int .i64 2]) ∧ Below w7.heap.size w7 w') := Lib.hid HTY
  clear b7 HTY B75 B65 V5 T5 G5 H5 D5
  go_wp2_with fail
  refine HTY1.out.mono ?_
  rintro e w8 ⟨rfl, b8⟩
  have B8 := Lib.hid (B7.out.trans (b8.mono B7.out.size))
  have B80 := Lib.hid b8
  clear b8 HTY1 T7
  have HF0 := Lib.hid (fun V (b : Below w.heap.size w V) => fF0 V (HC.out V b) (HL.out V b))
  have HF1 := Lib.hid (fun V (b : Below w.heap.size w V) => fF1 V (HC.out V b) (HL.out V b))
  have HF2 := Lib.hid (fun V (b : Below w.heap.size w V) => fF2 V (HC.out V b) (HL.out V b))
  have HF3 := Lib.hid (fun V (b : Below w.heap.size w V) => fF3 V (HC.out V b) (HL.out V b))
  have HF4 := Lib.hid (fun V (b : Below w.heap.size w V) => fF4 V (HC.out V b) (HL.out V b))
  unfold fS0 at HF0
  unfold fS1 at HF1
  unfold fS2 at HF2
  unfold fS3 at HF3
  unfold fS4 at HF4
  go_wp2_with fail
  refine (HF0.out _ B8.out).mono ?_
  rintro e w9 ⟨rfl, bq⟩
  have B9 := Lib.hid (B8.out.trans (bq.mono B8.out.size))
  have B90 := Lib.hid (B80.out.trans (bq.mono B80.out.size))
  clear bq B80 HF0
  go_wp2_with fail
  refine (HF1.out _ B9.out).mono ?_
  rintro e w10 ⟨rfl, bq⟩
  have B10 := Lib.hid (B9.out.trans (bq.mono B9.out.size))
  have B100 := Lib.hid (B90.out.trans (bq.mono B90.out.size))
  clear bq B90 HF1
  go_wp2_with fail
  refine (HF2.out _ B10.out).mono ?_
  rintro e w11 ⟨rfl, bq⟩
  have B11 := Lib.hid (B10.out.trans (bq.mono B10.out.size))
  have B110 := Lib.hid (B100.out.trans (bq.mono B100.out.size))
  clear bq B100 HF2
  go_wp2_with fail
  refine (HF3.out _ B11.out).mono ?_
  rintro e w12 ⟨rfl, bq⟩
  have B12 := Lib.hid (B11.out.trans (bq.mono B11.out.size))
  have B120 := Lib.hid (B110.out.trans (bq.mono B110.out.size))
  clear bq B110 HF3
  go_wp2_with fail
  refine (HF4.out _ B12.out).mono ?_
  rintro e w13 ⟨rfl, bq⟩
  have B13 := Lib.hid (B12.out.trans (bq.mono B12.out.size))
  have B130 := Lib.hid (B120.out.trans (bq.mono B120.out.size))
  clear bq B120 HF4
  have V13 := Lib.hid (V7.out.below B130.out)
  have G13 := (B130.out.block R H7.out).trans G7.out
  have D13 := Lib.hid (D7.out.below B130.out)
  obtain ⟨g0, g1, _⟩ := ref_cells G13
  have HST := Lib.hid (fun V (b : Below w13.heap.size w13 V) (k : BvW V (.slice (some ⟨w13.heap.size, 0, none⟩) 2 2) [2, 1]) => same_type ⟨#[73, 110, 116]⟩ [2, 1] (.slice a2 m2 c2) (.slice (some ⟨w13.heap.size, 0, none⟩) 2 2) V (V13.out.below b) k)
  clear G13 B130 V7 G7 H7 D7 HTY1
  go_wp2_with fail
  refine (HST.out _ (below_box w13 _) (nb_view (heap_alloc_new _ _))).mono ?_
  rintro e w14 ⟨rfl, b14⟩
  have B14 := Lib.hid (B13.out.trans ((below_boxed b14).mono B13.out.size))
  have D14 := Lib.hid (D13.out.below (below_boxed b14))
  clear b14 HST V13 g0 g1
  have HSD := Lib.hid (fun V (b : Below w14.heap.size w14 V) (k : DvW V (.slice (some ⟨w14.heap.size + 1 + 1, 0, none⟩) 2 2) nD1) => same_dirs nD1 (.slice a5 m5 c5) (.slice (some ⟨w14.heap.size + 1 + 1, 0, none⟩) 2 2) V (D14.out.below b) k (by decide) nd_small)
  obtain ⟨W, hW⟩ : ∃ W, W = ((w14.alloc (.cells #[.int .u8 2, .string ⟨#[]⟩, .string ⟨#[]⟩, .int .i64 1, .int .i64 0] 46)).alloc (.cells #[.string ⟨#[99]⟩, .slice (some ⟨w14.heap.size, 0, none⟩) 1 1] 48)).alloc (.cells #[.string ⟨#[97]⟩, .slice none 0 0, .string ⟨#[98]⟩, .slice (some ⟨w14.heap.size + 1, 0, none⟩) 1 1] 44) := ⟨_, rfl⟩
  have bW : Below w14.heap.size w14 W := by rw [hW]; exact (((Below.refl _ _).alloc (Nat.le_refl _) _).alloc (by simp) _).alloc (by simp; omega) _
  have vW : DvW W (.slice (some ⟨w14.heap.size + 1 + 1, 0, none⟩) 2 2) nD1 := by
    refine nd_view (b0 := w14.heap.size) (b1 := w14.heap.size + 1) ?_ ?_ ?_
    · rw [hW, heap_alloc_old _ _ (by simp <;> omega), heap_alloc_old _ _ (by simp), heap_alloc_new]
    · rw [hW, heap_alloc_old _ _ (by simp)]
      have e := heap_alloc_new (w14.alloc (.cells #[.int .u8 2, .string ⟨#[]⟩, .string ⟨#[]⟩, .int .i64 1, .int .i64 0] 46)) (.cells #[.string ⟨#[99]⟩, .slice (some ⟨w14.heap.size, 0, none⟩) 1 1] 48)
      simpa using e
    · rw [hW]
      have e := heap_alloc_new ((w14.alloc (.cells #[.int .u8 2, .string ⟨#[]⟩, .string ⟨#[]⟩, .int .i64 1, .int .i64 0] 46)).alloc (.cells #[.string ⟨#[99]⟩, .slice (some ⟨w14.heap.size, 0, none⟩) 1 1] 48)) (.cells #[.string ⟨#[97]⟩, .slice none 0 0, .string ⟨#[98]⟩, .slice (some ⟨w14.heap.size + 1, 0, none⟩) 1 1] 44)
      simpa using e
  have HS2 := Lib.hid (HSD.out W bW vW)
  have B15 := Lib.hid (B14.out.trans (bW.mono B14.out.size))
  have HW := Lib.hid hW
  clear hW bW vW HSD D14 D13
  go_wp2_with fail
  rw [← HW.out]
  refine HS2.out.mono ?_
  rintro e w16 ⟨rfl, q16, rfl⟩
  have B16 := Lib.hid (below_drewN B15.out q16)
  have HAL := Lib.hid (alive18_any (W.drewN q16) (HC.out _ B16.out) (HL.out _ B16.out))
  clear HS2 HW
  go_wp2_with fail
  refine HAL.out.mono ?_
  rintro e w17 ⟨rfl, b17⟩
  have B17 := Lib.hid (B16.out.trans (b17.mono B16.out.size))
  clear b17 HAL
  go_wp2_with fail
  go_ret
  exact ⟨rfl, B17.out⟩
end Go.Proofs.YtmkkckhfdafjnaaGreatDoor.Li
/- Layer 18: the frame of LitNames. -/
namespace Go.Proofs.YtmkkckhfdafjnaaGreatDoor
open Go.ChangeShapes Go.WideShapes Go.ChangeAt Go.RowKit
def laid1 : List (String × DataW Unit) := [("provost/whole.limits", Rows.laid_provost_whole_limits)]
theorem door_met1 (os : Os) (args : Array Value) : laidMetH Tryz.prog laid1 ((World.doorLaid Tryz.prog 400 os).forCall (fun _ _ => 0) ⟨#[], args, []⟩).memory :=
  laidMetH_of_parts3 (fuel := 8) (laidMet_of_run' 8 (by kernel_rfl) (by kernel_rfl)) (by kernel_rfl) (by kernel_rfl)
theorem facts1 {W : World} (h : laidMetH Tryz.prog laid1 W) : Nm.Lim W := by
  rw [MakeChecks.laidMetH_plain _ _ _ (by kernel_rfl)] at h
  have hT := Lib.tabIs_of_head (k := .u64) (zs := [9223372036854775808, 9223372036854775807]) gLimits (by kernel_rfl : (Tryz.prog.globals[(1 : Nat)]?).map (·.type) = some 174) (by kernel_rfl : Tryz.prog.underlying 174 = some (.array 2 156)) Tryz.underlying156 (by kernel_rfl) (by kernel_rfl) h
  exact ⟨hT.cell gLimits 0 (by decide), hT.cell gLimits 1 (by decide)⟩
theorem names18_in (W : World) (l : Nm.Lim W ∧ W.ShapedOpen Tryz.prog) : Calls Tryz.prog 3 #[] W fun e W' => e = .returned (.bool true) ∧ Below W.heap.size W W' :=
  Li.litnames_walk W (limP_of18 l.1) (lxc_of l.1 l.2)
end Go.Proofs.YtmkkckhfdafjnaaGreatDoor
