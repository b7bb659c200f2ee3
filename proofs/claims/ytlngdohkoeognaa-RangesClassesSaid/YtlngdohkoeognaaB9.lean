/- Layer 6: the document's places. -/
import Derived.Test.YtlngdohkoeognaaB8
namespace Go.Proofs.Ytlngdohkoeognaa
open Go.RowKit Go.Maps
theorem ins_pos {l : List Int} {n : Int} (h : 0 < l.length) : 0 < (insL l n).length := by
  cases l with
  | nil => simp at h
  | cons x l => exact List.length_pos_of_mem (ins_mem.2 (.inl (List.mem_cons_self ..)))
theorem plc_snoc (R : List Rg) (r : Rg) : plcL (R ++ [r]) = insL (insL (plcL R) r.1) (r.2 + 1) := by
  unfold plcL
  rw [List.foldl_append]
  rfl
theorem plc_len (R : List Rg) : (plcL R).length ≤ 1 + 2 * R.length := (plc_fold R [0] (by simp)).2.2
theorem plc_pos (R : List Rg) : 0 < (plcL R).length := List.length_pos_of_mem ((plc_fold R [0] (by simp)).2.1 0 |>.2 (.inl (by simp)))
/-- The ranges of the sets ahead, and of the set at hand as far as it goes. -/
def upR (S : List (List Rg)) (i k : Nat) : List Rg := (S.take i).flatten ++ (setAt S i).take k
theorem up_next {S : List (List Rg)} {i k : Nat} (h : k < (setAt S i).length) : upR S i (k + 1) = upR S i k ++ [gR (setAt S i) k] := by
  unfold upR
  rw [take_succ' h, List.append_assoc]
theorem up_end {S : List (List Rg)} {i : Nat} (h : i < S.length) : upR S i (setAt S i).length = upR S (i + 1) 0 := by
  unfold upR
  rw [List.take_length, List.take_zero, List.append_nil, List.take_add_one, set_get h, List.flatten_append]
  simp
theorem up_start (S : List (List Rg)) (i : Nat) : upR S i 0 = (S.take i).flatten := by unfold upR; simp
theorem flatten_len : ∀ (S : List (List Rg)), (∀ L ∈ S, L.length ≤ 256) → S.flatten.length ≤ 256 * S.length
  | [], _ => by simp
  | L :: S, h => by
    rw [List.flatten_cons, List.length_append]
    have h2 := flatten_len S (fun M hM => h M (List.mem_cons_of_mem _ hM))
    have h3 := h L (List.mem_cons_self ..)
    simp only [List.length_cons]
    omega
theorem up_len {S : List (List Rg)} (h : ∀ L ∈ S, L.length ≤ 256) (hS : S.length ≤ 300) {i k : Nat} (hi : i < S.length) : (upR S i k).length ≤ 77056 := by
  unfold upR
  rw [List.length_append]
  have h1 := flatten_len (S.take i) (fun L hL => h L (List.mem_of_mem_take hL))
  have h2 : (S.take i).length ≤ i := by simp; omega
  have h3 := h _ (set_mem hi)
  have h4 : ((setAt S i).take k).length ≤ (setAt S i).length := by simp; omega
  omega
def PlacePost (w : World) (L : List Int) (e : Ending) (w' : World) : Prop := ∃ v, e = .returned v ∧ AddPost w L v w'
set_option maxRecDepth 20000 in
set_option maxHeartbeats 1000000 in
theorem places_any (a : Option Addr) (c : Nat) (S : List (List Rg)) (w : World) (hv : SV w a S) (hS : S.length ≤ 300) (h256 : ∀ L ∈ S, L.length ≤ 256) (hok : ∀ L ∈ S, ∀ r ∈ L, 0 ≤ r.2 ∧ r.2 ≤ 1114111) :
    Calls Try.prog 60 #[.slice a S.length c] w (PlacePost w (plcL S.flatten)) := by
  obtain ⟨m, hml⟩ : ∃ m, m = S.length := ⟨_, rfl⟩
  rw [← hml] at hS ⊢
  have HM := Lib.hid hml
  have HV := Lib.hid hv
  have H300 := Lib.hid hS
  have H256 := Lib.hid h256
  have HOK := Lib.hid hok
  have hmi : (m : Int) ≤ 300 := by omega
  clear hml hv h256 hok hS
  go_enter Try.func60, Try.ntmps60
  go_wp2_with fail
  have Z0 : Hid (OwnI (w.alloc (.cells #[.int .i64 0] 3)) w.heap.size (.slice (some ⟨w.heap.size, 0, none⟩) 1 1) (plcL (upR S 0 0))) := Lib.hid (zero_own w)
  have B0 := Lib.hid ((Below.refl w.heap.size w).alloc (Nat.le_refl _) (.cells #[.int .i64 0] 3))
  go_loopg [3, 4] m (fun f u v wr => ∃ i : Nat, v = .int .i64 (i : Nat) ∧ i ≤ m ∧ m - i ≤ f ∧ OwnI wr w.heap.size u (plcL (upR S i 0)) ∧ Below w.heap.size w wr)
  case atStart => exact ⟨0, rfl, by omega, by omega, Z0.out, B0.out⟩
  case round =>
    obtain ⟨i, rfl, him, hf, ho, hb⟩ := hrel
    have HO := Lib.hid ho
    have HB := Lib.hid hb
    have HF := Lib.hid hf
    by_cases hlt : i < m
    · obtain ⟨gg, rfl⟩ : ∃ g, g = gk := ⟨_, rfl⟩
      obtain ⟨b, off, rfl, hbb, ad, cp, c0, hcp, hcm, hrv, hnn⟩ := HV.out.at_ (i := i) (by rw [← HM.out]; exact hlt)
      obtain ⟨P, hP⟩ : ∃ P, P = setAt S i := ⟨_, rfl⟩
      have HP := Lib.hid hP
      have HPm : Hid (P ∈ S) := Lib.hid (by rw [hP]; exact set_mem (by rw [← HM.out]; exact hlt))
      rw [← hP] at c0 hrv
      have HRV := Lib.hid hrv
      have HC0 := Lib.hid c0
      have HBB := Lib.hid hbb
      have hlt' : (i : Int) < (m : Int) := by omega
      have hbig : (i : Int) + 1 ≤ 9223372036854775807 := by omega
      have HLT := Lib.hid hlt
      obtain ⟨n, hn⟩ : ∃ n, n = P.length := ⟨_, rfl⟩
      have HN := Lib.hid hn
      rw [← hn] at HC0
      have hn256 : (n : Int) ≤ 256 := by have := H256.out P HPm.out; omega
      clear him hf ho hb hbb hcp hcm hrv hnn hP hlt c0 hn
      go_wp2_with fail
      go_loopg [3, 5] n (fun f u v wr => ∃ k : Nat, v = .int .i64 (k : Nat) ∧ k ≤ n ∧ n - k ≤ f ∧ OwnI wr w.heap.size u (plcL (upR S i k)) ∧ Below w.heap.size w wr)
      case atStart => exact ⟨0, rfl, by omega, by omega, HO.out, HB.out⟩
      case round =>
        obtain ⟨k, rfl, hkn, hkf, hko, hkb⟩ := hrel
        have HOK2 := Lib.hid hko
        have HBK := Lib.hid hkb
        have HKF := Lib.hid hkf
        have hc0 := (hkb.cell (p := ⟨b, off + i, none⟩) HBB.out).trans HC0.out
        by_cases hkl : k < n
        · obtain ⟨bp, op, hadp⟩ := HRV.out.addr (by rw [← HN.out]; omega)
          obtain ⟨hbp, c1, c2⟩ := (by rw [hadp] at HRV; exact HRV.out.at_ (i := k) (by rw [← HN.out]; exact hkl) : bp < w.heap.size ∧ _ ∧ _)
          subst hadp
          obtain ⟨x, hx⟩ : ∃ x, x = (gR P k).1 := ⟨_, rfl⟩
          obtain ⟨y, hy⟩ : ∃ x, x = (gR P k).2 := ⟨_, rfl⟩
          rw [← hx] at c1
          rw [← hy] at c2
          have HXY : Hid (gR P k = (x, y)) := Lib.hid (by rw [hx, hy])
          have hyb := HOK.out P HPm.out (gR P k) (gR_mem (by rw [← HN.out]; exact hkl))
          rw [← hy] at hyb
          have hy0 : 0 ≤ y := hyb.1
          have hy1 : y ≤ 1114111 := hyb.2
          have hyw : IntKind.i64.wrap (y + 1) = y + 1 := IntWalk.i64_in _ (by omega)
          have hkl' : (k : Int) < (n : Int) := by omega
          have hkbig : (k : Int) + 1 ≤ 9223372036854775807 := by omega
          have HKL := Lib.hid hkl
          have HS : Hid (∀ w', Below w.heap.size w w' → (fun w' => Below w.heap.size w w' ∧ w'.cell? ⟨b, off + i, none⟩ = some (.slice (some ⟨bp, op, none⟩) n cp) ∧ w'.cell? ⟨bp, op + k * 2, none⟩ = some (.int .i64 x) ∧ w'.cell? ⟨bp, op + k * 2 + 1, none⟩ = some (.int .i64 y)) w') := Lib.hid (fun w' hb => ⟨hb, (hb.cell (p := ⟨b, _, none⟩) HBB.out).trans HC0.out, (hb.cell (p := ⟨bp, _, none⟩) hbp).trans c1, (hb.cell (p := ⟨bp, _, none⟩) hbp).trans c2⟩)
          have HPOS := Lib.hid (plc_pos (upR S i k))
          have HLEN : Hid ((plcL (upR S i k)).length ≤ 154113) := Lib.hid (by
            have h1 := plc_len (upR S i k)
            have h2 := up_len H256.out (by rw [← HM.out]; exact H300.out) (i := i) (k := k) (by rw [← HM.out]; exact HLT.out)
            omega)
          have OWN := HOK2
          have HNXT : Hid (plcL (upR S i (k + 1)) = insL (insL (plcL (upR S i k)) x) (y + 1)) := Lib.hid (by rw [up_next (by rw [← HP.out, ← HN.out]; exact HKL.out), plc_snoc, ← HP.out, HXY.out])
          clear hkn hkf hko hkb hyb hx hy c1 c2 hbp hkl
          go_upto_region 8 with fail
          clear hc0
          refine wp_region_held_drew (S := (fun w' => Below w.heap.size w w' ∧ w'.cell? ⟨b, off + i, none⟩ = some (.slice (some ⟨bp, op, none⟩) n cp) ∧ w'.cell? ⟨bp, op + k * 2, none⟩ = some (.int .i64 x) ∧ w'.cell? ⟨bp, op + k * 2 + 1, none⟩ = some (.int .i64 y))) (by kernel_rfl) (HS.out _ HBK.out.drew) (fun hHeld => ?_)
          refine wpAnyH_take (i := 0) (oi := { dst := some 22, op := Op.move (Operand.tmp 3), type := 27, pos := "ref.go:50", after := #[], guard := none }) (v := ?_) rfl (by kernel_rfl) (by kernel_rfl) (by kernel_rfl) (fun _ _ _ h => h) (Or.inl ⟨by rfl, ?_⟩) hHeld ?_
          rotate_left
          · (intro w hSw; (try dsimp only at hSw); go_simp <;> with_reducible rfl)
          try simp only [Act.put, List.setIfInBounds_toArray, List.set_cons_zero, List.set_cons_succ]
          refine wpAnyH_take (i := 1) (oi := { dst := some 23, op := Op.move (Operand.tmp 0), type := 30, pos := "ref.go:50", after := #[], guard := none }) (v := ?_) rfl (by kernel_rfl) (by kernel_rfl) (by kernel_rfl) (fun _ _ _ h => h) (Or.inl ⟨by rfl, ?_⟩) hHeld ?_
          rotate_left
          · (intro w hSw; (try dsimp only at hSw); go_simp <;> with_reducible rfl)
          try simp only [Act.put, List.setIfInBounds_toArray, List.set_cons_zero, List.set_cons_succ]
          refine wpAnyH_take (i := 2) (oi := { dst := some 24, op := Op.move (Operand.tmp 4), type := 3, pos := "ref.go:50", after := #[], guard := none }) (v := ?_) rfl (by kernel_rfl) (by kernel_rfl) (by kernel_rfl) (fun _ _ _ h => h) (Or.inl ⟨by rfl, ?_⟩) hHeld ?_
          rotate_left
          · (intro w hSw; (try dsimp only at hSw); go_simp <;> with_reducible rfl)
          try simp only [Act.put, List.setIfInBounds_toArray, List.set_cons_zero, List.set_cons_succ]
          refine wpAnyH_take (i := 3) (oi := { dst := some 25, op := Op.indexAddr 30 (Operand.tmp 23) (Operand.tmp 24), type := 0, pos := "ref.go:50", after := #[{ on := 1, ground := Ground.data }, { on := 2, ground := Ground.data }], guard := none }) (v := ?_) rfl (by kernel_rfl) (by kernel_rfl) (by kernel_rfl) (fun _ _ _ h => h) (Or.inl ⟨by rfl, ?_⟩) hHeld ?_
          rotate_left
          · (intro w hSw; (try dsimp only at hSw); go_simp <;> with_reducible rfl)
          try simp only [Act.put, List.setIfInBounds_toArray, List.set_cons_zero, List.set_cons_succ]
          refine wpAnyH_take (i := 4) (oi := { dst := some 26, op := Op.load 22 (Operand.tmp 25), type := 22, pos := "ref.go:50", after := #[{ on := 3, ground := Ground.data }], guard := none }) (v := ?_) rfl (by kernel_rfl) (by kernel_rfl) (by kernel_rfl) (fun _ _ _ h => h) (Or.inl ⟨by rfl, ?_⟩) hHeld ?_
          rotate_left
          · (intro w hSw; (try dsimp only at hSw); go_simp <;> with_reducible rfl)
          try simp only [Act.put, List.setIfInBounds_toArray, List.set_cons_zero, List.set_cons_succ]
          refine wpAnyH_take (i := 5) (oi := { dst := some 27, op := Op.move (Operand.tmp 5), type := 3, pos := "ref.go:50", after := #[], guard := none }) (v := ?_) rfl (by kernel_rfl) (by kernel_rfl) (by kernel_rfl) (fun _ _ _ h => h) (Or.inl ⟨by rfl, ?_⟩) hHeld ?_
          rotate_left
          · (intro w hSw; (try dsimp only at hSw); go_simp <;> with_reducible rfl)
          try simp only [Act.put, List.setIfInBounds_toArray, List.set_cons_zero, List.set_cons_succ]
          refine wpAnyH_take (i := 6) (oi := { dst := some 28, op := Op.indexAddr 22 (Operand.tmp 26) (Operand.tmp 27), type := 0, pos := "ref.go:50", after := #[{ on := 4, ground := Ground.data }, { on := 5, ground := Ground.data }], guard := none }) (v := ?_) rfl (by kernel_rfl) (by kernel_rfl) (by kernel_rfl) (fun _ _ _ h => h) (Or.inl ⟨by rfl, ?_⟩) hHeld ?_
          rotate_left
          · (intro w hSw; (try dsimp only at hSw); go_simp <;> with_reducible rfl)
          try simp only [Act.put, List.setIfInBounds_toArray, List.set_cons_zero, List.set_cons_succ]
          refine wpAnyH_take (i := 7) (oi := { dst := some 29, op := Op.fieldAddr 48 (Operand.tmp 28) 0, type := 0, pos := "ref.go:50", after := #[{ on := 6, ground := Ground.data }], guard := none }) (v := ?_) rfl (by kernel_rfl) (by kernel_rfl) (by kernel_rfl) (fun _ _ _ h => h) (Or.inl ⟨by rfl, ?_⟩) hHeld ?_
          rotate_left
          · (intro w hSw; (try dsimp only at hSw); go_simp <;> with_reducible rfl)
          try simp only [Act.put, List.setIfInBounds_toArray, List.set_cons_zero, List.set_cons_succ]
          refine wpAnyH_take (i := 8) (oi := { dst := some 30, op := Op.load 3 (Operand.tmp 29), type := 3, pos := "ref.go:50", after := #[{ on := 7, ground := Ground.data }], guard := none }) (v := ?_) rfl (by kernel_rfl) (by kernel_rfl) (by kernel_rfl) (fun _ _ _ h => h) (Or.inl ⟨by rfl, ?_⟩) hHeld ?_
          rotate_left
          · (intro w hSw; (try dsimp only at hSw); go_simp <;> with_reducible rfl)
          try simp only [Act.put, List.setIfInBounds_toArray, List.set_cons_zero, List.set_cons_succ]
          refine wpAnyH_take (i := 10) (oi := { dst := some 32, op := Op.move (Operand.tmp 0), type := 30, pos := "ref.go:50", after := #[], guard := none }) (v := ?_) rfl (by kernel_rfl) (by kernel_rfl) (by kernel_rfl) (fun _ _ _ h => h) (Or.inl ⟨by rfl, ?_⟩) hHeld ?_
          rotate_left
          · (intro w hSw; (try dsimp only at hSw); go_simp <;> with_reducible rfl)
          try simp only [Act.put, List.setIfInBounds_toArray, List.set_cons_zero, List.set_cons_succ]
          refine wpAnyH_take (i := 11) (oi := { dst := some 33, op := Op.move (Operand.tmp 4), type := 3, pos := "ref.go:50", after := #[], guard := none }) (v := ?_) rfl (by kernel_rfl) (by kernel_rfl) (by kernel_rfl) (fun _ _ _ h => h) (Or.inl ⟨by rfl, ?_⟩) hHeld ?_
          rotate_left
          · (intro w hSw; (try dsimp only at hSw); go_simp <;> with_reducible rfl)
          try simp only [Act.put, List.setIfInBounds_toArray, List.set_cons_zero, List.set_cons_succ]
          refine wpAnyH_take (i := 12) (oi := { dst := some 34, op := Op.indexAddr 30 (Operand.tmp 32) (Operand.tmp 33), type := 0, pos := "ref.go:50", after := #[{ on := 10, ground := Ground.data }, { on := 11, ground := Ground.data }], guard := none }) (v := ?_) rfl (by kernel_rfl) (by kernel_rfl) (by kernel_rfl) (fun _ _ _ h => h) (Or.inl ⟨by rfl, ?_⟩) hHeld ?_
          rotate_left
          · (intro w hSw; (try dsimp only at hSw); go_simp <;> with_reducible rfl)
          try simp only [Act.put, List.setIfInBounds_toArray, List.set_cons_zero, List.set_cons_succ]
          refine wpAnyH_take (i := 13) (oi := { dst := some 35, op := Op.load 22 (Operand.tmp 34), type := 22, pos := "ref.go:50", after := #[{ on := 12, ground := Ground.data }], guard := none }) (v := ?_) rfl (by kernel_rfl) (by kernel_rfl) (by kernel_rfl) (fun _ _ _ h => h) (Or.inl ⟨by rfl, ?_⟩) hHeld ?_
          rotate_left
          · (intro w hSw; (try dsimp only at hSw); go_simp <;> with_reducible rfl)
          try simp only [Act.put, List.setIfInBounds_toArray, List.set_cons_zero, List.set_cons_succ]
          refine wpAnyH_take (i := 14) (oi := { dst := some 36, op := Op.move (Operand.tmp 5), type := 3, pos := "ref.go:50", after := #[], guard := none }) (v := ?_) rfl (by kernel_rfl) (by kernel_rfl) (by kernel_rfl) (fun _ _ _ h => h) (Or.inl ⟨by rfl, ?_⟩) hHeld ?_
          rotate_left
          · (intro w hSw; (try dsimp only at hSw); go_simp <;> with_reducible rfl)
          try simp only [Act.put, List.setIfInBounds_toArray, List.set_cons_zero, List.set_cons_succ]
          refine wpAnyH_take (i := 15) (oi := { dst := some 37, op := Op.indexAddr 22 (Operand.tmp 35) (Operand.tmp 36), type := 0, pos := "ref.go:50", after := #[{ on := 13, ground := Ground.data }, { on := 14, ground := Ground.data }], guard := none }) (v := ?_) rfl (by kernel_rfl) (by kernel_rfl) (by kernel_rfl) (fun _ _ _ h => h) (Or.inl ⟨by rfl, ?_⟩) hHeld ?_
          rotate_left
          · (intro w hSw; (try dsimp only at hSw); go_simp <;> with_reducible rfl)
          try simp only [Act.put, List.setIfInBounds_toArray, List.set_cons_zero, List.set_cons_succ]
          refine wpAnyH_take (i := 16) (oi := { dst := some 38, op := Op.fieldAddr 48 (Operand.tmp 37) 1, type := 0, pos := "ref.go:50", after := #[{ on := 15, ground := Ground.data }], guard := none }) (v := ?_) rfl (by kernel_rfl) (by kernel_rfl) (by kernel_rfl) (fun _ _ _ h => h) (Or.inl ⟨by rfl, ?_⟩) hHeld ?_
          rotate_left
          · (intro w hSw; (try dsimp only at hSw); go_simp <;> with_reducible rfl)
          try simp only [Act.put, List.setIfInBounds_toArray, List.set_cons_zero, List.set_cons_succ]
          refine wpAnyH_take (i := 17) (oi := { dst := some 39, op := Op.load 3 (Operand.tmp 38), type := 3, pos := "ref.go:50", after := #[{ on := 16, ground := Ground.data }], guard := none }) (v := ?_) rfl (by kernel_rfl) (by kernel_rfl) (by kernel_rfl) (fun _ _ _ h => h) (Or.inl ⟨by rfl, ?_⟩) hHeld ?_
          rotate_left
          · (intro w hSw; (try dsimp only at hSw); go_simp <;> with_reducible rfl)
          try simp only [Act.put, List.setIfInBounds_toArray, List.set_cons_zero, List.set_cons_succ]
          refine wpAnyH_take (i := 18) (oi := { dst := some 40, op := Op.binOp BinOp.add 3 (Operand.tmp 39) (Operand.const (Value.int IntKind.i64 1)) 3, type := 3, pos := "ref.go:50", after := #[{ on := 17, ground := Ground.data }], guard := none }) (v := ?_) rfl (by kernel_rfl) (by kernel_rfl) (by kernel_rfl) (fun _ _ _ h => h) (Or.inl ⟨by rfl, ?_⟩) hHeld ?_
          rotate_left
          · (intro w hSw; (try dsimp only at hSw); go_simp <;> with_reducible rfl)
          try simp only [Act.put, List.setIfInBounds_toArray, List.set_cons_zero, List.set_cons_succ]
          refine wpAnyH_ready (rs := [9]) (by kernel_rfl) (by simp) (AllReadyH.cons (o := { dst := some 31, op := Op.call { callee := Callee.value (Operand.func 76), args := #[Operand.tmp 22, Operand.tmp 30], argTypes := #[27, 3] }, type := 27, pos := "ref.go:50", after := #[{ on := 0, ground := Ground.data }, { on := 8, ground := Ground.data }], guard := none }) rfl (fun K9 hK9 => ?_) AllReadyH.nil)
          go_simp
          refine (with_any _ _ x _ hHeld.1 (OWN.out.below ((Below.refl _ _).drew)) HPOS.out (Nat.le_trans HLEN.out (by decide))).mono ?_
          rintro e w1 ⟨v1, rfl, o1, b1⟩
          have O1 := Lib.hid o1
          refine hK9.out _ _ (HS.out _ b1) (fun hH_9 => ?_)
          clear o1 b1
          clear hK9 K9
          try simp only [Act.put, List.setIfInBounds_toArray, List.set_cons_zero, List.set_cons_succ]
          refine wpAnyH_ready (rs := [19]) (by kernel_rfl) (by simp) (AllReadyH.cons (o := { dst := some 41, op := Op.call { callee := Callee.value (Operand.func 76), args := #[Operand.tmp 31, Operand.tmp 40], argTypes := #[27, 3] }, type := 27, pos := "ref.go:50", after := #[{ on := 9, ground := Ground.data }, { on := 18, ground := Ground.data }, { on := 9, ground := Ground.chain }], guard := none }) rfl (fun K19 hK19 => ?_) AllReadyH.nil)
          go_simp
          refine (with_any _ _ (y + 1) _ hH_9.1 O1.out (ins_pos HPOS.out) (Nat.le_trans (ins_len _ _) (by have := HLEN.out; omega))).mono ?_
          rintro e w2 ⟨v2, rfl, o2, b2⟩
          have O2 := Lib.hid o2
          refine hK19.out _ _ (HS.out _ b2) (fun hH_19 => ?_)
          clear o2 b2
          clear hK19 K19
          try simp only [Act.put, List.setIfInBounds_toArray, List.set_cons_zero, List.set_cons_succ]
          refine wpAnyH_take (i := 20) (oi := { dst := some 3, op := Op.assign (Operand.tmp 41), type := 27, pos := "ref.go:50", after := #[{ on := 19, ground := Ground.data }, { on := 19, ground := Ground.chain }, { on := 0, ground := Ground.phase }, { on := 1, ground := Ground.phase }, { on := 2, ground := Ground.phase }, { on := 3, ground := Ground.phase }, { on := 4, ground := Ground.phase }, { on := 5, ground := Ground.phase }, { on := 6, ground := Ground.phase }, { on := 7, ground := Ground.phase }, { on := 8, ground := Ground.phase }, { on := 9, ground := Ground.phase }, { on := 10, ground := Ground.phase }, { on := 11, ground := Ground.phase }, { on := 12, ground := Ground.phase }, { on := 13, ground := Ground.phase }, { on := 14, ground := Ground.phase }, { on := 15, ground := Ground.phase }, { on := 16, ground := Ground.phase }, { on := 17, ground := Ground.phase }, { on := 18, ground := Ground.phase }, { on := 19, ground := Ground.phase }], guard := none }) (v := ?_) rfl (by kernel_rfl) (by kernel_rfl) (by kernel_rfl) (fun _ _ _ h => h) (Or.inl ⟨by rfl, ?_⟩) hH_19 ?_
          rotate_left
          · (intro w hSw; (try dsimp only at hSw); go_simp <;> with_reducible rfl)
          try simp only [Act.put, List.setIfInBounds_toArray, List.set_cons_zero, List.set_cons_succ]
          refine wpAnyH_done (by kernel_rfl) ?_ _
          have hLast := Lib.hid hH_19.1
          clear HS hHeld hH_9 hH_19 hyw
          go_wp2_with fail
          go_roundg (gk - 1)
          case measure => have := HKF.out; have := HKL.out; omega
          case rel => exact ⟨k + 1, by rw [show ((k + 1 : Nat) : Int) = (k : Int) + 1 by omega], by have := HKL.out; omega, by have := HKF.out; omega, by rw [HNXT.out]; exact O2.out, hLast.out⟩
        · have e9 : k = n := by omega
          subst e9
          have HEND : Hid (upR S i k = upR S (i + 1) 0) := Lib.hid (by rw [HN.out, HP.out]; exact up_end (by rw [← HM.out]; exact HLT.out))
          clear hkn hkf hko hkb hkl
          go_wp2_with fail
          go_roundg (gg - 1)
          case measure => have := HF.out; have := HLT.out; omega
          case rel => exact ⟨i + 1, by rw [show ((i + 1 : Nat) : Int) = (i : Int) + 1 by omega], by have := HLT.out; omega, by have := HF.out; omega, by rw [← HEND.out]; exact HOK2.out, HBK.out⟩
    · have e9 : i = m := by omega
      subst e9
      have HEND : Hid (upR S i 0 = S.flatten) := Lib.hid (by rw [up_start, HM.out, List.take_length])
      clear him hf ho hb hlt
      go_wp2_with fail
      go_ret
      exact ⟨_, rfl, by rw [← HEND.out]; exact HO.out, HB.out⟩
end Go.Proofs.Ytlngdohkoeognaa
