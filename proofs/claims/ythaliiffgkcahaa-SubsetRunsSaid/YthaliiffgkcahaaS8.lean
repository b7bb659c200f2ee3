/- Layer 10: to where numbers lead: the document's. -/
import Derived.Test.YthaliiffgkcahaaS4
import Derived.Test.YthaliiffgkcahaaS6
namespace Go.Proofs.Ythaliiffgkcahaa
open Go.RowKit Go.Maps
theorem cell_up {W w' : World} {p : Addr} {v : Value} (h : W.cell? p = some v) (k : Below W.heap.size W w') : w'.cell? p = some v := (k.cell (World.block_lt_of_cell? _ _ h)).trans h
/-- Where numbers lead from a state. -/
def toN (C : List Int) (S : List (List Int)) : Nat → List Int → Nat
  | s, [] => s
  | s, n :: P => toN C S (gI (gS S s) (cls C n)).toNat P
theorem toN_app (C : List Int) (S : List (List Int)) : ∀ (P Q : List Int) (s : Nat), toN C S s (P ++ Q) = toN C S (toN C S s P) Q
  | [], _, _ => rfl
  | n :: P, Q, s => by
    rw [List.cons_append, toN, toN]
    exact toN_app C S P Q _
theorem takeI {L : List Int} {i : Nat} (h : i < L.length) : L.take (i + 1) = L.take i ++ [gI L i] := by
  rw [List.take_add_one, gI_get h]; rfl
theorem toN_next {C : List Int} {S : List (List Int)} {P : List Int} {i s : Nat} (h : i < P.length) : toN C S s (P.take (i + 1)) = (gI (gS S (toN C S s (P.take i))) (cls C (gI P i))).toNat := by
  rw [takeI h, toN_app]
  rfl
theorem cls_lt {C : List Int} (h : 0 < C.length) (n : Int) : cls C n < C.length := lastLe_lt C n _ h
/-- What a round that goes on from a state needs of memory. -/
def Sx (w : World) (Q : Nat) (x0 x1 x2 : Value) (b1 o1 : Nat) (row : Value) (b2 o2 : Nat) (x : Value) (b3 o3 : Nat) (p : Value) (w' : World) : Prop :=
  w'.cell? ⟨Q, 0, none⟩ = some x0 ∧ w'.cell? ⟨Q, 1, none⟩ = some x1 ∧ w'.cell? ⟨Q, 2, none⟩ = some x2 ∧ w'.cell? ⟨b1, o1, none⟩ = some row ∧ w'.cell? ⟨b2, o2, none⟩ = some x ∧ w'.cell? ⟨b3, o3, none⟩ = some p ∧ Below w.heap.size w w'
theorem Sx.up {w : World} {Q : Nat} {x0 x1 x2 : Value} {b1 o1 : Nat} {row : Value} {b2 o2 : Nat} {x : Value} {b3 o3 : Nat} {p : Value} {W w' : World} (h : Sx w Q x0 x1 x2 b1 o1 row b2 o2 x b3 o3 p W) (k : Below W.heap.size W w') : Sx w Q x0 x1 x2 b1 o1 row b2 o2 x b3 o3 p w' := by
  obtain ⟨h0, h1, h2, h3, h4, h5, h6⟩ := h
  exact ⟨cell_up h0 k, cell_up h1 k, cell_up h2 k, cell_up h3 k, cell_up h4 k, cell_up h5 k, h6.trans (k.mono h6.size)⟩
theorem Sx.lk {w : World} {x0 x1 x2 : Value} {b1 o1 : Nat} {row : Value} {b2 o2 : Nat} {x : Value} {b3 o3 : Nat} {p : Value} {W : World} (h : Sx w w.heap.size x0 x1 x2 b1 o1 row b2 o2 x b3 o3 p W) : Lk w W x0 x1 x2 :=
  ⟨h.2.2.2.2.2.2, ⟨World.block_lt_of_cell? _ _ h.1, h.1, h.2.1, h.2.2.1⟩⟩
set_option maxRecDepth 20000 in
theorem to_any (a : DA) (d : DF) (hok : DfOk d) (ap : Option Addr) (cp : Nat) (P : List Int) (s : Nat) (w : World) (hv : DV w a d) (hp : IV w ap P) (hP : P.length ≤ 1024) (hs : s < d.S.length) : Calls Try.prog 21 #[dv a d, .int .i64 s, .slice ap P.length cp] w fun r w' => r = .returned (.int .i64 (toN d.C d.S s P)) ∧ toN d.C d.S s P < d.S.length ∧ Below w.heap.size w w' := by
  have HK := Lib.hid (fun n w1 (b : Below w.heap.size w w1) => of_any a d n w1 (hv.below b))
  obtain ⟨a0, a1, a2, c0, c1, c2⟩ := a
  obtain ⟨C, S, B⟩ := d
  unfold dv at HK ⊢
  dsimp only at HK hs ⊢
  have HV1 : Hid (SV w a1 S) := Lib.hid hv.sv
  have HP := Lib.hid hp
  have HOK : Hid (∀ i, i < S.length → (gS S i).length = C.length ∧ ∀ j, j < (gS S i).length → 0 ≤ gI (gS S i) j ∧ gI (gS S i) j < S.length) := Lib.hid hok.2.2.2.2
  have HC0 : Hid (0 < C.length) := Lib.hid hok.1.1
  have h256 : C.length ≤ 256 := hok.1.2.1
  have h64 : S.length ≤ 64 := hok.2.2.1
  clear hv hp hok
  obtain ⟨T, hT⟩ : ∃ T, T = toN C S s P := ⟨_, rfl⟩
  rw [← hT]
  replace hT := Lib.hid hT
  obtain ⟨nC, hC⟩ : ∃ n, n = C.length := ⟨_, rfl⟩
  obtain ⟨nS, hS⟩ : ∃ n, n = S.length := ⟨_, rfl⟩
  obtain ⟨nB, hB⟩ : ∃ n, n = B.length := ⟨_, rfl⟩
  obtain ⟨nP, hN⟩ : ∃ n, n = P.length := ⟨_, rfl⟩
  rw [← hC, ← hS, ← hB] at HK
  rw [← hC, ← hS, ← hB, ← hN]
  rw [← hC] at h256
  rw [← hS] at h64 hs
  rw [← hN] at hP
  have HC := Lib.hid hC
  have HS := Lib.hid hS
  have HN := Lib.hid hN
  clear hC hS hB hN
  go_enter Try.func21, Try.ntmps21
  go_wp2_with fail
  go_loopw [1, 7] (fun v1 v7 wr => ∃ i m : Nat, i ≤ nP ∧ v7 = .int .i64 i ∧ v1 = .int .i64 m ∧ m < nS ∧ Hid (m = toN C S s (P.take i)) ∧ Hid (Lk w wr (.slice a0 nC c0) (.slice a1 nS c1) (.slice a2 nB c2))) (fun _ v7 _ => nP - (intOf v7).toNat)
  case atStart => exact ⟨0, s, by omega, rfl, rfl, hs, Lib.hid rfl, Lib.hid (lk_new _ _ _ _ _)⟩
  case round =>
    obtain ⟨i, m, hi, rfl, rfl, hm, HM, HL⟩ := hrel
    by_cases h1 : i < nP
    · obtain ⟨b1, off1, rfl⟩ := HV1.out.addr (by rw [← HS.out]; omega)
      obtain ⟨_, ad, cr, d0, _, _, hiv, _⟩ := (HV1.out.below HL.out.1).at_ (i := m) (by rw [← HS.out]; exact hm)
      obtain ⟨hl, hrow⟩ := HOK.out m (by rw [← HS.out]; exact hm)
      obtain ⟨b3, off3, rfl⟩ := HP.out.addr (by rw [← HN.out]; omega)
      obtain ⟨_, p0⟩ := (HP.out.below HL.out.1).at_ (i := i) (by rw [← HN.out]; exact h1)
      obtain ⟨n, hn⟩ : ∃ n, n = gI P i := ⟨_, rfl⟩
      rw [← hn] at p0
      obtain ⟨k, hk⟩ : ∃ k, k = cls C n := ⟨_, rfl⟩
      have hkl : k < C.length := by rw [hk]; exact cls_lt HC0.out n
      obtain ⟨b2, off2, rfl⟩ := hiv.addr (by rw [hl]; omega)
      obtain ⟨_, f0⟩ := hiv.at_ (i := k) (by rw [hl]; exact hkl)
      rw [hl, ← HC.out] at d0
      obtain ⟨y, hy⟩ : ∃ y : Nat, gI (gS S m) k = y := ⟨(gI (gS S m) k).toNat, by have := (hrow k (by rw [hl]; exact hkl)).1; omega⟩
      have hys : y < nS := by have := (hrow k (by rw [hl]; exact hkl)).2; rw [hy, ← HS.out] at this; omega
      rw [hy] at f0
      have HM2 : Hid (y = toN C S s (P.take (i + 1))) := Lib.hid (by rw [toN_next (by rw [← HN.out]; exact h1), ← HM.out, ← hn, ← hk, hy]; rfl)
      have HOF : Hid (∀ W, Sx w w.heap.size (.slice a0 nC c0) (.slice (some ⟨b1, off1, none⟩) nS c1) (.slice a2 nB c2) b1 (off1 + m) (.slice (some ⟨b2, off2, none⟩) nC cr) b2 (off2 + k) (.int .i64 y) b3 (off3 + i) (.int .i64 n) W → Calls Try.prog 20 #[.agg #[.slice a0 nC c0, .slice (some ⟨b1, off1, none⟩) nS c1, .slice a2 nB c2], .int .i64 n] W fun r w' => r = .returned (.int .i64 k) ∧ Sx w w.heap.size (.slice a0 nC c0) (.slice (some ⟨b1, off1, none⟩) nS c1) (.slice a2 nB c2) b1 (off1 + m) (.slice (some ⟨b2, off2, none⟩) nC cr) b2 (off2 + k) (.int .i64 y) b3 (off3 + i) (.int .i64 n) w') := Lib.hid (fun W hW => by
        refine (HK.out n W hW.2.2.2.2.2.2).mono ?_
        rintro e w' ⟨rfl, b⟩
        exact ⟨by rw [← hk], hW.up b⟩)
      have hkn : (k : Int) < nC := by have := HC.out; omega
      have hk0 : (0 : Int) ≤ k := by omega
      have hm1 : (m : Int) < nS := by omega
      have hm0 : (0 : Int) ≤ m := by omega
      have hi1 : (i : Int) < nP := by omega
      have hi0 : (0 : Int) ≤ i := by omega
      obtain ⟨_, q0, q1, q2⟩ := HL.out.2
      have hSS : Sx w w.heap.size (.slice a0 nC c0) (.slice (some ⟨b1, off1, none⟩) nS c1) (.slice a2 nB c2) b1 (off1 + m) (.slice (some ⟨b2, off2, none⟩) nC cr) b2 (off2 + k) (.int .i64 y) b3 (off3 + i) (.int .i64 n) wr.drew := ⟨q0, q1, q2, d0, f0, p0, HL.out.1.drew⟩
      clear hn hk hkl hl hrow hiv hy
      go_wp2_with fail
      go_region_held3 (fun w' => w'.cell? ⟨w.heap.size, 0, none⟩ = some (.slice a0 nC c0) ∧ w'.cell? ⟨w.heap.size, 1, none⟩ = some (.slice (some ⟨b1, off1, none⟩) nS c1) ∧ w'.cell? ⟨w.heap.size, 2, none⟩ = some (.slice a2 nB c2) ∧ w'.cell? ⟨b1, off1 + m, none⟩ = some (.slice (some ⟨b2, off2, none⟩) nC cr) ∧ w'.cell? ⟨b2, off2 + k, none⟩ = some (.int .i64 y) ∧ w'.cell? ⟨b3, off3 + i, none⟩ = some (.int .i64 n) ∧ Below w.heap.size w w')
        ((first | exact hSS | assumption))
        (first | (go_at_call 20; refine (HOF.out _ (by assumption)).mono ?_; rintro e w' ⟨rfl, hS2⟩; unfold Sx at hS2))
      go_wp2_with fail
      go_roundw
      case rel => exact ⟨i + 1, y, by omega, by go_num, rfl, hys, HM2, Lib.hid (Sx.lk (b1 := b1) (o1 := off1 + m) (row := .slice (some ⟨b2, off2, none⟩) nC cr) (b2 := b2) (o2 := off2 + k) (x := .int .i64 y) (b3 := b3) (o3 := off3 + i) (p := .int .i64 n) (by unfold Sx; assumption))⟩
      case measure => simp [intOf]; omega
    · have e1 : i = nP := by omega
      subst e1
      have hi1 : ¬ (i : Int) < i := by omega
      go_wp2_with fail
      go_ret
      exact ⟨ret_int (by rw [hT.out, HM.out, HN.out, List.take_length]), by have := HM.out; rw [HN.out, List.take_length, ← hT.out] at this; omega, HL.out.1⟩
end Go.Proofs.Ythaliiffgkcahaa
