/- Layer 6: the cuts of a set, of sets, one behind the other (fold). -/
import Derived.Test.YtlngdohkoeognaaB4
namespace Go.Proofs.Ytlngdohkoeognaa
open Go.RowKit Go.Maps
theorem edgR_len (r : Rg) : (edgR r).length ≤ 2 := by unfold edgR; split <;> simp
theorem flat_len : ∀ (L : List Rg), (L.flatMap edgR).length ≤ 2 * L.length
  | [] => by simp
  | r :: L => by
    rw [List.flatMap_cons, List.length_append]
    have := edgR_len r
    have := flat_len L
    simp only [List.length_cons]
    omega
theorem edge_step {L : List Rg} {i : Nat} {x y : Int} (M : List Int) (h : i < L.length) (e : gR L i = (x, y)) : M ++ (L.take (i + 1)).flatMap edgR = M ++ (L.take i).flatMap edgR ++ edgR (x, y) := by
  rw [take_succ' h, List.flatMap_append, e, List.append_assoc]; simp
set_option maxRecDepth 20000 in
theorem fold34_any {w0 : World} (a : Option Addr) (c : Nat) (L : List Rg) (v : Value) (M : List Int) (w : World) (hv : RV w0 a L) (hok : ∀ r ∈ L, 0 ≤ r.2) (hb : Below w0.heap.size w0 w) (ho : OwnI w w0.heap.size v M) (hm : M.length + 2 * L.length ≤ 1000000) :
    Calls Try.prog 34 #[.slice a L.length c, v, .func (.func 35) #[] #[]] w fun e w' => ∃ v', e = .returned v' ∧ AddPost w0 (M ++ L.flatMap edgR) v' w' := by
  obtain ⟨m, hml⟩ : ∃ m, m = L.length := ⟨_, rfl⟩
  rw [← hml] at hm ⊢
  have HV := Lib.hid hv
  have HOK := Lib.hid hok
  have HB0 := Lib.hid hb
  have HO0 := Lib.hid ho
  have HM := Lib.hid hml
  have HL := Lib.hid hm
  clear hv hok hb ho hml
  go_enter Try.func34, Try.ntmps34
  go_wp2_with fail
  go_loopg [1, 11] m (fun f u v wr => ∃ i : Nat, v = .int .i64 (i : Nat) ∧ i ≤ m ∧ m - i ≤ f ∧ OwnI wr w0.heap.size u (M ++ (L.take i).flatMap edgR) ∧ Below w0.heap.size w0 wr)
  case atStart => exact ⟨0, rfl, by omega, by omega, by simpa using HO0.out, HB0.out⟩
  case round =>
    obtain ⟨i, rfl, him, hf, ho, hb⟩ := hrel
    have HO := Lib.hid ho
    have HB := Lib.hid hb
    have HF := Lib.hid hf
    by_cases hlt : i < m
    · obtain ⟨b, off, rfl, hbb, c0, c1⟩ := (HV.out.below hb) i (by rw [← HM.out]; exact hlt)
      obtain ⟨x, hx⟩ : ∃ x, x = (gR L i).1 := ⟨_, rfl⟩
      obtain ⟨y, hy⟩ : ∃ x, x = (gR L i).2 := ⟨_, rfl⟩
      rw [← hx] at c0
      rw [← hy] at c1
      have HXY : Hid (gR L i = (x, y)) := Lib.hid (by rw [hx, hy])
      have HY0 : Hid (0 ≤ y) := Lib.hid (by rw [hy]; exact HOK.out _ (gR_mem (by rw [← HM.out]; exact hlt)))
      have hlt' : (i : Int) < (m : Int) := by omega
      have hbig : (i : Int) + 1 ≤ 9223372036854775807 := by omega
      have HLT := Lib.hid hlt
      have HLEN : Hid ((M ++ (L.take i).flatMap edgR).length ≤ 1000000) := Lib.hid (by
        have h1 := flat_len (L.take i)
        have h2 : (L.take i).length ≤ i := by simp; omega
        simp only [List.length_append]
        have := HL.out
        omega)
      clear him ho hb hf hbb hx hy hlt
      go_wp2_with fail
      refine (edges_any _ (M ++ (L.take i).flatMap edgR) x y _ (HB.out.alloc HB.out.size _) (HO.out.alloc _) HLEN.out HY0.out).mono ?_
      rintro e w1 ⟨v1, rfl, o1, b1⟩
      have O1 : Hid (OwnI w1 w0.heap.size v1 (M ++ (L.take (i + 1)).flatMap edgR)) := Lib.hid (by rw [edge_step M (by rw [← HM.out]; exact HLT.out) HXY.out]; exact o1)
      have B1 := Lib.hid b1
      clear o1 b1
      go_wp2_with fail
      go_roundg (gk - 1)
      case measure => have := HF.out; have := HLT.out; omega
      case rel => exact ⟨i + 1, by rw [show ((i + 1 : Nat) : Int) = (i : Int) + 1 by omega], by have := HLT.out; omega, by have := HF.out; omega, O1.out, B1.out⟩
    · have e9 : i = m := by omega
      subst e9
      have hT : L.take i = L := by rw [HM.out]; exact List.take_length
      have HT := Lib.hid hT
      clear him ho hb hf hlt hT
      go_wp2_with fail
      go_ret
      exact ⟨_, rfl, by rw [HT.out] at HO; exact HO.out, HB.out⟩
/-- Sets that stand somewhere, each where it stands. -/
def SV (w : World) (a : Option Addr) (S : List (List Rg)) : Prop :=
  ∀ i, i < S.length → ∃ b off, a = some ⟨b, off, none⟩ ∧ b < w.heap.size ∧ ∃ ad cp, w.cell? ⟨b, off + i, none⟩ = some (.slice ad (S.getD i []).length cp) ∧ (S.getD i []).length ≤ cp ∧ cp ≤ maxLen ∧ RV w ad (S.getD i []) ∧ (ad = none → (S.getD i []).length = 0 ∧ cp = 0)
theorem SV.below {w w' : World} {a : Option Addr} {S : List (List Rg)} (h : SV w a S) (k : Below w.heap.size w w') : SV w' a S := fun i hi => by
  obtain ⟨b, off, e, hb, ad, cp, h1, h2, h3, h4, h5⟩ := h i hi
  exact ⟨b, off, e, Nat.lt_of_lt_of_le hb k.size, ad, cp, (k.cell (p := ⟨b, _, none⟩) hb).trans h1, h2, h3, h4.below k, h5⟩
theorem fold33_any {w0 : World} (a : Option Addr) (c : Nat) (L : List Rg) (v : Value) (M : List Int) (w : World) (hv : RV w0 a L) (hok : ∀ r ∈ L, 0 ≤ r.2) (hb : Below w0.heap.size w0 w) (ho : OwnI w w0.heap.size v M) (hm : M.length + 2 * L.length ≤ 1000000) :
    Calls Try.prog 33 #[v, .slice a L.length c] w fun e w' => ∃ v', e = .returned v' ∧ AddPost w0 (M ++ L.flatMap edgR) v' w' := by
  have HC := Lib.hid (fold34_any a c L v M w hv hok hb ho hm)
  clear hv hok hb ho hm
  go_enter Try.func33, Try.ntmps33
  go_wp2_with fail
  refine HC.out.mono ?_
  rintro e w1 ⟨v1, rfl, h1⟩
  go_wp2_with fail
  go_ret
  exact ⟨_, rfl, h1⟩
def setAt (S : List (List Rg)) (i : Nat) : List Rg := S.getD i []
theorem set_get {S : List (List Rg)} {i : Nat} (h : i < S.length) : S[i]? = some (setAt S i) := by
  unfold setAt
  rw [List.getD_eq_getElem?_getD, List.getElem?_eq_getElem h]; rfl
theorem set_mem {S : List (List Rg)} {i : Nat} (h : i < S.length) : setAt S i ∈ S := List.mem_of_getElem? (set_get h)
theorem sets_step {S : List (List Rg)} {i : Nat} (M : List Int) (h : i < S.length) : M ++ (S.take (i + 1)).flatMap (fun L => L.flatMap edgR) = M ++ (S.take i).flatMap (fun L => L.flatMap edgR) ++ (setAt S i).flatMap edgR := by
  rw [List.take_add_one, set_get h, List.flatMap_append, List.append_assoc]; simp
theorem sets_len : ∀ (S : List (List Rg)) (k : Nat), (∀ L ∈ S, L.length ≤ k) → (S.flatMap fun L => L.flatMap edgR).length ≤ 2 * k * S.length
  | [], _, _ => by simp
  | L :: S, k, h => by
    rw [List.flatMap_cons, List.length_append]
    have h1 := flat_len L
    have h2 := sets_len S k (fun M hM => h M (List.mem_cons_of_mem _ hM))
    have h3 := h L (List.mem_cons_self ..)
    simp only [List.length_cons, Nat.mul_add, Nat.mul_one]
    omega
set_option maxRecDepth 20000 in
theorem fold32_any {w0 : World} (a : Option Addr) (c : Nat) (S : List (List Rg)) (v : Value) (M : List Int) (w : World) (hv : SV w0 a S) (hok : ∀ L ∈ S, ∀ r ∈ L, 0 ≤ r.2) (h256 : ∀ L ∈ S, L.length ≤ 256) (hS : S.length ≤ 300) (hb : Below w0.heap.size w0 w) (ho : OwnI w w0.heap.size v M) (hm : M.length ≤ 1000) :
    Calls Try.prog 32 #[.slice a S.length c, v, .func (.func 33) #[] #[]] w fun e w' => ∃ v', e = .returned v' ∧ AddPost w0 (M ++ S.flatMap fun L => L.flatMap edgR) v' w' := by
  obtain ⟨m, hml⟩ : ∃ m, m = S.length := ⟨_, rfl⟩
  rw [← hml] at hS ⊢
  have HV := Lib.hid hv
  have HOK := Lib.hid hok
  have H256 := Lib.hid h256
  have HB0 := Lib.hid hb
  have HO0 := Lib.hid ho
  have HM := Lib.hid hml
  have HL := Lib.hid hm
  clear hv hok hb ho hml h256 hm
  go_enter Try.func32, Try.ntmps32
  go_wp2_with fail
  go_loopg [1, 11] m (fun f u v wr => ∃ i : Nat, v = .int .i64 (i : Nat) ∧ i ≤ m ∧ m - i ≤ f ∧ OwnI wr w0.heap.size u (M ++ (S.take i).flatMap fun L => L.flatMap edgR) ∧ Below w0.heap.size w0 wr)
  case atStart => exact ⟨0, rfl, by omega, by omega, by simpa using HO0.out, HB0.out⟩
  case round =>
    obtain ⟨i, rfl, him, hf, ho, hb⟩ := hrel
    have HO := Lib.hid ho
    have HB := Lib.hid hb
    have HF := Lib.hid hf
    by_cases hlt : i < m
    · obtain ⟨b, off, rfl, hbb, ad, cp, c0, hcp, hcm, hrv, hnn⟩ := (HV.out.below hb) i (by rw [← HM.out]; exact hlt)
      obtain ⟨b', off', e', _, ad', cp', c0', _, _, hrv', _⟩ := HV.out i (by rw [← HM.out]; exact hlt)
      cases e'
      have hbw : b < w0.heap.size := by assumption
      have hadd : ad = ad' := by
        have h := (hb.cell (p := ⟨b, off + i, none⟩) hbw).trans c0'
        rw [c0] at h
        simp at h
        exact h.1
      subst hadd
      have HRV := Lib.hid hrv'
      have HAT : Hid (S.getD i [] = setAt S i) := Lib.hid rfl
      rw [show S.getD i [] = setAt S i from rfl] at c0 HRV
      obtain ⟨P, hP⟩ : ∃ P, P = setAt S i := ⟨_, rfl⟩
      have HPm : Hid (P ∈ S) := Lib.hid (by rw [hP]; exact set_mem (by rw [← HM.out]; exact hlt))
      have HP := Lib.hid hP
      rw [← hP] at c0 HRV
      have hlt' : (i : Int) < (m : Int) := by omega
      have hbig : (i : Int) + 1 ≤ 9223372036854775807 := by omega
      have HLT := Lib.hid hlt
      have HLEN : Hid ((M ++ (S.take i).flatMap fun L => L.flatMap edgR).length + 2 * P.length ≤ 1000000) := Lib.hid (by
        have h1 := sets_len (S.take i) 256 (fun L hL => H256.out L (List.mem_of_mem_take hL))
        have h2 : (S.take i).length ≤ i := by simp; omega
        have h3 := H256.out P HPm.out
        simp only [List.length_append]
        have := HL.out
        omega)
      clear him ho hb hf hbb hlt hcp hcm hrv hnn c0' hrv' hbw hP
      go_wp2_with fail
      refine (fold33_any ad cp P _ (M ++ (S.take i).flatMap fun L => L.flatMap edgR) _ HRV.out (HOK.out P HPm.out) HB.out HO.out HLEN.out).mono ?_
      rintro e w1 ⟨v1, rfl, o1, b1⟩
      have O1 : Hid (OwnI w1 w0.heap.size v1 (M ++ (S.take (i + 1)).flatMap fun L => L.flatMap edgR)) := Lib.hid (by rw [sets_step M (by rw [← HM.out]; exact HLT.out), ← HP.out]; exact o1)
      have B1 := Lib.hid b1
      clear o1 b1
      go_wp2_with fail
      go_roundg (gk - 1)
      case measure => have := HF.out; have := HLT.out; omega
      case rel => exact ⟨i + 1, by rw [show ((i + 1 : Nat) : Int) = (i : Int) + 1 by omega], by have := HLT.out; omega, by have := HF.out; omega, O1.out, B1.out⟩
    · have e9 : i = m := by omega
      subst e9
      have hT : S.take i = S := by rw [HM.out]; exact List.take_length
      have HT := Lib.hid hT
      clear him ho hb hf hlt hT
      go_wp2_with fail
      go_ret
      exact ⟨_, rfl, by rw [HT.out] at HO; exact HO.out, HB.out⟩
end Go.Proofs.Ytlngdohkoeognaa
