/- Layer 3: a name written into a row; Sub. -/
import Derived.Test.YtfmgkndljppffaaD6
namespace Go.Proofs.Ytfmgkndljppffaa
open Go.RowKit Go.Maps
/-- The cells, one's name aside. -/
def setNm (L : List CR) (i : Nat) (s : ByteArray) : List CR := L.modify i fun c => { c with nm := s }
theorem setNm_len (L : List CR) (i : Nat) (s : ByteArray) : (setNm L i s).length = L.length := by simp [setNm]
theorem setNm_zero (L : List CR) (s : ByteArray) : setNm L 0 s = ren s L := by cases L <;> rfl
theorem rw5_set : ∀ (L : List CR) (i : Nat) (s : ByteArray), i < L.length → (rw5 L).set (i * 5 + 1) (.string s) = rw5 (setNm L i s)
  | [], i, s, h => by simp at h
  | c :: L, 0, s, h => by
    unfold setNm
    rw [rw5_cons]
    rfl
  | c :: L, i + 1, s, h => by
    have ih := rw5_set L i s (by simpa using h)
    have e : setNm (c :: L) (i + 1) s = c :: setNm L i s := rfl
    rw [e, rw5_cons, rw5_cons, ← ih, show (i + 1) * 5 + 1 = (i * 5 + 1) + 5 by omega]
    rfl
theorem own_set {w : World} {B q n cap i : Nat} {L : List CR} (h : w.ownsRow B 32 5 (.slice (some ⟨q, 0, none⟩) n cap) n (rw5 L)) (hl : L.length = n) (hi : i < n) (s : ByteArray) :
    (w.setCell ⟨q, i * 5 + 1, none⟩ (.string s)).ownsRow B 32 5 (.slice (some ⟨q, 0, none⟩) n cap) n (rw5 (setNm L i s)) := by
  refine ⟨by rw [rw5_len, setNm_len, hl], ?_⟩
  rcases h.2 with ⟨h', _⟩ | ⟨g', cap', cur, h', hb, hg, h1, h2, h3, h4⟩
  · simp at h'
  · simp only [Value.slice.injEq, Option.some.injEq, Addr.mk.injEq, and_true, true_and] at h'
    obtain ⟨rfl, rfl⟩ := h'
    refine .inr ⟨q, cap, cur.setIfInBounds (i * 5 + 1) (.string s), rfl, hb, ?_, h1, h2, by simpa using h3, ?_⟩
    · simp [World.setCell, Array.getElem?_modify, hg]
    · rw [Array.toList_setIfInBounds, List.take_set, h4]
      exact rw5_set L i s (by omega)
theorem own_cellq {w : World} {B q n cap i : Nat} {L : List CR} (h : w.ownsRow B 32 5 (.slice (some ⟨q, 0, none⟩) n cap) n (rw5 L)) (hi : i < n) (hl : L.length = n) : w.cell? ⟨q, i * 5 + 1, none⟩ = some (.string (gl L i).nm) ∧ w.frozen? ⟨q, i * 5 + 1, none⟩ = false := by
  refine ⟨?_, ?_⟩
  · rw [h.cellAt _ (by omega)]
    exact (rw5_at L i (by omega)).2.1
  · rcases h.2 with ⟨h', _⟩ | ⟨g', cap', cur, h', hb, hg, h1, h2, h3, h4⟩
    · simp at h'
    · simp only [Value.slice.injEq, Option.some.injEq, Addr.mk.injEq, and_true, true_and] at h'
      obtain ⟨rfl, rfl⟩ := h'
      simp [World.frozen?, hg]
theorem own_addr {w : World} {B n : Nat} {v : Value} {xs : List Value} {e : TypeId} {sz : Nat} (h : w.ownsRow B e sz v n xs) (h0 : 0 < n) : ∃ q cap, v = .slice (some ⟨q, 0, none⟩) n cap ∧ B ≤ q ∧ q < w.heap.size := by
  rcases h.2 with ⟨_, hn⟩ | ⟨q, cap, cur, rfl, hb, hg, _⟩
  · omega
  · exact ⟨q, cap, rfl, hb, (Array.getElem?_eq_some_iff.1 hg).1⟩
theorem CV.part {w : World} {b off n : Nat} {g : Nat → CR} (h : CV w (some ⟨b, off, none⟩) n g) (p e : Nat) (he : e ≤ n) : CV w (some ⟨b, off + p * 5, none⟩) (e - p) (fun i => g (p + i)) := fun i hi => by
  obtain ⟨h0, c0, c1, c2, c3, c4⟩ := h.at_ (i := p + i) (by omega)
  rw [show off + (p + i) * 5 = off + p * 5 + i * 5 by omega] at c0 c1 c2 c3 c4
  exact ⟨b, off + p * 5, rfl, h0, c0, c1, c2, c3, c4⟩
theorem cut_part (g : Nat → CR) (p e : Nat) : cut (fun i => g (p + i)) 0 (e - p) = cut g p e := by
  unfold cut
  simp
set_option maxRecDepth 20000 in
theorem sub_bad (a : Option Addr) (n cap : Nat) (g : Nat → CR) (p : Int) (w : World) (hv : CV w a n g) (hcw : CW n g) (hb : plE g n p ≠ 0) : Calls Try.prog 19 #[.slice a n cap, .int .i64 p] w fun r w' => r = .returned (.tuple #[.slice none 0 0, .int .i64 (plE g n p)]) ∧ Below w.heap.size w w' := by
  have HC := Lib.hid (place_any a n cap g p w hv hcw)
  obtain ⟨z, hz⟩ : ∃ z, z = plE g n p := ⟨_, rfl⟩
  rw [← hz] at HC hb ⊢
  have hz0 : (z == 0) = false := by rw [beq_eq_false_iff_ne]; exact hb
  clear hz hb hv hcw
  go_enter Try.func19, Try.ntmps19
  go_wp2_with fail
  with_reducible refine HC.out.mono ?_
  rintro e w1 ⟨rfl, b1⟩
  have B1 := Lib.hid b1
  clear b1
  go_wp2_with fail
  go_ret2
  exact ⟨rfl, B1.out⟩
set_option maxRecDepth 20000 in
set_option maxHeartbeats 1000000 in
theorem sub_ok (a : Option Addr) (n cap : Nat) (g : Nat → CR) (p : Nat) (w : World) (hv : CV w a n g) (hcw : CW n g) (hc : ckC g n = true) (hp : p < n) (hcap : n ≤ cap) : Calls Try.prog 19 #[.slice a n cap, .int .i64 (p : Nat)] w fun r w' => ∃ v, r = .returned (.tuple #[v, .int .i64 0]) ∧ w'.ownsRow w.heap.size 32 5 v (nx g n p - p) (rw5 (ren ⟨#[]⟩ (cut g p (nx g n p)))) ∧ Below w.heap.size w w' := by
  have HC := Lib.hid (place_any a n cap g p w hv hcw)
  rw [pl_ok hc hp] at HC
  have HS := Lib.hid (fun w1 (hv1 : CV w1 a n g) => skip_any a n cap g p _ w1 hv1 (ckC_parts hc).2.1 (ck_at hc hp).1)
  have hlt := wk_lt _ _ _ (ck_at hc hp).1
  have hn := (ckC_parts hc).2.1
  have HV := Lib.hid hv
  obtain ⟨b, off, rfl⟩ := hv.addr (by omega)
  have HT := Lib.hid (fun w1 (hv1 : CV w1 (some ⟨b, off, none⟩) n g) => twin_any (some ⟨b, off + p * 5, none⟩) (nx g n p - p) (cap - p) (fun i => g (p + i)) w1 (hv1.part p _ hlt.2) (by omega) (fun e => by cases e))
  unfold TwinPost at HT
  rw [cut_part g p (nx g n p)] at HT
  have HL : Hid ((cut g p (nx g n p)).length = nx g n p - p) := Lib.hid (by rw [cut_len])
  obtain ⟨x, hx⟩ : ∃ x, x = nx g n p := ⟨_, rfl⟩
  rw [← hx] at HS HT hlt HL ⊢
  have hi0 : (0 : Int) ≤ p := by omega
  have hi1 : (p : Int) ≤ x := by omega
  have hi2 : (x : Int) ≤ cap := by omega
  have hi3 : (0 : Int) ≤ x := by omega
  have hxp : 0 < x - p := by omega
  have hi4 : (0 : Int) < ((x - p : Nat) : Int) := by omega
  clear hx hc hp hv hcw hlt hn
  go_enter Try.func19, Try.ntmps19
  go_wp2_with fail
  with_reducible refine HC.out.mono ?_
  rintro e w1 ⟨rfl, b1⟩
  have B1 := Lib.hid b1
  clear b1
  go_wp2_with fail
  with_reducible refine (HS.out w1 (HV.out.below B1.out)).mono ?_
  rintro e w2 ⟨rfl, hq1⟩
  have hq2 := hq1.symm
  clear hq1
  subst hq2
  go_wp2_with fail
  with_reducible refine (HT.out w1 (HV.out.below B1.out)).mono ?_
  rintro e w3 ⟨v, rfl, o3, b3⟩
  obtain ⟨q, c3, rfl, hq, hq2⟩ := own_addr o3 hxp
  have k3 := own_cellq o3 hxp HL.out
  rw [Nat.zero_mul, Nat.zero_add] at k3
  obtain ⟨k4, k5⟩ := k3
  have O4 := Lib.hid (own_set o3 HL.out hxp ⟨#[]⟩)
  rw [Nat.zero_mul, Nat.zero_add, setNm_zero] at O4
  have B3 := Lib.hid (B1.out.trans (b3.mono B1.out.size))
  have HQ := Lib.hid (Nat.le_trans B1.out.size hq)
  clear b3 o3 hq HT HS HC
  go_wp2_with fail
  go_ret2
  refine ⟨_, rfl, ?_, B3.out.setCell HQ.out _⟩
  refine ⟨O4.out.1, ?_⟩
  rcases O4.out.2 with h | ⟨g', cap', cur, h', hb, rest⟩
  · exact .inl h
  · exact .inr ⟨g', cap', cur, h', Nat.le_trans B1.out.size hb, rest⟩
end Go.Proofs.Ytfmgkndljppffaa
