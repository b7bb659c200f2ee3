/- Layer 4: whatever may be, as it is written, is read (plain). -/
import Derived.Test.YtoicmcjpaodgpaaDoorBD
namespace Go.Proofs.YtoicmcjpaodgpaaDoor
open Go.RowKit
theorem cr_eta {c : CR} {k : Nat} {tx : ByteArray} {nn m : Int} (h1 : c.k = k) (h2 : c.tx = tx) (h3 : c.n = nn) (h4 : c.m = m) : c = ⟨k, c.nm, tx, nn, m⟩ := by
  cases c
  cases h1; cases h2; cases h3; cases h4
  rfl
theorem isSt_num {c : Int} (h : c = 45 ∨ isDg c = true) : isSt c = true := by
  unfold isSt
  rcases h with rfl | h
  · decide
  · rw [h]; simp
theorem st_dg {c : Int} (h : c = 45 ∨ isDg c = true) : c ≠ 123 ∧ c ≠ 91 ∧ c ≠ 34 ∧ c ≠ 116 ∧ c ≠ 102 ∧ c ≠ 110 := by
  unfold isDg at h
  simp only [Bool.and_eq_true, decide_eq_true_eq] at h
  omega
/-- A leaf is read. -/
theorem rt_leaf {s : ByteArray} {g : Nat → CR} {n p F : Nat} (r : Nat) {i : Nat} {L : List CR} (hP : Pln g n) (hp : p < n) (ho : oneP (g p) = true) (hh : headP (g p) = false) (hF0 : 1 ≤ F) (hat : AtL s i (bI (jtx g n F p))) (hf : Fo (byt s (i + (jtx g n F p).size))) (hl : L.length + 1 ≤ 2048) (op : Nat) : valM s (r + 1) (g p).nm op i L = .ok (i + (jtx g n F p).size, L ++ [g p]) ∧ isSt (byt s i) = true := by
  obtain ⟨F', rfl⟩ : ∃ F', F = F' + 1 := ⟨F - 1, by omega⟩
  have he := hP.en p hp
  have hn := hP.nn p hp
  have hlne : ¬ L.length = 2048 := by omega
  rcases one_kind ho he with k | k | k | k | k | k
  · unfold oneP at ho
    rw [if_pos k] at ho
    simp only [Bool.and_eq_true, decide_eq_true_eq] at ho
    have hc := cr_eta k (em_eq ho.1.1) ho.2 ho.1.2
    have ht : jtx g n (F' + 1) p = ⟨#[110, 117, 108, 108]⟩ := by unfold jtx; rw [if_pos k]
    rw [ht] at hat ⊢
    have hb : byt s i = 110 := hat.2.1
    have hw : wordM s [110, 117, 108, 108] i = .ok (i + 4) := word_at hat
    refine ⟨?_, by rw [hb]; decide⟩
    unfold valM
    rw [hb, if_neg (by decide), if_neg (by omega), if_neg hlne, if_neg (by decide), if_neg (by decide), if_neg (by decide), if_neg (by decide), if_neg (by decide), if_pos rfl, hw, Rs.bind_ok]
    rw [hc]
    rfl
  · unfold oneP at ho
    rw [if_neg (by omega), if_pos k] at ho
    simp only [Bool.and_eq_true, decide_eq_true_eq, Bool.or_eq_true] at ho
    rcases ho.2 with h0 | h1
    · have hc := cr_eta k (em_eq ho.1.1) h0 ho.1.2
      have ht : jtx g n (F' + 1) p = ⟨#[102, 97, 108, 115, 101]⟩ := by unfold jtx; rw [if_neg (by omega), if_pos k, if_neg (by omega)]
      rw [ht] at hat ⊢
      have hb : byt s i = 102 := hat.2.1
      have hw : wordM s [102, 97, 108, 115, 101] i = .ok (i + 5) := word_at hat
      refine ⟨?_, by rw [hb]; decide⟩
      unfold valM
      rw [hb, if_neg (by decide), if_neg (by omega), if_neg hlne, if_neg (by decide), if_neg (by decide), if_neg (by decide), if_neg (by decide), if_pos rfl, hw, Rs.bind_ok]
      rw [hc]
      rfl
    · have hc := cr_eta k (em_eq ho.1.1) h1 ho.1.2
      have ht : jtx g n (F' + 1) p = ⟨#[116, 114, 117, 101]⟩ := by unfold jtx; rw [if_neg (by omega), if_pos k, if_pos h1]
      rw [ht] at hat ⊢
      have hb : byt s i = 116 := hat.2.1
      have hw : wordM s [116, 114, 117, 101] i = .ok (i + 4) := word_at hat
      refine ⟨?_, by rw [hb]; decide⟩
      unfold valM
      rw [hb, if_neg (by decide), if_neg (by omega), if_neg hlne, if_neg (by decide), if_neg (by decide), if_neg (by decide), if_pos rfl, hw, Rs.bind_ok]
      rw [hc]
      rfl
  · unfold oneP at ho
    rw [if_neg (by omega), if_neg (by omega), if_pos k] at ho
    simp only [Bool.and_eq_true, decide_eq_true_eq] at ho
    have hc := cr_eta k (em_eq ho.1) rfl ho.2
    have ht : jtx g n (F' + 1) p = itT (g p).n := by unfold jtx; rw [if_neg (by omega), if_neg (by omega), if_pos k]
    rw [ht] at hat hf ⊢
    obtain ⟨c, rr, e1, e2⟩ := itT_first (g p).n
    have hb : byt s i = c := by rw [e1] at hat; exact hat.2.1
    have hw := num_at hn hat hf
    have hs := isSt_num e2
    have hd := st_dg e2
    refine ⟨?_, by rw [hb]; exact hs⟩
    unfold valM
    rw [hb, if_neg (by rw [hs]; decide), if_neg (by omega), if_neg hlne, if_neg hd.1, if_neg hd.2.1, if_neg hd.2.2.1, if_neg hd.2.2.2.1, if_neg hd.2.2.2.2.1, if_neg hd.2.2.2.2.2, hw, Rs.bind_ok]
    dsimp only
    rw [← hc]
  · unfold oneP at ho
    rw [if_neg (by omega), if_neg (by omega), if_neg (by omega), if_pos k] at ho
    simp only [Bool.and_eq_true, decide_eq_true_eq] at ho
    have hc := cr_eta k rfl ho.1.1 ho.1.2
    have ht : jtx g n (F' + 1) p = quT (g p).tx := by unfold jtx; rw [if_neg (by omega), if_neg (by omega), if_neg (by omega), if_pos k]
    rw [ht] at hat ⊢
    have hb : byt s i = 34 := by rw [quT_bI] at hat; exact hat.2.1
    have hw := quT_read hat
    refine ⟨?_, by rw [hb]; decide⟩
    unfold valM
    rw [hb, if_neg (by decide), if_neg (by omega), if_neg hlne, if_neg (by decide), if_neg (by decide), if_pos rfl, hw, Rs.bind_ok]
    dsimp only
    rw [mk_bI, ← hc]
  · unfold headP at hh; rw [k] at hh; simp at hh
  · unfold headP at hh; rw [k] at hh; simp at hh
/-- A value is read. -/
theorem rt_val {s : ByteArray} {g : Nat → CR} {n : Nat} (hP : Pln g n) : ∀ (r p e F i : Nat) (L : List CR), r ≤ 16 → wk g n r p = some e → n - p ≤ F → AtL s i (bI (jtx g n F p)) → Fo (byt s (i + (jtx g n F p).size)) → L.length + (e - p) ≤ 2048 → valM s (r + 1) (g p).nm (16 - r) i L = .ok (i + (jtx g n F p).size, L ++ cut g p e) ∧ isSt (byt s i) = true
  | 0, p, e, F, i, L, hr, hw, hF, hat, hf, hl => by
    rw [wk_z] at hw
    split at hw
    · cases hw
    split at hw
    case isFalse => cases hw
    rename_i hpn hoh
    cases hw
    simp only [Bool.and_eq_true, Bool.not_eq_true'] at hoh
    have h := rt_leaf (s := s) (i := i) (L := L) 0 hP (by omega) hoh.1 hoh.2 (by omega) hat hf (by omega) (16 - 0)
    rw [cut_cons g (by omega), cut_nil]
    exact h
  | r + 1, p, e, F, i, L, hr, hw, hF, hat, hf, hl => by
    have hlt := wk_lt _ p e hw
    rw [wk_s] at hw
    split at hw
    · cases hw
    split at hw
    case isFalse => cases hw
    rename_i hpn ho
    split at hw
    case isFalse hh =>
      cases hw
      have h := rt_leaf (s := s) (i := i) (L := L) (r + 1) hP (by omega) ho (by simpa using hh) (by omega) hat hf (by omega) (16 - (r + 1))
      rw [cut_cons g (by omega), cut_nil]
      exact h
    rename_i hh
    obtain ⟨F', rfl⟩ : ∃ F', F = F' + 1 := ⟨F - 1, by omega⟩
    have hlne : ¬ L.length = 2048 := by omega
    have h16 : ¬ (16 - (r + 1)) = 16 := by omega
    have hI : IHV s g n r (jtx g n F') (fun nm' j M => valM s (r + 1) nm' (16 - (r + 1) + 1) j M) p := by
      intro a e' i' L' ha hw' hat' hf' hl'
      have h := rt_val hP r a e' F' i' L' (by omega) hw' (by omega) hat' hf' hl'
      rw [show 16 - r = 16 - (r + 1) + 1 by omega] at h
      exact h
    unfold headP at hh
    simp only [Bool.or_eq_true, decide_eq_true_eq] at hh
    unfold oneP at ho
    rw [if_neg (by omega), if_neg (by omega), if_neg (by omega), if_neg (by omega), if_neg (by omega), if_pos hh] at ho
    simp only [Bool.and_eq_true, decide_eq_true_eq] at ho
    have hm : (((g p).m.toNat : Nat) : Int) = (g p).m := by omega
    rcases hh with k | k
    · have hc := cr_eta k (em_eq ho.1.2) ho.1.1 hm.symm
      rw [k] at hw
      have hw : kidsF (wk g n r) g n false (g p).m.toNat [] (p + 1) = some e := hw
      have ht : bI (jtx g n (F' + 1) p) = 91 :: (kl (jtx g n F') g n false (g p).m.toNat 0 (p + 1) ++ [93]) := by
        unfold jtx
        rw [if_neg (by omega), if_neg (by omega), if_neg (by omega), if_neg (by omega), if_neg (by omega), bI_app, bI_app, jki_all]
        rfl
      have hsz : (jtx g n (F' + 1) p).size = (kl (jtx g n F') g n false (g p).m.toNat 0 (p + 1)).length + 2 := by rw [← bI_len, ht]; simp
      rw [ht] at hat
      obtain ⟨_, hb, hat2⟩ := hat
      have h := rt_lst (by omega) hI L (g p).nm (g p).m.toNat (p + 1) e (i + 1) (by omega) hw hat2 (by omega)
      refine ⟨?_, by rw [hb]; decide⟩
      rw [valM, hb, if_neg (by decide), if_neg (fun hc => h16 hc.2), if_neg hlne, if_neg (by decide), if_pos rfl, h, hsz, cut_cons g hlt.1, ← hc]
      simp
      omega
    · have hc := cr_eta k (em_eq ho.1.2) ho.1.1 hm.symm
      rw [k] at hw
      have hw : kidsF (wk g n r) g n true (g p).m.toNat [] (p + 1) = some e := hw
      have ht : bI (jtx g n (F' + 1) p) = 123 :: (kl (jtx g n F') g n true (g p).m.toNat 0 (p + 1) ++ [125]) := by
        unfold jtx
        rw [if_neg (by omega), if_neg (by omega), if_neg (by omega), if_neg (by omega), if_pos k, bI_app, bI_app, jki_all]
        rfl
      have hsz : (jtx g n (F' + 1) p).size = (kl (jtx g n F') g n true (g p).m.toNat 0 (p + 1)).length + 2 := by rw [← bI_len, ht]; simp
      rw [ht] at hat
      obtain ⟨_, hb, hat2⟩ := hat
      have h := rt_obj (by omega) hI L (g p).nm (g p).m.toNat (p + 1) e (i + 1) (by omega) hw hat2 (by omega)
      refine ⟨?_, by rw [hb]; decide⟩
      rw [valM, hb, if_neg (by decide), if_neg (fun hc => h16 hc.2), if_neg hlne, if_pos rfl, h, hsz, cut_cons g hlt.1, ← hc]
      simp
      omega
end Go.Proofs.YtoicmcjpaodgpaaDoor
