import Derived.Test.YtoicmcjpaodgpaaDoorK5
import Derived.Deep.DeepCutAuto
import Derived.Deep.RegionWith
import Derived.Lib.ItoaLen
import Derived.Test.YtoicmcjpaodgpaaDoorRows
import Derived.Test.YtoicmcjpaodgpaaDoorTie
import Derived.Test.YtoicmcjpaodgpaaDoorCards
import Derived.Test.YtoicmcjpaodgpaaDoorK1
import Derived.WalkKit
import Derived.ProofKit
import Derived.OpenShut
import Derived.LaidMore
import Derived.Stop.Joined
import Derived.SevenTiedAt
import Derived.Lib.LaidTab
import Derived.Stop.LaidErr
import Derived.ShutString
import Derived.ChangeOld
import Derived.Carry
import Derived.Test.YtoicmcjpaodgpaaDoorShelf
import Derived.WalkSpells
import Derived.WalkLawsBesides
import Derived.Outline
import Derived.Laws.Externs
import Derived.BigQuiet
import Derived.Lib.Hide
import Derived.Deep.QuietTactic
import Derived.Lib.Strings
import Derived.Test.YtoicmcjpaodgpaaDoorK4
import Derived.Laws.IdiomStrings
import Derived.Lib.BufferRead
import Derived.OwnWalk
/- Layer 4: the program's write. -/
namespace Go.Proofs.YtoicmcjpaodgpaaDoor
open Go.RowKit Go.Maps
def WP (w0 : World) (L : List Int) (T : ByteArray) (e : Nat) (r : Ending) (w' : World) : Prop := ∃ v', r = .returned (.tuple #[v', .int .i64 (e : Nat)]) ∧ BO w0 w' v' (L ++ bI T)
structure LenL (k n p : Nat) : Prop where
  le : k + 40000 * (n - p) ≤ 90000000
structure SzR (k n p e : Nat) : Prop where
  le : k + 40000 * (n - e) ≤ 40000 * (n - p) - 20000
theorem BO.own_lt {w0 w : World} {v : Value} {L : List Int} (h : BO w0 w v L) : ∀ j, v.ownBlock = some j → j < w.heap.size := fun j hj => by
  rcases h.1.2 with ⟨rfl, _⟩ | ⟨g, cap, cur, rfl, hg, hc, _⟩
  · cases hj
  · simp only [Value.ownBlock, Option.some.injEq] at hj
    subst hj
    exact (Array.getElem?_eq_some_iff.1 hc).1
theorem Kp.off {w w' : World} {v v' : Value} (h : Kp w v w' v') {k : Nat} (h1 : ∀ j, v.ownBlock = some j → j < k) (h2 : k < w.heap.size) : ∀ j, v'.ownBlock = some j → j ≠ k := fun j hj => by
  rcases h.2 with e | ⟨g, e, hg⟩
  · rw [e] at hj; exact Nat.ne_of_lt (h1 j hj)
  · rw [e] at hj; have := Option.some.inj hj; omega
theorem box_many {W1 w1 : World} {v v1 : Value} {o : Obj} {k : Nat} {x0 x1 x2 x3 x4 : Value} {ty : TypeId} (q : Kp (W1.alloc o) v w1 v1) (hk : W1.heap[k]? = some (.cells #[x0, x1, x2, x3, x4] ty)) (hv : ∀ j, v.ownBlock = some j → j < k) : w1.cell? ⟨k, 4, none⟩ = some x4 := by
  have h := (((Kp.refl W1 v).alloc o).trans q).keep hk (fun j hj => Nat.ne_of_lt (hv j hj))
  simp [World.cell?, h]
theorem ret_vi {v : Value} {x y : Int} (h : x = y) : Ending.returned (.tuple #[v, .int .i64 x]) = .returned (.tuple #[v, .int .i64 y]) := by rw [h]
theorem WP.mk {w0 w' : World} {L : List Int} {T : ByteArray} {e : Nat} {v : Value} {x : Int} (h : x = (e : Nat)) (hb : BO w0 w' v (L ++ bI T)) : WP w0 L T e (.returned (.tuple #[v, .int .i64 x])) w' := ⟨v, ret_vi h, hb⟩
theorem one_kind {c : CR} (h1 : oneP c = true) (h2 : enB c = false) : c.k = 0 ∨ c.k = 1 ∨ c.k = 2 ∨ c.k = 3 ∨ c.k = 6 ∨ c.k = 7 := by
  unfold enB at h2
  simp only [Bool.or_eq_false_iff, decide_eq_false_iff_not] at h2
  unfold oneP at h1
  repeat' split at h1
  all_goals first
    | (cases h1; done)
    | omega
theorem leaf_end {g : Nat → CR} {n p e : Nat} (h : wk g n 16 p = some e) (hk : (g p).k ≠ 6) (hk7 : (g p).k ≠ 7) : e = p + 1 := by
  obtain ⟨_, h2, _, h4, _⟩ := kids_bd h
  have hm : (g p).m = 0 := one_leaf h4 (by unfold headP; simp [hk, hk7])
  rw [hm] at h2
  exact h2.symm
theorem ifl_len (i : Nat) (L : List Int) : (if 0 < i then L ++ [44] else L).length ≤ L.length + 1 := by split <;> simp
theorem jki_bI {V : Nat → ByteArray} {g : Nat → CR} {n p i : Nat} (L : List Int) : (if 0 < i then (L ++ bI (jki V g n false p i)) ++ [44] else L ++ bI (jki V g n false p i)) ++ bI (V (bd g n (p + 1) i)) = L ++ bI (jki V g n false p (i + 1)) := by
  rw [show jki V g n false p (i + 1) = (if 0 < i then jki V g n false p i ++ ⟨#[44]⟩ else jki V g n false p i) ++ V (bd g n (p + 1) i) from rfl, bI_app]
  split
  · rw [bI_app, List.append_assoc, List.append_assoc, List.append_assoc]; rfl
  · rw [List.append_assoc]
theorem jki_bIo {V : Nat → ByteArray} {g : Nat → CR} {n p i : Nat} (L : List Int) : ((if 0 < i then (L ++ bI (jki V g n true p i)) ++ [44] else L ++ bI (jki V g n true p i)) ++ (quL (g (bd g n (p + 1) i)).nm (g (bd g n (p + 1) i)).nm.size ++ [34]) ++ [58]) ++ bI (V (bd g n (p + 1) i)) = L ++ bI (jki V g n true p (i + 1)) := by
  rw [show jki V g n true p (i + 1) = ((if 0 < i then jki V g n true p i ++ ⟨#[44]⟩ else jki V g n true p i) ++ (quT (g (bd g n (p + 1) i)).nm ++ ⟨#[58]⟩)) ++ V (bd g n (p + 1) i) from rfl, bI_app, bI_app, bI_app, bI_qu]
  split
  · rw [bI_app]
    simp only [List.append_assoc]; rfl
  · simp only [List.append_assoc]; rfl
set_option maxRecDepth 20000 in
set_option maxHeartbeats 4000000 in
theorem jwrite_any (w0 : World) (t : Tabs w0) (a : Option Addr) (n cap : Nat) (g : Nat → CR) (hs : SmJ g n) (hn : n ≤ 2048) (hv : CV w0 a n g) : ∀ (f p e : Nat) (W : World) (v : Value) (L : List Int), n - p ≤ f → wk g n 16 p = some e → BO w0 W v L → L.length + 40000 * (n - p) ≤ 90000000 → Calls Tryd.prog 27 #[v, .slice a n cap, .int .i64 (p : Nat)] W (WP w0 L (jtx g n f p) e) := by
  intro f
  induction f with
  | zero => intro p e W v L h1 h2 _ _; have := wk_lt _ _ _ h2; omega
  | succ f ih =>
    intro p e W v L hf hw hO hL
    obtain ⟨hk1, hk2, hp, hone, hm0⟩ := kids_bd hw
    have hle := wk_lt _ _ _ hw
    obtain ⟨b, off, rfl⟩ := hv.addr (by omega)
    have HV := Lib.hid hv
    have HT := Lib.hid t
    have HIH := Lib.hid ih
    have HW := Lib.hid hw
    have HSM := Lib.hid hs
    obtain ⟨_, c0, c1, c2, c3, c4⟩ := (hv.below hO.2).at_ hp
    have hp0 : (0 : Int) ≤ p := by omega
    have hp1 : (p : Int) < n := by omega
    have hn1 : (n : Int) ≤ 2048 := by omega
    have HX : Hid (SzR (jtx g n (f + 1) p).size n p e) := Lib.hid ⟨jtx_size hs (f + 1) p e hf hw⟩
    have HKD := one_kind hone (hs.pl p hp)
    have HNN := Lib.hid (hs.nn p hp)
    have HTX := Lib.hid (hs.tx p hp)
    obtain ⟨R, hR⟩ : ∃ R, R = jtx g n (f + 1) p := ⟨_, rfl⟩
    rw [← hR] at HX ⊢
    unfold jtx at hR
    have HR := Lib.hid hR
    have HLE : e ≠ p + 1 → (g p).k = 6 ∨ (g p).k = 7 := fun h => by
      by_cases h6 : (g p).k = 6
      · exact .inl h6
      · by_cases h7 : (g p).k = 7
        · exact .inr h7
        · exact absurd (leaf_end hw h6 h7) h
    have HK1 := Lib.hid hk1
    have HK2 := Lib.hid hk2
    have HBG := Lib.hid (bd_ge hk1)
    have HFF := Lib.hid hf
    have HL : Hid (LenL L.length n p) := Lib.hid ⟨hL⟩
    have HPN := Lib.hid hp
    have HON := Lib.hid hone
    obtain ⟨kk, hkk⟩ : ∃ kk, kk = (g p).k := ⟨_, rfl⟩
    obtain ⟨nn, hnn⟩ : ∃ x, x = (g p).n := ⟨_, rfl⟩
    obtain ⟨mm, hmm⟩ : ∃ x, x = (g p).m := ⟨_, rfl⟩
    obtain ⟨tt, htt⟩ : ∃ x, x = (g p).tx := ⟨_, rfl⟩
    obtain ⟨ss, hss⟩ : ∃ x, x = (g p).nm := ⟨_, rfl⟩
    rw [← hkk] at c0 HKD HLE
    rw [← hss] at c1
    rw [← htt] at c2 HTX
    rw [← hnn] at c3 HNN
    rw [← hmm] at c4 HK1 HK2 HBG hm0
    rw [← hkk, ← hnn, ← hmm, ← htt] at HR
    clear hkk hnn hmm htt hss hR hv t ih hw hs hk1 hk2 hone hf hL
    obtain ⟨W1, hW1⟩ : ∃ V, V = W.alloc (.cells #[.int .u8 kk, .string ss, .string tt, .int .i64 nn, .int .i64 mm] 42) := ⟨_, rfl⟩
    have HO1 : Hid (BO w0 W1 v L) := Lib.hid (by rw [hW1]; exact hO.alloc _)
    have hblk : W1.heap[W.heap.size]? = some (.cells #[.int .u8 kk, .string ss, .string tt, .int .i64 nn, .int .i64 mm] 42) := by rw [hW1]; exact heap_alloc_new W _
    have e0 : W1.cell? ⟨W.heap.size, 0, none⟩ = some (.int .u8 kk) := by simp [World.cell?, hblk]
    have e2 : W1.cell? ⟨W.heap.size, 2, none⟩ = some (.string tt) := by simp [World.cell?, hblk]
    have e3 : W1.cell? ⟨W.heap.size, 3, none⟩ = some (.int .i64 nn) := by simp [World.cell?, hblk]
    have e4 : W1.cell? ⟨W.heap.size, 4, none⟩ = some (.int .i64 mm) := by simp [World.cell?, hblk]
    obtain ⟨ad, cp, rfl⟩ := hO.slice
    have HP1 : Hid (e ≠ p + 1 → False) ∨ (kk = 6 ∨ kk = 7) := by
      by_cases h : e = p + 1
      · exact .inl (Lib.hid (fun k => k h))
      · exact .inr (HLE h)
    have HBLK := Lib.hid hblk
    have HOWN := Lib.hid hO.own_lt
    have HEN : Hid (e ≤ n) := Lib.hid hle.2
    clear hblk hO HLE
    go_enter Tryd.func27, Tryd.ntmps27
    go_upto_region 2 with fail
    rw [← hW1]
    clear c0 c1 c2 c3 c4 hW1
    go_upto_region 3 with fail
    rcases HKD with rfl | rfl | rfl | rfl | rfl | rfl
    · have HE1 : Hid (e = p + 1) := Lib.hid (by rcases HP1 with h | h | h; exact Classical.byContradiction h.out; omega; omega)
      clear HP1
      have HE : Hid (R = (⟨#[110, 117, 108, 108]⟩ : ByteArray)) := HR
      go_wp2_with (at_builtin; refine app_text rfl (.tmp 103) (.const (.string (⟨#[110, 117, 108, 108]⟩ : ByteArray))) rfl (.slice ad L.length cp) L (⟨#[110, 117, 108, 108]⟩ : ByteArray) (by simp [Act.eval, Act.put]) (by simp [Act.eval, Act.put]) HO1.out (by have := HL.out.le; show _ + 4 ≤ _; omega) ?_; intro v1 w1 b1; rw [← HE.out] at b1; have B1 := Lib.hid b1; clear b1)
      go_ret2
      exact WP.mk (by have := HE1.out; omega) B1.out
    · have HE1 : Hid (e = p + 1) := Lib.hid (by rcases HP1 with h | h | h; exact Classical.byContradiction h.out; omega; omega)
      clear HP1
      by_cases hz : nn = 1
      · subst hz
        have HE : Hid (R = (⟨#[116, 114, 117, 101]⟩ : ByteArray)) := HR
        go_wp2_with (at_builtin; refine app_text rfl (.tmp 25) (.const (.string (⟨#[116, 114, 117, 101]⟩ : ByteArray))) rfl (.slice ad L.length cp) L (⟨#[116, 114, 117, 101]⟩ : ByteArray) (by simp [Act.eval, Act.put]) (by simp [Act.eval, Act.put]) HO1.out (by have := HL.out.le; show _ + 4 ≤ _; omega) ?_; intro v1 w1 b1; rw [← HE.out] at b1; have B1 := Lib.hid b1; clear b1)
        go_ret2
        exact WP.mk (by have := HE1.out; omega) B1.out
      · have HE : Hid (R = (⟨#[102, 97, 108, 115, 101]⟩ : ByteArray)) := Lib.hid (by rw [HR.out, if_neg (by decide), if_pos rfl, if_neg hz])
        have g0 : (nn == 1) = false := by rw [beq_eq_false_iff_ne]; exact hz
        clear hz HR
        go_wp2_with (at_builtin; refine app_text rfl (.tmp 28) (.const (.string (⟨#[102, 97, 108, 115, 101]⟩ : ByteArray))) rfl (.slice ad L.length cp) L (⟨#[102, 97, 108, 115, 101]⟩ : ByteArray) (by simp [Act.eval, Act.put]) (by simp [Act.eval, Act.put]) HO1.out (by have := HL.out.le; show _ + 5 ≤ _; omega) ?_; intro v1 w1 b1; rw [← HE.out] at b1; have B1 := Lib.hid b1; clear b1)
        go_ret2
        exact WP.mk (by have := HE1.out; omega) B1.out
    · have HE1 : Hid (e = p + 1) := Lib.hid (by rcases HP1 with h | h | h; exact Classical.byContradiction h.out; omega; omega)
      clear HP1
      have HE : Hid (R = itT nn) := HR
      have HC := Lib.hid (swrite_any nn W1 (HT.out.later HO1.out.2) HNN.out)
      have hzz := itT_size (i := nn) HNN.out
      obtain ⟨T, hT⟩ : ∃ T, T = itT nn := ⟨_, rfl⟩
      rw [← hT] at HE HC hzz
      have HZ := Lib.hid hzz
      clear HR hT hzz
      go_wp2_with fail
      refine HC.out.mono ?_
      rintro r w2 ⟨rfl, b2⟩
      have HO2 := Lib.hid (HO1.out.up b2)
      clear b2
      go_wp2_with (at_builtin; refine app_text rfl (.tmp 33) (.tmp 36) rfl (.slice ad L.length cp) L T (by simp [Act.eval, Act.put]) (by simp [Act.eval, Act.put]) HO2.out (by have := HL.out.le; have := HZ.out; omega) ?_; intro v1 w1 b1; rw [← HE.out] at b1; have B1 := Lib.hid b1; clear b1)
      go_ret2
      exact WP.mk (by have := HE1.out; omega) B1.out
    · have HE1 : Hid (e = p + 1) := Lib.hid (by rcases HP1 with h | h | h; exact Classical.byContradiction h.out; omega; omega)
      clear HP1
      have HE : Hid (R = quT tt) := HR
      have HC := Lib.hid (jquote_app tt w0 W1 _ L HO1.out (by have := HL.out.le; omega) (by have := HTX.out; omega))
      have HB : Hid (L ++ bI R = L ++ (quL tt tt.size ++ [34])) := Lib.hid (by rw [HE.out, bI_qu])
      clear HR HE
      go_wp2_with fail
      refine HC.out.mono ?_
      rintro r w2 ⟨v2, rfl, b2, _⟩
      rw [← HB.out] at b2
      have B1 := Lib.hid b2
      clear b2
      go_wp2_with fail
      go_ret2
      exact WP.mk (by have := HE1.out; omega) B1.out
    · obtain ⟨m, hm⟩ : ∃ m : Nat, m = mm.toNat := ⟨_, rfl⟩
      have hmi : mm = (m : Nat) := by omega
      subst hmi
      rw [← hm] at HK1 HK2 HBG
      have HE : Hid (R = (⟨#[91]⟩ : ByteArray) ++ jki (jtx g n f) g n false p m ++ (⟨#[93]⟩ : ByteArray)) := Lib.hid (by have h := HR.out; rw [← hm] at h; exact h)
      clear hm hm0 HP1 HR
      have HJ := Lib.hid (fun k (hk : k ≤ m) => jki_size (V := jtx g n f) (obj := false) (p := p) HSM.out k (fun i hi => by
        have hb := HBG.out i (by omega)
        have hl := wk_lt _ _ _ (HK1.out i (by omega))
        exact ⟨by omega, hl.1, hl.2, jtx_size HSM.out f _ _ (by have := HFF.out; omega) (HK1.out i (by omega))⟩))
      have HBN := Lib.hid (fun k (hk : k ≤ m) => show bd g n (p + 1) k ≤ n by
        rcases Nat.lt_or_ge k m with h | h
        · exact Nat.le_of_lt (Nat.lt_of_lt_of_le (wk_lt _ _ _ (HK1.out k h)).1 (wk_lt _ _ _ (HK1.out k h)).2)
        · rw [show k = m by omega, HK2.out]; exact HEN.out)
      clear e2 e3
      go_wp2_with (at_builtin; refine app_bytes2 rfl (.tmp 48) (.tmp 49) rfl (.slice ad L.length cp) L [91] W1.heap.size (by simp [Act.eval, Act.put]) (by simp [Act.eval, Act.put]) (HO1.out.alloc _) (heap_alloc_new _ _) (by have := HL.out.le; simp; omega) ?_; intro v1 w1 b1 q1; have B1 := Lib.hid b1; have e4 := box_many q1 HBLK.out HOWN.out; clear b1 q1)
      go_loopw [0, 9, 10, 53] (fun v0 v9 _ vk wr => ∃ (i : Nat) (v : Value), i ≤ m ∧ vk = .int .i64 i ∧ v9 = .int .i64 (bd g n (p + 1) i : Nat) ∧ v = v0 ∧ Hid (BO w0 wr v (L ++ [91] ++ bI (jki (jtx g n f) g n false p i)))) (fun _ _ _ vk _ => m - (intOf vk).toNat)
      case atStart => exact ⟨0, _, Nat.zero_le _, rfl, rfl, rfl, Lib.hid (by rw [show bI (jki (jtx g n f) g n false p 0) = [] from rfl, List.append_nil]; exact B1.out)⟩
      case round =>
        obtain ⟨i, v, hi, rfl, rfl, rfl, HBC⟩ := hrel
        have HJi := Lib.hid (HJ.out i hi)
        have HBGi := Lib.hid (HBG.out i hi)
        have HBNi := Lib.hid (HBN.out i hi)
        by_cases him : i < m
        · have hii : (i : Int) < m := by omega
          have hib : (i : Int) ≤ 2048 := by have h1 := HBGi.out; have h2 := HBNi.out; omega
          have HKi := Lib.hid (HK1.out i him)
          have HCAT := Lib.hid (jki_bI (V := jtx g n f) (g := g) (n := n) (p := p) (i := i) (L ++ [91]))
          obtain ⟨J, hJ⟩ : ∃ J, J = jki (jtx g n f) g n false p i := ⟨_, rfl⟩
          rw [← hJ] at HBC HJi HCAT
          obtain ⟨q, hq⟩ : ∃ q, q = bd g n (p + 1) i := ⟨_, rfl⟩
          obtain ⟨q2, hq2⟩ : ∃ q2, q2 = bd g n (p + 1) (i + 1) := ⟨_, rfl⟩
          have HQ2 := Lib.hid hq2
          rw [← hq, ← hq2] at HKi
          rw [← hq] at HJi HBGi HBNi HCAT ⊢
          clear hJ hq hq2
          have HLL : Hid (L.length + J.size + 40000 * (n - q) + 20000 ≤ 90000000) := Lib.hid (by have h1 := HJi.out; have h2 := HL.out.le; have h3 := HPN.out; omega)
          have HQL2 := wk_lt _ _ _ HKi.out
          have hq0 : (0 : Int) ≤ q := by omega
          have hqn : (q : Int) < n := by omega
          have HQN : Hid (q < n) := Lib.hid (by omega)
          go_wp2_with fail
          refine (between_any i w0 _ _ _ HBC.out (by have := HLL.out; simp only [List.length_append, List.length_singleton, bI_len]; omega)).mono ?_
          rintro r wa ⟨va, rfl, ba, _⟩
          have BA := Lib.hid ba
          clear ba
          go_wp2_with fail
          refine (HIH.out q q2 _ va _ (by have := HBGi.out; have := HFF.out; omega) HKi.out BA.out (by have := HLL.out; have h2 := ifl_len i (L ++ [91] ++ bI J); simp only [List.length_append, List.length_singleton, bI_len] at h2 ⊢; omega)).mono ?_
          rintro r wb ⟨vb, rfl, bb⟩
          rw [HCAT.out] at bb
          have BB := Lib.hid bb
          clear bb
          go_wp2_with fail
          go_roundw
          case rel => exact ⟨i + 1, _, by omega, by go_num, by rw [HQ2.out], rfl, BB⟩
          case measure => (simp [intOf]; omega)
        · have hie : i = m := by omega
          subst hie
          have hz : ¬ ((i : Int) < (i : Int)) := by omega
          have HRB : Hid (L ++ [91] ++ bI (jki (jtx g n f) g n false p i) ++ [93] = L ++ bI R) := Lib.hid (by rw [HE.out, bI_app, bI_app, show bI (⟨#[91]⟩ : ByteArray) = [91] from rfl, show bI (⟨#[93]⟩ : ByteArray) = [93] from rfl]; simp only [List.append_assoc])
          have HEE := Lib.hid HK2.out
          obtain ⟨J, hJ⟩ : ∃ J, J = jki (jtx g n f) g n false p i := ⟨_, rfl⟩
          rw [← hJ] at HBC HJi HRB
          obtain ⟨q, hq⟩ : ∃ q, q = bd g n (p + 1) i := ⟨_, rfl⟩
          rw [← hq] at HEE ⊢
          clear hJ hq
          go_wp2_with (at_builtin; refine app_bytes2 rfl (.tmp 66) (.tmp 67) rfl v (L ++ [91] ++ bI J) [93] wr.heap.size (by simp [Act.eval, Act.put]) (by simp [Act.eval, Act.put]) (HBC.out.alloc _) (heap_alloc_new _ _) (by have := HJi.out; have := HL.out.le; simp only [List.length_append, List.length_singleton, bI_len]; omega) ?_; intro v2 w2 b2 _; rw [HRB.out] at b2; have B2 := Lib.hid b2; clear b2)
          go_ret2
          exact WP.mk (by rw [HEE.out]) B2.out
    · obtain ⟨m, hm⟩ : ∃ m : Nat, m = mm.toNat := ⟨_, rfl⟩
      have hmi : mm = (m : Nat) := by omega
      subst hmi
      rw [← hm] at HK1 HK2 HBG
      have HE : Hid (R = (⟨#[123]⟩ : ByteArray) ++ jki (jtx g n f) g n true p m ++ (⟨#[125]⟩ : ByteArray)) := Lib.hid (by have h := HR.out; rw [← hm] at h; exact h)
      clear hm hm0 HP1 HR
      have HJ := Lib.hid (fun k (hk : k ≤ m) => jki_size (V := jtx g n f) (obj := true) (p := p) HSM.out k (fun i hi => by
        have hb := HBG.out i (by omega)
        have hl := wk_lt _ _ _ (HK1.out i (by omega))
        exact ⟨by omega, hl.1, hl.2, jtx_size HSM.out f _ _ (by have := HFF.out; omega) (HK1.out i (by omega))⟩))
      have HBN := Lib.hid (fun k (hk : k ≤ m) => show bd g n (p + 1) k ≤ n by
        rcases Nat.lt_or_ge k m with h | h
        · exact Nat.le_of_lt (Nat.lt_of_lt_of_le (wk_lt _ _ _ (HK1.out k h)).1 (wk_lt _ _ _ (HK1.out k h)).2)
        · rw [show k = m by omega, HK2.out]; exact HEN.out)
      clear e2 e3
      go_wp2_with (at_builtin; refine app_bytes2 rfl (.tmp 72) (.tmp 73) rfl (.slice ad L.length cp) L [123] W1.heap.size (by simp [Act.eval, Act.put]) (by simp [Act.eval, Act.put]) (HO1.out.alloc _) (heap_alloc_new _ _) (by have := HL.out.le; simp; omega) ?_; intro v1 w1 b1 q1; have B1 := Lib.hid b1; have e4 := box_many q1 HBLK.out HOWN.out; clear b1 q1)
      go_loopw [0, 9, 11, 77] (fun v0 v9 _ vk wr => ∃ (i : Nat) (v : Value), i ≤ m ∧ vk = .int .i64 i ∧ v9 = .int .i64 (bd g n (p + 1) i : Nat) ∧ v = v0 ∧ Hid (BO w0 wr v (L ++ [123] ++ bI (jki (jtx g n f) g n true p i)))) (fun _ _ _ vk _ => m - (intOf vk).toNat)
      case atStart => exact ⟨0, _, Nat.zero_le _, rfl, rfl, rfl, Lib.hid (by rw [show bI (jki (jtx g n f) g n true p 0) = [] from rfl, List.append_nil]; exact B1.out)⟩
      case round =>
        obtain ⟨i, v, hi, rfl, rfl, rfl, HBC⟩ := hrel
        have HJi := Lib.hid (HJ.out i hi)
        have HBGi := Lib.hid (HBG.out i hi)
        have HBNi := Lib.hid (HBN.out i hi)
        by_cases him : i < m
        · have hii : (i : Int) < m := by omega
          have hib : (i : Int) ≤ 2048 := by have h1 := HBGi.out; have h2 := HBNi.out; omega
          have HKi := Lib.hid (HK1.out i him)
          have HCAT := Lib.hid (jki_bIo (V := jtx g n f) (g := g) (n := n) (p := p) (i := i) (L ++ [123]))
          obtain ⟨J, hJ⟩ : ∃ J, J = jki (jtx g n f) g n true p i := ⟨_, rfl⟩
          rw [← hJ] at HBC HJi HCAT
          obtain ⟨q, hq⟩ : ∃ q, q = bd g n (p + 1) i := ⟨_, rfl⟩
          obtain ⟨q2, hq2⟩ : ∃ q2, q2 = bd g n (p + 1) (i + 1) := ⟨_, rfl⟩
          have HQ2 := Lib.hid hq2
          rw [← hq, ← hq2] at HKi
          rw [← hq] at HJi HBGi HBNi HCAT ⊢
          clear hJ hq hq2
          have HLL : Hid (L.length + J.size + 40000 * (n - q) + 20000 ≤ 90000000) := Lib.hid (by have h1 := HJi.out; have h2 := HL.out.le; have h3 := HPN.out; omega)
          have HQL2 := wk_lt _ _ _ HKi.out
          have hq0 : (0 : Int) ≤ q := by omega
          have hqn : (q : Int) < n := by omega
          have HQN : Hid (q < n) := Lib.hid (by omega)
          have d1 := ((HV.out.below HBC.out.2).at_ HQN.out).2.2.1
          obtain ⟨nq, hnq⟩ : ∃ x, x = (g q).nm := ⟨_, rfl⟩
          have HNQ : Hid (nq.size ≤ 3000) := Lib.hid (by rw [hnq]; exact HSM.out.nm q HQN.out)
          have HQ : Hid (∀ w', Below w0.heap.size w0 w' → (fun w' => Below w0.heap.size w0 w' ∧ w'.cell? ⟨b, off + q * 5 + 1, none⟩ = some (.string nq)) w') := Lib.hid (fun w' k => ⟨k, by rw [hnq]; exact ((HV.out.below k).at_ HQN.out).2.2.1⟩)
          have HQL : Hid ((quL nq nq.size).length ≤ 18001) := Lib.hid (by have h1 := quL_len nq nq.size; have h2 := HNQ.out; omega)
          rw [← hnq] at HCAT
          clear d1 hnq
          go_wp2_with fail
          refine wp_region_held_drew (S := (fun w' => Below w0.heap.size w0 w' ∧ w'.cell? ⟨b, off + q * 5 + 1, none⟩ = some (.string nq))) (by kernel_rfl) (HQ.out _ HBC.out.drew.2) (fun hHeld => ?_)
          refine wpAnyH_take (i := 0) (oi := { dst := some 80, op := Op.move (Operand.tmp 0), type := 44, pos := "json.go:43", after := #[], guard := none }) (v := ?_) rfl (by kernel_rfl) (by kernel_rfl) (by kernel_rfl) (fun _ _ _ h => h) (Or.inl ⟨by rfl, ?_⟩) hHeld ?_
          rotate_left
          · (intro w hSw; (try dsimp only at hSw); go_simp <;> with_reducible rfl)
          try simp only [Act.put, List.setIfInBounds_toArray, List.set_cons_zero, List.set_cons_succ]
          refine wpAnyH_take (i := 1) (oi := { dst := some 81, op := Op.move (Operand.tmp 11), type := 3, pos := "json.go:43", after := #[], guard := none }) (v := ?_) rfl (by kernel_rfl) (by kernel_rfl) (by kernel_rfl) (fun _ _ _ h => h) (Or.inl ⟨by rfl, ?_⟩) hHeld ?_
          rotate_left
          · (intro w hSw; (try dsimp only at hSw); go_simp <;> with_reducible rfl)
          try simp only [Act.put, List.setIfInBounds_toArray, List.set_cons_zero, List.set_cons_succ]
          refine wpAnyH_take (i := 3) (oi := { dst := some 83, op := Op.move (Operand.tmp 1), type := 26, pos := "json.go:43", after := #[], guard := none }) (v := ?_) rfl (by kernel_rfl) (by kernel_rfl) (by kernel_rfl) (fun _ _ _ h => h) (Or.inl ⟨by rfl, ?_⟩) hHeld ?_
          rotate_left
          · (intro w hSw; (try dsimp only at hSw); go_simp <;> with_reducible rfl)
          try simp only [Act.put, List.setIfInBounds_toArray, List.set_cons_zero, List.set_cons_succ]
          refine wpAnyH_take (i := 4) (oi := { dst := some 84, op := Op.move (Operand.tmp 9), type := 3, pos := "json.go:43", after := #[], guard := none }) (v := ?_) rfl (by kernel_rfl) (by kernel_rfl) (by kernel_rfl) (fun _ _ _ h => h) (Or.inl ⟨by rfl, ?_⟩) hHeld ?_
          rotate_left
          · (intro w hSw; (try dsimp only at hSw); go_simp <;> with_reducible rfl)
          try simp only [Act.put, List.setIfInBounds_toArray, List.set_cons_zero, List.set_cons_succ]
          refine wpAnyH_take (i := 5) (oi := { dst := some 85, op := Op.indexAddr 26 (Operand.tmp 83) (Operand.tmp 84), type := 0, pos := "json.go:43", after := #[{ on := 3, ground := Ground.data }, { on := 4, ground := Ground.data }], guard := none }) (v := ?_) rfl (by kernel_rfl) (by kernel_rfl) (by kernel_rfl) (fun _ _ _ h => h) (Or.inl ⟨by rfl, ?_⟩) hHeld ?_
          rotate_left
          · (intro w hSw; (try dsimp only at hSw); go_simp <;> with_reducible rfl)
          try simp only [Act.put, List.setIfInBounds_toArray, List.set_cons_zero, List.set_cons_succ]
          refine wpAnyH_take (i := 6) (oi := { dst := some 86, op := Op.fieldAddr 42 (Operand.tmp 85) 1, type := 0, pos := "json.go:43", after := #[{ on := 5, ground := Ground.data }], guard := none }) (v := ?_) rfl (by kernel_rfl) (by kernel_rfl) (by kernel_rfl) (fun _ _ _ h => h) (Or.inl ⟨by rfl, ?_⟩) hHeld ?_
          rotate_left
          · (intro w hSw; (try dsimp only at hSw); go_simp <;> with_reducible rfl)
          try simp only [Act.put, List.setIfInBounds_toArray, List.set_cons_zero, List.set_cons_succ]
          refine wpAnyH_take (i := 7) (oi := { dst := some 87, op := Op.load 9 (Operand.tmp 86), type := 9, pos := "json.go:43", after := #[{ on := 6, ground := Ground.data }], guard := none }) (v := ?_) rfl (by kernel_rfl) (by kernel_rfl) (by kernel_rfl) (fun _ _ _ h => h) (Or.inl ⟨by rfl, ?_⟩) hHeld ?_
          rotate_left
          · (intro w hSw; (try dsimp only at hSw); go_simp <;> with_reducible rfl)
          try simp only [Act.put, List.setIfInBounds_toArray, List.set_cons_zero, List.set_cons_succ]
          refine wpAnyH_ready (rs := [2, 9]) (by kernel_rfl) (by simp) (AllReadyH.cons (o := { dst := some 82, op := Op.call { callee := Callee.value (Operand.func 42), args := #[Operand.tmp 80, Operand.tmp 81], argTypes := #[44, 3] }, type := 44, pos := "json.go:43", after := #[{ on := 0, ground := Ground.data }, { on := 1, ground := Ground.data }], guard := none }) rfl (fun K2 hK2 => ?_) (AllReadyH.cons (o := { dst := some 89, op := Op.buildSlice 44 1 #[(0, Operand.const (Value.int IntKind.u8 58))], type := 44, pos := "json.go:43", after := #[], guard := none }) rfl (fun K9 hK9 => ?_) AllReadyH.nil))
          · go_simp
            refine (between_any i w0 _ _ _ HBC.out.drew (by have := HLL.out; simp only [List.length_append, List.length_singleton, bI_len]; omega)).mono ?_
            rintro r wa ⟨va, rfl, ba, ka⟩
            have BA := Lib.hid ba
            refine hK2.out _ _ (HQ.out _ ba.2) (fun hH_2 => ?_)
            clear ba ka
            clear hK2 K2
            try simp only [Act.put, List.setIfInBounds_toArray, List.set_cons_zero, List.set_cons_succ]
            refine wpAnyH_ready (rs := [8, 9]) (by kernel_rfl) (by simp) (AllReadyH.cons (o := { dst := some 88, op := Op.call { callee := Callee.value (Operand.func 20), args := #[Operand.tmp 82, Operand.tmp 87], argTypes := #[44, 9] }, type := 44, pos := "json.go:43", after := #[{ on := 2, ground := Ground.data }, { on := 7, ground := Ground.data }, { on := 2, ground := Ground.chain }], guard := none }) rfl (fun K8 hK8 => ?_) (AllReadyH.cons (o := { dst := some 89, op := Op.buildSlice 44 1 #[(0, Operand.const (Value.int IntKind.u8 58))], type := 44, pos := "json.go:43", after := #[], guard := none }) rfl (fun K9 hK9 => ?_) AllReadyH.nil))
            · go_simp
              refine (jquote_app nq w0 _ va _ BA.out (by have := HLL.out; have h2 := ifl_len i (L ++ [123] ++ bI J); simp only [List.length_append, List.length_singleton, bI_len] at h2 ⊢; omega) (by have := HNQ.out; omega)).mono ?_
              rintro r wb ⟨vb, rfl, bb, kb⟩
              have BB := Lib.hid bb
              refine hK8.out _ _ (HQ.out _ bb.2) (fun hH_8 => ?_)
              clear bb kb
              clear hK8 K8
              try simp only [Act.put, List.setIfInBounds_toArray, List.set_cons_zero, List.set_cons_succ]
              refine wpAnyH_ready (rs := [9]) (by kernel_rfl) (by simp) (AllReadyH.cons (o := { dst := some 89, op := Op.buildSlice 44 1 #[(0, Operand.const (Value.int IntKind.u8 58))], type := 44, pos := "json.go:43", after := #[], guard := none }) rfl (fun K9 hK9 => ?_) AllReadyH.nil)
              go_simp
              have HN58 : Hid ((wb.alloc (.cells #[.int .u8 58] 5)).heap[wb.heap.size]? = some (.cells #[.int .u8 58] 5)) := Lib.hid (heap_alloc_new _ _)
              refine hK9.out _ _ (HQ.out _ (hH_8.1.alloc hH_8.1.size _)) (fun hH_9 => ?_)
              clear hK9 K9
              try simp only [Act.put, List.setIfInBounds_toArray, List.set_cons_zero, List.set_cons_succ]
              refine wpAnyH_ready (rs := [10]) (by kernel_rfl) (by simp) (AllReadyH.cons (o := { dst := some 90, op := Op.call { callee := Callee.builtin Builtin.append, args := #[Operand.tmp 88, Operand.tmp 89], argTypes := #[44, 44] }, type := 44, pos := "json.go:43", after := #[{ on := 8, ground := Ground.data }, { on := 9, ground := Ground.data }, { on := 8, ground := Ground.chain }], guard := none }) rfl (fun K10 hK10 => ?_) AllReadyH.nil)
              refine step_bytes2 rfl (.tmp 88) (.tmp 89) rfl vb _ [58] wb.heap.size (by simp [Act.eval, Act.put]) (by simp [Act.eval, Act.put] <;> rfl) (BB.out.alloc _) HN58.out (by have := HLL.out; have h2 := ifl_len i (L ++ [123] ++ bI J); have h3 := HQL.out; simp only [List.length_append, List.length_singleton, bI_len] at h2 ⊢; omega) ?_
              intro vc wc bc _
              have BC := Lib.hid bc
              refine hK10.out _ _ (HQ.out _ bc.2) (fun hH_10 => ?_)
              clear bc
              clear hK10 K10
              try simp only [Act.put, List.setIfInBounds_toArray, List.set_cons_zero, List.set_cons_succ]
              refine wpAnyH_take (i := 11) (oi := { dst := some 0, op := Op.assign (Operand.tmp 90), type := 44, pos := "json.go:43", after := #[{ on := 10, ground := Ground.data }, { on := 10, ground := Ground.chain }, { on := 0, ground := Ground.phase }, { on := 1, ground := Ground.phase }, { on := 2, ground := Ground.phase }, { on := 3, ground := Ground.phase }, { on := 4, ground := Ground.phase }, { on := 5, ground := Ground.phase }, { on := 6, ground := Ground.phase }, { on := 7, ground := Ground.phase }, { on := 8, ground := Ground.phase }, { on := 9, ground := Ground.phase }, { on := 10, ground := Ground.phase }], guard := none }) (v := ?_) rfl (by kernel_rfl) (by kernel_rfl) (by kernel_rfl) (fun _ _ _ h => h) (Or.inl ⟨by rfl, ?_⟩) hH_10 ?_
              rotate_left
              · (intro w hSw; (try dsimp only at hSw); go_simp <;> with_reducible rfl)
              try simp only [Act.put, List.setIfInBounds_toArray, List.set_cons_zero, List.set_cons_succ]
              refine wpAnyH_done (by kernel_rfl) ?_ _
              clear hH_10
              go_wp2_with fail
              refine (HIH.out q q2 _ vc _ (by have := HBGi.out; have := HFF.out; omega) HKi.out BC.out (by have := HLL.out; have h2 := ifl_len i (L ++ [123] ++ bI J); have h3 := HQL.out; simp only [List.length_append, List.length_singleton, bI_len] at h2 ⊢; omega)).mono ?_
              rintro r wd ⟨vd, rfl, bd'⟩
              rw [HCAT.out] at bd'
              have BD := Lib.hid bd'
              clear bd'
              go_wp2_with fail
              go_roundw
              case rel => exact ⟨i + 1, _, by omega, by go_num, by rw [HQ2.out], rfl, BD⟩
              case measure => (simp [intOf]; omega)
            · go_simp
              have HN58 : Hid ((wa.alloc (.cells #[.int .u8 58] 5)).heap[wa.heap.size]? = some (.cells #[.int .u8 58] 5)) := Lib.hid (heap_alloc_new _ _)
              refine hK9.out _ _ (HQ.out _ (hH_2.1.alloc hH_2.1.size _)) (fun hH_9 => ?_)
              clear hK9 K9
              try simp only [Act.put, List.setIfInBounds_toArray, List.set_cons_zero, List.set_cons_succ]
              refine wpAnyH_ready (rs := [8]) (by kernel_rfl) (by simp) (AllReadyH.cons (o := { dst := some 88, op := Op.call { callee := Callee.value (Operand.func 20), args := #[Operand.tmp 82, Operand.tmp 87], argTypes := #[44, 9] }, type := 44, pos := "json.go:43", after := #[{ on := 2, ground := Ground.data }, { on := 7, ground := Ground.data }, { on := 2, ground := Ground.chain }], guard := none }) rfl (fun K8 hK8 => ?_) AllReadyH.nil)
              go_simp
              refine (jquote_app nq w0 _ va _ (BA.out.alloc _) (by have := HLL.out; have h2 := ifl_len i (L ++ [123] ++ bI J); simp only [List.length_append, List.length_singleton, bI_len] at h2 ⊢; omega) (by have := HNQ.out; omega)).mono ?_
              rintro r wb ⟨vb, rfl, bb, kb⟩
              have BB := Lib.hid bb
              have HN8 := Lib.hid (kb.keep HN58.out (fun j hj => Nat.ne_of_lt (BA.out.own_lt j hj)))
              refine hK8.out _ _ (HQ.out _ bb.2) (fun hH_8 => ?_)
              clear bb kb
              clear hK8 K8
              try simp only [Act.put, List.setIfInBounds_toArray, List.set_cons_zero, List.set_cons_succ]
              refine wpAnyH_ready (rs := [10]) (by kernel_rfl) (by simp) (AllReadyH.cons (o := { dst := some 90, op := Op.call { callee := Callee.builtin Builtin.append, args := #[Operand.tmp 88, Operand.tmp 89], argTypes := #[44, 44] }, type := 44, pos := "json.go:43", after := #[{ on := 8, ground := Ground.data }, { on := 9, ground := Ground.data }, { on := 8, ground := Ground.chain }], guard := none }) rfl (fun K10 hK10 => ?_) AllReadyH.nil)
              refine step_bytes2 rfl (.tmp 88) (.tmp 89) rfl vb _ [58] _ (by simp [Act.eval, Act.put]) (by simp [Act.eval, Act.put] <;> rfl) BB.out HN8.out (by have := HLL.out; have h2 := ifl_len i (L ++ [123] ++ bI J); have h3 := HQL.out; simp only [List.length_append, List.length_singleton, bI_len] at h2 ⊢; omega) ?_
              intro vc wc bc _
              have BC := Lib.hid bc
              refine hK10.out _ _ (HQ.out _ bc.2) (fun hH_10 => ?_)
              clear bc
              clear hK10 K10
              try simp only [Act.put, List.setIfInBounds_toArray, List.set_cons_zero, List.set_cons_succ]
              refine wpAnyH_take (i := 11) (oi := { dst := some 0, op := Op.assign (Operand.tmp 90), type := 44, pos := "json.go:43", after := #[{ on := 10, ground := Ground.data }, { on := 10, ground := Ground.chain }, { on := 0, ground := Ground.phase }, { on := 1, ground := Ground.phase }, { on := 2, ground := Ground.phase }, { on := 3, ground := Ground.phase }, { on := 4, ground := Ground.phase }, { on := 5, ground := Ground.phase }, { on := 6, ground := Ground.phase }, { on := 7, ground := Ground.phase }, { on := 8, ground := Ground.phase }, { on := 9, ground := Ground.phase }, { on := 10, ground := Ground.phase }], guard := none }) (v := ?_) rfl (by kernel_rfl) (by kernel_rfl) (by kernel_rfl) (fun _ _ _ h => h) (Or.inl ⟨by rfl, ?_⟩) hH_10 ?_
              rotate_left
              · (intro w hSw; (try dsimp only at hSw); go_simp <;> with_reducible rfl)
              try simp only [Act.put, List.setIfInBounds_toArray, List.set_cons_zero, List.set_cons_succ]
              refine wpAnyH_done (by kernel_rfl) ?_ _
              clear hH_10
              go_wp2_with fail
              refine (HIH.out q q2 _ vc _ (by have := HBGi.out; have := HFF.out; omega) HKi.out BC.out (by have := HLL.out; have h2 := ifl_len i (L ++ [123] ++ bI J); have h3 := HQL.out; simp only [List.length_append, List.length_singleton, bI_len] at h2 ⊢; omega)).mono ?_
              rintro r wd ⟨vd, rfl, bd'⟩
              rw [HCAT.out] at bd'
              have BD := Lib.hid bd'
              clear bd'
              go_wp2_with fail
              go_roundw
              case rel => exact ⟨i + 1, _, by omega, by go_num, by rw [HQ2.out], rfl, BD⟩
              case measure => (simp [intOf]; omega)
          · go_simp
            have HN58 : Hid ((wr.drew.alloc (.cells #[.int .u8 58] 5)).heap[wr.drew.heap.size]? = some (.cells #[.int .u8 58] 5)) := Lib.hid (heap_alloc_new _ _)
            refine hK9.out _ _ (HQ.out _ (hHeld.1.alloc hHeld.1.size _)) (fun hH_9 => ?_)
            clear hK9 K9
            try simp only [Act.put, List.setIfInBounds_toArray, List.set_cons_zero, List.set_cons_succ]
            refine wpAnyH_ready (rs := [2]) (by kernel_rfl) (by simp) (AllReadyH.cons (o := { dst := some 82, op := Op.call { callee := Callee.value (Operand.func 42), args := #[Operand.tmp 80, Operand.tmp 81], argTypes := #[44, 3] }, type := 44, pos := "json.go:43", after := #[{ on := 0, ground := Ground.data }, { on := 1, ground := Ground.data }], guard := none }) rfl (fun K2 hK2 => ?_) AllReadyH.nil)
            go_simp
            refine (between_any i w0 _ _ _ (HBC.out.drew.alloc _) (by have := HLL.out; simp only [List.length_append, List.length_singleton, bI_len]; omega)).mono ?_
            rintro r wa ⟨va, rfl, ba, ka⟩
            have BA := Lib.hid ba
            have HN9 := Lib.hid (ka.keep HN58.out (fun j hj => Nat.ne_of_lt (HBC.out.own_lt j hj)))
            have HOV := Lib.hid (ka.off (k := wr.heap.size) HBC.out.own_lt (by simp))
            refine hK2.out _ _ (HQ.out _ ba.2) (fun hH_2 => ?_)
            clear ba ka
            clear hK2 K2
            try simp only [Act.put, List.setIfInBounds_toArray, List.set_cons_zero, List.set_cons_succ]
            refine wpAnyH_ready (rs := [8]) (by kernel_rfl) (by simp) (AllReadyH.cons (o := { dst := some 88, op := Op.call { callee := Callee.value (Operand.func 20), args := #[Operand.tmp 82, Operand.tmp 87], argTypes := #[44, 9] }, type := 44, pos := "json.go:43", after := #[{ on := 2, ground := Ground.data }, { on := 7, ground := Ground.data }, { on := 2, ground := Ground.chain }], guard := none }) rfl (fun K8 hK8 => ?_) AllReadyH.nil)
            go_simp
            refine (jquote_app nq w0 _ va _ BA.out (by have := HLL.out; have h2 := ifl_len i (L ++ [123] ++ bI J); simp only [List.length_append, List.length_singleton, bI_len] at h2 ⊢; omega) (by have := HNQ.out; omega)).mono ?_
            rintro r wb ⟨vb, rfl, bb, kb⟩
            have BB := Lib.hid bb
            have HN8 := Lib.hid (kb.keep HN9.out HOV.out)
            refine hK8.out _ _ (HQ.out _ bb.2) (fun hH_8 => ?_)
            clear bb kb
            clear hK8 K8
            try simp only [Act.put, List.setIfInBounds_toArray, List.set_cons_zero, List.set_cons_succ]
            refine wpAnyH_ready (rs := [10]) (by kernel_rfl) (by simp) (AllReadyH.cons (o := { dst := some 90, op := Op.call { callee := Callee.builtin Builtin.append, args := #[Operand.tmp 88, Operand.tmp 89], argTypes := #[44, 44] }, type := 44, pos := "json.go:43", after := #[{ on := 8, ground := Ground.data }, { on := 9, ground := Ground.data }, { on := 8, ground := Ground.chain }], guard := none }) rfl (fun K10 hK10 => ?_) AllReadyH.nil)
            refine step_bytes2 rfl (.tmp 88) (.tmp 89) rfl vb _ [58] _ (by simp [Act.eval, Act.put]) (by simp [Act.eval, Act.put] <;> rfl) BB.out HN8.out (by have := HLL.out; have h2 := ifl_len i (L ++ [123] ++ bI J); have h3 := HQL.out; simp only [List.length_append, List.length_singleton, bI_len] at h2 ⊢; omega) ?_
            intro vc wc bc _
            have BC := Lib.hid bc
            refine hK10.out _ _ (HQ.out _ bc.2) (fun hH_10 => ?_)
            clear bc
            clear hK10 K10
            try simp only [Act.put, List.setIfInBounds_toArray, List.set_cons_zero, List.set_cons_succ]
            refine wpAnyH_take (i := 11) (oi := { dst := some 0, op := Op.assign (Operand.tmp 90), type := 44, pos := "json.go:43", after := #[{ on := 10, ground := Ground.data }, { on := 10, ground := Ground.chain }, { on := 0, ground := Ground.phase }, { on := 1, ground := Ground.phase }, { on := 2, ground := Ground.phase }, { on := 3, ground := Ground.phase }, { on := 4, ground := Ground.phase }, { on := 5, ground := Ground.phase }, { on := 6, ground := Ground.phase }, { on := 7, ground := Ground.phase }, { on := 8, ground := Ground.phase }, { on := 9, ground := Ground.phase }, { on := 10, ground := Ground.phase }], guard := none }) (v := ?_) rfl (by kernel_rfl) (by kernel_rfl) (by kernel_rfl) (fun _ _ _ h => h) (Or.inl ⟨by rfl, ?_⟩) hH_10 ?_
            rotate_left
            · (intro w hSw; (try dsimp only at hSw); go_simp <;> with_reducible rfl)
            try simp only [Act.put, List.setIfInBounds_toArray, List.set_cons_zero, List.set_cons_succ]
            refine wpAnyH_done (by kernel_rfl) ?_ _
            clear hH_10
            go_wp2_with fail
            refine (HIH.out q q2 _ vc _ (by have := HBGi.out; have := HFF.out; omega) HKi.out BC.out (by have := HLL.out; have h2 := ifl_len i (L ++ [123] ++ bI J); have h3 := HQL.out; simp only [List.length_append, List.length_singleton, bI_len] at h2 ⊢; omega)).mono ?_
            rintro r wd ⟨vd, rfl, bd'⟩
            rw [HCAT.out] at bd'
            have BD := Lib.hid bd'
            clear bd'
            go_wp2_with fail
            go_roundw
            case rel => exact ⟨i + 1, _, by omega, by go_num, by rw [HQ2.out], rfl, BD⟩
            case measure => (simp [intOf]; omega)
        · have hie : i = m := by omega
          subst hie
          have hz : ¬ ((i : Int) < (i : Int)) := by omega
          have HRB : Hid (L ++ [123] ++ bI (jki (jtx g n f) g n true p i) ++ [125] = L ++ bI R) := Lib.hid (by rw [HE.out, bI_app, bI_app, show bI (⟨#[123]⟩ : ByteArray) = [123] from rfl, show bI (⟨#[125]⟩ : ByteArray) = [125] from rfl]; simp only [List.append_assoc])
          have HEE := Lib.hid HK2.out
          obtain ⟨J, hJ⟩ : ∃ J, J = jki (jtx g n f) g n true p i := ⟨_, rfl⟩
          rw [← hJ] at HBC HJi HRB
          obtain ⟨q, hq⟩ : ∃ q, q = bd g n (p + 1) i := ⟨_, rfl⟩
          rw [← hq] at HEE ⊢
          clear hJ hq
          go_wp2_with (at_builtin; refine app_bytes2 rfl (.tmp 99) (.tmp 100) rfl v (L ++ [123] ++ bI J) [125] wr.heap.size (by simp [Act.eval, Act.put]) (by simp [Act.eval, Act.put]) (HBC.out.alloc _) (heap_alloc_new _ _) (by have := HJi.out; have := HL.out.le; simp only [List.length_append, List.length_singleton, bI_len]; omega) ?_; intro v2 w2 b2 _; rw [HRB.out] at b2; have B2 := Lib.hid b2; clear b2)
          go_ret2
          exact WP.mk (by rw [HEE.out]) B2.out
end Go.Proofs.YtoicmcjpaodgpaaDoor
/- Layer 31, ServeWrites: a number's digits, by the document. -/
namespace Go.Proofs.YtoicmcjpaodgpaaDoor
open Go.RowKit
theorem digit_slice : ∀ d : Nat, d < 10 → (⟨#[48, 49, 50, 51, 52, 53, 54, 55, 56, 57]⟩ : ByteArray).extract d (d + 1) = ⟨(Lib.itoa (d : Int)).toArray⟩ := by
  intro d hd
  have e : Lib.itoa (d : Int) = [UInt8.ofNat (48 + d)] := by
    rw [Lib.itoa_nonneg, Lib.decDigits_one hd]
  rw [e]
  match d, hd with
  | 0, _ => rfl
  | 1, _ => rfl
  | 2, _ => rfl
  | 3, _ => rfl
  | 4, _ => rfl
  | 5, _ => rfl
  | 6, _ => rfl
  | 7, _ => rfl
  | 8, _ => rfl
  | 9, _ => rfl
theorem cat_mk (a b : List UInt8) : (⟨a.toArray⟩ : ByteArray) ++ ⟨b.toArray⟩ = ⟨(a ++ b).toArray⟩ := by
  apply ByteArray.ext
  simp [ByteArray.data_append]
theorem itoa_pos (n : Int) (h : 10 ≤ n) : Lib.itoa n = Lib.itoa (n / 10) ++ Lib.itoa (n % 10) := by
  obtain ⟨u, rfl⟩ := Int.eq_ofNat_of_zero_le (by omega : 0 ≤ n)
  rw [show ((u : Int) / 10) = ((u / 10 : Nat) : Int) from by omega, show ((u : Int) % 10) = ((u % 10 : Nat) : Int) from by omega, Lib.itoa_nonneg, Lib.itoa_nonneg, Lib.itoa_nonneg, Lib.decDigits_one (by omega : u % 10 < 10)]
  rw [Lib.decDigits, dif_neg (by omega)]
theorem itoa_neg10 (n : Int) (h : n ≤ -10) : Lib.itoa n = Lib.itoa (n.tdiv 10) ++ Lib.itoa (-(n.tmod 10)) := by
  obtain ⟨u, rfl⟩ : ∃ u : Nat, n = -(u : Int) := ⟨n.natAbs, by omega⟩
  rw [Int.neg_tdiv, Int.neg_tmod, Int.neg_neg, Int.tdiv_eq_ediv_of_nonneg (by omega), Int.tmod_eq_emod_of_nonneg (by omega)]
  rw [show ((u : Int) / 10) = ((u / 10 : Nat) : Int) from by omega, show ((u : Int) % 10) = ((u % 10 : Nat) : Int) from by omega]
  rw [Lib.itoa_neg u (by omega), Lib.itoa_neg (u / 10) (by omega), Lib.itoa_nonneg, Lib.decDigits_one (by omega : u % 10 < 10)]
  rw [Lib.decDigits, dif_neg (by omega)]; rfl
theorem itoa_neg1 (n : Int) (h : n < 0) : Lib.itoa n = [45] ++ Lib.itoa (-n) := by
  obtain ⟨u, rfl⟩ : ∃ u : Nat, n = -(u : Int) := ⟨n.natAbs, by omega⟩
  rw [Int.neg_neg, Lib.itoa_neg u (by omega), Lib.itoa_nonneg]; rfl

theorem ret_str {a b : ByteArray} (h : a = b) : Ending.returned (.string a) = .returned (.string b) := by rw [h]
theorem tmod_neg (n : Int) (h : n < 0) : -10 < n.tmod 10 ∧ n.tmod 10 ≤ 0 := by
  have e : (-n).tmod 10 = -(n.tmod 10) := Int.neg_tmod n 10
  have h1 := Int.tmod_lt_of_pos (-n) (by omega : (0 : Int) < 10)
  have h2 := Int.tmod_nonneg 10 (by omega : 0 ≤ -n)
  omega
end Go.Proofs.YtoicmcjpaodgpaaDoor
/- Layer 4: the document's Text. -/
namespace Go.Proofs.YtoicmcjpaodgpaaDoor
open Go.RowKit Go.Maps
def TP (W : World) (T : ByteArray) (r : Ending) (w' : World) : Prop := r = .returned (.string T) ∧ Below W.heap.size W w'
end Go.Proofs.YtoicmcjpaodgpaaDoor
/- Layer 4: Write of both, and the walk of JsonWrites. -/
namespace Go.Proofs.YtoicmcjpaodgpaaDoor
open Go.RowKit Go.Maps
theorem pln_parts {g : Nat → CR} {n : Nat} (h : plnB g n = true) : (∀ i, i < n → enB (g i) = false) ∧ 0 < n ∧ n ≤ 2048 ∧ wk g n 16 0 = some n := by
  have h1 : ∀ i, i < n → enB (g i) = false := fun i hi => by
    cases he : enB (g i) with
    | false => rfl
    | true => rw [pln_no hi he] at h; cases h
  have h2 := ckC_parts (by rw [← pln_yes h1]; exact h)
  exact ⟨h1, h2.1, h2.2.1, h2.2.2.2⟩
def jwT (g : Nat → CR) (n : Nat) : ByteArray := if plnB g n = true then jtx g n n 0 else ⟨#[]⟩
def jwE (g : Nat → CR) (n : Nat) : Int := if plnB g n = true then 0 else 8
/-- Cells small enough, be they plain or not. -/
structure SmK (g : Nat → CR) (n : Nat) : Prop where
  nm : ∀ i, i < n → (g i).nm.size ≤ 3000
  tx : ∀ i, i < n → (g i).tx.size ≤ 3000
  nn : ∀ i, i < n → i64ok (g i).n
  sm : Sm n g
set_option maxRecDepth 20000 in
theorem jWrite_any (w : World) (t : Tabs w) (a : Option Addr) (n cap : Nat) (g : Nat → CR) (hs : SmK g n) (hv : CV w a n g) : Calls Tryd.prog 16 #[.slice a n cap] w fun e w' => e = .returned (.tuple #[.string (jwT g n), .int .i64 (jwE g n)]) ∧ Below w.heap.size w w' := by
  have HP := Lib.hid (plain_any a n cap g w hv hs.sm)
  cases hp : plnB g n with
  | false =>
    have HT : Hid (jwT g n = ⟨#[]⟩ ∧ jwE g n = 8) := Lib.hid (by unfold jwT jwE; rw [hp]; exact ⟨rfl, rfl⟩)
    rw [hp] at HP
    go_enter Tryd.func16, Tryd.ntmps16
    go_wp2_with fail
    refine HP.out.mono ?_
    rintro e w1 ⟨rfl, b1⟩
    have B1 := Lib.hid b1
    clear b1
    go_wp2_with fail
    go_ret2
    exact ⟨by rw [HT.out.1, HT.out.2] <;> rfl, B1.out⟩
  | true =>
    obtain ⟨h1, h2, h3, h4⟩ := pln_parts hp
    have HT : Hid (jwT g n = jtx g n n 0 ∧ jwE g n = 0) := Lib.hid (by unfold jwT jwE; rw [hp]; exact ⟨rfl, rfl⟩)
    have HSJ := Lib.hid (SmJ.mk (g := g) (n := n) hs.nm hs.tx hs.nn h1)
    have HWR := Lib.hid (fun W (k : Below w.heap.size w W) => jwrite_any W (t.later k) a n cap g HSJ.out h3 (hv.below k) n 0 n W (.slice none 0 0) [] (Nat.sub_le _ _) h4 (BO.nil W) (by simp only [List.length_nil]; omega))
    rw [hp] at HP
    obtain ⟨T, hT⟩ : ∃ T, T = jtx g n n 0 := ⟨_, rfl⟩
    rw [← hT] at HT HWR
    clear hT hs hv t h1 h2 h3 h4 HSJ
    go_enter Tryd.func16, Tryd.ntmps16
    go_wp2_with fail
    refine HP.out.mono ?_
    rintro e w1 ⟨rfl, b1⟩
    have B1 := Lib.hid b1
    clear b1
    go_wp2_with fail
    refine (HWR.out _ B1.out).mono ?_
    rintro e w2 ⟨v2, rfl, b2⟩
    rw [List.nil_append] at b2
    have hcv := conv_own b2.1 (bI_range T)
    rw [mk_bI] at hcv
    have B2 := Lib.hid (B1.out.trans (b2.2.mono B1.out.size))
    clear b2
    go_wp2_with fail
    go_ret2
    exact ⟨by rw [HT.out.1, HT.out.2] <;> rfl, B2.out⟩
end Go.Proofs.YtoicmcjpaodgpaaDoor
/- Layer 4, JsonWrites: what comes in; what the listed tables give the walk. -/
namespace Go.Proofs.YtoicmcjpaodgpaaDoor
open Go.ChangeShapes Go.WideShapes Go.ChangeAt Go.RowKit
theorem own : ownKnob Tryd.prog.godebug = none := by kernel_rfl
theorem laidOut : laidOutB Tryd.prog = true := by kernel_rfl
def vCell : Vw := vCons (vInt .u8) (vCons zStr (vCons zStr (vCons (vInt .i64) (vCons (vInt .i64) vNil))))
theorem oStr : OpensZ Tryd.prog zStr 9 := zopens_str Tryd.underlying9 (by kernel_rfl)
set_option maxRecDepth 100000 in
theorem oCell : OpensZ Tryd.prog vCell 42 := zopens_struct Tryd.underlying42 (by kernel_rfl) (zfopens_cons rfl (opens_int Tryd.underlying5 (by kernel_rfl)).z (zfopens_cons rfl oStr (zfopens_cons rfl oStr (zfopens_cons rfl (opens_int Tryd.underlying2 (by kernel_rfl)).z (zfopens_cons rfl (opens_int Tryd.underlying3 (by kernel_rfl)).z (zfopens_nil _ _))))))
theorem oCells : OpensZ Tryd.prog (zSlice vCell (Tryd.prog.bytesOf 42)) 26 := zopens_slice Tryd.underlying26 (by kernel_rfl) oCell (by decide)
abbrev CD := Int × ByteArray × ByteArray × Int × Int × Unit
def toCR (d : CD) : CR := ⟨d.1.toNat, d.2.1, d.2.2.1, d.2.2.2.1, d.2.2.2.2.1⟩
theorem cell_es {w : World} {d : CD} {es : List Value} (h : vCell.rd w d es) : es = [.int .u8 (toCR d).k, .string (toCR d).nm, .string (toCR d).tx, .int .i64 (toCR d).n, .int .i64 (toCR d).m] ∧ i64ok (toCR d).n ∧ (toCR d).k < 256 ∧ i64ok (toCR d).m := by
  obtain ⟨k, nm, tx, n, m, u⟩ := d
  obtain ⟨e1, r1, q1, _, _, ⟨h1, w1⟩, k1⟩ := h
  obtain ⟨e2, r2, q2, _, _, ⟨h2, _⟩, k2⟩ := k1
  obtain ⟨e3, r3, q3, _, _, ⟨h3, _⟩, k3⟩ := k2
  obtain ⟨e4, r4, q4, _, _, ⟨h4, w4⟩, k4⟩ := k3
  obtain ⟨e5, r5, q5, _, _, ⟨h5, w5⟩, k5⟩ := k4
  have k5' : r5 = [] := k5
  have b1 := bounds_u8 w1
  have b4 := bounds_i64 w4
  have b5 := bounds_i64 w5
  dsimp only at h1 h2 h3 h4 h5 b1 b4 b5
  refine ⟨?_, b4, ?_, b5⟩
  · rw [q1, q2, q3, q4, q5, k5', h1, h2, h3, h4, h5]
    show ([.int .u8 k, .string nm, .string tx, .int .i64 n, .int .i64 m] : List Value) = [.int .u8 ((k.toNat : Nat) : Int), .string nm, .string tx, .int .i64 n, .int .i64 m]
    rw [Int.toNat_of_nonneg b1.1]
  · show k.toNat < 256
    have := b1.1
    have := b1.2
    omega
theorem open_cells {H : Type} {enc : TypeId × Value → H} {W : World} {base : Nat} {sp : Nat → Bool} {held : Bool} {a : Option Addr} {n cap : Nat} {d : DataW H} {ps : List MemPlace} (h : DataW.Trod enc Tryd.prog W base sp held 26 (.slice a n cap) d ps) (hw : Lt Tryd.prog 26 d) : ∃ L : List CR, L.length = n ∧ CV W a n (gl L) ∧ (n ≤ cap ∧ cap ≤ maxLen ∧ (a = none → n = 0 ∧ cap = 0)) ∧ ∀ i, i < n → i64ok (gl L i).n ∧ (gl L i).k < 256 ∧ i64ok (gl L i).m := by
  obtain ⟨fuel, hf⟩ := h
  obtain ⟨ds0, hds⟩ := oCells.2 hf hw
  obtain ⟨ds, e0⟩ : ∃ ds : List CD, ds = ds0 := ⟨ds0, rfl⟩
  subst e0
  obtain ⟨a', c, he, h1, h2, h3, _, h5⟩ := hds
  simp only [Value.cells, List.cons.injEq, Value.slice.injEq, and_true] at he
  obtain ⟨rfl, rfl, rfl⟩ := he
  have hgl : ∀ i (hi : i < ds.length), gl (ds.map toCR) i = toCR (ds[i]'hi) := fun i hi => by
    unfold gl
    rw [List.getD_eq_getElem?_getD, List.getElem?_map, List.getElem?_eq_getElem hi]
    rfl
  refine ⟨ds.map toCR, List.length_map _, fun i hi => ?_, ⟨h1, h2, h3⟩, fun i hi => ?_⟩
  · obtain ⟨b, off, e, hb, es, _, hc, hr⟩ := h5 i hi
    obtain ⟨he, _⟩ := cell_es hr
    rw [hgl i hi]
    rw [he] at hc
    exact ⟨b, off, e, hb, hc 0 (by decide), hc 1 (by decide), hc 2 (by decide), hc 3 (by decide), hc 4 (by decide)⟩
  · obtain ⟨b, off, e, hb, es, _, hc, hr⟩ := h5 i hi
    rw [hgl i hi]
    exact (cell_es hr).2
theorem cut_self (L : List CR) (n : Nat) (h : L.length = n) : gl (cut (gl L) 0 n) = gl L := by
  have e : cut (gl L) 0 n = L := gl_ext (by rw [cut_len, h]; omega) (fun i hi => by
    rw [cut_len] at hi
    rw [cut_at _ _ _ _ hi, Nat.zero_add])
  rw [e]
/-! ### The listed tables -/
def laid3 : List (String × DataW Unit) := [("math/bits.deBruijn32tab", Rows.laid_math_bits_deBruijn32tab), ("math/bits.deBruijn64tab", Rows.laid_math_bits_deBruijn64tab), ("internal/strconv.uint64pow10", Rows.laid_internal_strconv_uint64pow10)]
theorem door_met3 (os : Os) (args : Array Value) : laidMetH Tryd.prog laid3 ((World.doorLaid Tryd.prog 400 os).forCall (fun _ _ => 0) ⟨#[], args, []⟩).memory :=
  laidMetH_of_parts3 (fuel := 8) (laidMet_of_run' 8 (by kernel_rfl) (by kernel_rfl)) (by kernel_rfl) (by kernel_rfl)
theorem facts3 {W : World} (h : laidMetH Tryd.prog laid3 W) : Tabs W := by
  rw [MakeChecks.laidMetH_plain _ _ _ (by kernel_rfl)] at h
  have h2 := laidMet.tail (laidMet.tail h)
  exact Lib.tabIs_of_head (k := .u64) (zs := Lib.pow10Tab) gPow (by kernel_rfl : (Tryd.prog.globals[0]?).map (·.type) = some 124) (by kernel_rfl : Tryd.prog.underlying 124 = some (.array 20 110)) Tryd.underlying110 (by kernel_rfl) (by kernel_rfl) h2
end Go.Proofs.YtoicmcjpaodgpaaDoor
/- Plain facts on numbers for layer 2: what fits 64 bits, with its sign. No program in sight. -/
namespace Go.Proofs.YtoicmcjpaodgpaaDoor.Nm
open Go.RowKit

/-- Does a number fit an int64? -/
def fits (z : Int) : Bool := decide (-9223372036854775808 ≤ z ∧ z ≤ 9223372036854775807)
/-- What comes of a number: itself or 0. -/
def val (z : Int) : Int := if fits z then z else 0
/-- Its error: none or 20. -/
def err (z : Int) : Int := if fits z then 0 else 20
/-- A sign and a size. -/
def sv (s m : Int) : Int := if s = 0 then -m else m

theorem fits_yes {z : Int} (h0 : -9223372036854775808 ≤ z) (h1 : z ≤ 9223372036854775807) : fits z = true := by unfold fits; simp; omega
theorem fits_no {z : Int} (h : z < -9223372036854775808 ∨ 9223372036854775807 < z) : fits z = false := by unfold fits; simp; omega
theorem val_yes {z : Int} (h0 : -9223372036854775808 ≤ z) (h1 : z ≤ 9223372036854775807) : val z = z := by unfold val; rw [fits_yes h0 h1]; rfl
theorem err_yes {z : Int} (h0 : -9223372036854775808 ≤ z) (h1 : z ≤ 9223372036854775807) : err z = 0 := by unfold err; rw [fits_yes h0 h1]; rfl
theorem val_no {z : Int} (h : z < -9223372036854775808 ∨ 9223372036854775807 < z) : val z = 0 := by unfold val; rw [fits_no h]; rfl
theorem err_no {z : Int} (h : z < -9223372036854775808 ∨ 9223372036854775807 < z) : err z = 20 := by unfold err; rw [fits_no h]; rfl
theorem fits_cases (z : Int) : (-9223372036854775808 ≤ z ∧ z ≤ 9223372036854775807 ∧ val z = z ∧ err z = 0) ∨ ((z < -9223372036854775808 ∨ 9223372036854775807 < z) ∧ val z = 0 ∧ err z = 20) := by
  by_cases h : -9223372036854775808 ≤ z ∧ z ≤ 9223372036854775807
  · exact .inl ⟨h.1, h.2, val_yes h.1 h.2, err_yes h.1 h.2⟩
  · have h' : z < -9223372036854775808 ∨ 9223372036854775807 < z := by omega
    exact .inr ⟨h', val_no h', err_no h'⟩
theorem val_range (z : Int) : -9223372036854775808 ≤ val z ∧ val z ≤ 9223372036854775807 := by
  rcases fits_cases z with ⟨h0, h1, h2, _⟩ | ⟨_, h2, _⟩ <;> rw [h2] <;> omega
theorem err_two (z : Int) : err z = 0 ∨ err z = 20 := by rcases fits_cases z with ⟨_, _, _, h⟩ | ⟨_, _, h⟩ <;> simp [h]

theorem ret2 {k l : IntKind} {a b c d : Int} (h : a = b) (g : c = d) : Ending.returned (.tuple #[.int k a, .int l c]) = .returned (.tuple #[.int k b, .int l d]) := by rw [h, g]
theorem ret_bool {a b : Bool} (h : a = b) : Ending.returned (.bool a) = .returned (.bool b) := by rw [h]
theorem neg_wrap (n : Int) (h : -9223372036854775808 ≤ n) (hn : n < 0) : IntKind.u64.wrap (-IntKind.u64.wrap n) = -n := by
  rw [IntKind.wrap_u64, IntKind.wrap_u64]; omega
theorem back_wrap (m : Int) (h0 : 0 ≤ m) (h1 : m ≤ 9223372036854775808) : wrap64 (IntKind.u64.wrap (-m)) = -m := by
  rw [IntKind.wrap_u64]; unfold wrap64; omega
end Go.Proofs.YtoicmcjpaodgpaaDoor.Nm
namespace Go.Proofs.YtoicmcjpaodgpaaDoor.Nm
open Go.RowKit

/-- What the table of limits holds. -/
def Lim (w : World) : Prop := w.cell? ⟨1, 0, none⟩ = some (.int .u64 9223372036854775808) ∧ w.cell? ⟨1, 1, none⟩ = some (.int .u64 9223372036854775807)

theorem limit0 (w : World) (l : Lim w) : Calls Tryd.prog 106 #[.int .u8 0] w fun e w' => e = .returned (.int .u64 9223372036854775808) ∧ w = w' := by
  obtain ⟨l0, _⟩ := l
  go_enter Tryd.func106, Tryd.ntmps106
  go_wp2
  go_ret
  exact ⟨rfl, rfl⟩
theorem limit1 (w : World) (l : Lim w) : Calls Tryd.prog 106 #[.int .u8 1] w fun e w' => e = .returned (.int .u64 9223372036854775807) ∧ w = w' := by
  obtain ⟨_, l1⟩ := l
  go_enter Tryd.func106, Tryd.ntmps106
  go_wp2
  go_ret
  exact ⟨rfl, rfl⟩
theorem add64_run (x y : Int) (hx : 0 ≤ x) (hy : 0 ≤ y) (w : World) : (callFunc 97 #[.int .u64 x, .int .u64 y, .int .u64 0]).run Tryd.prog w = .ok (.value (.tuple #[.int .u64 ((x + y) % 18446744073709551616), .int .u64 ((x + y) / 18446744073709551616)])) w := by
  rw [run_callFunc_extern Tryd.func97 (by kernel_rfl) (by kernel_rfl) (by kernel_rfl) (e := add64Entry) (by kernel_rfl), run_add64 x y 0 hx hy (by omega) (by omega)]
  simp only [Result.andThen, Int.add_zero]

theorem join_any (s m : Int) (w : World) (l : Lim w) (hs : s = 0 ∨ s = 1) (h0 : 0 ≤ m) (h1 : m < 18446744073709551616) :
    Calls Tryd.prog 98 #[.int .u8 s, .int .u64 m] w fun e w' => e = .returned (.tuple #[.int .i64 (val (sv s m)), .int .i64 (err (sv s m))]) ∧ w = w' := by
  rcases hs with rfl | rfl
  · by_cases h : m ≤ 9223372036854775808
    · go_enter Tryd.func98, Tryd.ntmps98
      go_wp2_with (go_at_call 106; refine (limit0 _ l).mono ?_; rintro e w' ⟨rfl, rfl⟩)
      go_ret2
      have hz : sv 0 m = -m := by simp [sv]
      exact ⟨ret2 (by rw [hz, back_wrap m h0 h, val_yes (by omega) (by omega)]) (by rw [hz, err_yes (by omega) (by omega)]), rfl⟩
    · go_enter Tryd.func98, Tryd.ntmps98
      go_wp2_with (go_at_call 106; refine (limit0 _ l).mono ?_; rintro e w' ⟨rfl, rfl⟩)
      go_ret2
      have hz : sv 0 m = -m := by simp [sv]
      exact ⟨ret2 (by rw [hz, val_no (by omega)]) (by rw [hz, err_no (by omega)]), rfl⟩
  · by_cases h : m ≤ 9223372036854775807
    · go_enter Tryd.func98, Tryd.ntmps98
      go_wp2_with (go_at_call 106; refine (limit1 _ l).mono ?_; rintro e w' ⟨rfl, rfl⟩)
      go_ret2
      have hz : sv 1 m = m := by simp [sv]
      exact ⟨ret2 (by rw [hz, val_yes (by omega) (by omega)]) (by rw [hz, err_yes (by omega) (by omega)]), rfl⟩
    · go_enter Tryd.func98, Tryd.ntmps98
      go_wp2_with (go_at_call 106; refine (limit1 _ l).mono ?_; rintro e w' ⟨rfl, rfl⟩)
      go_ret2
      have hz : sv 1 m = m := by simp [sv]
      exact ⟨ret2 (by rw [hz, val_no (by omega)]) (by rw [hz, err_no (by omega)]), rfl⟩

end Go.Proofs.YtoicmcjpaodgpaaDoor.Nm
/- Plain facts for layer 2: digits and what they tell. No program in sight. -/
namespace Go.Proofs.YtoicmcjpaodgpaaDoor.Nm
open Go.RowKit

/-- The byte at a place; 0 behind the end. -/
def byt (s : ByteArray) (i : Nat) : Int := if h : i < s.size then (s[i].toNat : Int) else 0
theorem byt_range (s : ByteArray) (i : Nat) : 0 ≤ byt s i ∧ byt s i < 256 := by
  unfold byt; split
  · have := UInt8.toNat_lt s[i]; omega
  · omega
theorem byt_eq (s : ByteArray) (i : Nat) (h : i < s.size) : (s[i].toNat : Int) = byt s i := by simp [byt, h]
/-- Are the first k bytes digits? -/
def allD (s : ByteArray) : Nat → Bool
  | 0 => true
  | k + 1 => allD s k && decide (48 ≤ byt s k ∧ byt s k ≤ 57)
/-- Are they 0, or digits the first of which is not 0? -/
def areD (s : ByteArray) : Bool := decide (0 < s.size) && !(decide (byt s 0 = 48) && decide (s.size ≠ 1)) && allD s s.size
/-- What the first k digits tell. -/
def valD (s : ByteArray) : Nat → Int
  | 0 => 0
  | k + 1 => valD s k * 10 + (byt s k - 48)
theorem allD_mono (s : ByteArray) : ∀ k j, j ≤ k → allD s k = true → allD s j = true := by
  intro k
  induction k with
  | zero => intro j hj h; rw [Nat.le_zero.1 hj]; exact h
  | succ k ih =>
    intro j hj h
    by_cases e : j = k + 1
    · rw [e]; exact h
    · simp only [allD, Bool.and_eq_true] at h
      exact ih j (by omega) h.1
theorem allD_byte (s : ByteArray) (k j : Nat) (hj : j < k) (h : allD s k = true) : 48 ≤ byt s j ∧ byt s j ≤ 57 := by
  have := allD_mono s k (j + 1) hj h
  simp only [allD, Bool.and_eq_true, decide_eq_true_eq] at this
  exact this.2
theorem valD_nonneg (s : ByteArray) : ∀ k, allD s k = true → 0 ≤ valD s k := by
  intro k
  induction k with
  | zero => intro _; exact Int.le_refl _
  | succ k ih =>
    intro h
    simp only [allD, Bool.and_eq_true, decide_eq_true_eq] at h
    have := ih h.1
    simp only [valD]; omega
theorem valD_mono (s : ByteArray) : ∀ k j, j ≤ k → allD s k = true → valD s j ≤ valD s k := by
  intro k
  induction k with
  | zero => intro j hj _; rw [Nat.le_zero.1 hj]; exact Int.le_refl _
  | succ k ih =>
    intro j hj h
    by_cases e : j = k + 1
    · rw [e]; exact Int.le_refl _
    · have h' := h
      simp only [allD, Bool.and_eq_true, decide_eq_true_eq] at h'
      have h1 := ih j (by omega) h'.1
      have h2 := valD_nonneg s k h'.1
      simp only [valD]; omega
theorem areD_parts {s : ByteArray} (h : areD s = true) : 0 < s.size ∧ (byt s 0 = 48 → s.size = 1) ∧ allD s s.size = true := by
  simp only [areD, Bool.and_eq_true, decide_eq_true_eq, Bool.not_eq_true', Bool.and_eq_false_iff, decide_eq_false_iff_not] at h
  refine ⟨h.1.1, fun hb => ?_, h.2⟩
  rcases h.1.2 with g | g
  · exact absurd hb g
  · exact Classical.not_not.1 g
theorem list_one (s : ByteArray) (h0 : 0 < s.size) (hb : byt s 0 = 48) : (s.toList == [48]) = decide (s.size = 1) := by
  rw [Lib.toList_data, Bool.eq_iff_iff, beq_iff_eq, decide_eq_true_eq, Lib.size_eq]
  constructor
  · intro h; rw [h]; rfl
  · intro h
    have h1 : 0 < s.data.toList.length := by omega
    obtain ⟨x, hx⟩ := List.length_eq_one_iff.1 h
    have e0 : s[0]'h0 = x := by
      have : s.data.toList[0]'h1 = x := by simp [hx]
      rw [← this]; rfl
    rw [hx]
    have := byt_eq s 0 h0
    rw [hb, e0] at this
    have hx : x = 48 := UInt8.toNat_inj.1 (by have h48 : (48 : UInt8).toNat = 48 := rfl; omega)
    rw [hx]
theorem list_empty (s : ByteArray) : s.toList.isEmpty = decide (s.size = 0) := by
  rw [Lib.toList_data, Bool.eq_iff_iff, decide_eq_true_eq, Lib.size_eq, List.isEmpty_iff, List.length_eq_zero_iff]
/-- The text without a leading '-', and whether it has one. -/
def isNeg (s : ByteArray) : Bool := decide (0 < s.size) && decide (byt s 0 = 45)
def bare (s : ByteArray) : ByteArray := if isNeg s then s.extract 1 s.size else s
def sgn (s : ByteArray) : Int := if isNeg s then 0 else 1
/-- What Read tells: a number, and an error. -/
def rdZ (s : ByteArray) : Int := sv (sgn s) (valD (bare s) (bare s).size)
def rdV (s : ByteArray) : Int := if areD (bare s) then val (rdZ s) else 0
def rdE (s : ByteArray) : Int := if areD (bare s) then err (rdZ s) else 21
end Go.Proofs.YtoicmcjpaodgpaaDoor.Nm
/- Layer 4, Read: what bytes tell (plain). -/
namespace Go.Proofs.YtoicmcjpaodgpaaDoor
open Go.RowKit
/-- What is read, or an error's number. -/
inductive Rs (α : Type) where
  | ok (x : α) : Rs α
  | bad (e : Int) : Rs α
def Rs.bind {α β : Type} (x : Rs α) (f : α → Rs β) : Rs β := match x with
  | .ok a => f a
  | .bad e => .bad e
@[simp] theorem Rs.bind_ok {α β : Type} (a : α) (f : α → Rs β) : (Rs.ok a).bind f = f a := rfl
@[simp] theorem Rs.bind_bad {α β : Type} (e : Int) (f : α → Rs β) : (Rs.bad e : Rs α).bind f = .bad e := rfl
def isBl (b : Int) : Bool := decide (b = 32) || decide (b = 9) || decide (b = 10) || decide (b = 13)
def blF (s : ByteArray) : Nat → Nat → Nat
  | 0, i => i
  | f + 1, i => if isBl (byt s i) then blF s f (i + 1) else i
/-- Behind blanks. -/
def bl (s : ByteArray) (i : Nat) : Nat := blF s (s.size - i) i
def isDg (b : Int) : Bool := decide (48 ≤ b) && decide (b ≤ 57)
def dgF (s : ByteArray) : Nat → Nat → Nat
  | 0, i => i
  | f + 1, i => if isDg (byt s i) then dgF s f (i + 1) else i
/-- Behind digits. -/
def dg (s : ByteArray) (i : Nat) : Nat := dgF s (s.size - i) i
/-- Those bytes stand next. -/
def wordM (s : ByteArray) : List Int → Nat → Rs Nat
  | [], i => .ok i
  | c :: r, i => if byt s i = c then wordM s r (i + 1) else .bad 40
def hexV (b : Int) : Int := if 48 ≤ b ∧ b ≤ 57 then b - 48 else if 97 ≤ b ∧ b ≤ 102 then b - 97 + 10 else if 65 ≤ b ∧ b ≤ 70 then b - 65 + 10 else -1
def fourF (s : ByteArray) : Nat → Nat → Int → Rs (Int × Nat)
  | 0, i, n => .ok (n, i)
  | k + 1, i, n => if hexV (byt s i) < 0 then .bad 40 else fourF s k (i + 1) (n * 16 + hexV (byt s i))
def pointM (s : ByteArray) (i : Nat) : Rs (Int × Nat) :=
  (fourF s 4 i 0).bind fun x =>
    if 55296 ≤ x.1 ∧ x.1 ≤ 56319 then
      (wordM s [92, 117] x.2).bind fun j => (fourF s 4 j 0).bind fun y =>
        if y.1 < 56320 ∨ 57343 < y.1 then .bad 40 else .ok (65536 + (x.1 % 1024 * 1024 + y.1 % 1024), y.2)
    else if isPt x.1 then .ok x else .bad 40
def escM (s : ByteArray) (i : Nat) : Rs (List Int × Nat) :=
  let b := byt s i
  if b = 34 ∨ b = 92 ∨ b = 47 then .ok ([b], i + 1)
  else if b = 98 then .ok ([8], i + 1)
  else if b = 102 then .ok ([12], i + 1)
  else if b = 110 then .ok ([10], i + 1)
  else if b = 114 then .ok ([13], i + 1)
  else if b = 116 then .ok ([9], i + 1)
  else if b = 117 then (pointM s (i + 1)).bind fun x => .ok (enc x.1, x.2)
  else .bad 40
def strF (s : ByteArray) : Nat → Nat → List Int → Rs (List Int × Nat)
  | 0, _, _ => .bad 40
  | f + 1, j, l =>
    if byt s j = 34 then .ok (l, j + 1)
    else if byt s j = 92 then (escM s (j + 1)).bind fun x => strF s f x.2 (l ++ x.1)
    else if byt s j < 32 then .bad 40
    else strF s f (j + 1) (l ++ [byt s j])
/-- A string. -/
def strM (s : ByteArray) (i : Nat) : Rs (List Int × Nat) := (wordM s [34] i).bind fun j => strF s (s.size - j + 1) j []
/-- Behind a number's first part. -/
def intM (s : ByteArray) (i : Nat) : Rs Nat :=
  let a := if byt s i = 45 then i + 1 else i
  if byt s a = 48 then .ok (a + 1) else if dg s a = a then .bad 40 else .ok (dg s a)
/-- Behind a fraction, an exponent, if there is one. -/
def fracM (s : ByteArray) (b : Nat) : Nat := if byt s b = 46 then (if dg s (b + 1) = b + 1 then b else dg s (b + 1)) else b
def expoM (s : ByteArray) (b : Nat) : Nat :=
  if byt s b = 101 ∨ byt s b = 69 then
    let c := if byt s (b + 1) = 43 ∨ byt s (b + 1) = 45 then b + 2 else b + 1
    if dg s c = c then b else dg s c
  else b
/-- A number, and the place behind it. -/
def numM (s : ByteArray) (i : Nat) : Rs (Int × Nat) :=
  (intM s i).bind fun b =>
    let d := expoM s (fracM s b)
    if Nm.rdE (s.extract i d) = 0 then .ok (Nm.rdV (s.extract i d), d) else .bad 41
/-- A cell turned, at a place. -/
def setC (L : List CR) (h : Nat) (f : CR → CR) : List CR := L.set h (f (L.getD h default))
def incC (L : List CR) (h : Nat) : List CR := setC L h (fun c => { c with m := c.m + 1 })
abbrev Out := Nat × List CR
/-- Items behind one that is read already, to the bracket's end. -/
def lstF (s : ByteArray) (V : Nat → List CR → Rs Out) (h : Nat) : Nat → Nat → List CR → Rs Out
  | 0, _, _ => .bad 40
  | f + 1, i, L =>
    if byt s i = 44 then (V (bl s (i + 1)) L).bind fun x => lstF s V h f (bl s x.1) (incC x.2 h)
    else (wordM s [93] i).bind fun j => .ok (j, L)
/-- A list's items, behind its bracket. -/
def lstM (s : ByteArray) (V : Nat → List CR → Rs Out) (h i : Nat) (L : List CR) : Rs Out :=
  if byt s i = 93 then .ok (i + 1, L) else (V i L).bind fun x => lstF s V h (s.size - x.1 + 1) (bl s x.1) (incC x.2 h)
/-- A member: its name, and its value. -/
def memM (s : ByteArray) (V : ByteArray → Nat → List CR → Rs Out) (h i : Nat) (names : List ByteArray) (L : List CR) : Rs (Out × List ByteArray) :=
  (strM s i).bind fun x =>
    if x.1 = [] then .bad 8 else if names.any (fun y => decide (y = mkB x.1)) = true then .bad 42 else
    (wordM s [58] (bl s x.2)).bind fun k => (V (mkB x.1) (bl s k) L).bind fun y => .ok ((y.1, incC y.2 h), mkB x.1 :: names)
def objF (s : ByteArray) (V : ByteArray → Nat → List CR → Rs Out) (h : Nat) : Nat → Nat → List ByteArray → List CR → Rs Out
  | 0, _, _, _ => .bad 40
  | f + 1, i, names, L =>
    if byt s i = 44 then (memM s V h (bl s (i + 1)) names L).bind fun x => objF s V h f (bl s x.1.1) x.2 x.1.2
    else (wordM s [125] i).bind fun j => .ok (j, L)
def objM (s : ByteArray) (V : ByteArray → Nat → List CR → Rs Out) (h i : Nat) (L : List CR) : Rs Out :=
  if byt s i = 125 then .ok (i + 1, L) else (memM s V h i [] L).bind fun x => objF s V h (s.size - x.1.1 + 1) (bl s x.1.1) x.2 x.1.2
/-- May a value begin with a byte? -/
def isSt (b : Int) : Bool := decide (b = 123) || decide (b = 91) || decide (b = 34) || decide (b = 116) || decide (b = 102) || decide (b = 110) || decide (b = 45) || isDg b
/-- A value, of a name, so many brackets being open (f: how many more may be, and one). -/
def valM (s : ByteArray) : Nat → ByteArray → Nat → Nat → List CR → Rs Out
  | 0, _, _, _, _ => .bad 30
  | f + 1, nm, op, i, L =>
    if isSt (byt s i) = false then .bad 40
    else if (byt s i = 123 ∨ byt s i = 91) ∧ op = 16 then .bad 30
    else if L.length = 2048 then .bad 4
    else if byt s i = 123 then objM s (fun nm' j M => valM s f nm' (op + 1) j M) L.length (bl s (i + 1)) (L ++ [⟨7, nm, ⟨#[]⟩, 0, 0⟩])
    else if byt s i = 91 then lstM s (fun j M => valM s f ⟨#[]⟩ (op + 1) j M) L.length (bl s (i + 1)) (L ++ [⟨6, nm, ⟨#[]⟩, 0, 0⟩])
    else if byt s i = 34 then (strM s i).bind fun x => .ok (x.2, L ++ [⟨3, nm, mkB x.1, 0, 0⟩])
    else if byt s i = 116 then (wordM s [116, 114, 117, 101] i).bind fun j => .ok (j, L ++ [⟨1, nm, ⟨#[]⟩, 1, 0⟩])
    else if byt s i = 102 then (wordM s [102, 97, 108, 115, 101] i).bind fun j => .ok (j, L ++ [⟨1, nm, ⟨#[]⟩, 0, 0⟩])
    else if byt s i = 110 then (wordM s [110, 117, 108, 108] i).bind fun j => .ok (j, L ++ [⟨0, nm, ⟨#[]⟩, 0, 0⟩])
    else (numM s i).bind fun x => .ok (x.2, L ++ [⟨2, nm, ⟨#[]⟩, x.1, 0⟩])
/-- What a text tells. -/
def readM (s : ByteArray) : Rs (List CR) :=
  if ckE s ≠ 0 then .bad (ckE s) else
  (valM s 17 ⟨#[]⟩ 0 (bl s 0) []).bind fun x => if bl s x.1 < s.size then .bad 40 else .ok x.2
end Go.Proofs.YtoicmcjpaodgpaaDoor
/- Plain facts for layer 1: the bytes of code points are read as those code points; how many a text has. No program in sight. -/
namespace Go.Proofs.YtoicmcjpaodgpaaDoor
open Go.RowKit

/-- The bytes of the first k code points. -/
def encs (L : List Int) : Nat → List Int
  | 0 => []
  | k + 1 => encs L k ++ enc (L.getD k 0)
/-- Are the first k numbers code points? -/
def allPt (L : List Int) : Nat → Bool
  | 0 => true
  | k + 1 => allPt L k && isPt (L.getD k 0)
def putE (L : List Int) : Int := if 16384 < L.length then 4 else if allPt L L.length then 0 else 10
def putS (L : List Int) : ByteArray := if putE L = 0 then mkB (encs L L.length) else ⟨#[]⟩

theorem encs_len (L : List Int) : ∀ k, (encs L k).length ≤ 4 * k := by
  intro k
  induction k with
  | zero => simp [encs]
  | succ k ih => simp only [encs, List.length_append]; have := enc_len (L.getD k 0); omega
theorem encs_range (L : List Int) : ∀ k, allPt L k = true → ∀ x ∈ encs L k, 0 ≤ x ∧ x < 256 := by
  intro k
  induction k with
  | zero => intro _ x hx; simp [encs] at hx
  | succ k ih =>
    intro h x hx
    simp only [allPt, Bool.and_eq_true] at h
    simp only [encs, List.mem_append] at hx
    rcases hx with hx | hx
    · exact ih h.1 x hx
    · have := isPt_range h.2
      exact enc_range this.1 this.2 x hx
theorem allPt_le {L : List Int} {j k : Nat} (hjk : j ≤ k) (h : allPt L k = true) : allPt L j = true := by
  induction k with
  | zero => obtain rfl : j = 0 := by omega
            exact h
  | succ k ih =>
    by_cases e : j = k + 1
    · subst e; exact h
    · simp only [allPt, Bool.and_eq_true] at h
      exact ih (by omega) h.1

theorem put_many {L : List Int} (h : 16384 < L.length) : putE L = 4 ∧ putS L = ⟨#[]⟩ := by
  have : putE L = 4 := by unfold putE; rw [if_pos h]
  exact ⟨this, by unfold putS; rw [this]; rfl⟩
theorem put_bad {L : List Int} (h : ¬ 16384 < L.length) (hb : allPt L L.length = false) : putE L = 10 ∧ putS L = ⟨#[]⟩ := by
  have : putE L = 10 := by unfold putE; rw [if_neg h, hb]; rfl
  exact ⟨this, by unfold putS; rw [this]; rfl⟩
theorem put_good {L : List Int} (h : ¬ 16384 < L.length) (hb : allPt L L.length = true) : putE L = 0 ∧ putS L = mkB (encs L L.length) := by
  have : putE L = 0 := by unfold putE; rw [if_neg h, hb]; rfl
  exact ⟨this, by unfold putS; rw [if_pos this]⟩

end Go.Proofs.YtoicmcjpaodgpaaDoor
/- Layer 4, Read: text.encode, text.Put (as in layer 1). -/
namespace Go.Proofs.YtoicmcjpaodgpaaDoor
open Go.RowKit

theorem info5 : (Tryd.prog.info? 5).map (fun i => (i.zero, i.size, i.bytes)) = some (some (.int .u8 0), 1, 1) := by kernel_rfl
theorem or_192 (y : Int) (h0 : 0 ≤ y) (h1 : y < 64) : bits .or .i64 192 y = 192 + y := bits_join .i64 63 (by decide) wraps_i64 6 192 y (by omega) (by omega) (by omega) h0 h1 (by omega)
theorem or_128 (y : Int) (h0 : 0 ≤ y) (h1 : y < 64) : bits .or .i64 128 y = 128 + y := bits_join .i64 63 (by decide) wraps_i64 6 128 y (by omega) (by omega) (by omega) h0 h1 (by omega)
theorem or_224 (y : Int) (h0 : 0 ≤ y) (h1 : y < 32) : bits .or .i64 224 y = 224 + y := bits_join .i64 63 (by decide) wraps_i64 5 224 y (by omega) (by omega) (by omega) h0 h1 (by omega)
theorem or_240 (y : Int) (h0 : 0 ≤ y) (h1 : y < 16) : bits .or .i64 240 y = 240 + y := bits_join .i64 63 (by decide) wraps_i64 4 240 y (by omega) (by omega) (by omega) h0 h1 (by omega)
theorem cell_news (w : World) (cs : Array Value) (t : TypeId) (L : List Value) (h : cs.toList = L) : ∀ j u, L[j]? = some u → (w.alloc (.cells cs t)).cell? ((⟨w.heap.size, 0, none⟩ : Addr).add j) = some u := by
  subst h
  intro j u hj
  simp only [Addr.add_lit, Nat.zero_add, World.cell?, heap_alloc_new]
  simpa using hj

theorem enc_end {w w1 : World} {v v' : Value} {B n m : Nat} {xs : List Value} {o : Obj} {L : List Int} (hown : w.ownsRow B 5 1 v n xs) (hB : B ≤ w.heap.size) (hm : m = L.length) (ho : w1.ownsRow B 5 1 v' (n + m) (xs ++ L.map (Value.int .u8))) (hg : (w.alloc o).grownBy w1 v.ownBlock) :
    w1.ownsRow B 5 1 v' (n + L.length) (xs ++ L.map (Value.int .u8)) ∧ Below B w w1 := by
  subst hm
  exact ⟨ho, ((Below.refl B w).alloc hB o).grown hg (by simp; omega) (fun k hk => (hown.lt k hk).1)⟩

theorem encode_any (p : Int) (B n : Nat) (v : Value) (xs : List Value) (w : World) (h0 : 0 ≤ p) (h1 : p < 1114112) (hown : w.ownsRow B 5 1 v n xs) (hB : B ≤ w.heap.size) (hn : n ≤ 1000000) :
    Calls Tryd.prog 117 #[v, .int .i64 p] w fun e w' => ∃ v', e = .returned v' ∧ w'.ownsRow B 5 1 v' (n + (enc p).length) (xs ++ (enc p).map (Value.int .u8)) ∧ Below B w w' := by
  obtain ⟨i0, hi, hz0, hz1, hz2⟩ := info_parts info5
  have hsz : B ≤ w.heap.size + 1 := by omega
  by_cases c1 : p < 128
  · have hs : Hid (szOf p = 1) := Lib.hid (by unfold szOf; rw [if_pos c1])
    have he : Hid (enc p = [p]) := Lib.hid (by unfold enc; rw [if_pos c1])
    go_enter Tryd.func117, Tryd.ntmps117
    go_wp2_with fail
    refine (sizeOf_any p _).mono ?_
    rintro e w1 ⟨rfl, rfl⟩
    rw [hs.out]
    go_wp2_with (at_builtin; refine wpList_append_own _ rfl _ _ 44 rfl B 5 i0 (.int .u8 0) 1 1 Tryd.underlying44 hi hz0 hz1 hz2 rfl (by decide) _ n xs rfl (hown.alloc _) ⟨w.heap.size, 0, none⟩ 1 1 [.int .u8 p] rfl rfl (cell_news _ _ _ _ rfl) (by intro u hu; simp at hu; subst hu; rfl) (by unfold maxLen; omega) (by omega) (by simpa using hsz) ?_; intro v' w1 ho hg _)
    go_ret
    refine ⟨v', rfl, ?_⟩
    rw [he.out]
    exact enc_end hown hB rfl ho hg
  by_cases c2 : p < 2048
  · have hs : Hid (szOf p = 2) := Lib.hid (by unfold szOf; rw [if_neg c1, if_pos c2])
    have he : Hid (enc p = [192 + p / 64, 128 + p % 64]) := Lib.hid (by unfold enc; rw [if_neg c1, if_pos c2])
    go_enter Tryd.func117, Tryd.ntmps117
    go_wp2_with fail
    refine (sizeOf_any p _).mono ?_
    rintro e w1 ⟨rfl, rfl⟩
    rw [hs.out]
    go_wp2_with (at_builtin; refine wpList_append_own _ rfl _ _ 44 rfl B 5 i0 (.int .u8 0) 1 1 Tryd.underlying44 hi hz0 hz1 hz2 rfl (by decide) _ n xs rfl (hown.alloc _) ⟨w.heap.size, 0, none⟩ 2 2 [.int .u8 (192 + p / 64), .int .u8 (128 + p % 64)] rfl rfl (cell_news _ _ _ _ ?cc2) (by intro u hu; simp at hu; rcases hu with rfl | rfl <;> rfl) (by unfold maxLen; omega) (by omega) (by simpa using hsz) ?_; rotate_right; intro v' w1 ho hg _)
    case cc2 =>
      rw [or_192 _ (by omega) (by omega), and63 p (by omega) (by omega), or_128 _ (by omega) (by omega)]; omega
    go_ret
    refine ⟨v', rfl, ?_⟩
    rw [he.out]
    exact enc_end hown hB rfl ho hg
  by_cases c3 : p < 65536
  · have hs : Hid (szOf p = 3) := Lib.hid (by unfold szOf; rw [if_neg c1, if_neg c2, if_pos c3])
    have he : Hid (enc p = [224 + p / 4096, 128 + p / 64 % 64, 128 + p % 64]) := Lib.hid (by unfold enc; rw [if_neg c1, if_neg c2, if_pos c3])
    go_enter Tryd.func117, Tryd.ntmps117
    go_wp2_with fail
    refine (sizeOf_any p _).mono ?_
    rintro e w1 ⟨rfl, rfl⟩
    rw [hs.out]
    go_wp2_with (at_builtin; refine wpList_append_own _ rfl _ _ 44 rfl B 5 i0 (.int .u8 0) 1 1 Tryd.underlying44 hi hz0 hz1 hz2 rfl (by decide) _ n xs rfl (hown.alloc _) ⟨w.heap.size, 0, none⟩ 3 3 [.int .u8 (224 + p / 4096), .int .u8 (128 + p / 64 % 64), .int .u8 (128 + p % 64)] rfl rfl (cell_news _ _ _ _ ?cc3) (by intro u hu; simp at hu; rcases hu with rfl | rfl | rfl <;> rfl) (by unfold maxLen; omega) (by omega) (by simpa using hsz) ?_; rotate_right; intro v' w1 ho hg _)
    case cc3 =>
      rw [or_224 _ (by omega) (by omega), and63 (p / 64) (by omega) (by omega), and63 p (by omega) (by omega), or_128 (p / 64 % 64) (by omega) (by omega), or_128 (p % 64) (by omega) (by omega)]; omega
    go_ret
    refine ⟨v', rfl, ?_⟩
    rw [he.out]
    exact enc_end hown hB rfl ho hg
  · have hs : Hid (szOf p = 4) := Lib.hid (by unfold szOf; rw [if_neg c1, if_neg c2, if_neg c3])
    have he : Hid (enc p = [240 + p / 262144, 128 + p / 4096 % 64, 128 + p / 64 % 64, 128 + p % 64]) := Lib.hid (by unfold enc; rw [if_neg c1, if_neg c2, if_neg c3])
    go_enter Tryd.func117, Tryd.ntmps117
    go_wp2_with fail
    refine (sizeOf_any p _).mono ?_
    rintro e w1 ⟨rfl, rfl⟩
    rw [hs.out]
    go_wp2_with (at_builtin; refine wpList_append_own _ rfl _ _ 44 rfl B 5 i0 (.int .u8 0) 1 1 Tryd.underlying44 hi hz0 hz1 hz2 rfl (by decide) _ n xs rfl (hown.alloc _) ⟨w.heap.size, 0, none⟩ 4 4 [.int .u8 (240 + p / 262144), .int .u8 (128 + p / 4096 % 64), .int .u8 (128 + p / 64 % 64), .int .u8 (128 + p % 64)] rfl rfl (cell_news _ _ _ _ ?cc4) (by intro u hu; simp at hu; rcases hu with rfl | rfl | rfl | rfl <;> rfl) (by unfold maxLen; omega) (by omega) (by simpa using hsz) ?_; rotate_right; intro v' w1 ho hg _)
    case cc4 =>
      rw [or_240 _ (by omega) (by omega), and63 (p / 4096) (by omega) (by omega), and63 (p / 64) (by omega) (by omega), and63 p (by omega) (by omega), or_128 (p / 4096 % 64) (by omega) (by omega), or_128 (p / 64 % 64) (by omega) (by omega), or_128 (p % 64) (by omega) (by omega)]; omega
    go_ret
    refine ⟨v', rfl, ?_⟩
    rw [he.out]
    exact enc_end hown hB rfl ho hg
theorem ret_si {a b : ByteArray} {c d : Int} (h : a = b) (g : c = d) : Ending.returned (.tuple #[.string a, .int .i64 c]) = .returned (.tuple #[.string b, .int .i64 d]) := by rw [h, g]
/-- A slice of Ints that can be read. -/
def PView (w : World) (a : Option Addr) (len : Nat) (L : List Int) : Prop :=
  L.length = len ∧ ∀ k, k < len → ∃ b off, a = some ⟨b, off, none⟩ ∧ b < w.heap.size ∧ w.cell? ⟨b, off + k, none⟩ = some (.int .i64 (L.getD k 0))
theorem put_any (a : Option Addr) (len cap : Nat) (L : List Int) (w : World) (hv : PView w a len L) (hm : len ≤ maxLen) :
    Calls Tryd.prog 113 #[.slice a len cap] w fun e w' => e = .returned (.tuple #[.string (putS L), .int .i64 (putE L)]) ∧ Below w.heap.size w w' := by
  unfold maxLen at hm
  obtain ⟨hL, hc⟩ := hv
  by_cases h1 : 16384 < len
  · have hp := Lib.hid (put_many (L := L) (by omega))
    go_enter Tryd.func113, Tryd.ntmps113
    go_wp2_with fail
    go_ret2
    exact ⟨ret_si hp.out.2.symm hp.out.1.symm, Below.refl _ _⟩
  by_cases hz : len = 0
  · subst hz
    have hE : encs L L.length = [] := by rw [hL]; rfl
    have HG := Lib.hid (put_good (L := L) (by omega) (by rw [hL]; rfl))
    have hcv := conv_own (L := []) (World.ownsRow_nil w w.heap.size 5 1) (fun x hx => by simp at hx)
    clear hc hL
    go_enter Tryd.func113, Tryd.ntmps113
    go_wp2_with fail
    refine wp_loop_rounds 1 ?_
    rw [rounds_succ]
    go_wp2_with fail
    go_ret2
    exact ⟨ret_si (by rw [HG.out.2, hE]) HG.out.1.symm, Below.refl _ _⟩
  · obtain ⟨b, off, rfl, hxb, _⟩ := hc 0 (by omega)
    have HC : Hid (∀ k, k < len → w.cell? ⟨b, off + k, none⟩ = some (.int .i64 (L.getD k 0))) := Lib.hid (fun k hk => by
      obtain ⟨b', off', he, _, hx⟩ := hc k hk
      simp only [Option.some.injEq, Addr.mk.injEq, and_true] at he
      obtain ⟨rfl, rfl⟩ := he
      exact hx)
    have HP := Lib.hid (put_bad (L := L) (by omega))
    have HG := Lib.hid (put_good (L := L) (by omega))
    have HL := Lib.hid hL
    clear hc hL
    go_enter Tryd.func113, Tryd.ntmps113
    go_wp2_with fail
    go_loopw [4, 12] (fun v i wr => ∃ k : Nat, k ≤ len ∧ i = .int .i64 k ∧ allPt L k = true ∧ wr.ownsRow w.heap.size 5 1 v (encs L k).length ((encs L k).map (Value.int .u8)) ∧ Below w.heap.size w wr) (fun _ i _ => len - (intOf i).toNat)
    case atStart => exact ⟨0, by omega, rfl, rfl, World.ownsRow_nil _ _ _ _, Below.refl _ _⟩
    case round =>
      obtain ⟨k, hk, rfl, ha, hown, hb⟩ := hrel
      by_cases hlt : k < len
      · have hcx := (hb.cell (p := ⟨b, off + k, none⟩) hxb).trans (HC.out k hlt)
        obtain ⟨p, hp⟩ : ∃ p, p = L.getD k 0 := ⟨_, rfl⟩
        rw [← hp] at hcx
        have HK : Hid (p = L.getD k 0) := hp
        clear hp
        by_cases hpt : isPt p = true
        · have HA : Hid (allPt L (k + 1) = true) := Lib.hid (by simp only [allPt, ha, Bool.true_and, ← HK.out]; exact hpt)
          have hr := isPt_range hpt
          have HPT := Lib.hid hpt
          have hle := encs_len L k
          have HO := Lib.hid hown
          have HB := Lib.hid hb
          have hsz := hb.size
          clear hb hown ha hpt
          go_wp2_with fail
          refine (isPoint_any p _).mono ?_
          rintro e w1 ⟨rfl, rfl⟩
          rw [HPT.out]
          go_wp2_with fail
          refine (encode_any p w.heap.size _ _ _ _ hr.1 hr.2 HO.out hsz (by omega)).mono ?_
          rintro e w1 ⟨v', rfl, ho, b1⟩
          go_wp2_with fail
          go_roundw
          case rel => exact ⟨k + 1, by omega, by go_num, HA.out, by simp only [encs, ← HK.out, List.length_append, List.map_append]; exact ho, HB.out.trans b1⟩
          case measure => simp [intOf]; omega
        · have HA : Hid (allPt L L.length = false) := Lib.hid (by
            cases hh : allPt L L.length
            · rfl
            · have := allPt_le (j := k + 1) (by rw [HL.out]; omega) hh
              simp only [allPt, Bool.and_eq_true] at this
              rw [HK.out] at hpt
              exact absurd this.2 hpt)
          have hpf : isPt p = false := by simpa using hpt
          have HPT := Lib.hid hpf
          have HB := Lib.hid hb
          clear hb hown ha hpt hpf
          go_wp2_with fail
          refine (isPoint_any p _).mono ?_
          rintro e w1 ⟨rfl, rfl⟩
          rw [HPT.out]
          go_wp2_with fail
          go_ret2
          have := HP.out HA.out
          exact ⟨ret_si this.2.symm this.1.symm, HB.out⟩
      · obtain rfl : k = len := by omega
        have hcv := conv_own hown (encs_range L k ha)
        have HA := Lib.hid ha
        have HB := Lib.hid hb
        clear ha hb hown
        go_wp2_with fail
        go_ret2
        have := HG.out (by rw [HL.out]; exact HA.out)
        exact ⟨ret_si (by rw [this.2, HL.out]) this.1.symm, HB.out⟩
end Go.Proofs.YtoicmcjpaodgpaaDoor
