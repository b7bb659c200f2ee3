/- Layer 3: holds. -/
import Derived.Test.YtfmgkndljppffaaD9
namespace Go.Proofs.Ytfmgkndljppffaa
open Go.RowKit Go.Maps
theorem pre_cw (k ln : Nat) (hk : k = 6 ∨ k = 7) (s : Nat → ByteArray) (len : Nat → Nat) (G : Nat → Nat → CR) (hl : ln ≤ 2048) (hcw : ∀ i, i < ln → CW (len i) (G i)) (hsz : k = 7 → ∀ i, i < ln → (s i).size ≤ maxLen) : CW (preL k ln s len G ln).length (gl (preL k ln s len G ln)) := by
  refine cw_small rfl fun c hc => ?_
  unfold preL at hc
  rcases List.mem_cons.1 hc with rfl | hc
  · refine ⟨by show k < 256; omega, by show (0 : Nat) ≤ maxLen; omega, by show (0 : Nat) ≤ 1000000; omega, by show -9223372036854775808 ≤ (ln : Int); omega, by show (ln : Int) ≤ 9223372036854775807; omega⟩
  · obtain ⟨l, hl1, hl2⟩ := List.mem_flatten.1 hc
    obtain ⟨j, hj, rfl⟩ := List.mem_map.1 hl1
    have hj' := List.mem_range.1 hj
    have key : ∀ c, c ∈ cut (G j) 0 (len j) → c.k < 256 ∧ c.nm.size ≤ maxLen ∧ c.tx.size ≤ 1000000 ∧ -9223372036854775808 ≤ c.m ∧ c.m ≤ 9223372036854775807 := fun c hc => by
      unfold cut at hc
      obtain ⟨t, ht, rfl⟩ := List.mem_map.1 hc
      have ht' := List.mem_range.1 ht
      exact hcw j (by omega) (0 + t) (by omega)
    unfold lsF at hl2
    split at hl2
    · rename_i h7
      cases hcl : cut (G j) 0 (len j) with
      | nil => rw [hcl] at hl2; simp [ren] at hl2
      | cons x r =>
        rw [hcl] at hl2 key
        rcases List.mem_cons.1 hl2 with rfl | hl2
        · have := key x (by simp)
          exact ⟨this.1, hsz h7 j (by omega), this.2.2⟩
        · exact key c (by simp [hl2])
    · exact key c hl2
theorem cut_same (g : Nat → CR) (n : Nat) : smB (gl (cut g 0 n)) n g n = true := sm_yes fun j hj => by rw [cut_at g 0 n j (by omega), Nat.zero_add]
set_option maxRecDepth 20000 in
set_option maxHeartbeats 4000000 in
theorem holds_true (k : Nat) (hk : k = 6 ∨ k = 7) (va na la : Option Addr) (vcap nn nc ln lc : Nat) (s : Nat → ByteArray) (ad : Nat → Option Addr) (len cp : Nat → Nat) (G : Nat → Nat → CR) (w : World)
    (hl : ln ≤ 2048) (hck : ∀ i, i < ln → ckC (G i) (len i) = true) (hL : ckL (preL k ln s len G ln) = true) (hv : CV w va (preL k ln s len G ln).length (gl (preL k ln s len G ln))) (hcap : (preL k ln s len G ln).length ≤ vcap)
    (hcw : ∀ i, i < ln → CW (len i) (G i)) (hsz : k = 7 → ∀ i, i < ln → (s i).size ≤ maxLen) (hin : LIn w la ln ad len cp G) (hnn : k = 6 ∧ nn = 0 ∨ k = 7 ∧ nn = ln ∧ NV w na ln s) :
    Calls Try.prog 32 #[.slice va (preL k ln s len G ln).length vcap, .slice la ln lc, .slice na nn nc] w fun e w' => e = .returned (.bool true) ∧ Below w.heap.size w w' := by
  have hLW := pre_cw k ln hk s len G hl hcw hsz
  obtain ⟨f1, f2, f3⟩ := put_facts k hk ln s len G hck hL
  have hpos := (ckC_parts hL).1
  have HLEN := Lib.hid (fun i hi => (ckC_parts (hck i hi)).2.1)
  have HPOS := Lib.hid (fun i hi => (ckC_parts (hck i hi)).1)
  have hN1 := (ckC_parts hL).2.1
  obtain ⟨L, hLe⟩ : ∃ L, L = preL k ln s len G ln := ⟨_, rfl⟩
  obtain ⟨f, hf⟩ : ∃ f, f = plF k ln s len G := ⟨_, rfl⟩
  have hf0 : bd (gl L) L.length (0 + 1) = f := by rw [hf, hLe]; rfl
  rw [← hLe] at hLW f1 f2 f3 hv hcap hL hpos hN1 ⊢
  rw [← hf] at f3
  obtain ⟨n, hn⟩ : ∃ n, n = L.length := ⟨_, rfl⟩
  obtain ⟨g, hg⟩ : ∃ g, g = gl L := ⟨_, rfl⟩
  unfold ckL at hL
  rw [← hn, ← hg] at hLW f3 hv hL hf0
  rw [← hn] at hcap hpos hN1 ⊢
  rw [← hg] at f1 f2
  have HK : Hid (∀ W, CV W va n g → Calls Try.prog 8 #[.slice va n vcap, .int .i64 0] W fun r w' => ∃ ad c, r = .returned (.tuple #[.slice ad ln c, .int .i64 0]) ∧ IV w' ad ln f ∧ Below W.heap.size W w') := Lib.hid (fun W hV => by
    have h := kids_ok va n vcap g 0 W hV hLW hL hpos
    rw [f1, hf0] at h
    refine Calls.mono h ?_
    rintro e w' ⟨ad, c, h1, h2, _, h3⟩
    exact ⟨ad, c, h1, h2, h3⟩)
  have HC : Hid (∀ W, CV W va n g → Calls Try.prog 11 #[.slice va n vcap] W fun e w' => e = .returned (.int .i64 0) ∧ Below W.heap.size W w') := Lib.hid (fun W hV => by
    have h := cCheck_any va n vcap g W hV hLW
    rw [hL] at h
    exact h)
  have HS : Hid (∀ i, i < ln → ∀ W, CV W va n g → Calls Try.prog 19 #[.slice va n vcap, .int .i64 (f i : Nat)] W fun r w' => ∃ v, r = .returned (.tuple #[v, .int .i64 0]) ∧ w'.ownsRow W.heap.size 32 5 v (len i) (rw5 (cut (G i) 0 (len i))) ∧ Below W.heap.size W w') := Lib.hid (fun i hi W hV => by
    obtain ⟨g1, g2, g3, _⟩ := f3 i hi
    have h := sub_ok va n vcap g (f i) W hV hLW hL g1 hcap
    rw [g2, g3] at h
    exact h)
  have HM : Hid (k = 7 → ∀ i, i < ln → ∀ W, CV W va n g → Calls Try.prog 10 #[.slice va n vcap, .int .i64 0, .string (s i)] W fun r w' => r = .returned (.tuple #[.int .i64 (f i : Nat), .bool true]) ∧ Below W.heap.size W w') := Lib.hid (fun h7 i hi W hV => by
    have h := member_any va n vcap g 0 (s i) W hV hLW
    rw [(f3 i hi).2.2.2 h7] at h
    exact h)
  have HR : Hid (∀ i, i < ln → ∀ (x : Option Addr) (c : Nat) W, CV W x (len i) (gl (cut (G i) 0 (len i))) → CV W (ad i) (len i) (G i) → Calls Try.prog 21 #[.slice x (len i) c, .slice (ad i) (len i) (cp i)] W fun r w' => r = .returned (.bool true) ∧ Below W.heap.size W w') := Lib.hid (fun i hi x c W h1 h2 => by
    have h := rsame_any x (ad i) (len i) (len i) c (cp i) _ (G i) W h1 h2 (by unfold maxLen; have := HLEN.out i hi; omega)
    rw [cut_same] at h
    exact h)
  have HV := Lib.hid hv
  have HIN := Lib.hid hin
  have HNN := Lib.hid hnn
  have hln : (ln : Int) ≤ 2048 := by omega
  have hne : ((ln : Int) != ln) = false := by simp
  clear hLe hf hf0 hn hg f1 f2 f3 hLW hcw hsz hck hL hin hnn hcap hpos hv hN1
  go_enter Try.func32, Try.ntmps32
  go_wp2_with fail
  with_reducible refine (HK.out w HV.out).mono ?_
  rintro e w1 ⟨ka, kc, rfl, iv, b1⟩
  have I1 := Lib.hid iv
  have B1 := Lib.hid b1
  clear iv b1 HK
  go_wp2_with fail
  with_reducible refine (HC.out w1 (HV.out.below B1.out)).mono ?_
  rintro e w2 ⟨rfl, b2⟩
  have I2 := Lib.hid (I1.out.below b2)
  have B2 := Lib.hid (B1.out.trans (b2.mono B1.out.size))
  clear b2 HC I1 B1
  go_wp2_with fail
  go_loopw [9] (fun v9 wr => ∃ i : Nat, i ≤ ln ∧ v9 = .int .i64 i ∧ Hid (Below w.heap.size w wr) ∧ Hid (IV wr ka ln f)) (fun v9 _ => ln - (intOf v9).toNat)
  case atStart => exact ⟨0, Nat.zero_le _, rfl, B2, I2⟩
  case round =>
    obtain ⟨i, hi, rfl, HB, HI⟩ := hrel
    clear B2 I2
    by_cases h1 : i < ln
    · have hg1 : (i : Int) < ln := by omega
      have hg0 : (0 : Int) ≤ i := by omega
      obtain ⟨b, off, rfl, _, cl⟩ := (HIN.out.below HB.out).at_ i h1
      obtain ⟨kb, ko, rfl, _, ck⟩ := HI.out i h1
      have HS1 := Lib.hid (HS.out i h1 wr (HV.out.below HB.out))
      have HR1 := Lib.hid (HR.out i h1)
      have hl0 := HPOS.out i h1
      have hlc : Hid ((cut (G i) 0 (len i)).length = len i) := Lib.hid (by rw [cut_len, Nat.sub_zero])
      obtain ⟨x, hx⟩ : ∃ x, x = f i := ⟨_, rfl⟩
      rw [← hx] at ck HS1
      replace hx := Lib.hid hx
      go_wp2_with fail
      with_reducible refine HS1.out.mono ?_
      rintro e w3 ⟨v, rfl, o3, b3⟩
      obtain ⟨q, c3, rfl, _, v3, _, _⟩ := own_cvc hlc.out o3 hl0
      have V3 := Lib.hid v3
      have B3 := Lib.hid (HB.out.trans (b3.mono HB.out.size))
      have I3 := Lib.hid (HI.out.below b3)
      have cl3 := (b3.cell (p := ⟨b, off + i, none⟩) (by assumption)).trans cl
      clear cl ck o3 v3 b3 HS1
      go_wp2_with fail
      with_reducible refine (HR1.out _ _ w3 V3.out ((HIN.out.below B3.out).cv i h1)).mono ?_
      rintro e w4 ⟨rfl, b4⟩
      have B4 := Lib.hid (B3.out.trans (b4.mono B3.out.size))
      have I4 := Lib.hid (I3.out.below b4)
      clear cl3 b4 V3 B3 I3 HR1 HI HB
      rcases HNN.out with ⟨_, h0⟩ | ⟨h7, h0, nv⟩
      · subst h0
        go_wp2_with fail
        go_roundw
        case rel => exact ⟨i + 1, by omega, by go_num, B4, I4⟩
        case measure => simp [intOf]; omega
      · subst h0
        obtain ⟨nb, no, rfl, _, cn⟩ := (nv.below B4.out) i h1
        have HM1 := Lib.hid (HM.out h7 i h1 w4 (HV.out.below B4.out))
        have hgz : (0 : Int) < nn := by omega
        rw [← hx.out] at HM1
        replace h7 := Lib.hid h7
        replace nv := Lib.hid nv
        obtain ⟨sn, hsn⟩ : ∃ sn, sn = s i := ⟨_, rfl⟩
        rw [← hsn] at cn HM1
        clear hsn
        go_wp2_with fail
        with_reducible refine HM1.out.mono ?_
        rintro e w5 ⟨rfl, b5⟩
        have B5 := Lib.hid (B4.out.trans (b5.mono B4.out.size))
        have I5 := Lib.hid (I4.out.below b5)
        obtain ⟨_, _, e5, _, ck⟩ := I5.out i h1
        cases e5
        rw [← hx.out] at ck
        have hxx : ((x : Int) != x) = false := by simp
        clear b5 cn HM1
        go_wp2_with fail
        go_roundw
        case rel => exact ⟨i + 1, by omega, by go_num, B5, I5⟩
        case measure => simp [intOf]; omega
    · have e1 : i = ln := by omega
      subst e1
      have hge : ¬ (i : Int) < i := by omega
      go_wp2_with fail
      go_ret
      exact ⟨rfl, HB.out⟩
end Go.Proofs.Ytfmgkndljppffaa
