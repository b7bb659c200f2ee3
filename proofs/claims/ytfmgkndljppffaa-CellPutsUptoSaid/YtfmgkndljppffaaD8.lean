/- Layer 3: gather. -/
import Derived.Test.YtfmgkndljppffaaD7
namespace Go.Proofs.Ytfmgkndljppffaa
open Go.RowKit Go.Maps
/-- Values that came in. -/
structure LIn (w : World) (la : Option Addr) (ln : Nat) (ad : Nat → Option Addr) (len cp : Nat → Nat) (G : Nat → Nat → CR) : Prop where
  at_ : ∀ i, i < ln → ∃ b off, la = some ⟨b, off, none⟩ ∧ b < w.heap.size ∧ w.cell? ⟨b, off + i, none⟩ = some (.slice (ad i) (len i) (cp i))
  cv : ∀ i, i < ln → CV w (ad i) (len i) (G i)
theorem LIn.below {w w' : World} {la : Option Addr} {ln : Nat} {ad : Nat → Option Addr} {len cp : Nat → Nat} {G : Nat → Nat → CR} (h : LIn w la ln ad len cp G) (hb : Below w.heap.size w w') : LIn w' la ln ad len cp G :=
  ⟨fun i hi => by
    obtain ⟨b, off, e, h1, h2⟩ := h.at_ i hi
    exact ⟨b, off, e, Nat.lt_of_lt_of_le h1 hb.size, (hb.cell (p := ⟨b, _, none⟩) h1).trans h2⟩, fun i hi => (h.cv i hi).below hb⟩
/-- Names that came in. -/
def NV (w : World) (a : Option Addr) (n : Nat) (s : Nat → ByteArray) : Prop := ∀ i, i < n → ∃ b off, a = some ⟨b, off, none⟩ ∧ b < w.heap.size ∧ w.cell? ⟨b, off + i, none⟩ = some (.string (s i))
theorem NV.below {w w' : World} {a : Option Addr} {n : Nat} {s : Nat → ByteArray} (h : NV w a n s) (hb : Below w.heap.size w w') : NV w' a n s := fun i hi => by
  obtain ⟨b, off, e, h1, h2⟩ := h i hi
  exact ⟨b, off, e, Nat.lt_of_lt_of_le h1 hb.size, (hb.cell (p := ⟨b, _, none⟩) h1).trans h2⟩
/-- The i-th value, under its name. -/
def lsF (k : Nat) (s : Nat → ByteArray) (len : Nat → Nat) (G : Nat → Nat → CR) (i : Nat) : List CR := if k = 7 then ren (s i) (cut (G i) 0 (len i)) else cut (G i) 0 (len i)
def hdC (k ln : Nat) : CR := ⟨k, ⟨#[]⟩, ⟨#[]⟩, 0, ln⟩
def preL (k ln : Nat) (s : Nat → ByteArray) (len : Nat → Nat) (G : Nat → Nat → CR) (i : Nat) : List CR := hdC k ln :: ((List.range i).map (lsF k s len G)).flatten
theorem pre_succ (k ln : Nat) (s : Nat → ByteArray) (len : Nat → Nat) (G : Nat → Nat → CR) (i : Nat) : preL k ln s len G (i + 1) = preL k ln s len G i ++ lsF k s len G i := by
  unfold preL
  rw [List.range_succ, List.map_append, List.flatten_append]
  simp
theorem ls_len (k : Nat) (s : Nat → ByteArray) (len : Nat → Nat) (G : Nat → Nat → CR) (i : Nat) : (lsF k s len G i).length = len i := by
  unfold lsF
  split
  · rw [ren_len, cut_len, Nat.sub_zero]
  · rw [cut_len, Nat.sub_zero]
theorem set_app (L M : List CR) (s : ByteArray) : setNm (L ++ M) L.length s = L ++ ren s M := by
  induction L with
  | nil => cases M <;> rfl
  | cons x L ih =>
    show x :: setNm (L ++ M) L.length s = x :: (L ++ ren s M)
    rw [ih]
/-- The error of gather. -/
def gE (k ln : Nat) (s : Nat → ByteArray) (len : Nat → Nat) (G : Nat → Nat → CR) : Int :=
  if 2048 < ln then 4 else if (List.range ln).all (fun i => ckC (G i) (len i)) then eC (ckL (preL k ln s len G ln)) else 8
def GP (w : World) (e : Int) (L : List CR) (r : Ending) (w' : World) : Prop :=
  ∃ v, r = .returned (.tuple #[v, .int .i64 e]) ∧ (e ≠ 0 → v = .slice none 0 0) ∧ (e = 0 → w'.ownsRow w.heap.size 32 5 v L.length (rw5 L)) ∧ Below w.heap.size w w'
theorem GP.bad {w w' : World} {e z : Int} {L : List CR} (he : e = z) (hz : z ≠ 0) (hb : Below w.heap.size w w') : GP w e L (.returned (.tuple #[.slice none 0 0, .int .i64 z])) w' := by
  subst he; exact ⟨_, rfl, fun _ => rfl, fun h => absurd h hz, hb⟩
theorem GP.ok {w w' : World} {e : Int} {L : List CR} {v : Value} (he : e = 0) (ho : w'.ownsRow w.heap.size 32 5 v L.length (rw5 L)) (hb : Below w.heap.size w w') : GP w e L (.returned (.tuple #[v, .int .i64 0])) w' := by
  subst he; exact ⟨_, rfl, fun h => absurd rfl h, fun _ => ho, hb⟩
set_option maxRecDepth 20000 in
theorem gather_many (kv : Int) (na la : Option Addr) (nn nc ln lc : Nat) (k : Nat) (s : Nat → ByteArray) (len : Nat → Nat) (G : Nat → Nat → CR) (w : World) (hl : 2048 < ln) : Calls Try.prog 47 #[.int .u8 kv, .slice na nn nc, .slice la ln lc] w (GP w (gE k ln s len G) (preL k ln s len G ln)) := by
  have HE := Lib.hid (show gE k ln s len G = 4 by unfold gE; rw [if_pos hl])
  obtain ⟨z, hz⟩ : ∃ z, z = gE k ln s len G := ⟨_, rfl⟩
  rw [← hz] at HE ⊢
  have h1 : (2048 : Int) < (ln : Int) := by omega
  clear hl hz
  go_enter Try.func47, Try.ntmps47
  go_wp2_with fail
  go_ret2
  exact GP.bad HE.out (by decide) (Below.refl _ _)
set_option maxRecDepth 20000 in
set_option maxHeartbeats 4000000 in
theorem gather_any (k : Nat) (hk : k = 6 ∨ k = 7) (na la : Option Addr) (nn nc ln lc : Nat) (s : Nat → ByteArray) (ad : Nat → Option Addr) (len cp : Nat → Nat) (G : Nat → Nat → CR) (w : World) (hl : ln ≤ 2048) (hin : LIn w la ln ad len cp G) (hcw : ∀ i, i < ln → CW (len i) (G i)) (hnv : k = 7 → NV w na ln s) (hnn : k = 7 → nn = ln) (hsz : k = 7 → ∀ i, i < ln → (s i).size ≤ maxLen) :
    Calls Try.prog 47 #[.int .u8 k, .slice na nn nc, .slice la ln lc] w (GP w (gE k ln s len G) (preL k ln s len G ln)) := by
  obtain ⟨i0, hi, hz0, hz1, hz2⟩ := infoC
  have HE : Hid (gE k ln s len G = if (List.range ln).all (fun i => ckC (G i) (len i)) then eC (ckL (preL k ln s len G ln)) else 8) := Lib.hid (by unfold gE; rw [if_neg (by omega)])
  obtain ⟨z, hz⟩ : ∃ z, z = gE k ln s len G := ⟨_, rfl⟩
  rw [← hz] at HE ⊢
  clear hz
  have HP := Lib.hid (pre_succ k ln s len G)
  have HLS := Lib.hid (fun i => show lsF k s len G i = if k = 7 then ren (s i) (cut (G i) 0 (len i)) else cut (G i) 0 (len i) from rfl)
  have HLL := Lib.hid (ls_len k s len G)
  have HIN := Lib.hid hin
  have HNV := Lib.hid hnv
  have HCW := Lib.hid hcw
  have h1 : ¬ (2048 : Int) < (ln : Int) := by omega
  have hk0 : (0 : Int) ≤ k := by omega
  have P0 := Lib.hid (show preL k ln s len G 0 = [hdC k ln] from rfl)
  have O0 : Hid ((w.alloc (.cells #[.int .u8 k, .string ⟨#[]⟩, .string ⟨#[]⟩, .int .i64 0, .int .i64 ln] 32)).ownsRow w.heap.size 32 5 (.slice (some ⟨w.heap.size, 0, none⟩) 1 1) 1 (rw5 (preL k ln s len G 0))) := Lib.hid (World.ownsRow_lit (base := w.heap.size) (e := 32) (size := 5) w #[.int .u8 k, .string ⟨#[]⟩, .string ⟨#[]⟩, .int .i64 0, .int .i64 ln] 1 (Nat.le_refl _) (by decide) rfl)
  obtain ⟨pre, hpre⟩ : ∃ p, p = preL k ln s len G := ⟨_, rfl⟩
  have hp1 : Hid ((pre 0).length = 1) := Lib.hid (by rw [hpre]; rfl)
  have HCWP : Hid (∀ i, i ≤ ln → (∀ j, j < i → ckC (G j) (len j) = true) → CW (pre i).length (gl (pre i))) := Lib.hid (fun i hi hck => by
    refine cw_small rfl fun c hc => ?_
    rw [hpre] at hc
    unfold preL at hc
    rcases List.mem_cons.1 hc with rfl | hc
    · refine ⟨by show k < 256; omega, by show (0 : Nat) ≤ maxLen; omega, by show (0 : Nat) ≤ 1000000; omega, by show -9223372036854775808 ≤ (ln : Int); omega, by show (ln : Int) ≤ 9223372036854775807; omega⟩
    · obtain ⟨l, hl1, hl2⟩ := List.mem_flatten.1 hc
      obtain ⟨j, hj, rfl⟩ := List.mem_map.1 hl1
      have hj' := List.mem_range.1 hj
      have key : ∀ c, c ∈ cut (G j) 0 (len j) → c.k < 256 ∧ c.nm.size ≤ maxLen ∧ c.tx.size ≤ 1000000 ∧ -9223372036854775808 ≤ c.m ∧ c.m ≤ 9223372036854775807 := fun c hc => by
        unfold cut at hc
        obtain ⟨t, ht, rfl⟩ := List.mem_map.1 hc
        have ht' := List.mem_range.1 ht
        exact HCW.out j (by omega) (0 + t) (by omega)
      unfold lsF at hl2
      split at hl2
      · rename_i h7
        cases hcl : cut (G j) 0 (len j) with
        | nil => rw [hcl] at hl2; simp [ren] at hl2
        | cons x r =>
          rw [hcl] at hl2 key
          rcases List.mem_cons.1 hl2 with rfl | hl2
          · have := key x (by simp)
            exact ⟨this.1, hsz h7 j (by omega), this.2.2⟩
          · exact key c (by simp [hl2])
      · exact key c hl2)
  rw [← hpre] at HP HE O0 ⊢
  clear hpre P0 hin hnv hcw hsz
  have B0 := Lib.hid ((Below.refl w.heap.size w).alloc (Nat.le_refl _) (.cells #[.int .u8 k, .string ⟨#[]⟩, .string ⟨#[]⟩, .int .i64 0, .int .i64 ln] 32))
  go_enter Try.func47, Try.ntmps47
  go_wp2_with fail
  go_loopw [8, 24] (fun v8 v24 wr => ∃ i : Nat, i ≤ ln ∧ v24 = .int .i64 i ∧ Hid (wr.ownsRow w.heap.size 32 5 v8 (pre i).length (rw5 (pre i))) ∧ Hid (Below w.heap.size w wr) ∧ Hid (∀ j, j < i → ckC (G j) (len j) = true) ∧ Hid (1 ≤ (pre i).length ∧ (pre i).length ≤ 1 + 2048 * i)) (fun _ v24 _ => ln - (intOf v24).toNat)
  case atStart => exact ⟨0, Nat.zero_le _, rfl, by rw [hp1.out]; exact O0, B0, Lib.hid (fun j hj => by omega), Lib.hid (by rw [hp1.out]; omega)⟩
  case round =>
    obtain ⟨i, hi1, rfl, HO, HB, HK, HN⟩ := hrel
    clear O0 B0
    by_cases hlt : i < ln
    · obtain ⟨b, off, rfl, hbl, cl⟩ := (HIN.out.below HB.out).at_ i hlt
      have hg0 : (0 : Int) ≤ i := by omega
      have hg1 : (i : Int) < ln := by omega
      have HC := Lib.hid (fun W hv => cCheck_any (ad i) (len i) (cp i) (G i) W hv (HCW.out i hlt))
      have HCV := Lib.hid ((HIN.out.below HB.out).cv i hlt)
      cases hck : ckC (G i) (len i) with
      | false =>
        rw [hck, show eC false = 8 from rfl] at HC
        have HZ : Hid (z = 8) := Lib.hid (by
          rw [HE.out, if_neg]
          intro h
          have := List.all_eq_true.1 h i (List.mem_range.2 hlt)
          rw [hck] at this; cases this)
        clear hck HO HK HN
        go_wp2_with fail
        with_reducible refine (HC.out _ HCV.out).mono ?_
        rintro e w1 ⟨rfl, b1⟩
        have B1 := Lib.hid (HB.out.trans (b1.mono HB.out.size))
        clear b1
        go_wp2_with fail
        go_ret2
        exact GP.bad HZ.out (by decide) B1.out
      | true =>
        rw [hck, show eC true = 0 from rfl] at HC
        have hlen := ckC_parts hck
        have hm1 : 0 < len i := hlen.1
        have hm2 : len i ≤ 2048 := hlen.2.1
        have HK2 : Hid (∀ j, j < i + 1 → ckC (G j) (len j) = true) := Lib.hid (fun j hj => by
          by_cases e : j = i
          · subst e; exact hck
          · exact HK.out j (by omega))
        obtain ⟨b2, off2, he2⟩ := HCV.out.addr hm1
        rw [he2] at HC HCV cl
        obtain ⟨q, cq, rfl, hq1, hq2⟩ := own_addr HO.out (by have := HN.out; omega)
        obtain ⟨np, hnp⟩ : ∃ np, np = (pre i).length := ⟨_, rfl⟩
        have hnp1 := HN.out
        rw [← hnp] at HO hnp1 ⊢
        obtain ⟨hnp2, hnp3⟩ := hnp1
        replace hnp := Lib.hid hnp
        clear hck hlen HK
        go_wp2_with fail
        with_reducible refine (HC.out _ HCV.out).mono ?_
        rintro e w1 ⟨rfl, b1⟩
        have B1 := Lib.hid (HB.out.trans (b1.mono HB.out.size))
        have O1 := Lib.hid (HO.out.kept (row := none) ⟨b1.os, b1.tape, b1.output, b1.size, fun k hk _ => b1.block k hk⟩ (Classical.em _))
        have N1 := Lib.hid (cv_news (HCV.out.below b1))
        have H1 := Lib.hid (rw5_one (cut (G i) 0 (len i)))
        have HL1 : Hid ((rw5 (cut (G i) 0 (len i))).length = len i * 5) := Lib.hid (by rw [rw5_len, cut_len, Nat.sub_zero])
        have hs1 : w.heap.size ≤ w1.heap.size := B1.out.size
        have hile : i < 2048 := by omega
        clear b1 HO HCV HC hbl cl
        have HLN : Hid ((pre i ++ cut (G i) 0 (len i)).length = np + len i) := Lib.hid (by rw [List.length_append, ← hnp.out, cut_len, Nat.sub_zero])
        rcases hk with hk | hk
        · have hk7 : ((k : Int) == 7) = false := by rw [beq_eq_false_iff_ne]; omega
          have hpi : Hid (pre (i + 1) = pre i ++ cut (G i) 0 (len i)) := Lib.hid (by rw [HP.out, HLS.out, if_neg (by omega)])
          replace hk := Lib.hid hk
          go_wp2_with (at_builtin; refine wpList_append_own _ rfl _ _ 26 rfl w.heap.size 32 i0 (.agg #[.int .u8 0, .string ⟨#[]⟩, .string ⟨#[]⟩, .int .i64 0, .int .i64 0]) 5 56 Try.underlying26 hi hz0 hz1 hz2 rfl (by decide) _ _ _ rfl O1.out ⟨b2, off2, none⟩ (len i) (cp i) (rw5 (cut (G i) 0 (len i))) rfl HL1.out N1.out H1.out (by unfold maxLen; omega) (by omega) hs1 ?_; intro v2 w2 ho2 hg2 _; obtain ⟨q2, c2, rfl, hq3, hq4⟩ := own_addr ho2 (by omega); have B2 : Hid (Below w.heap.size w w2) := Lib.hid (B1.out.grown hg2 hs1 (fun r hr => (O1.out.lt r hr).1)); have O2 : Hid (w2.ownsRow w.heap.size 32 5 (.slice (some ⟨q2, 0, none⟩) (np + len i) c2) (np + len i) (rw5 (pre i ++ cut (G i) 0 (len i)))) := Lib.hid (by rw [rw5_app]; exact ho2); clear ho2 hg2)
          go_roundw
          case rel => exact ⟨i + 1, by omega, by go_num, Lib.hid (by rw [hpi.out, HLN.out]; exact O2.out), B2, HK2, Lib.hid (by rw [hpi.out, HLN.out]; omega)⟩
          case measure => simp [intOf]; omega
        · have hk7 : ((k : Int) == 7) = true := by rw [beq_iff_eq]; omega
          have hpi : Hid (pre (i + 1) = pre i ++ ren (s i) (cut (G i) 0 (len i))) := Lib.hid (by rw [HP.out, HLS.out, if_pos hk])
          obtain ⟨bn, on, rfl, _, _⟩ := (HNV.out hk) i hlt
          have hnl := hnn hk
          subst hnl
          replace hk := Lib.hid hk
          have hset : Hid (setNm (pre i ++ cut (G i) 0 (len i)) np (s i) = pre (i + 1)) := Lib.hid (by rw [hpi.out, hnp.out]; exact set_app _ _ _)
          have HLN3 : Hid ((pre (i + 1)).length = np + len i) := Lib.hid (by rw [hpi.out, List.length_append, ren_len, ← hnp.out, cut_len, Nat.sub_zero])
          obtain ⟨sn, hsn⟩ : ∃ x, x = s i := ⟨_, rfl⟩
          replace hsn := Lib.hid hsn.symm
          have hj0 : (0 : Int) ≤ np := by omega
          have hj1 : (np : Int) < ((np + len i : Nat) : Int) := by omega
          have hj2 : (np : Int) < (np : Int) + (len i : Int) := by omega
          go_wp2_with (at_builtin; refine wpList_append_own _ rfl _ _ 26 rfl w.heap.size 32 i0 (.agg #[.int .u8 0, .string ⟨#[]⟩, .string ⟨#[]⟩, .int .i64 0, .int .i64 0]) 5 56 Try.underlying26 hi hz0 hz1 hz2 rfl (by decide) _ _ _ rfl O1.out ⟨b2, off2, none⟩ (len i) (cp i) (rw5 (cut (G i) 0 (len i))) rfl HL1.out N1.out H1.out (by unfold maxLen; omega) (by omega) hs1 ?_; intro v2 w2 ho2 hg2 _; obtain ⟨q2, c2, rfl, hq3, hq4⟩ := own_addr ho2 (by omega); have B2 : Hid (Below w.heap.size w w2) := Lib.hid (B1.out.grown hg2 hs1 (fun r hr => (O1.out.lt r hr).1)); have O2 : Hid (w2.ownsRow w.heap.size 32 5 (.slice (some ⟨q2, 0, none⟩) (np + len i) c2) (np + len i) (rw5 (pre i ++ cut (G i) 0 (len i)))) := Lib.hid (by rw [rw5_app]; exact ho2); clear ho2 hg2; obtain ⟨x1, x2⟩ := own_cellq O2.out (i := np) (by omega) HLN.out; have O3 := Lib.hid (own_set O2.out HLN.out (i := np) (by omega) (s i)); rw [hset.out] at O3; have B3 : Hid (Below w.heap.size w (w2.setCell ⟨q2, np * 5 + 1, none⟩ (.string (s i)))) := Lib.hid (B2.out.setCell hq3 _); obtain ⟨bn', on', he', hbn', cn⟩ := ((HNV.out hk.out).below B2.out) i hlt; cases he'; rw [hsn.out] at cn O3 B3; clear O2)
          go_roundw
          case rel => exact ⟨i + 1, by omega, by go_num, Lib.hid (by rw [HLN3.out]; exact O3.out), B3, HK2, Lib.hid (by rw [HLN3.out]; omega)⟩
          case measure => simp [intOf]; omega
    · have e1 : i = ln := by omega
      subst e1
      have hge : ¬ (i : Int) < i := by omega
      have HZ : Hid (z = eC (ckL (pre i))) := Lib.hid (by
        rw [HE.out, if_pos]
        rw [List.all_eq_true]
        intro j hj
        exact HK.out j (List.mem_range.1 hj))
      obtain ⟨q, cq, rfl, hq1, hq2⟩ := own_addr HO.out (by have := HN.out; omega)
      obtain ⟨ad2, cap2, hv2, cv2, _, _⟩ := own_cv rfl HO.out
      cases hv2
      have HC := Lib.hid (cCheck_any _ (pre i).length cq (gl (pre i)) wr cv2 (HCWP.out i (Nat.le_refl _) HK.out))
      have HZ2 : Hid (z = eC (ckC (gl (pre i)) (pre i).length)) := HZ
      clear cv2 HZ HK HE HCWP
      cases hck : ckC (gl (pre i)) (pre i).length with
      | false =>
        rw [hck, show eC false = 8 from rfl] at HC HZ2
        clear hck
        go_wp2_with fail
        with_reducible refine HC.out.mono ?_
        rintro e w1 ⟨rfl, b1⟩
        have B1 := Lib.hid (HB.out.trans (b1.mono HB.out.size))
        clear b1
        go_wp2_with fail
        go_ret2
        exact GP.bad HZ2.out (by decide) B1.out
      | true =>
        rw [hck, show eC true = 0 from rfl] at HC HZ2
        clear hck
        go_wp2_with fail
        with_reducible refine HC.out.mono ?_
        rintro e w1 ⟨rfl, b1⟩
        have B1 := Lib.hid (HB.out.trans (b1.mono HB.out.size))
        have O1 := Lib.hid (HO.out.kept (row := none) ⟨b1.os, b1.tape, b1.output, b1.size, fun k hk _ => b1.block k hk⟩ (Classical.em _))
        clear b1
        go_wp2_with fail
        go_ret2
        exact GP.ok HZ2.out O1.out B1.out
end Go.Proofs.Ytfmgkndljppffaa
