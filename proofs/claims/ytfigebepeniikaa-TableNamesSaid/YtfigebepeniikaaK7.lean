import Derived.Test.YtfigebepeniikaaK6
import Derived.Test.YtfigebepeniikaaShelf
import Derived.Test.YtfigebepeniikaaK5
import Derived.WalkKit
import Derived.WalkSpells
import Derived.WalkLawsBesides
import Derived.Outline
import Derived.Below
import Derived.Lib.Hide
import Derived.BigQuiet
import Derived.Deep.QuietTactic
import Derived.Deep.LoopGhost
import Derived.ScopeJumps
import Derived.WalkMore
/- Layer 3: what is put together of values, taken apart again (plain); Items, Members. -/
namespace Go.Proofs.Ytfigebepeniikaa
open Go.RowKit Go.Maps
theorem ck_cut {g : Nat → CR} {n : Nat} (h : ckC g n = true) : ckL (cut g 0 n) = true := by
  obtain ⟨k1, k2, k3, k4⟩ := ckC_parts h
  have hl : (cut g 0 n).length = n := by rw [cut_len, Nat.sub_zero]
  have hat : ∀ t, t < n → gl (cut g 0 n) t = g t := fun t ht => by rw [cut_at g 0 n t (by omega), Nat.zero_add]
  unfold ckL
  rw [hl]
  refine ckC_mk k1 k2 (by rw [hat 0 k1]; exact k3) ?_
  have k := wk_shift (g1 := g) (n1 := n) (s1 := 0) (g2 := gl (cut g 0 n)) (n2 := n) (s2 := 0) 16 0 n (by simpa using k4) ?_ (by omega)
  · simpa using k
  · intro t _ ht
    rw [Nat.add_zero, hat t ht]
    exact ⟨rfl, rfl, rfl, rfl, fun _ => rfl⟩
/-- The values' lists; the same under their names. -/
def vsL (ln : Nat) (len : Nat → Nat) (G : Nat → Nat → CR) : List (List CR) := (List.range ln).map fun i => cut (G i) 0 (len i)
def lsL (k ln : Nat) (s : Nat → ByteArray) (len : Nat → Nat) (G : Nat → Nat → CR) : List (List CR) := (List.range ln).map (lsF k s len G)
theorem pre_under (k ln : Nat) (s : Nat → ByteArray) (len : Nat → Nat) (G : Nat → Nat → CR) : preL k ln s len G ln = under (hdC k ln) (lsL k ln s len G) := rfl
theorem vs_len (ln : Nat) (len : Nat → Nat) (G : Nat → Nat → CR) : (vsL ln len G).length = ln := by simp [vsL]
theorem ls_len2 (k ln : Nat) (s : Nat → ByteArray) (len : Nat → Nat) (G : Nat → Nat → CR) : (lsL k ln s len G).length = ln := by simp [lsL]
theorem vs_at (ln : Nat) (len : Nat → Nat) (G : Nat → Nat → CR) (i : Nat) (h : i < (vsL ln len G).length) : (vsL ln len G)[i] = cut (G i) 0 (len i) := by simp [vsL]
theorem ls_at (k ln : Nat) (s : Nat → ByteArray) (len : Nat → Nat) (G : Nat → Nat → CR) (i : Nat) (h : i < (lsL k ln s len G).length) : (lsL k ln s len G)[i] = lsF k s len G i := by simp [lsL]
/-- Where the i-th begins, in what was put together. -/
def plF (k ln : Nat) (s : Nat → ByteArray) (len : Nat → Nat) (G : Nat → Nat → CR) (i : Nat) : Nat := bd (gl (preL k ln s len G ln)) (preL k ln s len G ln).length (0 + 1) i
theorem put_facts (k : Nat) (hk : k = 6 ∨ k = 7) (ln : Nat) (s : Nat → ByteArray) (len : Nat → Nat) (G : Nat → Nat → CR) (hck : ∀ i, i < ln → ckC (G i) (len i) = true) (hL : ckL (preL k ln s len G ln) = true) :
    (gl (preL k ln s len G ln) 0).m.toNat = ln ∧ (gl (preL k ln s len G ln) 0).k = k ∧ ∀ i, i < ln → plF k ln s len G i < (preL k ln s len G ln).length ∧ ren ⟨#[]⟩ (cut (gl (preL k ln s len G ln)) (plF k ln s len G i) (nx (gl (preL k ln s len G ln)) (preL k ln s len G ln).length (plF k ln s len G i))) = cut (G i) 0 (len i) ∧ nx (gl (preL k ln s len G ln)) (preL k ln s len G ln).length (plF k ln s len G i) - plF k ln s len G i = len i ∧ (k = 7 → memP (gl (preL k ln s len G ln)) (preL k ln s len G ln).length 0 (s i) = some (plF k ln s len G i)) := by
  have hm : (gl (preL k ln s len G ln) 0).m.toNat = ln := by
    show ((ln : Int)).toNat = ln
    exact Int.toNat_natCast _
  have hk0 : (gl (preL k ln s len G ln) 0).k = k := rfl
  refine ⟨hm, hk0, ?_⟩
  have hvs : ∀ i (h2 : i < (vsL ln len G).length), ckL (vsL ln len G)[i] = true := fun i h2 => by
    rw [vs_at]
    exact ck_cut (hck i (by rw [vs_len] at h2; exact h2))
  have hl : (lsL k ln s len G).length = (vsL ln len G).length := by rw [ls_len2, vs_len]
  have hr : ∀ i (h1 : i < (lsL k ln s len G).length) (h2 : i < (vsL ln len G).length), ∃ t, (lsL k ln s len G)[i] = ren t (vsL ln len G)[i] := fun i h1 h2 => by
    rw [ls_at, vs_at]
    unfold lsF
    rcases hk with e | e
    · rw [if_neg (by omega)]
      refine ⟨⟨#[]⟩, (ren_self ?_).symm⟩
      have := hvs i h2
      rw [vs_at] at this
      exact em_eq (ckC_parts this).2.2.1
    · rw [if_pos e]
      exact ⟨s i, rfl⟩
  have e1 : ∀ i, i ≤ ln → plF k ln s len G i = st 1 (lsL k ln s len G) i := fun i hi => by
    unfold plF
    rw [pre_under]
    exact under_bd (hdC k ln) (vsL ln len G) (lsL k ln s len G) hl hr hvs i (by rw [ls_len2]; exact hi)
  have w1 := under_wk (hdC k ln) (vsL ln len G) (lsL k ln s len G) hl hr hvs
  rw [← pre_under] at w1
  intro i hi
  have hi2 : i < (lsL k ln s len G).length := by rw [ls_len2]; exact hi
  have hi3 : i < (vsL ln len G).length := by rw [vs_len]; exact hi
  have hw := w1 i hi2
  have hlt := wk_lt _ _ _ hw
  have hn : nx (gl (preL k ln s len G ln)) (preL k ln s len G ln).length (plF k ln s len G i) = st 1 (lsL k ln s len G) (i + 1) := e1 (i + 1) (by omega)
  have hsub := under_sub (hdC k ln) (vsL ln len G) (lsL k ln s len G) hl hr hvs i hi2 hi3
  rw [← pre_under, vs_at] at hsub
  rw [hn, e1 i (by omega)]
  refine ⟨by omega, hsub, ?_, ?_⟩
  · have := congrArg List.length hsub
    rw [ren_len, cut_len, cut_len] at this
    omega
  · intro h7
    obtain ⟨c1, c2, c3, c4⟩ := ckC_parts hL
    unfold memP
    have hp0 : plE (gl (preL k ln s len G ln)) (preL k ln s len G ln).length 0 = 0 := by
      unfold plE
      have hL' : ckC (gl (preL k ln s len G ln)) (preL k ln s len G ln).length = true := hL
      rw [if_pos hL', if_pos (by omega)]
    rw [if_pos ⟨hp0, by show k = 7; exact h7⟩]
    show mbF _ _ (plF k ln s len G) (gl (preL k ln s len G ln) 0).m.toNat = _
    have nmAt : ∀ j, j < ln → (gl (preL k ln s len G ln) (plF k ln s len G j)).nm = s j := fun j hj => by
      have hj2 : j < (lsL k ln s len G).length := by rw [ls_len2]; exact hj
      have hj3 : j < (vsL ln len G).length := by rw [vs_len]; exact hj
      have hw' := wk_lt _ _ _ (w1 j hj2)
      have hpos := (ckC_parts (hvs j hj3)).1
      rw [vs_at, cut_len, Nat.sub_zero] at hpos
      rw [e1 j (by omega), pre_under]
      have u := under_at (hdC k ln) (lsL k ln s len G) j 0 hj2 (by rw [ls_at, ls_len]; exact hpos)
      rw [Nat.add_zero] at u
      rw [u, ls_at]
      unfold lsF
      rw [if_pos h7]
      exact ren_nm _ _ (by rw [cut_len, Nat.sub_zero]; exact hpos)
    have hap := names_apart (Nat.le_refl 16) c4 (by show k = 7; exact h7) i (by rw [hm]; exact hi)
    rw [hm, mbF_some (i := i) hi (fun j hj => ?_) (nmAt i hi)]
    · rw [← e1 i (by omega)]
    · have := hap.2 j hj
      intro hh
      exact this (hh.trans (nmAt i hi).symm)
theorem gE_ok {k ln : Nat} {s : Nat → ByteArray} {len : Nat → Nat} {G : Nat → Nat → CR} (h : gE k ln s len G = 0) : ln ≤ 2048 ∧ (∀ i, i < ln → ckC (G i) (len i) = true) ∧ ckL (preL k ln s len G ln) = true := by
  unfold gE at h
  split at h
  · cases h
  · rename_i h1
    split at h
    · rename_i h2
      refine ⟨by omega, fun i hi => List.all_eq_true.1 h2 i (List.mem_range.2 hi), ?_⟩
      cases hc : ckL (preL k ln s len G ln) with
      | true => rfl
      | false => rw [hc] at h; cases h
    · cases h
theorem own_cvc {w : World} {B n : Nat} {v : Value} {L : List CR} (hl : L.length = n) (h : w.ownsRow B 53 5 v n (rw5 L)) (h0 : 0 < n) : ∃ q cap, v = .slice (some ⟨q, 0, none⟩) n cap ∧ n ≤ cap ∧ CV w (some ⟨q, 0, none⟩) n (gl L) ∧ B ≤ q ∧ q < w.heap.size := by
  rcases h.2 with ⟨rfl, hn⟩ | ⟨q, cap, cur, rfl, hg, hgg, h1, h2, h3, h4⟩
  · omega
  · exact ⟨q, cap, rfl, h1, cv_of hl (Array.getElem?_eq_some_iff.1 hgg).1 (fun j hj => h.cellAt j hj), hg, (Array.getElem?_eq_some_iff.1 hgg).1⟩
/-- The error of Members. -/
def mE (nn ln : Nat) (s : Nat → ByteArray) (len : Nat → Nat) (G : Nat → Nat → CR) : Int := if nn = ln then gE 7 ln s len G else 2
set_option maxRecDepth 20000 in
theorem members_any (na la : Option Addr) (nn nc ln lc : Nat) (s : Nat → ByteArray) (ad : Nat → Option Addr) (len cp : Nat → Nat) (G : Nat → Nat → CR) (w : World) (hin : LIn w la ln ad len cp G) (hcw : ∀ i, i < ln → CW (len i) (G i)) (hnv : NV w na nn s) (hsz : ∀ i, i < nn → (s i).size ≤ maxLen) :
    Calls Try.prog 24 #[.slice na nn nc, .slice la ln lc] w (GP w (mE nn ln s len G) (preL 7 ln s len G ln)) := by
  by_cases he : nn = ln
  · subst he
    have HG : Hid (Calls Try.prog 44 #[.int .u8 7, .slice na nn nc, .slice la nn lc] w (GP w (gE 7 nn s len G) (preL 7 nn s len G nn))) := Lib.hid (by
      have hkv2 : (7 : Int) = ((7 : Nat) : Int) := rfl
      by_cases hl : nn ≤ 2048
      · rw [hkv2]
        exact gather_any 7 (.inr rfl) na la nn nc nn lc s ad len cp G w hl hin hcw (fun _ => hnv) (fun _ => rfl) (fun _ => hsz)
      · exact gather_many 7 na la nn nc nn lc 7 s len G w (by omega))
    unfold mE
    rw [if_pos rfl]
    clear hin hcw hnv hsz
    obtain ⟨z, hz⟩ : ∃ z, z = gE 7 nn s len G := ⟨_, rfl⟩
    obtain ⟨L, hL⟩ : ∃ L, L = preL 7 nn s len G nn := ⟨_, rfl⟩
    rw [← hz, ← hL] at HG ⊢
    clear hz hL
    have hne : ((nn : Int) != nn) = false := by simp
    go_enter Try.func24, Try.ntmps24
    go_wp2_with fail
    with_reducible refine HG.out.mono ?_
    rintro e w1 ⟨v, rfl, h1, h2, h3⟩
    go_wp2_with fail
    go_ret2
    exact ⟨v, rfl, h1, h2, h3⟩
  · have HE := Lib.hid (show mE nn ln s len G = 2 by unfold mE; rw [if_neg he])
    obtain ⟨z, hz⟩ : ∃ z, z = mE nn ln s len G := ⟨_, rfl⟩
    rw [← hz] at HE ⊢
    have hne : ((nn : Int) != ln) = true := by simp; omega
    have hne2 : ((nn : Int) == ln) = false := by rw [beq_eq_false_iff_ne]; omega
    clear hz hin hcw hnv hsz he
    go_enter Try.func24, Try.ntmps24
    go_wp2_with fail
    go_ret2
    exact GP.bad HE.out (by decide) (Below.refl _ _)
end Go.Proofs.Ytfigebepeniikaa
/- Layer 5's calls: Compare, Check, find, Find. -/
namespace Go.Proofs.Ytfigebepeniikaa.Ord
open Go.RowKit Go.Shelf
theorem compare_any (a b : ByteArray) (w : World) :
    Calls Try.prog 46 #[.string a, .string b] w fun e w' => e = .returned (.int .i64 (Lib.compareBytes a.data.toList b.data.toList)) ∧ w = w' := by
  go_enter Try.func46, Try.ntmps46
  go_wp2_with (first | (go_at_call 70; refine (Any.strings_Compare Try.compareS a b _).mono ?_; rintro e w' ⟨rfl, rfl⟩) | go_in)
  go_ret
  exact ⟨rfl, rfl⟩
theorem ret_int {k : IntKind} {a b : Int} (h : a = b) : Ending.returned (.int k a) = .returned (.int k b) := by rw [h]
theorem ret_bool {a b : Bool} (h : a = b) : Ending.returned (.bool a) = .returned (.bool b) := by rw [h]

/-- A slice of strings that can be read. -/
def SView (w : World) (a : Option Addr) (len : Nat) (L : List ByteArray) : Prop :=
  L.length = len ∧ ∀ k, k < len → ∃ b off, a = some ⟨b, off, none⟩ ∧ b < w.heap.size ∧ w.cell? ⟨b, off + k, none⟩ = some (.string (nth L k))
theorem SView.below {w w' : World} {a : Option Addr} {len : Nat} {L : List ByteArray} (h : SView w a len L) (hb : Below w.heap.size w w') : SView w' a len L := by
  refine ⟨h.1, fun k hk => ?_⟩
  obtain ⟨b, off, he, hlt, hx⟩ := h.2 k hk
  exact ⟨b, off, he, Nat.lt_of_lt_of_le hlt hb.size, (hb.cell (p := ⟨b, off + k, none⟩) hlt).trans hx⟩
theorem cmp_any (a b : ByteArray) (w : World) : Calls Try.prog 46 #[.string a, .string b] w fun e w' => e = .returned (.int .i64 (cmpB a b)) ∧ w = w' := compare_any a b w
theorem cmp_same (a b : ByteArray) (w : World) : Calls Try.prog 46 #[.string a, .string b] w fun e w' => e = .returned (.int .i64 (cmpB a b)) ∧ w' = w := (compare_any a b w).mono fun _ _ h => ⟨h.1, h.2.symm⟩
theorem check_any (a : Option Addr) (len cap : Nat) (L : List ByteArray) (w : World) (hv : SView w a len L) :
    Calls Try.prog 29 #[.slice a len cap] w fun e w' => e = .returned (.int .i64 (chE L)) ∧ Below w.heap.size w w' := by
  obtain ⟨hL, hc⟩ := hv
  by_cases h1 : 4096 < len
  · have hE := Lib.hid (show chE L = 8 by unfold chE; rw [if_pos (by omega)])
    clear hc hL
    go_enter Try.func29, Try.ntmps29
    go_wp2_with fail
    go_ret
    exact ⟨ret_int hE.out.symm, Below.refl _ _⟩
  by_cases hz : len ≤ 1
  · have hE := Lib.hid (show chE L = 0 by unfold chE; rw [if_neg (by omega), show L.length - 1 = 0 by omega]; rfl)
    clear hc hL
    go_enter Try.func29, Try.ntmps29
    go_wp2_with fail
    refine wp_loop_rounds 1 ?_
    rw [rounds_succ]
    go_wp2_with fail
    go_ret
    exact ⟨ret_int hE.out.symm, Below.refl _ _⟩
  · obtain ⟨b, off, rfl, hxb, _⟩ := hc 0 (by omega)
    have HC : Hid (∀ k, k < len → w.cell? ⟨b, off + k, none⟩ = some (.string (nth L k))) := Lib.hid (fun k hk => by
      obtain ⟨b', off', he, _, hx⟩ := hc k hk
      simp only [Option.some.injEq, Addr.mk.injEq, and_true] at he
      obtain ⟨rfl, rfl⟩ := he
      exact hx)
    have HG : Hid (rises L (len - 1) = true → chE L = 0) := Lib.hid (fun h => by unfold chE; rw [if_neg (by omega), hL, h]; rfl)
    have HN : Hid (rises L (len - 1) = false → chE L = 8) := Lib.hid (fun h => by unfold chE; rw [if_neg (by omega), hL, h]; rfl)
    clear hc hL
    go_enter Try.func29, Try.ntmps29
    go_wp2_with fail
    go_loopw [3] (fun i wr => ∃ k : Nat, k + 1 ≤ len ∧ i = .int .i64 ((k : Int) + 1) ∧ rises L k = true ∧ Below w.heap.size w wr) (fun i _ => len - (intOf i).toNat)
    case atStart => exact ⟨0, by omega, rfl, rfl, Below.refl _ _⟩
    case round =>
      obtain ⟨k, hk, rfl, hr, hb⟩ := hrel
      by_cases hlt : k + 1 < len
      · have c0 := (hb.cell (p := ⟨b, off + k, none⟩) hxb).trans (HC.out k (by omega))
        have c1 := (hb.cell (p := ⟨b, off + (k + 1), none⟩) hxb).trans (HC.out (k + 1) hlt)
        obtain ⟨x, hx⟩ : ∃ x, x = nth L k := ⟨_, rfl⟩
        obtain ⟨y, hy⟩ : ∃ y, y = nth L (k + 1) := ⟨_, rfl⟩
        rw [← hx] at c0
        rw [← hy] at c1
        by_cases hlt2 : cmpB x y < 0
        · have HR : Hid (rises L (k + 1) = true) := Lib.hid (by simp only [rises, hr, ← hx, ← hy, Bool.true_and, decide_eq_true_eq]; exact hlt2)
          have hd : decide (0 ≤ cmpB x y) = false := by simp; omega
          have HB := Lib.hid hb
          clear hx hy hb hr hlt2
          have hk0 : k < len := by omega
          have hk2 : len ≤ 4096 := by omega
          have hw : IntKind.i64.wrap ((k : Int) + 1 - 1) = k := by rw [IntKind.wrap_i64]; omega
          go_wp2_with fail
          go_quiet (first | (go_at_call 46; exact Calls.quiet_of_same (cmp_same _ _ _)))
          go_wp2_with fail
          go_roundw
          case rel => exact ⟨k + 1, by omega, by go_num, HR.out, below_drewN HB.out _⟩
          case measure => simp [intOf]; omega
        · have HR : Hid (rises L (len - 1) = false) := Lib.hid (by
            cases hh : rises L (len - 1)
            · rfl
            · have := rises_le (j := k + 1) (by omega) hh
              simp only [rises, Bool.and_eq_true, decide_eq_true_eq, ← hx, ← hy] at this
              exact absurd this.2 hlt2)
          have hd : decide (0 ≤ cmpB x y) = true := by simp; omega
          have HB := Lib.hid hb
          clear hx hy hb hr hlt2
          have hk0 : k < len := by omega
          have hk2 : len ≤ 4096 := by omega
          have hw : IntKind.i64.wrap ((k : Int) + 1 - 1) = k := by rw [IntKind.wrap_i64]; omega
          go_wp2_with fail
          go_quiet (first | (go_at_call 46; exact Calls.quiet_of_same (cmp_same _ _ _)))
          go_wp2_with fail
          go_ret
          exact ⟨ret_int (HN.out HR.out).symm, below_drewN HB.out _⟩
      · obtain rfl : len = k + 1 := by omega
        have HB := Lib.hid hb
        have HR := Lib.hid hr
        clear hb hr
        go_wp2_with fail
        go_ret
        exact ⟨ret_int (HG.out HR.out).symm, HB.out⟩
set_option maxHeartbeats 1600000 in
theorem find_any (a : Option Addr) (len cap : Nat) (L : List ByteArray) (s : ByteArray) (w : World) (hv : SView w a len L) (hlen : len ≤ 4096) (hr : rises L (L.length - 1) = true) :
    Calls Try.prog 57 #[.slice a len cap, .string s] w fun e w' => (∃ (k : Nat) (is : Bool), e = .returned (.tuple #[.int .i64 (k : Int), .bool is]) ∧ At L s k is) ∧ w = w' := by
  obtain ⟨hL, hc⟩ := hv
  by_cases hz : len = 0
  · subst hz
    have HA : Hid (At L s 0 false) := Lib.hid ⟨by omega, fun j hj => by omega, fun h => by simp at h, fun _ j _ hj => by omega⟩
    clear hc hL hr
    go_enter Try.func57, Try.ntmps57
    go_wp2_with fail
    go_step3
    go_wp2_with fail
    go_step3
    go_wp2_with fail
    rw [Exit.noGoto_ret]
    go_ret2
    exact ⟨⟨0, false, rfl, HA.out⟩, rfl⟩
  · obtain ⟨b, off, rfl, hxb, _⟩ := hc 0 (by omega)
    have HC : Hid (∀ k, k < len → w.cell? ⟨b, off + k, none⟩ = some (.string (nth L k))) := Lib.hid (fun k hk => by
      obtain ⟨b', off', he, _, hx⟩ := hc k hk
      simp only [Option.some.injEq, Addr.mk.injEq, and_true] at he
      obtain ⟨rfl, rfl⟩ := he
      exact hx)
    have HR := Lib.hid hr
    have HL := Lib.hid hL
    clear hc hL hr
    go_enter Try.func57, Try.ntmps57
    go_wp2_with fail
    refine wp_scope_jumps 0 (fun a' w' => w' = w ∧ ∃ (f t : Nat) (u2 u3 u4 u5 u8 u9 u10 u11 u12 u13 u14 u15 u16 u17 u18 u19 u20 u21 u22 u23 u24 u25 u26 u27 u28 u29 u30 u31 u32 u33 u34 : Value), a' = { tmps := #[.slice (some ⟨b, off, none⟩) len cap, .string s, u2, u3, u4, u5, .int .i64 (f : Int), .int .i64 (t : Int), u8, u9, u10, u11, u12, u13, u14, u15, u16, u17, u18, u19, u20, u21, u22, u23, u24, u25, u26, u27, u28, u29, u30, u31, u32, u33, u34], defers := [] } ∧ f ≤ t ∧ t ≤ len ∧ (∀ j, j < f → cmpB (nth L j) s < 0) ∧ (∀ j, t ≤ j → j < len → 0 < cmpB (nth L j) s)) (fun a' _ => (intOf (a'.tmps.getD 7 undef)).toNat - (intOf (a'.tmps.getD 6 undef)).toNat) rfl ?_ ?_
    · skip
      obtain ⟨d, hd, hd2⟩ : ∃ d : Nat, ((len : Nat) : Int).tdiv 2 = (d : Int) ∧ d < len := ⟨len / 2, by rw [Int.tdiv_eq_ediv_of_nonneg (by omega)]; omega, by omega⟩
      have hx := HC.out d (by omega)
      obtain ⟨x, hxx⟩ : ∃ x, x = nth L d := ⟨_, rfl⟩
      rw [← hxx] at hx
      have HX : Hid (x = nth L d) := hxx
      clear hxx
      have hne : ((0 : Int) == (len : Int)) = false := by simp; omega
      rcases (show cmpB x s = -1 ∨ cmpB x s = 1 ∨ cmpB x s = 0 by have := cmp_range x s; omega) with hcmp | hcmp | hcmp
      · have HCM := Lib.hid hcmp
        clear hcmp
        go_wp2_with fail
        go_step3
        go_wp2_with fail
        refine (cmp_any _ _ _).mono ?_
        rintro e w1 ⟨rfl, rfl⟩
        rw [HCM.out]
        go_wp2_with fail
        go_step3
        have hlo := low_step (s := s) HR.out (by rw [HL.out]; exact hd2) (by rw [← HX.out, HCM.out]; decide)
        exact ⟨rfl, rfl, d + 1, len, _, _, _, _, _, _, _, _, _, _, _, _, _, _, _, _, _, _, _, _, _, _, _, _, _, _, _, _, _, _, _, rfl, by omega, by omega, fun j hj => (by by_cases e : j = d; (· rw [e, ← HX.out, HCM.out]; decide); (· exact hlo j (by omega))), fun j h1 h2 => by omega⟩
      · have HCM := Lib.hid hcmp
        clear hcmp
        go_wp2_with fail
        go_step3
        go_wp2_with fail
        refine (cmp_any _ _ _).mono ?_
        rintro e w1 ⟨rfl, rfl⟩
        rw [HCM.out]
        go_wp2_with fail
        go_step3
        have hhi := high_step (s := s) HR.out (m := d) (by rw [← HX.out, HCM.out]; decide)
        exact ⟨rfl, rfl, 0, d, _, _, _, _, _, _, _, _, _, _, _, _, _, _, _, _, _, _, _, _, _, _, _, _, _, _, _, _, _, _, _, rfl, by omega, by omega, fun j hj => by omega, fun j h1 h2 => hhi j h1 (by rw [HL.out]; exact h2)⟩
      · have HCM := Lib.hid hcmp
        clear hcmp
        go_wp2_with fail
        go_step3
        go_wp2_with fail
        refine (cmp_any _ _ _).mono ?_
        rintro e w1 ⟨rfl, rfl⟩
        rw [HCM.out]
        go_wp2_with fail
        simp only [Exit.jump]
        go_ret2
        have hlo := low_step (s := s) HR.out (by rw [HL.out]; exact hd2) (by rw [← HX.out, HCM.out]; decide)
        exact ⟨⟨d, true, rfl, by rw [HL.out]; omega, hlo, fun _ => ⟨by rw [HL.out]; exact hd2, by rw [← HX.out]; exact (cmp_zero _ _).1 HCM.out⟩, fun h => by simp at h⟩, rfl⟩
    · rintro a' w' ⟨rfl, f, t, u2, u3, u4, u5, u8, u9, u10, u11, u12, u13, u14, u15, u16, u17, u18, u19, u20, u21, u22, u23, u24, u25, u26, u27, u28, u29, u30, u31, u32, u33, u34, rfl, hft0, htl, hlo0, hhi0⟩
      have HLO := Lib.hid hlo0
      have HHI := Lib.hid hhi0
      clear hlo0 hhi0
      by_cases hft : f = t
      · subst hft
        have HA : Hid (At L s f false) := Lib.hid ⟨by rw [HL.out]; exact htl, HLO.out, fun h => by simp at h, fun _ j h1 h2 => HHI.out j h1 (by rw [← HL.out]; exact h2)⟩
        go_wp2_with fail
        simp only [Exit.jump]
        go_ret2
        exact ⟨⟨f, false, rfl, HA.out⟩, rfl⟩
      · obtain ⟨d, hd, hd2⟩ : ∃ d : Nat, ((t : Int) - (f : Int)).tdiv 2 = (d : Int) ∧ f + d < t := ⟨(t - f) / 2, by rw [Int.tdiv_eq_ediv_of_nonneg (by omega)]; omega, by omega⟩
        have hx := HC.out (f + d) (by omega)
        obtain ⟨x, hxx⟩ : ∃ x, x = nth L (f + d) := ⟨_, rfl⟩
        rw [← hxx] at hx
        have HX : Hid (x = nth L (f + d)) := hxx
        clear hxx
        have hne : ((f : Int) == (t : Int)) = false := by simp; omega
        have hin : f + d < len := by omega
        rcases (show cmpB x s = -1 ∨ cmpB x s = 1 ∨ cmpB x s = 0 by have := cmp_range x s; omega) with hcmp | hcmp | hcmp
        · have HCM := Lib.hid hcmp
          clear hcmp
          go_wp2_with fail
          refine (cmp_any _ _ _).mono ?_
          rintro e w1 ⟨rfl, rfl⟩
          rw [HCM.out]
          go_wp2_with fail
          go_step3
          have hlo := low_step (s := s) HR.out (by rw [HL.out]; exact hin) (by rw [← HX.out, HCM.out]; decide)
          exact ⟨rfl, ⟨rfl, f + d + 1, t, _, _, _, _, _, _, _, _, _, _, _, _, _, _, _, _, _, _, _, _, _, _, _, _, _, _, _, _, _, _, _, rfl, by omega, by omega, fun j hj => (by by_cases e : j = f + d; (· rw [e, ← HX.out, HCM.out]; decide); (· exact hlo j (by omega))), HHI.out⟩, by simp [intOf]; omega⟩
        · have HCM := Lib.hid hcmp
          clear hcmp
          go_wp2_with fail
          refine (cmp_any _ _ _).mono ?_
          rintro e w1 ⟨rfl, rfl⟩
          rw [HCM.out]
          go_wp2_with fail
          go_step3
          have hhi := high_step (s := s) HR.out (m := f + d) (by rw [← HX.out, HCM.out]; decide)
          exact ⟨rfl, ⟨rfl, f, f + d, _, _, _, _, _, _, _, _, _, _, _, _, _, _, _, _, _, _, _, _, _, _, _, _, _, _, _, _, _, _, _, rfl, by omega, by omega, HLO.out, fun j h1 h2 => hhi j h1 (by rw [HL.out]; exact h2)⟩, by simp [intOf]; omega⟩
        · have HCM := Lib.hid hcmp
          clear hcmp
          go_wp2_with fail
          refine (cmp_any _ _ _).mono ?_
          rintro e w1 ⟨rfl, rfl⟩
          rw [HCM.out]
          go_wp2_with fail
          simp only [Exit.jump]
          go_ret2
          have hlo := low_step (s := s) HR.out (by rw [HL.out]; exact hin) (by rw [← HX.out, HCM.out]; decide)
          exact ⟨⟨f + d, true, rfl, by rw [HL.out]; omega, hlo, fun _ => ⟨by rw [HL.out]; exact hin, by rw [← HX.out]; exact (cmp_zero _ _).1 HCM.out⟩, fun h => by simp at h⟩, rfl⟩
theorem ret_ib {a b : Int} {c d : Bool} (h : a = b) (g : c = d) : Ending.returned (.tuple #[.int .i64 a, .bool c]) = .returned (.tuple #[.int .i64 b, .bool d]) := by rw [h, g]
theorem ch_ok {L : List ByteArray} (h : chE L = 0) : L.length ≤ 4096 ∧ rises L (L.length - 1) = true := by
  unfold chE at h
  by_cases h1 : 4096 < L.length
  · rw [if_pos h1] at h; omega
  · rw [if_neg h1] at h
    refine ⟨by omega, ?_⟩
    cases hr : rises L (L.length - 1)
    · rw [hr] at h; simp at h
    · rfl
/-- Find, of a list that rises. -/
theorem findOf_any (a : Option Addr) (len cap : Nat) (L : List ByteArray) (s : ByteArray) (w : World) (hv : SView w a len L) (hc : chE L = 0) :
    Calls Try.prog 45 #[.slice a len cap, .string s] w fun e w' => (∃ (k : Nat) (is : Bool), e = .returned (.tuple #[.int .i64 (k : Int), .bool is]) ∧ At L s k is) ∧ Below w.heap.size w w' := by
  have HV := Lib.hid hv
  have HC := Lib.hid hc
  have HO := Lib.hid (ch_ok hc)
  have HL : Hid (L.length = len) := hv.1
  clear hv hc
  go_enter Try.func45, Try.ntmps45
  go_wp2_with fail
  refine (check_any _ len cap L _ HV.out).mono ?_
  rintro e w1 ⟨rfl, b1⟩
  rw [HC.out]
  go_wp2_with fail
  refine (find_any _ len cap L s _ (HV.out.below b1) (by rw [← HL.out]; exact HO.out.1) HO.out.2).mono ?_
  rintro e w2 ⟨⟨k, is, rfl, hat⟩, rfl⟩
  have HAT := Lib.hid hat
  clear hat
  go_wp2_with fail
  go_ret2
  exact ⟨⟨k, is, rfl, HAT.out⟩, b1⟩

end Go.Proofs.Ytfigebepeniikaa.Ord
/- Layer 27: records and tables in memory. -/
namespace Go.Proofs.Ytfigebepeniikaa
open Go.RowKit Go.Maps
/-- Cells at a slice, none of its blocks below B. -/
def DV (B : Nat) (w : World) (ad : Option Addr) (cp : Nat) (d : List CR) : Prop :=
  CV w ad d.length (gl d) ∧ d.length ≤ cp ∧ cp ≤ maxLen ∧ (ad = none → d.length = 0 ∧ cp = 0) ∧ ∀ b off, ad = some ⟨b, off, none⟩ → B ≤ b
theorem DV.below {B : Nat} {w w' : World} {ad : Option Addr} {cp : Nat} {d : List CR} (h : DV B w ad cp d) (k : Below w.heap.size w w') : DV B w' ad cp d := ⟨h.1.below k, h.2⟩
theorem DV.mono {B B' : Nat} {w : World} {ad : Option Addr} {cp : Nat} {d : List CR} (h : DV B w ad cp d) (hb : B' ≤ B) : DV B' w ad cp d := ⟨h.1, h.2.1, h.2.2.1, h.2.2.2.1, fun b off e => Nat.le_trans hb (h.2.2.2.2 b off e)⟩
def rl (R : List RC) (i : Nat) : RC := R.getD i default
theorem rl_get {R : List RC} {i : Nat} (h : i < R.length) : rl R i = R[i] := by unfold rl; rw [List.getD_eq_getElem?_getD, List.getElem?_eq_getElem h]; rfl
theorem rl_mem {R : List RC} {i : Nat} (h : i < R.length) : rl R i ∈ R := by rw [rl_get h]; exact List.getElem_mem h
/-- A record at a place. -/
def RAt (B : Nat) (w : World) (a : Option Addr) (i : Nat) (r : RC) : Prop := ∃ b off ad cp, a = some ⟨b, off, none⟩ ∧ B ≤ b ∧ b < w.heap.size ∧ w.cell? ⟨b, off + i * 2, none⟩ = some (.string r.id) ∧ w.cell? ⟨b, off + i * 2 + 1, none⟩ = some (.slice ad r.d.length cp) ∧ DV B w ad cp r.d
theorem RAt.below {B : Nat} {w w' : World} {a : Option Addr} {i : Nat} {r : RC} (h : RAt B w a i r) (k : Below w.heap.size w w') : RAt B w' a i r := by
  obtain ⟨b, off, ad, cp, e, h1, h2, h3, h4, h5⟩ := h
  exact ⟨b, off, ad, cp, e, h1, Nat.lt_of_lt_of_le h2 k.size, (k.cell (p := ⟨b, _, none⟩) h2).trans h3, (k.cell (p := ⟨b, _, none⟩) h2).trans h4, h5.below k⟩
theorem RAt.mono {B B' : Nat} {w : World} {a : Option Addr} {i : Nat} {r : RC} (h : RAt B w a i r) (hb : B' ≤ B) : RAt B' w a i r := by
  obtain ⟨b, off, ad, cp, e, h1, h2, h3, h4, h5⟩ := h
  exact ⟨b, off, ad, cp, e, Nat.le_trans hb h1, h2, h3, h4, h5.mono hb⟩
/-- A row of records. -/
def RV (B : Nat) (w : World) (a : Option Addr) (R : List RC) : Prop := ∀ i, i < R.length → RAt B w a i (rl R i)
theorem RV.below {B : Nat} {w w' : World} {a : Option Addr} {R : List RC} (h : RV B w a R) (k : Below w.heap.size w w') : RV B w' a R := fun i hi => (h i hi).below k
theorem RV.mono {B B' : Nat} {w : World} {a : Option Addr} {R : List RC} (h : RV B w a R) (hb : B' ≤ B) : RV B' w a R := fun i hi => (h i hi).mono hb
theorem RV.addr {B : Nat} {w : World} {a : Option Addr} {R : List RC} (h : RV B w a R) (h0 : 0 < R.length) : ∃ b off, a = some ⟨b, off, none⟩ := by
  obtain ⟨b, off, _, _, e, _⟩ := h 0 h0
  exact ⟨b, off, e⟩
theorem RV.at_ {B b off : Nat} {w : World} {R : List RC} (h : RV B w (some ⟨b, off, none⟩) R) {i : Nat} (hi : i < R.length) : ∃ ad cp, B ≤ b ∧ b < w.heap.size ∧ w.cell? ⟨b, off + i * 2, none⟩ = some (.string (rl R i).id) ∧ w.cell? ⟨b, off + i * 2 + 1, none⟩ = some (.slice ad (rl R i).d.length cp) ∧ DV B w ad cp (rl R i).d := by
  obtain ⟨b', off', ad, cp, e, h1, h2, h3, h4, h5⟩ := h i hi
  simp only [Option.some.injEq, Addr.mk.injEq, and_true] at e
  obtain ⟨rfl, rfl⟩ := e
  exact ⟨ad, cp, h1, h2, h3, h4, h5⟩
/-- What a table's slices tell. -/
structure TVs (B : Nat) (w : World) (T : TM) (a1 : Option Addr) (c1 : Nat) (a2 : Option Addr) (c2 : Nat) : Prop where
  u : Ord.SView w a1 T.uq.length T.uq
  u1 : T.uq.length ≤ c1
  u2 : c1 ≤ maxLen
  un : a1 = none → T.uq.length = 0 ∧ c1 = 0
  ub : ∀ b off, a1 = some ⟨b, off, none⟩ → B ≤ b
  r : RV B w a2 T.rows
  r1 : T.rows.length ≤ c2
  r2 : c2 ≤ maxLen
  rn : a2 = none → T.rows.length = 0 ∧ c2 = 0
theorem TVs.below {B : Nat} {w w' : World} {T : TM} {a1 a2 : Option Addr} {c1 c2 : Nat} (h : TVs B w T a1 c1 a2 c2) (k : Below w.heap.size w w') : TVs B w' T a1 c1 a2 c2 :=
  ⟨h.u.below k, h.u1, h.u2, h.un, h.ub, h.r.below k, h.r1, h.r2, h.rn⟩
theorem TVs.mono {B B' : Nat} {w : World} {T : TM} {a1 a2 : Option Addr} {c1 c2 : Nat} (h : TVs B w T a1 c1 a2 c2) (hb : B' ≤ B) : TVs B' w T a1 c1 a2 c2 :=
  ⟨h.u, h.u1, h.u2, h.un, fun b off e => Nat.le_trans hb (h.ub b off e), h.r.mono hb, h.r1, h.r2, h.rn⟩
def tv (T : TM) (a1 : Option Addr) (c1 : Nat) (a2 : Option Addr) (c2 : Nat) : Value := .agg #[.string T.name, .int .i64 T.most, .slice a1 T.uq.length c1, .slice a2 T.rows.length c2]
def rv (r : RC) (ad : Option Addr) (cp : Nat) : Value := .agg #[.string r.id, .slice ad r.d.length cp]
def TV (B : Nat) (w : World) (v : Value) (T : TM) : Prop := ∃ a1 c1 a2 c2, v = tv T a1 c1 a2 c2 ∧ TVs B w T a1 c1 a2 c2
def RVal (B : Nat) (w : World) (v : Value) (r : RC) : Prop := ∃ ad cp, v = rv r ad cp ∧ DV B w ad cp r.d
/-- How large. -/
def SmR (r : RC) : Prop := CW r.d.length (gl r.d) ∧ r.d.length ≤ 100000 ∧ r.id.size ≤ 1000000
structure SmT (T : TM) : Prop where
  rows : T.rows.length ≤ 1000
  uq : T.uq.length ≤ 1000
  each : ∀ r ∈ T.rows, SmR r
  us : ∀ s ∈ T.uq, s.size ≤ 1000000
theorem SmT.at_ {T : TM} (h : SmT T) {i : Nat} (hi : i < T.rows.length) : SmR (rl T.rows i) := h.each _ (rl_mem hi)
/-- Boxes. -/
def Bx4 (w : World) (q : Nat) (t : TypeId) (x0 x1 x2 x3 : Value) : Prop := w.heap[q]? = some (.cells #[x0, x1, x2, x3] t)
theorem Bx4.lt {w : World} {q t : Nat} {x0 x1 x2 x3 : Value} (h : Bx4 w q t x0 x1 x2 x3) : q < w.heap.size := (Array.getElem?_eq_some_iff.1 h).1
theorem Bx4.up {w w' : World} {q t : Nat} {x0 x1 x2 x3 : Value} (h : Bx4 w q t x0 x1 x2 x3) (k : Below w.heap.size w w') : Bx4 w' q t x0 x1 x2 x3 := by
  unfold Bx4 at h ⊢
  rw [k.block q (Array.getElem?_eq_some_iff.1 h).1]; exact h
theorem Bx4.c0 {w : World} {q t : Nat} {x0 x1 x2 x3 : Value} (h : Bx4 w q t x0 x1 x2 x3) : w.cell? ⟨q, 0, none⟩ = some x0 := by unfold Bx4 at h; simp [World.cell?, h]
theorem Bx4.c1 {w : World} {q t : Nat} {x0 x1 x2 x3 : Value} (h : Bx4 w q t x0 x1 x2 x3) : w.cell? ⟨q, 1, none⟩ = some x1 := by unfold Bx4 at h; simp [World.cell?, h]
theorem Bx4.c2 {w : World} {q t : Nat} {x0 x1 x2 x3 : Value} (h : Bx4 w q t x0 x1 x2 x3) : w.cell? ⟨q, 2, none⟩ = some x2 := by unfold Bx4 at h; simp [World.cell?, h]
theorem Bx4.c3 {w : World} {q t : Nat} {x0 x1 x2 x3 : Value} (h : Bx4 w q t x0 x1 x2 x3) : w.cell? ⟨q, 3, none⟩ = some x3 := by unfold Bx4 at h; simp [World.cell?, h]
theorem Bx4.fz {w : World} {q t : Nat} {x0 x1 x2 x3 : Value} (h : Bx4 w q t x0 x1 x2 x3) (i : Nat) : w.frozen? ⟨q, i, none⟩ = false := by unfold Bx4 at h; simp [World.frozen?, h]
theorem bx4_new (w : World) (t : TypeId) (x0 x1 x2 x3 : Value) : Bx4 (w.alloc (.cells #[x0, x1, x2, x3] t)) w.heap.size t x0 x1 x2 x3 := heap_alloc_new w _
theorem set_heap (w : World) (q k : Nat) (v : Value) (cs : Array Value) (t : TypeId) (h : w.heap[q]? = some (.cells cs t)) : (w.setCell ⟨q, k, none⟩ v).heap[q]? = some (.cells (cs.setIfInBounds k v) t) := by
  have hq := (Array.getElem?_eq_some_iff.1 h).1
  have e : w.heap[q] = .cells cs t := by
    rw [Array.getElem?_eq_getElem hq] at h
    exact Option.some.inj h
  simp [World.setCell, hq]
  rw [Array.getElem_modify_self, e]
theorem Bx4.set2 {w : World} {q t : Nat} {x0 x1 x2 x3 : Value} (h : Bx4 w q t x0 x1 x2 x3) (v : Value) : Bx4 (w.setCell ⟨q, 2, none⟩ v) q t x0 x1 v x3 := by
  have := set_heap w q 2 v _ _ h
  simpa [Bx4] using this
theorem Bx4.set3 {w : World} {q t : Nat} {x0 x1 x2 x3 : Value} (h : Bx4 w q t x0 x1 x2 x3) (v : Value) : Bx4 (w.setCell ⟨q, 3, none⟩ v) q t x0 x1 x2 v := by
  have := set_heap w q 3 v _ _ h
  simpa [Bx4] using this
theorem Bx4.other {w : World} {q t p k : Nat} {x0 x1 x2 x3 : Value} (h : Bx4 w q t x0 x1 x2 x3) (hne : p ≠ q) (v : Value) : Bx4 (w.setCell ⟨p, k, none⟩ v) q t x0 x1 x2 x3 := by
  unfold Bx4 at h ⊢
  rw [RowKit.Below.heap_setCell _ _ _ _ (fun e => hne e.symm)]; exact h
def Bx2 (w : World) (q : Nat) (x0 x1 : Value) : Prop := w.heap[q]? = some (.cells #[x0, x1] 32)
theorem Bx2.lt {w : World} {q : Nat} {x0 x1 : Value} (h : Bx2 w q x0 x1) : q < w.heap.size := (Array.getElem?_eq_some_iff.1 h).1
theorem Bx2.up {w w' : World} {q : Nat} {x0 x1 : Value} (h : Bx2 w q x0 x1) (k : Below w.heap.size w w') : Bx2 w' q x0 x1 := by
  unfold Bx2 at h ⊢
  rw [k.block q (Array.getElem?_eq_some_iff.1 h).1]; exact h
theorem Bx2.c0 {w : World} {q : Nat} {x0 x1 : Value} (h : Bx2 w q x0 x1) : w.cell? ⟨q, 0, none⟩ = some x0 := by unfold Bx2 at h; simp [World.cell?, h]
theorem Bx2.c1 {w : World} {q : Nat} {x0 x1 : Value} (h : Bx2 w q x0 x1) : w.cell? ⟨q, 1, none⟩ = some x1 := by unfold Bx2 at h; simp [World.cell?, h]
theorem bx2_new (w : World) (x0 x1 : Value) : Bx2 (w.alloc (.cells #[x0, x1] 32)) w.heap.size x0 x1 := heap_alloc_new w _
theorem infoN : ∃ i, Try.prog.info? 9 = some i ∧ i.zero = some (.string ⟨#[]⟩) ∧ i.size = 1 ∧ i.bytes = 16 := by
  have h := Try.typeInfo9 default
  unfold typeInfo at h
  cases hq : Try.prog.info? 9 with
  | none => simp [hq] at h
  | some i =>
    simp [hq] at h
    exact ⟨i, rfl, by rw [h]; rfl, by rw [h]; rfl, by rw [h]; rfl⟩
theorem infoR : ∃ i, Try.prog.info? 32 = some i ∧ i.zero = some (.agg #[.string ⟨#[]⟩, .slice none 0 0]) ∧ i.size = 2 ∧ i.bytes = 40 := by
  have h := Try.typeInfo32 default
  unfold typeInfo at h
  cases hq : Try.prog.info? 32 with
  | none => simp [hq] at h
  | some i =>
    simp [hq] at h
    exact ⟨i, rfl, by rw [h]; rfl, by rw [h]; rfl, by rw [h]; rfl⟩
theorem sview_own {w : World} {B : Nat} {v : Value} {L : List ByteArray} (h : w.ownsRow B 9 1 v L.length (L.map .string)) : ∃ ad cap, v = .slice ad L.length cap ∧ L.length ≤ cap ∧ cap ≤ maxLen ∧ Ord.SView w ad L.length L ∧ (ad = none → L.length = 0 ∧ cap = 0) ∧ ∀ b off, ad = some ⟨b, off, none⟩ → B ≤ b := by
  rcases h.2 with ⟨rfl, hn⟩ | ⟨q, cap, cur, rfl, hg, hgg, h1, h2, h3, h4⟩
  · have e : L = [] := List.length_eq_zero_iff.1 hn
    subst e
    exact ⟨none, 0, rfl, Nat.le_refl _, Nat.zero_le _, ⟨rfl, fun k hk => absurd hk (Nat.not_lt_zero k)⟩, fun _ => ⟨rfl, rfl⟩, fun b off e => by cases e⟩
  · refine ⟨some ⟨q, 0, none⟩, cap, rfl, h1, h2, ⟨rfl, fun k hk => ⟨q, 0, rfl, (Array.getElem?_eq_some_iff.1 hgg).1, ?_⟩⟩, fun e => (by cases e), fun b off e => (by cases e; exact hg)⟩
    rw [Nat.zero_add, h.cellAt k (by simpa using hk)]
    unfold Ord.nth
    rw [List.getElem?_map, List.getD_eq_getElem?_getD, List.getElem?_eq_getElem hk]
    rfl
end Go.Proofs.Ytfigebepeniikaa
/- Layer 27: the Ids of rows; where an Id is. -/
namespace Go.Proofs.Ytfigebepeniikaa
open Go.RowKit Go.Maps
set_option maxRecDepth 20000 in
set_option maxHeartbeats 2000000 in
theorem ids_any (B p : Nat) (x0 x1 x2 : Value) (a2 : Option Addr) (c2 : Nat) (R : List RC) (w : World) (hb : Bx4 w p 49 x0 x1 x2 (.slice a2 R.length c2)) (hv : RV B w a2 R) (hn : R.length ≤ 1000) : Calls Try.prog 30 #[.pointer (some ⟨p, 0, none⟩)] w fun e w' => ∃ v, e = .returned v ∧ w'.ownsRow w.heap.size 9 1 v R.length ((idsR R).map .string) ∧ Below w.heap.size w w' := by
  obtain ⟨i0, hi, hz0, hz1, hz2⟩ := infoN
  have HV := Lib.hid hv
  have h3 := hb.c3
  obtain ⟨f, hf⟩ : ∃ f : Nat → ByteArray, f = fun i => (rl R i).id := ⟨_, rfl⟩
  obtain ⟨L, hL⟩ : ∃ L : Nat → List Value, L = fun i => ((idsR R).take i).map Value.string := ⟨_, rfl⟩
  have HF : Hid (∀ i, f i = (rl R i).id) := Lib.hid (fun i => by rw [hf])
  have HL0 : Hid (L 0 = []) := Lib.hid (by rw [hL]; rfl)
  have HLn : Hid (L R.length = (idsR R).map Value.string) := Lib.hid (by rw [hL]; show ((idsR R).take R.length).map _ = _; rw [← idsR_len R, List.take_length])
  have HLs : Hid (∀ i, i < R.length → L (i + 1) = L i ++ [.string (f i)]) := Lib.hid (fun i hi => by
    rw [hL, hf]
    show ((idsR R).take (i + 1)).map _ = ((idsR R).take i).map _ ++ _
    have h : i < (idsR R).length := by rw [idsR_len]; exact hi
    rw [List.take_succ_eq_append_getElem h, List.map_append]
    have e : (idsR R)[i] = (rl R i).id := by rw [rl_get hi]; simp [idsR]
    rw [e]
    rfl)
  rw [← HLn.out]
  clear hb hv hf hL
  obtain ⟨n, hnn⟩ : ∃ n, n = R.length := ⟨_, rfl⟩
  rw [← hnn] at h3 hn HLs ⊢
  have HN := Lib.hid hnn
  clear hnn HLn
  have hn' : (n : Int) ≤ 1000 := by omega
  go_enter Try.func30, Try.ntmps30
  go_wp2_with fail
  go_loopw [3, 5, 12] (fun v3 _ v12 wr => ∃ i : Nat, i ≤ n ∧ v12 = .int .i64 i ∧ Hid (wr.ownsRow w.heap.size 9 1 v3 i (L i)) ∧ Hid (Below w.heap.size w wr)) (fun _ _ v12 _ => n - (intOf v12).toNat)
  case atStart => exact ⟨0, Nat.zero_le _, rfl, Lib.hid (by rw [HL0.out]; exact World.ownsRow_nil _ _ _ _), Lib.hid (Below.refl _ _)⟩
  case round =>
    obtain ⟨i, hi1, rfl, HO, HBw⟩ := hrel
    by_cases hlt : i < n
    · have hlt' : (i : Int) < n := by omega
      have hge : (0 : Int) ≤ i := by omega
      obtain ⟨b, off, rfl⟩ := HV.out.addr (by rw [← HN.out]; omega)
      obtain ⟨ad, cp, _, _, d0, d1, _⟩ := (HV.out.below HBw.out).at_ (i := i) (by rw [← HN.out]; exact hlt)
      obtain ⟨x, hx⟩ : ∃ x, x = (rl R i).id := ⟨_, rfl⟩
      obtain ⟨y, hy⟩ : ∃ y, y = (rl R i).d.length := ⟨_, rfl⟩
      rw [← hx] at d0
      rw [← hy] at d1
      have HLi : Hid (L (i + 1) = L i ++ [.string x]) := Lib.hid (by rw [HLs.out i hlt, HF.out, hx])
      clear hx hy
      have hs3 : w.heap.size ≤ wr.heap.size + 1 + 1 := by have := HBw.out.size; omega
      go_wp2_with (at_builtin; refine wpList_append_own _ rfl _ _ 22 rfl w.heap.size 9 i0 (.string ⟨#[]⟩) 1 16 Try.underlying22 hi hz0 hz1 hz2 rfl (by decide) _ _ _ rfl ((HO.out.alloc _).alloc _) ⟨wr.heap.size + 1, 0, none⟩ 1 1 [.string x] rfl rfl (by have h := news_at (wr.alloc (.cells #[.string x, .slice ad y cp] 32)) #[.string x] 9 [.string x] rfl; simpa using h) (by intro u hu; simp at hu; subst hu; rfl) (by unfold maxLen; omega) (by omega) (by simpa using hs3) ?_; intro v1 w3 ho1 hg1 _)
      have B3 : Hid (Below w.heap.size w w3) := Lib.hid (((HBw.out.alloc HBw.out.size _).alloc (by have := HBw.out.size; simp; omega) _).grown hg1 (by have := HBw.out.size; simp; omega) (fun q hq => (HO.out.lt q hq).1))
      have O3 := Lib.hid ho1
      clear ho1 hg1
      go_wp2_with fail
      go_roundw
      case rel => exact ⟨i + 1, by omega, by go_num, Lib.hid (by rw [HLi.out]; exact O3.out), B3⟩
      case measure => simp [intOf]; omega
    · have him : i = n := by omega
      subst him
      have hge : ¬ (i : Int) < i := by omega
      go_wp2_with fail
      go_ret
      exact ⟨_, rfl, HO.out, HBw.out⟩
/-- find, of rows whose Ids rise. -/
theorem find_ok (B p : Nat) (x0 x1 x2 : Value) (a2 : Option Addr) (c2 : Nat) (R : List RC) (s : ByteArray) (w : World) (hb : Bx4 w p 49 x0 x1 x2 (.slice a2 R.length c2)) (hv : RV B w a2 R) (hn : R.length ≤ 1000) (hc : Ord.chE (idsR R) = 0) : Calls Try.prog 28 #[.pointer (some ⟨p, 0, none⟩), .string s] w fun e w' => (∃ (k : Nat) (is : Bool), e = .returned (.tuple #[.int .i64 (k : Int), .bool is]) ∧ Ord.At (idsR R) s k is) ∧ Below w.heap.size w w' := by
  have K := Lib.hid (ids_any B p x0 x1 x2 a2 c2 R w hb hv hn)
  have HC := Lib.hid hc
  have HN : Hid ((idsR R).length = R.length) := Lib.hid (idsR_len R)
  clear hb hv hc
  go_enter Try.func28, Try.ntmps28
  go_wp2_with fail
  refine K.out.mono ?_
  rintro e w1 ⟨v, rfl, ho, b1⟩
  rw [← HN.out] at ho
  obtain ⟨ad, cap, rfl, _, _, sv, _, _⟩ := sview_own ho
  have HS := Lib.hid sv
  have HB := Lib.hid b1
  clear ho sv b1
  go_wp2_with fail
  refine (Ord.findOf_any ad _ cap (idsR R) s w1 HS.out HC.out).mono ?_
  rintro e w2 ⟨⟨k, is, rfl, hat⟩, b2⟩
  have HA := Lib.hid hat
  have B2 := Lib.hid (HB.out.trans (b2.mono HB.out.size))
  clear hat b2
  go_wp2_with fail
  go_ret2
  exact ⟨⟨k, is, rfl, HA.out⟩, B2.out⟩
end Go.Proofs.Ytfigebepeniikaa
/- Layer 27: a member of a record. -/
namespace Go.Proofs.Ytfigebepeniikaa
open Go.RowKit Go.Maps
theorem cv_sub {w : World} {b off n p e : Nat} {g : Nat → CR} (h : CV w (some ⟨b, off, none⟩) n g) (he : e ≤ n) : CV w (some ⟨b, off + p * 5, none⟩) (e - p) (gl (cut g p e)) := fun i hi => by
  obtain ⟨h0, h1, h2, h3, h4, h5⟩ := h.at_ (i := p + i) (by omega)
  rw [cut_at g p e i hi]
  have e0 : off + p * 5 + i * 5 = off + (p + i) * 5 := by omega
  exact ⟨b, off + p * 5, rfl, h0, by rw [e0]; exact h1, by rw [e0]; exact h2, by rw [e0]; exact h3, by rw [e0]; exact h4, by rw [e0]; exact h5⟩
def MPost (B : Nat) (x : Option (List CR)) (e : Ending) (w' : World) : Prop := match x with
  | none => e = .returned (.tuple #[.slice none 0 0, .bool false])
  | some d => ∃ a c, e = .returned (.tuple #[.slice a d.length c, .bool true]) ∧ DV B w' a c d ∧ 0 < d.length
theorem mI_mbF (d : List CR) (s : ByteArray) : mI d s = mbF (gl d) s (bd (gl d) d.length 1) (gl d 0).m.toNat := rfl
set_option maxRecDepth 20000 in
set_option maxHeartbeats 2000000 in
theorem tmember_any (B : Nat) (r : RC) (ad : Option Addr) (cp : Nat) (s : ByteArray) (w : World) (hd : DV B w ad cp r.d) (hc : ckL r.d = true) : Calls Try.prog 36 #[rv r ad cp, .string s] w fun e w' => MPost B (mV r.d s) e w' ∧ Below w.heap.size w w' := by
  obtain ⟨id, d⟩ := r
  show Calls Try.prog 36 #[.agg #[.string id, .slice ad d.length cp], .string s] w fun e w' => MPost B (mV d s) e w' ∧ Below w.heap.size w w'
  replace hd : DV B w ad cp d := hd
  replace hc : ckL d = true := hc
  obtain ⟨hv, hl1, hl2, _, hbb⟩ := hd
  obtain ⟨k1, k2, _, k4⟩ := ckC_parts hc
  obtain ⟨b, off, rfl⟩ := hv.addr k1
  have hB := hbb b off rfl
  obtain ⟨_, _, j3, j4⟩ := wk_open (Nat.le_refl _) k4
  have j5 := Chain.le _ _ _ j4
  have HBD := Lib.hid (bd_chain _ _ _ j4).1
  have HBN : Hid (∀ i, i < (gl d 0).m.toNat → bd (gl d) d.length 1 i < bd (gl d) d.length 1 (i + 1) ∧ bd (gl d) d.length 1 (i + 1) ≤ d.length) := Lib.hid (fun i hi => wk_lt _ _ _ (HBD.out i hi))
  have hx0 : mV d s = (mbF (gl d) s (bd (gl d) d.length 1) (gl d 0).m.toNat).map fun p => cut (gl d) p (nx (gl d) d.length p) := rfl
  obtain ⟨m, hm⟩ : ∃ m : Nat, (gl d 0).m = m := ⟨(gl d 0).m.toNat, by omega⟩
  have cm := (hv.at_ k1).2.2.2.2.2
  rw [hm] at cm j5 HBD HBN hx0
  rw [Int.toNat_natCast] at j5 HBD HBN hx0
  obtain ⟨f, hf⟩ : ∃ f, f = bd (gl d) d.length 1 := ⟨_, rfl⟩
  rw [← hf] at HBD HBN hx0
  have hf0 : f 0 = 1 := by rw [hf]; rfl
  obtain ⟨x, hx⟩ : ∃ x, x = mV d s := ⟨_, rfl⟩
  rw [← hx] at hx0 ⊢
  have HXN : Hid ((∀ j, j < m → (gl d (f j)).nm ≠ s) → x = none) := Lib.hid (fun h => by rw [hx0, mbF_none h]; rfl)
  have HXS : Hid (∀ i, i < m → (∀ j, j < i → (gl d (f j)).nm ≠ s) → (gl d (f i)).nm = s → x = some (cut (gl d) (f i) (f (i + 1)))) := Lib.hid (fun i hi h1 h2 => by rw [hx0, mbF_some hi h1 h2, hf]; rfl)
  have hS : Hid (CV (w.alloc (.cells #[.string id, .slice (some ⟨b, off, none⟩) d.length cp] 32)) (some ⟨b, off, none⟩) d.length (gl d)) := Lib.hid (hv.below ((Below.refl _ _).alloc (Nat.le_refl _) _))
  have hM := (hS.out.at_ k1).2.2.2.2.2
  rw [hm, Nat.zero_mul, Nat.add_zero] at hM
  have hQ := Lib.hid (bx2_new w (.string id) (.slice (some ⟨b, off, none⟩) d.length cp))
  have HBL : Hid (Below w.heap.size w (w.alloc (.cells #[.string id, .slice (some ⟨b, off, none⟩) d.length cp] 32))) := Lib.hid ((Below.refl _ _).alloc (Nat.le_refl _) _)
  obtain ⟨g, hg⟩ : ∃ g, g = gl d := ⟨_, rfl⟩
  rw [← hg] at HBD HXN HXS hS
  obtain ⟨n, hn⟩ : ∃ n, n = d.length := ⟨_, rfl⟩
  rw [← hn] at k1 k2 hl1 j5 HBD HBN hS hQ HBL hM ⊢
  have hn0 : (0 : Int) < n := by omega
  have hn1 : (n : Int) ≤ 2048 := by omega
  have hm1 : (m : Int) ≤ 2048 := by omega
  have hcp : (n : Int) ≤ cp := by omega
  have hcp2 : (cp : Int) ≤ 9223372036854775807 := by unfold maxLen at hl2; omega
  clear hx hx0 hm hg hn hv cm j3 j4 hf hc k4 hbb
  go_enter Try.func36, Try.ntmps36
  go_wp2_with fail
  obtain ⟨W, hW⟩ : ∃ W, W = w.alloc (.cells #[.string id, .slice (some ⟨b, off, none⟩) n cp] 32) := ⟨_, rfl⟩
  rw [← hW] at hS hM hQ HBL ⊢
  have q1 := hQ.out.c1
  clear hW
  go_loop [6, 7, 8, 14] (fun v6 _ _ v14 => ∃ i : Nat, i ≤ m ∧ v14 = .int .i64 i ∧ v6 = .int .i64 (f i : Nat) ∧ Hid (∀ j, j < i → (g (f j)).nm ≠ s)) (fun _ _ _ v14 => m - (intOf v14).toNat)
  case atStart => exact ⟨0, Nat.zero_le _, rfl, by rw [hf0]; rfl, Lib.hid (fun j hj => by omega)⟩
  case round =>
    obtain ⟨i, hi, rfl, rfl, HN⟩ := hrel
    by_cases hlt : i < m
    · have hi1 : (i : Int) < m := by omega
      have hfi := HBN.out i hlt
      have hfn : f i < n := by omega
      have H1 : Hid (Chain g n 1 (f i) (f (i + 1))) := Lib.hid ⟨_, HBD.out i hlt, rfl⟩
      obtain ⟨y, hy⟩ : ∃ y, y = f i := ⟨_, rfl⟩
      obtain ⟨z, hz⟩ : ∃ z, z = f (i + 1) := ⟨_, rfl⟩
      have HZ := Lib.hid hz
      have cn := (hS.out.at_ hfn).2.2.1
      have HX1 := Lib.hid (HXS.out i hlt HN.out)
      rw [← hy, ← hz] at H1 hfi HX1
      rw [← hy] at cn hfn ⊢
      have HN2 : Hid ((g y).nm ≠ s → ∀ j, j < i + 1 → (g (f j)).nm ≠ s) := Lib.hid (fun h j hj => by
        by_cases e : j = i
        · subst e; rw [← hy]; exact h
        · exact HN.out j (by omega))
      obtain ⟨nm, hnm⟩ : ∃ nm, nm = (g y).nm := ⟨_, rfl⟩
      rw [← hnm] at cn HX1 HN2
      have hy0 : (0 : Int) ≤ y := by omega
      have hy1 : (y : Int) < n := by omega
      have hyz : (y : Int) < z := by omega
      have hzn : (z : Int) ≤ n := by omega
      clear hy hz hnm HN hfi hfn
      go_wp2_with fail
      go_loop [7, 8] (fun v7 v8 => ∃ p o : Nat, v7 = .int .i64 p ∧ v8 = .int .i64 o ∧ Hid (Chain g n o p z)) (fun v7 _ => n - (intOf v7).toNat)
      case atStart => exact ⟨y, 1, rfl, rfl, H1⟩
      case round =>
        obtain ⟨p, o, rfl, rfl, HC⟩ := hrel
        cases o with
        | zero =>
          have hpz : p = z := HC.out
          subst hpz
          clear HC H1
          by_cases he : nm = s
          · have HX : Hid (x = some (cut g y p)) := Lib.hid (HX1.out he)
            have HD : Hid (DV B W (some ⟨b, off + y * 5, none⟩) (cp - y) (cut g y p)) := Lib.hid ⟨by rw [cut_len]; exact cv_sub hS.out (by omega), by rw [cut_len]; omega, by omega, fun e => (by cases e), fun b' off' e => (by cases e; exact hB)⟩
            have HLn : Hid ((cut g y p).length = p - y) := Lib.hid (cut_len _ _ _)
            have hs0 : ((p : Int) - y) = ((p - y : Nat) : Int) := by omega
            subst he
            go_wp2_with fail
            go_ret2
            refine ⟨?_, HBL.out⟩
            rw [HX.out]
            exact ⟨some ⟨b, off + y * 5, none⟩, cp - y, by rw [HLn.out]; rfl, HD.out, by rw [HLn.out]; omega⟩
          · have he2 : (nm.toList == s.toList) = false := by rw [str_is]; simpa using he
            have HN3 := Lib.hid (HN2.out he)
            clear he
            go_wp2_with fail
            go_round
            case rel => exact ⟨i + 1, by omega, by go_num, by rw [HZ.out], HN3⟩
            case measure => simp [intOf]; omega
        | succ o =>
          obtain ⟨h1, h2, h3, h4⟩ := HC.out.step
          obtain ⟨_, _, _, _, _, c4⟩ := hS.out.at_ h1
          obtain ⟨mm, hmm⟩ : ∃ mm : Nat, (g p).m = mm := ⟨(g p).m.toNat, by omega⟩
          rw [hmm] at c4 h4
          rw [Int.toNat_natCast] at h4
          have h5 := Chain.le _ _ _ h4
          have K4 := Lib.hid h4
          have hq0 : (0 : Int) ≤ p := by omega
          have hq1 : (p : Int) < n := by omega
          have hb0 : (p : Int) ≤ 2048 := by omega
          have hb1 : (mm : Int) ≤ 2048 := by omega
          have hb2 : (o : Int) ≤ 2048 := by omega
          have hb3 : (0 : Int) ≤ mm := by omega
          have hb4 : (0 : Int) ≤ o := by omega
          have hgt : (0 : Int) < ((o + 1 : Nat) : Int) := by omega
          clear HC h3 h4 h5 hmm cn
          go_wp2_with fail
          go_round
          case rel => exact ⟨p + 1, o + mm, by go_num, by first | go_num | (congr 1; omega), K4⟩
          case measure => simp [intOf]; omega
    · have him : i = m := by omega
      subst him
      have HX : Hid (x = none) := Lib.hid (HXN.out HN.out)
      have hge : ¬ (i : Int) < i := by omega
      clear HN
      go_wp2_with fail
      go_ret2
      exact ⟨by rw [HX.out]; rfl, HBL.out⟩
end Go.Proofs.Ytfigebepeniikaa
/- Layer 3: the program's Same (as in the texts of layer 3). -/
namespace Go.Proofs.Ytfigebepeniikaa
open Go.RowKit Go.Maps
theorem below_drewN0 {w w' : World} (h : Below w.heap.size w w') (n : Nat) : Below w.heap.size w (w'.drewN n) := ⟨h.os, h.tape, h.output, h.size, h.block⟩
set_option maxRecDepth 20000 in
set_option maxHeartbeats 2000000 in
theorem csame_any (a1 a2 : Option Addr) (n1 n2 cp1 cp2 : Nat) (g1 g2 : Nat → CR) (w : World) (hv1 : CV w a1 n1 g1) (hv2 : CV w a2 n2 g2) (hn : n1 ≤ maxLen) : Calls Try.prog 55 #[.slice a1 n1 cp1, .slice a2 n2 cp2] w fun r w' => r = .returned (.bool (smB g1 n1 g2 n2)) ∧ Below w.heap.size w w' := by
  unfold maxLen at hn
  obtain ⟨x, hx⟩ : ∃ x, x = smB g1 n1 g2 n2 := ⟨_, rfl⟩
  rw [← hx]
  replace hx := Lib.hid hx
  by_cases he : n1 = n2
  · subst he
    have HV1 := Lib.hid hv1
    have HV2 := Lib.hid hv2
    clear hv1 hv2
    have hn' : (n1 : Int) ≤ 9223372036854775807 := by omega
    have hne : ((n1 : Int) != n1) = false := by simp
    go_enter Try.func55, Try.ntmps55
    go_wp2_with fail
    go_loopw [14] (fun v14 wr => ∃ i : Nat, i ≤ n1 ∧ v14 = .int .i64 i ∧ Hid (∀ j, j < i → g1 j = g2 j) ∧ Hid (Below w.heap.size w wr)) (fun v14 _ => n1 - (intOf v14).toNat)
    case atStart => exact ⟨0, Nat.zero_le _, rfl, Lib.hid (fun j hj => by omega), Lib.hid (Below.refl _ _)⟩
    case round =>
      obtain ⟨i, hi, rfl, HN, HB⟩ := hrel
      by_cases h1 : i < n1
      · obtain ⟨b, off, rfl⟩ := HV1.out.addr (by omega)
        obtain ⟨b', off', rfl⟩ := HV2.out.addr (by omega)
        obtain ⟨_, d0, d1, d2, d3, d4⟩ := (HV1.out.below HB.out).at_ h1
        have hg1 : (i : Int) < n1 := by omega
        have hg0 : (0 : Int) ≤ i := by omega
        obtain ⟨c, hc⟩ : ∃ c, c = g1 i := ⟨_, rfl⟩
        obtain ⟨d, hd⟩ : ∃ d, d = g2 i := ⟨_, rfl⟩
        rw [← hc] at d0 d1 d2 d3 d4
        have hq := neq_cell c d
        unfold cv at hq
        have hgd : ∀ (op : BinOp) (x y : Operand) (xs ys : Array Value) (W : World), (eqGuard op 53 x y (.agg xs) (.agg ys)).run Try.prog W = .ok () W := fun op x y xs ys W => run_eqGuard_agg W op _ x y xs ys (by kernel_rfl)
        by_cases hcd : c = d
        · have HN2 : Hid (∀ j, j < i + 1 → g1 j = g2 j) := Lib.hid (fun j hj => by
            by_cases e : j = i
            · subst e; rw [← hc, ← hd]; exact hcd
            · exact HN.out j (by omega))
          rw [decide_eq_true hcd] at hq
          have Hq := Lib.hid hq
          clear HN hc hcd hq
          go_wp2_with fail
          obtain ⟨w1, hw1⟩ : ∃ y, y = wr.alloc (.cells #[.int .u8 c.k, .string c.nm, .string c.tx, .int .i64 c.n, .int .i64 c.m] 53) := ⟨_, rfl⟩
          have x0 : w1.cell? ⟨wr.heap.size, 0, none⟩ = some (.int .u8 c.k) := by rw [hw1]; simp
          have x1 : w1.cell? ⟨wr.heap.size, 1, none⟩ = some (.string c.nm) := by rw [hw1]; simp
          have x2 : w1.cell? ⟨wr.heap.size, 2, none⟩ = some (.string c.tx) := by rw [hw1]; simp
          have x3 : w1.cell? ⟨wr.heap.size, 3, none⟩ = some (.int .i64 c.n) := by rw [hw1]; simp
          have x4 : w1.cell? ⟨wr.heap.size, 4, none⟩ = some (.int .i64 c.m) := by rw [hw1]; simp
          have HB1 : Hid (Below w.heap.size w w1) := Lib.hid (by rw [hw1]; exact HB.out.alloc HB.out.size _)
          rw [← hw1]
          clear hw1 d0 d1 d2 d3 d4 HB
          obtain ⟨_, e0, e1, e2, e3, e4⟩ := (HV2.out.below HB1.out).at_ h1
          rw [← hd] at e0 e1 e2 e3 e4
          have hq := Hq.out
          clear hd
          go_quiet (fail)
          go_wp2_with fail
          go_roundw
          case rel => exact ⟨i + 1, by omega, by go_num, HN2, Lib.hid (below_drewN0 HB1.out _)⟩
          case measure => simp [intOf]; omega
        · have HX : Hid (x = false) := Lib.hid (by rw [hx.out]; exact sm_no h1 (by rw [← hc, ← hd]; exact hcd))
          rw [decide_eq_false hcd] at hq
          have Hq := Lib.hid hq
          clear HN hc hcd hq
          go_wp2_with fail
          obtain ⟨w1, hw1⟩ : ∃ y, y = wr.alloc (.cells #[.int .u8 c.k, .string c.nm, .string c.tx, .int .i64 c.n, .int .i64 c.m] 53) := ⟨_, rfl⟩
          have x0 : w1.cell? ⟨wr.heap.size, 0, none⟩ = some (.int .u8 c.k) := by rw [hw1]; simp
          have x1 : w1.cell? ⟨wr.heap.size, 1, none⟩ = some (.string c.nm) := by rw [hw1]; simp
          have x2 : w1.cell? ⟨wr.heap.size, 2, none⟩ = some (.string c.tx) := by rw [hw1]; simp
          have x3 : w1.cell? ⟨wr.heap.size, 3, none⟩ = some (.int .i64 c.n) := by rw [hw1]; simp
          have x4 : w1.cell? ⟨wr.heap.size, 4, none⟩ = some (.int .i64 c.m) := by rw [hw1]; simp
          have HB1 : Hid (Below w.heap.size w w1) := Lib.hid (by rw [hw1]; exact HB.out.alloc HB.out.size _)
          rw [← hw1]
          clear hw1 d0 d1 d2 d3 d4 HB
          obtain ⟨_, e0, e1, e2, e3, e4⟩ := (HV2.out.below HB1.out).at_ h1
          rw [← hd] at e0 e1 e2 e3 e4
          have hq := Hq.out
          clear hd
          go_quiet (fail)
          go_wp2_with fail
          go_ret
          exact ⟨ret_bool HX.out.symm, below_drewN0 HB1.out _⟩
      · have e1 : i = n1 := by omega
        subst e1
        have HX : Hid (x = true) := Lib.hid (by rw [hx.out]; exact sm_yes HN.out)
        have hg1 : ¬ (i : Int) < i := by omega
        clear HN
        go_wp2_with fail
        go_ret
        exact ⟨ret_bool HX.out.symm, HB.out⟩
  · have HX : Hid (x = false) := Lib.hid (by rw [hx.out]; unfold smB; rw [decide_eq_false he]; rfl)
    have hne : ((n1 : Int) != n2) = true := by simp; omega
    clear he
    go_enter Try.func55, Try.ntmps55
    go_wp2_with fail
    go_ret
    exact ⟨ret_bool HX.out.symm, Below.refl _ _⟩
end Go.Proofs.Ytfigebepeniikaa
