import Derived.Test.YtpiaofpglagfmaaDoorK9
import Derived.Test.YtpiaofpglagfmaaDoorRows
import Derived.Test.YtpiaofpglagfmaaDoorTie
import Derived.Test.YtpiaofpglagfmaaDoorCards
import Derived.Test.YtpiaofpglagfmaaDoorK1
import Derived.HandedShaped
import Derived.Lay
import Derived.Shelf.Vars
import Derived.WalkKit
import Derived.ProofKit
import Derived.OpenShut
import Derived.LaidMore
import Derived.Stop.Joined
import Derived.SevenTiedAt
import Derived.Lib.LaidTab
import Derived.Stop.LaidErr
import Derived.ShutString
import Derived.ChangeOld
import Derived.Carry
/- Layer 17: the law's helpers: mark, name, alive. -/
namespace Go.Proofs.YtpiaofpglagfmaaDoor
open Go.RowKit Go.Maps
theorem ret_mk {R : Ending → World → Prop} {fn : Func} {tmps : Array Value} {w : World} {g : Nat} {cs : Array Value} (hr : fn.results = #[.cell 2 31]) (h2 : tmps.getD 2 undef = .pointer (some ⟨g, 0, none⟩)) (hg : w.heap[g]? = some (.cells cs 31)) (hs : cs.size = 3)
    (hR : R (.returned (.agg cs)) w) : bodyPost Tryd.prog fn R .ret ⟨tmps, []⟩ w := by
  obtain ⟨i0, hin, hz0, hz1, hz2⟩ := infoT
  refine bodyPost_ret (v := .agg cs) ?_ rfl hR
  exact results_cell_row hr tmps w g 31 cs (0, 0) _ h2 hg Tryd.underlying31 rfl (by rw [hin]; simp [hz1, hs])
set_option maxRecDepth 20000 in
set_option maxHeartbeats 2000000 in
theorem mkmark_any (s : ByteArray) (w : World) : Calls Tryd.prog 12 #[.string s] w fun e w' => e = .returned (.agg #[.int .u8 4, .string s, .int .i64 0]) ∧ Below w.heap.size w w' := by
  go_enter Tryd.func12, Tryd.ntmps12
  go_wp2_with fail
  exact ret_mk Tryd.results12 rfl (heap_alloc_new _ _) rfl ⟨rfl, (Below.refl _ _).alloc (Nat.le_refl _) _⟩
set_option maxRecDepth 20000 in
set_option maxHeartbeats 2000000 in
theorem mkname_any (s : ByteArray) (w : World) : Calls Tryd.prog 13 #[.string s] w fun e w' => e = .returned (.agg #[.int .u8 1, .string s, .int .i64 0]) ∧ Below w.heap.size w w' := by
  go_enter Tryd.func13, Tryd.ntmps13
  go_wp2_with fail
  exact ret_mk Tryd.results13 rfl (heap_alloc_new _ _) rfl ⟨rfl, (Below.refl _ _).alloc (Nat.le_refl _) _⟩
theorem al_lex1 : lexM ⟨#[123, 97, 40, 98, 58, 45, 49, 41, 125, 32, 35, 120]⟩ = .ok ([⟨4, ⟨#[123]⟩, 0⟩, ⟨1, ⟨#[97]⟩, 1⟩, ⟨4, ⟨#[40]⟩, 2⟩, ⟨1, ⟨#[98]⟩, 3⟩, ⟨4, ⟨#[58]⟩, 4⟩, ⟨2, ⟨#[45, 49]⟩, 5⟩, ⟨4, ⟨#[41]⟩, 7⟩, ⟨4, ⟨#[125]⟩, 8⟩] ++ [⟨0, ⟨#[]⟩, 12⟩]) := by kernel_rfl
theorem al_lex2 : lexM ⟨#[34, 92, 117, 48, 48, 101, 57, 44, 34, 44, 32, 120]⟩ = .ok ([⟨3, ⟨#[195, 169, 44]⟩, 0⟩, ⟨1, ⟨#[120]⟩, 11⟩] ++ [⟨0, ⟨#[]⟩, 12⟩]) := by kernel_rfl
/-- Behind a box of one's own: what was is kept. -/
theorem below_boxed0 {w w' : World} {o : Obj} (h : Below w.heap.size (w.alloc o) w') : Below w.heap.size w w' := ((Below.refl _ _).alloc (Nat.le_refl _) _).trans h
set_option maxRecDepth 20000 in
set_option maxHeartbeats 4000000 in
theorem alive17_any (w : World) (hc : LxC w) : Calls Tryd.prog 5 #[] w fun e w' => e = .returned (.bool true) ∧ Below w.heap.size w w' := by
  have HC := Lib.hid hc
  clear hc
  go_enter Tryd.func5, Tryd.ntmps5
  go_wp2_with fail
  refine (mkmark_any _ _).mono ?_
  rintro e w1 ⟨rfl, b1⟩
  have B1 := Lib.hid (b1)
  clear b1
  go_wp2_with fail
  refine (mkname_any _ _).mono ?_
  rintro e w2 ⟨rfl, b2⟩
  have B2 := Lib.hid (B1.out.trans (b2.mono B1.out.size))
  clear b2
  go_wp2_with fail
  refine (mkmark_any _ _).mono ?_
  rintro e w3 ⟨rfl, b3⟩
  have B3 := Lib.hid (B2.out.trans (b3.mono B2.out.size))
  clear b3
  go_wp2_with fail
  refine (mkname_any _ _).mono ?_
  rintro e w4 ⟨rfl, b4⟩
  have B4 := Lib.hid (B3.out.trans (b4.mono B3.out.size))
  clear b4
  go_wp2_with fail
  refine (mkmark_any _ _).mono ?_
  rintro e w5 ⟨rfl, b5⟩
  have B5 := Lib.hid (B4.out.trans (b5.mono B4.out.size))
  clear b5
  go_wp2_with fail
  refine (mkmark_any _ _).mono ?_
  rintro e w6 ⟨rfl, b6⟩
  have B6 := Lib.hid (B5.out.trans (b6.mono B5.out.size))
  clear b6
  go_wp2_with fail
  refine (mkmark_any _ _).mono ?_
  rintro e w7 ⟨rfl, b7⟩
  have B7 := Lib.hid (B6.out.trans (b7.mono B6.out.size))
  clear b7
  go_wp2_with fail
  refine (lexis_any (L' := [⟨4, ⟨#[123]⟩, 0⟩, ⟨1, ⟨#[97]⟩, 1⟩, ⟨4, ⟨#[40]⟩, 2⟩, ⟨1, ⟨#[98]⟩, 3⟩, ⟨4, ⟨#[58]⟩, 4⟩, ⟨2, ⟨#[45, 49]⟩, 5⟩, ⟨4, ⟨#[41]⟩, 7⟩, ⟨4, ⟨#[125]⟩, 8⟩]) (L := [⟨4, ⟨#[123]⟩, 0⟩, ⟨1, ⟨#[97]⟩, 0⟩, ⟨4, ⟨#[40]⟩, 0⟩, ⟨1, ⟨#[98]⟩, 0⟩, ⟨4, ⟨#[58]⟩, 0⟩, ⟨2, ⟨#[45, 49]⟩, 0⟩, ⟨4, ⟨#[41]⟩, 0⟩, ⟨4, ⟨#[125]⟩, 0⟩]) (B := w7.heap.size) _ (HC.out.up (B7.out.alloc B7.out.size _)) (by decide) al_lex1 rfl ?_ (by simp) (by decide)).mono ?_
  · exact ⟨rfl, .inr ⟨w7.heap.size, 8, _, rfl, Nat.le_refl _, heap_alloc_new _ _, Nat.le_refl _, by decide, rfl, rfl⟩⟩
  rintro e w8 ⟨rfl, b8⟩
  have B8 := Lib.hid (B7.out.trans ((below_boxed0 b8).mono B7.out.size))
  clear b8
  go_wp2_with fail
  refine (mkname_any _ _).mono ?_
  rintro e w9 ⟨rfl, b9⟩
  have B9 := Lib.hid (B8.out.trans (b9.mono B8.out.size))
  clear b9
  go_wp2_with fail
  refine (lexis_any (L' := [⟨3, ⟨#[195, 169, 44]⟩, 0⟩, ⟨1, ⟨#[120]⟩, 11⟩]) (L := [⟨3, ⟨#[195, 169, 44]⟩, 0⟩, ⟨1, ⟨#[120]⟩, 0⟩]) (B := w9.heap.size) _ (HC.out.up (B9.out.alloc B9.out.size _)) (by decide) al_lex2 rfl ?_ (by simp) (by decide)).mono ?_
  · exact ⟨rfl, .inr ⟨w9.heap.size, 2, _, rfl, Nat.le_refl _, heap_alloc_new _ _, Nat.le_refl _, by decide, rfl, rfl⟩⟩
  rintro e w10 ⟨rfl, b10⟩
  have B10 := Lib.hid (B9.out.trans ((below_boxed0 b10).mono B9.out.size))
  clear b10
  go_wp2_with fail
  go_ret
  exact ⟨rfl, B10.out⟩
end Go.Proofs.YtpiaofpglagfmaaDoor
/- Layer 17: LexBack. -/
namespace Go.Proofs.YtpiaofpglagfmaaDoor
open Go.RowKit Go.Maps
def gZ (g : Nat → TkR) (n i : Nat) : TkR := if i < n then g i else ⟨0, ⟨#[]⟩, 0⟩
theorem rw3_cong {g g' : Nat → TkR} : ∀ n, (∀ i, i < n → g i = g' i) → rw3 g n = rw3 g' n
  | 0, _ => rfl
  | n + 1, h => by
    show rw3 g n ++ _ = rw3 g' n ++ _
    rw [rw3_cong n (fun i hi => h i (by omega)), h n (by omega)]
theorem rw3_gZ (g : Nat → TkR) (n : Nat) : rw3 (gZ g n) (n + 1) = rw3 g n ++ [.int .u8 0, .string ⟨#[]⟩, .int .i64 0] := by
  show rw3 (gZ g n) n ++ [.int .u8 (gZ g n n).k, .string (gZ g n n).s, .int .i64 (gZ g n n).a] = _
  rw [rw3_cong (g := gZ g n) (g' := g) n (fun i hi => by unfold gZ; rw [if_pos hi])]
  unfold gZ
  rw [if_neg (Nat.lt_irrefl n)]
theorem gt_gZ (g : Nat → TkR) (n i : Nat) (hi : i < n + 1) : gt ((List.range n).map g ++ [(⟨0, ⟨#[]⟩, 0⟩ : TkR)]) i = gZ g n i := by
  unfold gt gZ
  rw [List.getD_eq_getElem?_getD]
  by_cases h : i < n
  · rw [if_pos h, List.getElem?_append_left (by simpa using h)]
    simp [h]
  · obtain rfl : i = n := by omega
    rw [if_neg h, List.getElem?_append_right (by simp)]
    simp
theorem back_core {g : Nat → TkR} {m : Nat} (hok : ∀ k, k < m → okT (g k) = true) (hk : ∀ k, k < m → (g k).k ≠ 0) (hsz : (jdW g m).size ≤ 16384) (hm : m ≤ 1024) : ∃ LM, lexM (jdW g m) = .ok LM ∧ LM.length = m + 1 ∧ ∀ i, i < m + 1 → (gt LM i).k = (gZ g m i).k ∧ (gt LM i).s = (gZ g m i).s := by
  obtain ⟨L', e1, e2⟩ := back_lex hok hk hsz hm
  have e : (L' ++ [(⟨0, ⟨#[]⟩, (jdW g m).size⟩ : TkR)]).map ksT = ((List.range m).map g ++ [(⟨0, ⟨#[]⟩, 0⟩ : TkR)]).map ksT := by
    rw [List.map_append, List.map_append, e2, List.map_map]
    rfl
  obtain ⟨h1, h2⟩ := ks_at e
  have hl : (L' ++ [(⟨0, ⟨#[]⟩, (jdW g m).size⟩ : TkR)]).length = m + 1 := by rw [h1]; simp
  refine ⟨_, e1, hl, fun i hi => ?_⟩
  have := h2 i (by omega)
  rw [gt_gZ g m i hi] at this
  exact this
theorem good_at {g : Nat → TkR} {n : Nat} (h : okAll g n = true) {i : Nat} (hi : i < n) : okT (g i) = true ∧ ((g i).k ≠ 0 ∨ n ≤ i + 1) := by
  have := List.all_eq_true.1 h i (List.mem_range.2 hi)
  unfold goodT at this
  simpa using this
theorem back_A {g : Nat → TkR} {n : Nat} (h : okAll g n = true) (hA : n = 0 ∨ (g (n - 1)).k ≠ 0) (hs : (jdW g n).size ≤ 16000) (hn : n ≤ 200) : ∃ LM, lexM (jdW g n) = .ok LM ∧ LM.length = n + 1 ∧ ∀ i, i < n + 1 → (gt LM i).k = (gZ g n i).k ∧ (gt LM i).s = (gZ g n i).s :=
  back_core (fun k hk => (good_at h hk).1) (fun k hk => by
    rcases (good_at h hk).2 with h1 | h1
    · exact h1
    · obtain rfl : k = n - 1 := by omega
      rcases hA with h2 | h2
      · omega
      · exact h2) (by omega) (by omega)
theorem end_txt {x : TkR} (h : okT x = true) (h0 : x.k = 0) : x.s = ⟨#[]⟩ := by
  unfold okT at h
  rw [if_pos h0] at h
  have h4 := List.isEmpty_iff.1 h
  apply ByteArray.ext
  rw [Lib.toList_data] at h4
  apply Array.ext'
  rw [h4]
theorem back_B {g : Nat → TkR} {k : Nat} (h : okAll g (k + 1) = true) (hB : (g k).k = 0) (hs : (jdW g (k + 1)).size ≤ 16000) (hn : k + 1 ≤ 200) : ∃ LM, lexM (jdW g (k + 1)) = .ok LM ∧ LM.length = k + 1 ∧ ∀ i, i < k + 1 → (gt LM i).k = (g i).k ∧ (gt LM i).s = (g i).s := by
  have hx := end_txt (good_at h (Nat.lt_succ_self k)).1 hB
  have ht : tellT (g k) = ⟨#[]⟩ := by
    unfold tellT
    rw [if_neg (by omega), hx]
  have hj : jdW g (k + 1) = jdW g k := by
    show (if 0 < k ∧ (g k).k ≠ 0 then jdW g k ++ ⟨#[32]⟩ else jdW g k) ++ tellT (g k) = _
    rw [if_neg (fun c => c.2 hB), ht, ba_nil]
  rw [hj] at hs ⊢
  obtain ⟨LM, e1, e2, e3⟩ := back_core (g := g) (m := k) (fun i hi => (good_at h (by omega)).1) (fun i hi => by
    rcases (good_at h (show i < k + 1 by omega)).2 with h1 | h1
    · exact h1
    · omega) (by omega) (by omega)
  refine ⟨LM, e1, e2, fun i hi => ?_⟩
  have := e3 i hi
  by_cases hik : i < k
  · unfold gZ at this
    rw [if_pos hik] at this
    exact this
  · obtain rfl : i = k := by omega
    unfold gZ at this
    rw [if_neg hik] at this
    rw [hB, hx]
    exact this
end Go.Proofs.YtpiaofpglagfmaaDoor
/- Layer 17: LexBack, the walk. -/
namespace Go.Proofs.YtpiaofpglagfmaaDoor
open Go.RowKit Go.Maps
set_option maxRecDepth 20000 in
set_option maxHeartbeats 20000000 in
theorem back_walk (a : Option Addr) (n cap : Nat) (g : Nat → TkR) (w : World) (l : Nm.Lim w) (hc : LxC w) (hn : n ≤ maxLen) (ha : a = none → cap = 0) (hv : TkV w a n g) : Calls Tryd.prog 3 #[.slice a n cap] w fun e w' => e = .returned (.bool true) ∧ Below w.heap.size w w' := by
  obtain ⟨i0, hi, hz0, hz1, hz2⟩ := infoT
  have HV0 := Lib.hid hv
  have HL0 := Lib.hid l
  have HC0 := Lib.hid hc
  have HA := Lib.hid ha
  have HN0 := Lib.hid hn
  have HAL := Lib.hid (alive17_any w hc)
  clear hv l hn ha hc
  go_enter Tryd.func3, Tryd.ntmps3
  go_wp2_with fail
  refine HAL.out.mono ?_
  rintro e w0 ⟨rfl, b0⟩
  have B0 := Lib.hid b0
  have HV := Lib.hid (HV0.out.below b0)
  have HG := Lib.hid (rgreat_any a n cap g w0 HV.out HN0.out)
  have HLM := Lib.hid (lim_up HL0.out b0)
  have HC := Lib.hid (HC0.out.up b0)
  clear b0
  go_wp2_with fail
  refine HG.out.mono ?_
  rintro e w' ⟨x, rfl, hx, hw⟩
  obtain rfl := hw.symm
  clear hw
  cases x with
  | true =>
    go_wp2_with fail
    go_ret
    exact ⟨rfl, B0.out⟩
  | false =>
  have HX := Lib.hid (hx rfl)
  clear hx
  have HJ := Lib.hid (ljoin_any a n cap g w0 HLM.out HX.out.2 (Nat.le_trans HX.out.1 (by decide)) HV.out)
  cases hk : okAll g n with
  | false =>
    have hr : jnR g n = ⟨#[]⟩ := by unfold jnR; rw [hk]; rfl
    have he : jnE g n = 8 := by unfold jnE; rw [hk]; rfl
    rw [hr, he] at HJ
    clear hr he
    go_wp2_with fail
    refine HJ.out.mono ?_
    rintro e w1 ⟨rfl, b1⟩
    have B1 := Lib.hid (B0.out.trans (b1.mono B0.out.size))
    clear b1
    go_wp2_with fail
    go_ret
    exact ⟨rfl, B1.out⟩
  | true =>
  have hr : jnR g n = jdW g n := by unfold jnR; rw [hk]; rfl
  have he : jnE g n = 0 := by unfold jnE; rw [hk]; rfl
  rw [hr, he] at HJ
  clear hr he
  have HK := Lib.hid hk
  obtain ⟨J, hJ⟩ : ∃ J, J = jdW g n := ⟨_, rfl⟩
  rw [← hJ] at HJ
  have HJD := Lib.hid hJ
  clear hJ hk
  go_wp2_with fail
  refine HJ.out.mono ?_
  rintro e w1 ⟨rfl, b1⟩
  have B1 := Lib.hid (B0.out.trans (b1.mono B0.out.size))
  have HV1 := Lib.hid (HV.out.below b1)
  have HC1 := Lib.hid (HC.out.up b1)
  clear b1
  by_cases hJS : (jdW g n).size ≤ 16000
  case neg =>
    have hJn : ¬ ((J.size : Int) ≤ 16000) := by rw [HJD.out]; omega
    go_wp2_with fail
    go_ret
    exact ⟨rfl, B1.out⟩
  have HJS := Lib.hid hJS
  have hJz : (J.size : Int) ≤ 16000 := by rw [HJD.out]; omega
  clear hJS
  rcases Nat.eq_zero_or_pos n with h0 | h0
  · subst h0
    obtain ⟨LM, e1, e2, e3⟩ := back_A HK.out (.inl rfl) HJS.out HX.out.1
    have HXL := Lib.hid (lex_any J w1 HC1.out (by omega))
    rw [← HJD.out] at e1
    rw [e1] at HXL
    have HLX : Hid (Calls Tryd.prog 8 #[.string J] w1 fun e w' => Below w1.heap.size w1 w' ∧ ∃ v, e = .returned (.tuple #[v, .int .i64 0, .int .i64 0]) ∧ OwT w1.heap.size w' v LM) := HXL
    have E2 := Lib.hid e2
    have E3 := Lib.hid e3
    clear e1 e2 e3 HXL
    go_wp2_with fail
    refine HLX.out.mono ?_
    rintro e w2 ⟨b2, v2, rfl, o2⟩
    obtain ⟨a2, c2, rfl, t2⟩ := own_tk o2
    rw [E2.out] at t2 ⊢
    have T2 := Lib.hid t2
    have B2 := Lib.hid (B1.out.trans (b2.mono B1.out.size))
    have HV2 := Lib.hid (HV1.out.below b2)
    clear b2 o2 t2
    cases a with
    | none =>
      obtain rfl := HA.out rfl
      obtain ⟨w3, hw3⟩ : ∃ w3, w3 = w2.alloc (.cells #[] 31) := ⟨_, rfl⟩
      have O3 : Hid ((w2.alloc (.cells #[] 31)).ownsRow w2.heap.size 31 3 (.slice (some ⟨w2.heap.size, 0, none⟩) 0 0) 0 (rw3 g 0)) := Lib.hid (own_empty w2)
      have B23 : Hid (Below w2.heap.size w2 (w2.alloc (.cells #[] 31))) := Lib.hid (below_box _ _)
      go_wp2_with (at_builtin; refine wpList_append_own _ rfl _ _ 22 rfl w2.heap.size 31 i0 (.agg #[.int .u8 0, .string ⟨#[]⟩, .int .i64 0]) 3 32 Tryd.underlying22 hi hz0 hz1 hz2 rfl (by decide) (.slice (some ⟨w2.heap.size, 0, none⟩) (0) 0) (0) (rw3 g (0)) rfl (O3.out.alloc _) ⟨w2.heap.size + 1, 0, none⟩ 1 1 [.int .u8 0, .string ⟨#[]⟩, .int .i64 0] rfl rfl (news_at2 _ _ _ _ rfl (by simp)) (by intro u hu; simp at hu; rcases hu with rfl | rfl | rfl <;> rfl) (by have := HX.out.1; unfold maxLen; omega) (by have := HX.out.1; omega) (by have := B23.out.size; simp at this ⊢; omega) ?_; intro v4 w4 ho4 hg4 _; have B24 : Hid (Below w2.heap.size w2 w4) := Lib.hid ((B23.out.alloc B23.out.size _).grown hg4 (by have := B23.out.size; simp at this ⊢; omega) (fun q hq => (O3.out.lt q hq).1)); rw [← rw3_gZ] at ho4; obtain ⟨a4, c4, he, hv4⟩ := own_tk ho4; subst he; have V4 := Lib.hid hv4; clear hv4 ho4 hg4)
      refine (rsameF_any a2 a4 (0 + 1) c2 c4 (gt LM) (gZ g (0)) w4 (by have := HX.out.1; unfold maxLen; omega) E3.out (T2.out.below B24.out) V4.out).mono ?_
      rintro e w5 ⟨rfl, b5⟩
      have B5 := Lib.hid ((B2.out.trans (B24.out.mono B2.out.size)).trans (b5.mono (Nat.le_trans B2.out.size B24.out.size)))
      clear b5
      go_wp2_with fail
      go_ret
      exact ⟨rfl, B5.out⟩
    | some ad =>
      have HNa := Lib.hid (tk_news (HV2.out.below (below_box w2 (.cells #[] 31))))
      have HO := Lib.hid (own_empty w2)
      have HL3 := Lib.hid (rw3_len g (0))
      have H13 := Lib.hid (rw3_one g (0))
      have HOT : Hid (∀ v1 w1, World.ownsRow w1 w2.heap.size 31 3 v1 (0 + (0)) ([] ++ rw3 g (0)) → ∃ a c, v1 = .slice a (0) c ∧ TkV w1 a (0) g ∧ w1.ownsRow w2.heap.size 31 3 v1 (0) (rw3 g (0))) := Lib.hid (fun v1 w1 h => by have h2 : World.ownsRow w1 w2.heap.size 31 3 v1 (0) (rw3 g (0)) := (by simpa using h); obtain ⟨a, c, e, t⟩ := own_tk h2; exact ⟨a, c, e, t, h2⟩)
      obtain ⟨L, hL⟩ : ∃ L, L = rw3 g (0) := ⟨_, rfl⟩
      have HLE := Lib.hid hL
      rw [← hL] at HNa HL3 H13
      have _ := HLE
      clear hL
      go_wp2_with (first | (at_builtin; refine wpList_append_own _ rfl _ _ 22 rfl w2.heap.size 31 i0 (.agg #[.int .u8 0, .string ⟨#[]⟩, .int .i64 0]) 3 32 Tryd.underlying22 hi hz0 hz1 hz2 rfl (by decide) (.slice (some ⟨w2.heap.size, 0, none⟩) 0 0) 0 [] rfl HO.out ad (0) cap L rfl HL3.out HNa.out H13.out (by have := HX.out.1; unfold maxLen; omega) (by have := HX.out.1; omega) (by simp) ?_; intro v3 w3 ho3 hg3 _; have B23 : Hid (Below w2.heap.size w2 w3) := Lib.hid ((below_box w2 _).grown hg3 (by simp) (fun q hq => by simp [Value.ownBlock] at hq; omega)); obtain ⟨a3, c3, he, hv3, ho3'⟩ := HOT.out _ _ (HLE.out ▸ ho3); subst he; have V3 := Lib.hid hv3; have O3 := Lib.hid ho3'; clear hv3 ho3 ho3' hg3) | (at_builtin; refine wpList_append_own _ rfl _ _ 22 rfl w2.heap.size 31 i0 (.agg #[.int .u8 0, .string ⟨#[]⟩, .int .i64 0]) 3 32 Tryd.underlying22 hi hz0 hz1 hz2 rfl (by decide) (.slice a3 (0) c3) (0) (rw3 g (0)) rfl (O3.out.alloc _) ⟨w3.heap.size, 0, none⟩ 1 1 [.int .u8 0, .string ⟨#[]⟩, .int .i64 0] rfl rfl (news_at2 _ _ _ _ rfl rfl) (by intro u hu; simp at hu; rcases hu with rfl | rfl | rfl <;> rfl) (by have := HX.out.1; unfold maxLen; omega) (by have := HX.out.1; omega) (by have := B23.out.size; simp at this ⊢; omega) ?_; intro v4 w4 ho4 hg4 _; have B24 : Hid (Below w2.heap.size w2 w4) := Lib.hid ((B23.out.alloc B23.out.size _).grown hg4 (by have := B23.out.size; simp at this ⊢; omega) (fun q hq => (O3.out.lt q hq).1)); rw [← rw3_gZ] at ho4; obtain ⟨a4, c4, he, hv4⟩ := own_tk ho4; subst he; have V4 := Lib.hid hv4; clear hv4 ho4 hg4))
      refine (rsameF_any a2 a4 (0 + 1) c2 c4 (gt LM) (gZ g (0)) w4 (by have := HX.out.1; unfold maxLen; omega) E3.out (T2.out.below B24.out) V4.out).mono ?_
      rintro e w5 ⟨rfl, b5⟩
      have B5 := Lib.hid ((B2.out.trans (B24.out.mono B2.out.size)).trans (b5.mono (Nat.le_trans B2.out.size B24.out.size)))
      clear b5
      go_wp2_with fail
      go_ret
      exact ⟨rfl, B5.out⟩
  · obtain ⟨k, rfl⟩ : ∃ k, n = k + 1 := ⟨n - 1, by omega⟩
    obtain ⟨b, off, ha⟩ := HV1.out.addr h0
    obtain ⟨ad, had⟩ : ∃ ad : Addr, ad = ⟨b, off, none⟩ := ⟨_, rfl⟩
    rw [← had] at ha
    subst ha
    clear had h0
    have hki : (k : Int) ≤ 199 := by have := HX.out.1; omega
    by_cases hZ : (g k).k = 0
    · have HZ := Lib.hid hZ
      obtain ⟨LM, e1, e2, e3⟩ := back_B HK.out HZ.out HJS.out HX.out.1
      have HXL := Lib.hid (lex_any J w1 HC1.out (by omega))
      rw [← HJD.out] at e1
      rw [e1] at HXL
      have HLX : Hid (Calls Tryd.prog 8 #[.string J] w1 fun e w' => Below w1.heap.size w1 w' ∧ ∃ v, e = .returned (.tuple #[v, .int .i64 0, .int .i64 0]) ∧ OwT w1.heap.size w' v LM) := HXL
      have E2 := Lib.hid e2
      have E3 := Lib.hid e3
      clear e1 e2 e3 HXL
      go_wp2_with fail
      refine HLX.out.mono ?_
      rintro e w2 ⟨b2, v2, rfl, o2⟩
      obtain ⟨a2, c2, rfl, t2⟩ := own_tk o2
      rw [E2.out] at t2 ⊢
      have T2 := Lib.hid t2
      have B2 := Lib.hid (B1.out.trans (b2.mono B1.out.size))
      have HV2 := Lib.hid (HV1.out.below b2)
      clear b2 o2 t2
      have HNa := Lib.hid (tk_news (HV2.out.below (below_box w2 (.cells #[] 31))))
      have HO := Lib.hid (own_empty w2)
      have HL3 := Lib.hid (rw3_len g (k + 1))
      have H13 := Lib.hid (rw3_one g (k + 1))
      have HOT : Hid (∀ v1 w1, World.ownsRow w1 w2.heap.size 31 3 v1 (0 + (k + 1)) ([] ++ rw3 g (k + 1)) → ∃ a c, v1 = .slice a (k + 1) c ∧ TkV w1 a (k + 1) g ∧ w1.ownsRow w2.heap.size 31 3 v1 (k + 1) (rw3 g (k + 1))) := Lib.hid (fun v1 w1 h => by have h2 : World.ownsRow w1 w2.heap.size 31 3 v1 (k + 1) (rw3 g (k + 1)) := (by simpa using h); obtain ⟨a, c, e, t⟩ := own_tk h2; exact ⟨a, c, e, t, h2⟩)
      obtain ⟨L, hL⟩ : ∃ L, L = rw3 g (k + 1) := ⟨_, rfl⟩
      have HLE := Lib.hid hL
      rw [← hL] at HNa HL3 H13
      have _ := HLE
      clear hL
      go_wp2_with (first | (at_builtin; refine wpList_append_own _ rfl _ _ 22 rfl w2.heap.size 31 i0 (.agg #[.int .u8 0, .string ⟨#[]⟩, .int .i64 0]) 3 32 Tryd.underlying22 hi hz0 hz1 hz2 rfl (by decide) (.slice (some ⟨w2.heap.size, 0, none⟩) 0 0) 0 [] rfl HO.out ad (k + 1) cap L rfl HL3.out HNa.out H13.out (by have := HX.out.1; unfold maxLen; omega) (by have := HX.out.1; omega) (by simp) ?_; intro v3 w3 ho3 hg3 _; have B23 : Hid (Below w2.heap.size w2 w3) := Lib.hid ((below_box w2 _).grown hg3 (by simp) (fun q hq => by simp [Value.ownBlock] at hq; omega)); obtain ⟨a3, c3, he, hv3, ho3'⟩ := HOT.out _ _ (HLE.out ▸ ho3); subst he; have V3 := Lib.hid hv3; have O3 := Lib.hid ho3'; clear hv3 ho3 ho3' hg3; obtain ⟨b3, off3, h3⟩ := V3.out.addr (Nat.succ_pos k); subst h3; have q3 := (V3.out.at_ (Nat.lt_succ_self k)).2.1; rw [HZ.out] at q3))
      refine (rsameF_any a2 (some ⟨b3, off3, none⟩) (k + 1) c2 c3 (gt LM) g w3 (by have := HX.out.1; unfold maxLen; omega) E3.out (T2.out.below B23.out) V3.out).mono ?_
      rintro e w5 ⟨rfl, b5⟩
      have B5 := Lib.hid ((B2.out.trans (B23.out.mono B2.out.size)).trans (b5.mono (Nat.le_trans B2.out.size B23.out.size)))
      clear b5
      go_wp2_with fail
      go_ret
      exact ⟨rfl, B5.out⟩
    · have HZ := Lib.hid hZ
      obtain ⟨LM, e1, e2, e3⟩ := back_A HK.out (.inr HZ.out) HJS.out HX.out.1
      have HXL := Lib.hid (lex_any J w1 HC1.out (by omega))
      rw [← HJD.out] at e1
      rw [e1] at HXL
      have HLX : Hid (Calls Tryd.prog 8 #[.string J] w1 fun e w' => Below w1.heap.size w1 w' ∧ ∃ v, e = .returned (.tuple #[v, .int .i64 0, .int .i64 0]) ∧ OwT w1.heap.size w' v LM) := HXL
      have E2 := Lib.hid e2
      have E3 := Lib.hid e3
      clear e1 e2 e3 HXL
      go_wp2_with fail
      refine HLX.out.mono ?_
      rintro e w2 ⟨b2, v2, rfl, o2⟩
      obtain ⟨a2, c2, rfl, t2⟩ := own_tk o2
      rw [E2.out] at t2 ⊢
      have T2 := Lib.hid t2
      have B2 := Lib.hid (B1.out.trans (b2.mono B1.out.size))
      have HV2 := Lib.hid (HV1.out.below b2)
      clear b2 o2 t2
      have HNa := Lib.hid (tk_news (HV2.out.below (below_box w2 (.cells #[] 31))))
      have HO := Lib.hid (own_empty w2)
      have HL3 := Lib.hid (rw3_len g (k + 1))
      have H13 := Lib.hid (rw3_one g (k + 1))
      have HOT : Hid (∀ v1 w1, World.ownsRow w1 w2.heap.size 31 3 v1 (0 + (k + 1)) ([] ++ rw3 g (k + 1)) → ∃ a c, v1 = .slice a (k + 1) c ∧ TkV w1 a (k + 1) g ∧ w1.ownsRow w2.heap.size 31 3 v1 (k + 1) (rw3 g (k + 1))) := Lib.hid (fun v1 w1 h => by have h2 : World.ownsRow w1 w2.heap.size 31 3 v1 (k + 1) (rw3 g (k + 1)) := (by simpa using h); obtain ⟨a, c, e, t⟩ := own_tk h2; exact ⟨a, c, e, t, h2⟩)
      obtain ⟨L, hL⟩ : ∃ L, L = rw3 g (k + 1) := ⟨_, rfl⟩
      have HLE := Lib.hid hL
      rw [← hL] at HNa HL3 H13
      have _ := HLE
      clear hL
      go_wp2_with (first | (at_builtin; refine wpList_append_own _ rfl _ _ 22 rfl w2.heap.size 31 i0 (.agg #[.int .u8 0, .string ⟨#[]⟩, .int .i64 0]) 3 32 Tryd.underlying22 hi hz0 hz1 hz2 rfl (by decide) (.slice (some ⟨w2.heap.size, 0, none⟩) 0 0) 0 [] rfl HO.out ad (k + 1) cap L rfl HL3.out HNa.out H13.out (by have := HX.out.1; unfold maxLen; omega) (by have := HX.out.1; omega) (by simp) ?_; intro v3 w3 ho3 hg3 _; have B23 : Hid (Below w2.heap.size w2 w3) := Lib.hid ((below_box w2 _).grown hg3 (by simp) (fun q hq => by simp [Value.ownBlock] at hq; omega)); obtain ⟨a3, c3, he, hv3, ho3'⟩ := HOT.out _ _ (HLE.out ▸ ho3); subst he; have V3 := Lib.hid hv3; have O3 := Lib.hid ho3'; clear hv3 ho3 ho3' hg3; obtain ⟨b3, off3, h3⟩ := V3.out.addr (Nat.succ_pos k); subst h3; have q3 := (V3.out.at_ (Nat.lt_succ_self k)).2.1) | (at_builtin; refine wpList_append_own _ rfl _ _ 22 rfl w2.heap.size 31 i0 (.agg #[.int .u8 0, .string ⟨#[]⟩, .int .i64 0]) 3 32 Tryd.underlying22 hi hz0 hz1 hz2 rfl (by decide) (.slice (some ⟨b3, off3, none⟩) (k + 1) c3) (k + 1) (rw3 g (k + 1)) rfl (O3.out.alloc _) ⟨w3.heap.size, 0, none⟩ 1 1 [.int .u8 0, .string ⟨#[]⟩, .int .i64 0] rfl rfl (news_at2 _ _ _ _ rfl rfl) (by intro u hu; simp at hu; rcases hu with rfl | rfl | rfl <;> rfl) (by have := HX.out.1; unfold maxLen; omega) (by have := HX.out.1; omega) (by have := B23.out.size; simp at this ⊢; omega) ?_; intro v4 w4 ho4 hg4 _; have B24 : Hid (Below w2.heap.size w2 w4) := Lib.hid ((B23.out.alloc B23.out.size _).grown hg4 (by have := B23.out.size; simp at this ⊢; omega) (fun q hq => (O3.out.lt q hq).1)); rw [← rw3_gZ] at ho4; obtain ⟨a4, c4, he, hv4⟩ := own_tk ho4; subst he; have V4 := Lib.hid hv4; clear hv4 ho4 hg4))
      refine (rsameF_any a2 a4 (k + 1 + 1) c2 c4 (gt LM) (gZ g (k + 1)) w4 (by have := HX.out.1; unfold maxLen; omega) E3.out (T2.out.below B24.out) V4.out).mono ?_
      rintro e w5 ⟨rfl, b5⟩
      have B5 := Lib.hid ((B2.out.trans (B24.out.mono B2.out.size)).trans (b5.mono (Nat.le_trans B2.out.size B24.out.size)))
      clear b5
      go_wp2_with fail
      go_ret
      exact ⟨rfl, B5.out⟩
      exact absurd (by simpa using (‹((k : Int) + 1 == 0) = false ∧ ((g k).k != 0) = false›).2) HZ.out
end Go.Proofs.YtpiaofpglagfmaaDoor
/- Layer 17: the frame of LexBack. -/
namespace Go.Proofs.YtpiaofpglagfmaaDoor
open Go.ChangeShapes Go.WideShapes Go.ChangeAt Go.RowKit
theorem own : ownKnob Tryd.prog.godebug = none := by kernel_rfl
theorem laidOut : laidOutB Tryd.prog = true := by kernel_rfl
def vTok : Vw := vCons (vInt .u8) (vCons zStr (vCons (vInt .i64) vNil))
theorem oStr : OpensZ Tryd.prog zStr 9 := zopens_str Tryd.underlying9 (by kernel_rfl)
set_option maxRecDepth 100000 in
theorem oTok : OpensZ Tryd.prog vTok 31 := zopens_struct Tryd.underlying31 (by kernel_rfl) (zfopens_cons rfl (opens_int Tryd.underlying5 (by kernel_rfl)).z (zfopens_cons rfl oStr (zfopens_cons rfl (opens_int Tryd.underlying3 (by kernel_rfl)).z (zfopens_nil _ _))))
theorem oToks : OpensZ Tryd.prog (zSlice vTok (Tryd.prog.bytesOf 31)) 22 := zopens_slice Tryd.underlying22 (by kernel_rfl) oTok (by decide)
abbrev KD := Int × ByteArray × Int × Unit
def kd0 : KD := (0, ⟨#[]⟩, 0, ())
def toTk (d : KD) : TkR := ⟨d.1, d.2.1, d.2.2.1⟩
theorem tok_es {w : World} {d : KD} {es : List Value} (h : vTok.rd w d es) : es = [.int .u8 (toTk d).k, .string (toTk d).s, .int .i64 (toTk d).a] := by
  obtain ⟨k, s, a, u⟩ := d
  obtain ⟨e1, r1, q1, _, _, ⟨h1, _⟩, k1⟩ := h
  obtain ⟨e2, r2, q2, _, _, ⟨h2, _⟩, k2⟩ := k1
  obtain ⟨e3, r3, q3, _, _, ⟨h3, _⟩, k3⟩ := k2
  have k3' : r3 = [] := k3
  dsimp only at h1 h2 h3
  rw [q1, q2, q3, k3', h1, h2, h3]
  rfl
theorem getD_at {α : Type} (l : List α) (d : α) (i : Nat) (h : i < l.length) : l.getD i d = l[i] := by rw [List.getD_eq_getElem?_getD, List.getElem?_eq_getElem h]; rfl
theorem open_cells {H : Type} {enc : TypeId × Value → H} {W : World} {base : Nat} {sp : Nat → Bool} {held : Bool} {a : Option Addr} {n cap : Nat} {d : DataW H} {ps : List MemPlace} (h : DataW.Trod enc Tryd.prog W base sp held 22 (.slice a n cap) d ps) (hw : Lt Tryd.prog 22 d) : ∃ g : Nat → TkR, TkV W a n g ∧ (n ≤ maxLen ∧ (a = none → cap = 0)) ∧ True := by
  obtain ⟨fuel, hf⟩ := h
  obtain ⟨ds0, hds⟩ := oToks.2 hf hw
  obtain ⟨ds, e0⟩ : ∃ ds : List KD, ds = ds0 := ⟨ds0, rfl⟩
  subst e0
  obtain ⟨a', c, he, h1, h2, h3, _, h5⟩ := hds
  simp only [Value.cells, List.cons.injEq, Value.slice.injEq, and_true] at he
  obtain ⟨rfl, rfl, rfl⟩ := he
  refine ⟨fun i => toTk (ds.getD i kd0), fun i hi => ?_, ⟨Nat.le_trans h1 h2, fun e => (h3 e).2⟩, trivial⟩
  obtain ⟨b, off, e, hb, es, _, hc, hr⟩ := h5 i hi
  have he := tok_es hr
  have hgd : ds.getD i kd0 = ds[i]'hi := getD_at ds kd0 i hi
  show ∃ b off, a = some ⟨b, off, none⟩ ∧ b < W.heap.size ∧ W.cell? ⟨b, off + i * 3, none⟩ = some (.int .u8 (toTk (ds.getD i kd0)).k) ∧ W.cell? ⟨b, off + i * 3 + 1, none⟩ = some (.string (toTk (ds.getD i kd0)).s) ∧ W.cell? ⟨b, off + i * 3 + 2, none⟩ = some (.int .i64 (toTk (ds.getD i kd0)).a)
  rw [hgd]
  rw [he] at hc
  exact ⟨b, off, e, hb, hc 0 (by decide), hc 1 (by decide), hc 2 (by decide)⟩
/-! ### The listed table -/
theorem gLimits : Tryd.prog.globalNamed "provost/whole.limits" = some 1 := by kernel_rfl
def laid1 : List (String × DataW Unit) := [("provost/whole.limits", Rows.laid_provost_whole_limits)]
theorem door_met1 (os : Os) (args : Array Value) : laidMetH Tryd.prog laid1 ((World.doorLaid Tryd.prog 400 os).forCall (fun _ _ => 0) ⟨#[], args, []⟩).memory :=
  laidMetH_of_parts3 (fuel := 8) (laidMet_of_run' 8 (by kernel_rfl) (by kernel_rfl)) (by kernel_rfl) (by kernel_rfl)
theorem facts1 {W : World} (h : laidMetH Tryd.prog laid1 W) : Nm.Lim W := by
  rw [MakeChecks.laidMetH_plain _ _ _ (by kernel_rfl)] at h
  have hT := Lib.tabIs_of_head (k := .u64) (zs := [9223372036854775808, 9223372036854775807]) gLimits (by kernel_rfl : (Tryd.prog.globals[1]?).map (·.type) = some 103) (by kernel_rfl : Tryd.prog.underlying 103 = some (.array 2 93)) Tryd.underlying93 (by kernel_rfl) (by kernel_rfl) h
  exact ⟨hT.cell gLimits 0 (by decide), hT.cell gLimits 1 (by decide)⟩
theorem limP_of17 {W : World} (h : Nm.Lim W) : LimP W.heap.size W := ⟨World.block_lt_of_cell? _ _ h.1, h⟩
theorem maxLen_of {W : World} (h : W.ShapedOpen Tryd.prog) : ∃ m, W.cell? ⟨0, 0, none⟩ = some (.int .i64 m) :=
  cell_of_shapedOpen_int h (of_decide_eq_true (by kernel_rfl)) (t := 3) (zero := #[.int .i64 0]) (by kernel_rfl) rfl (by kernel_rfl) (by kernel_rfl) Tryd.underlying3
theorem lxc_of {W : World} (l : Nm.Lim W) (hs : W.ShapedOpen Tryd.prog) : LxC W :=
  ⟨fun V b x hx => lint_any x V (lim_up l b) (by unfold maxLen; omega), fun V b x _ hx => Read_any x V (limP_of17 (lim_up l b)) (by unfold maxLen; omega), fun V b x hx => by
    obtain ⟨m, hm⟩ := maxLen_of hs
    have hcb : Lib.countB x ⟨#[9]⟩ ≤ x.size + 1 := Nat.le_succ_of_le (Lib.countB_le ⟨#[9]⟩ (by decide) x.size x (Nat.le_refl _))
    refine (Tryd.strings_ReplaceAll x ⟨#[9]⟩ ⟨#[92, 116]⟩ m V (by omega) ((b.cell (World.block_lt_of_cell? _ _ hm)).trans hm) (by decide) (by
      have : (⟨#[92, 116]⟩ : ByteArray).size = 2 := rfl
      rw [this]
      omega)).mono ?_
    rintro e w' ⟨rfl, bb⟩
    exact ⟨by rw [← rep_tab x], bb⟩⟩
theorem returns_sized_shaped {H : Type} {enc : TypeId × Value → H} {a : Assume} {C : Checked} {os : Os} {f : FuncId} {fn : Func} {s : ChangeSpec} {conds : List PathCond} {apart fresh handsOn again : Bool} {X : World → Array Value → Prop}
    (hX : ∀ (w w' : World) (args : Array Value), w.heap = w'.heap → X w args → X w' args)
    (own : ownKnob C.prog.godebug = none) (started : os.Started) (noInit : C.prog.inits.idxOf? f = none) (hfn : C.prog.funcs[f]? = some fn)
    (witness : ∃ (w : World) (tape : Tape) (i : Input), w.os = os ∧ (w.forCall tape i).Shaped C.prog ∧ i.vars = [] ∧ Input.okWide C.prog (w.forCall tape i) .any w.heap.size f i ∧
      ((s.pre enc C.prog fn conds apart (w.forCall tape i).memory i.args ∧ X (w.forCall tape i).memory i.args) ∧ sizedMet enc C.prog fn (OpenSpec.ofChange s) apart (w.forCall tape i).memory i.args) ∧ a.holds C.prog (lone (Frame.enter C.prog f i.args .normal) [] (w.forCall tape i)))
    (contract : ∀ (W : World) (base : Nat) (args : Array Value) (ds gs : List (DataW H)) (before : List MemPlace),
      (∀ (j : Nat) t v, fn.params[j]? = some t → args[j]? = some v → Value.okWide C.prog W .any base t v) →
      DataW.Whole enc C.prog fn.params.toList s.vars apart W args.toList ds gs before →
      (DataW.weightsEach C.prog (fn.params.toList ++ s.plain.varTypes C.prog) (ds ++ gs)).all (· ≤ reachBytes) = true → X W args → W.ShapedOpen C.prog →
      Calls C.prog f args W fun e W' => ∃ v, e = .returned v ∧ s.post enc C.prog fn apart fresh handsOn again W args v W') :
    ReturnsInHanded a C os f .any (fun w args => (s.pre enc C.prog fn conds apart w args ∧ X w args) ∧ sizedMet enc C.prog fn (OpenSpec.ofChange s) apart w args) (s.post enc C.prog fn apart fresh handsOn again) := by
  refine returnsInHanded_of_calls own started noInit witness ?_
  intro w tape i _ hsh _ hok hpre hholds
  obtain ⟨_, _, _, fn', hfn', _, _, _, _, hval⟩ := hok
  have e : fn' = fn := Option.some.inj (hfn'.symm.trans hfn)
  subst e
  obtain ⟨⟨⟨ds, gs, before, hw, hc⟩, hx⟩, hz⟩ := hpre
  have hw' := DataW.Whole.of_heap (w' := w.forCall tape i) (by rfl) hw
  refine (contract (w.forCall tape i) w.heap.size i.args ds gs before hval hw' (hz.weights hw) (hX _ _ _ (by rfl) hx) hsh).mono fun e W' ⟨v, he, hp⟩ => ?_
  subst he
  exact ChangeSpec.post_blind hp
theorem back_in (a : Option Addr) (n cap : Nat) (g : Nat → TkR) (W : World) (l : Nm.Lim W ∧ W.ShapedOpen Tryd.prog) (hv : TkV W a n g) (hc : n ≤ maxLen ∧ (a = none → cap = 0)) : Calls Tryd.prog 3 #[.slice a n cap] W fun e w' => e = .returned (.bool true) ∧ Below W.heap.size W w' :=
  back_walk a n cap g W l.1 (lxc_of l.1 l.2) hc.1 hc.2 hv
end Go.Proofs.YtpiaofpglagfmaaDoor
