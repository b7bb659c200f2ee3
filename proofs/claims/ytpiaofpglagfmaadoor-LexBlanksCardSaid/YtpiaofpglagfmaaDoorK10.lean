import Derived.Test.YtpiaofpglagfmaaDoorK9
import Derived.Test.YtpiaofpglagfmaaDoorRows
import Derived.Test.YtpiaofpglagfmaaDoorTie
import Derived.Test.YtpiaofpglagfmaaDoorCards
import Derived.Test.YtpiaofpglagfmaaDoorK1
import Derived.HandedShaped
import Derived.Lay
import Derived.Shelf.Vars
import Derived.WalkKit
import Derived.ProofKit
import Derived.OpenShut
import Derived.LaidMore
import Derived.Stop.Joined
import Derived.SevenTiedAt
import Derived.Lib.LaidTab
import Derived.Stop.LaidErr
import Derived.ShutString
import Derived.ChangeOld
import Derived.Carry
/- Layer 17: the law's helpers: mark, name, alive. -/
namespace Go.Proofs.YtpiaofpglagfmaaDoor
open Go.RowKit Go.Maps
theorem ret_mk {R : Ending → World → Prop} {fn : Func} {tmps : Array Value} {w : World} {g : Nat} {cs : Array Value} (hr : fn.results = #[.cell 2 31]) (h2 : tmps.getD 2 undef = .pointer (some ⟨g, 0, none⟩)) (hg : w.heap[g]? = some (.cells cs 31)) (hs : cs.size = 3)
    (hR : R (.returned (.agg cs)) w) : bodyPost Tryd.prog fn R .ret ⟨tmps, []⟩ w := by
  obtain ⟨i0, hin, hz0, hz1, hz2⟩ := infoT
  refine bodyPost_ret (v := .agg cs) ?_ rfl hR
  exact results_cell_row hr tmps w g 31 cs (0, 0) _ h2 hg Tryd.underlying31 rfl (by rw [hin]; simp [hz1, hs])
set_option maxRecDepth 20000 in
set_option maxHeartbeats 2000000 in
theorem mkmark_any (s : ByteArray) (w : World) : Calls Tryd.prog 12 #[.string s] w fun e w' => e = .returned (.agg #[.int .u8 4, .string s, .int .i64 0]) ∧ Below w.heap.size w w' := by
  go_enter Tryd.func12, Tryd.ntmps12
  go_wp2_with fail
  exact ret_mk Tryd.results12 rfl (heap_alloc_new _ _) rfl ⟨rfl, (Below.refl _ _).alloc (Nat.le_refl _) _⟩
set_option maxRecDepth 20000 in
set_option maxHeartbeats 2000000 in
theorem mkname_any (s : ByteArray) (w : World) : Calls Tryd.prog 13 #[.string s] w fun e w' => e = .returned (.agg #[.int .u8 1, .string s, .int .i64 0]) ∧ Below w.heap.size w w' := by
  go_enter Tryd.func13, Tryd.ntmps13
  go_wp2_with fail
  exact ret_mk Tryd.results13 rfl (heap_alloc_new _ _) rfl ⟨rfl, (Below.refl _ _).alloc (Nat.le_refl _) _⟩
theorem al_lex1 : lexM ⟨#[123, 97, 40, 98, 58, 45, 49, 41, 125, 32, 35, 120]⟩ = .ok ([⟨4, ⟨#[123]⟩, 0⟩, ⟨1, ⟨#[97]⟩, 1⟩, ⟨4, ⟨#[40]⟩, 2⟩, ⟨1, ⟨#[98]⟩, 3⟩, ⟨4, ⟨#[58]⟩, 4⟩, ⟨2, ⟨#[45, 49]⟩, 5⟩, ⟨4, ⟨#[41]⟩, 7⟩, ⟨4, ⟨#[125]⟩, 8⟩] ++ [⟨0, ⟨#[]⟩, 12⟩]) := by kernel_rfl
theorem al_lex2 : lexM ⟨#[34, 92, 117, 48, 48, 101, 57, 44, 34, 44, 32, 120]⟩ = .ok ([⟨3, ⟨#[195, 169, 44]⟩, 0⟩, ⟨1, ⟨#[120]⟩, 11⟩] ++ [⟨0, ⟨#[]⟩, 12⟩]) := by kernel_rfl
/-- Behind a box of one's own: what was is kept. -/
theorem below_boxed0 {w w' : World} {o : Obj} (h : Below w.heap.size (w.alloc o) w') : Below w.heap.size w w' := ((Below.refl _ _).alloc (Nat.le_refl _) _).trans h
set_option maxRecDepth 20000 in
set_option maxHeartbeats 4000000 in
theorem alive17_any (w : World) (hc : LxC w) : Calls Tryd.prog 5 #[] w fun e w' => e = .returned (.bool true) ∧ Below w.heap.size w w' := by
  have HC := Lib.hid hc
  clear hc
  go_enter Tryd.func5, Tryd.ntmps5
  go_wp2_with fail
  refine (mkmark_any _ _).mono ?_
  rintro e w1 ⟨rfl, b1⟩
  have B1 := Lib.hid (b1)
  clear b1
  go_wp2_with fail
  refine (mkname_any _ _).mono ?_
  rintro e w2 ⟨rfl, b2⟩
  have B2 := Lib.hid (B1.out.trans (b2.mono B1.out.size))
  clear b2
  go_wp2_with fail
  refine (mkmark_any _ _).mono ?_
  rintro e w3 ⟨rfl, b3⟩
  have B3 := Lib.hid (B2.out.trans (b3.mono B2.out.size))
  clear b3
  go_wp2_with fail
  refine (mkname_any _ _).mono ?_
  rintro e w4 ⟨rfl, b4⟩
  have B4 := Lib.hid (B3.out.trans (b4.mono B3.out.size))
  clear b4
  go_wp2_with fail
  refine (mkmark_any _ _).mono ?_
  rintro e w5 ⟨rfl, b5⟩
  have B5 := Lib.hid (B4.out.trans (b5.mono B4.out.size))
  clear b5
  go_wp2_with fail
  refine (mkmark_any _ _).mono ?_
  rintro e w6 ⟨rfl, b6⟩
  have B6 := Lib.hid (B5.out.trans (b6.mono B5.out.size))
  clear b6
  go_wp2_with fail
  refine (mkmark_any _ _).mono ?_
  rintro e w7 ⟨rfl, b7⟩
  have B7 := Lib.hid (B6.out.trans (b7.mono B6.out.size))
  clear b7
  go_wp2_with fail
  refine (lexis_any (L' := [⟨4, ⟨#[123]⟩, 0⟩, ⟨1, ⟨#[97]⟩, 1⟩, ⟨4, ⟨#[40]⟩, 2⟩, ⟨1, ⟨#[98]⟩, 3⟩, ⟨4, ⟨#[58]⟩, 4⟩, ⟨2, ⟨#[45, 49]⟩, 5⟩, ⟨4, ⟨#[41]⟩, 7⟩, ⟨4, ⟨#[125]⟩, 8⟩]) (L := [⟨4, ⟨#[123]⟩, 0⟩, ⟨1, ⟨#[97]⟩, 0⟩, ⟨4, ⟨#[40]⟩, 0⟩, ⟨1, ⟨#[98]⟩, 0⟩, ⟨4, ⟨#[58]⟩, 0⟩, ⟨2, ⟨#[45, 49]⟩, 0⟩, ⟨4, ⟨#[41]⟩, 0⟩, ⟨4, ⟨#[125]⟩, 0⟩]) (B := w7.heap.size) _ (HC.out.up (B7.out.alloc B7.out.size _)) (by decide) al_lex1 rfl ?_ (by simp) (by decide)).mono ?_
  · exact ⟨rfl, .inr ⟨w7.heap.size, 8, _, rfl, Nat.le_refl _, heap_alloc_new _ _, Nat.le_refl _, by decide, rfl, rfl⟩⟩
  rintro e w8 ⟨rfl, b8⟩
  have B8 := Lib.hid (B7.out.trans ((below_boxed0 b8).mono B7.out.size))
  clear b8
  go_wp2_with fail
  refine (mkname_any _ _).mono ?_
  rintro e w9 ⟨rfl, b9⟩
  have B9 := Lib.hid (B8.out.trans (b9.mono B8.out.size))
  clear b9
  go_wp2_with fail
  refine (lexis_any (L' := [⟨3, ⟨#[195, 169, 44]⟩, 0⟩, ⟨1, ⟨#[120]⟩, 11⟩]) (L := [⟨3, ⟨#[195, 169, 44]⟩, 0⟩, ⟨1, ⟨#[120]⟩, 0⟩]) (B := w9.heap.size) _ (HC.out.up (B9.out.alloc B9.out.size _)) (by decide) al_lex2 rfl ?_ (by simp) (by decide)).mono ?_
  · exact ⟨rfl, .inr ⟨w9.heap.size, 2, _, rfl, Nat.le_refl _, heap_alloc_new _ _, Nat.le_refl _, by decide, rfl, rfl⟩⟩
  rintro e w10 ⟨rfl, b10⟩
  have B10 := Lib.hid (B9.out.trans ((below_boxed0 b10).mono B9.out.size))
  clear b10
  go_wp2_with fail
  go_ret
  exact ⟨rfl, B10.out⟩
end Go.Proofs.YtpiaofpglagfmaaDoor
/- Layer 17: LexBack. -/
namespace Go.Proofs.YtpiaofpglagfmaaDoor
open Go.RowKit Go.Maps
def gZ (g : Nat → TkR) (n i : Nat) : TkR := if i < n then g i else ⟨0, ⟨#[]⟩, 0⟩
theorem rw3_cong {g g' : Nat → TkR} : ∀ n, (∀ i, i < n → g i = g' i) → rw3 g n = rw3 g' n
  | 0, _ => rfl
  | n + 1, h => by
    show rw3 g n ++ _ = rw3 g' n ++ _
    rw [rw3_cong n (fun i hi => h i (by omega)), h n (by omega)]
theorem rw3_gZ (g : Nat → TkR) (n : Nat) : rw3 (gZ g n) (n + 1) = rw3 g n ++ [.int .u8 0, .string ⟨#[]⟩, .int .i64 0] := by
  show rw3 (gZ g n) n ++ [.int .u8 (gZ g n n).k, .string (gZ g n n).s, .int .i64 (gZ g n n).a] = _
  rw [rw3_cong (g := gZ g n) (g' := g) n (fun i hi => by unfold gZ; rw [if_pos hi])]
  unfold gZ
  rw [if_neg (Nat.lt_irrefl n)]
theorem gt_gZ (g : Nat → TkR) (n i : Nat) (hi : i < n + 1) : gt ((List.range n).map g ++ [(⟨0, ⟨#[]⟩, 0⟩ : TkR)]) i = gZ g n i := by
  unfold gt gZ
  rw [List.getD_eq_getElem?_getD]
  by_cases h : i < n
  · rw [if_pos h, List.getElem?_append_left (by simpa using h)]
    simp [h]
  · obtain rfl : i = n := by omega
    rw [if_neg h, List.getElem?_append_right (by simp)]
    simp
theorem back_core {g : Nat → TkR} {m : Nat} (hok : ∀ k, k < m → okT (g k) = true) (hk : ∀ k, k < m → (g k).k ≠ 0) (hsz : (jdW g m).size ≤ 16384) (hm : m ≤ 1024) : ∃ LM, lexM (jdW g m) = .ok LM ∧ LM.length = m + 1 ∧ ∀ i, i < m + 1 → (gt LM i).k = (gZ g m i).k ∧ (gt LM i).s = (gZ g m i).s := by
  obtain ⟨L', e1, e2⟩ := back_lex hok hk hsz hm
  have e : (L' ++ [(⟨0, ⟨#[]⟩, (jdW g m).size⟩ : TkR)]).map ksT = ((List.range m).map g ++ [(⟨0, ⟨#[]⟩, 0⟩ : TkR)]).map ksT := by
    rw [List.map_append, List.map_append, e2, List.map_map]
    rfl
  obtain ⟨h1, h2⟩ := ks_at e
  have hl : (L' ++ [(⟨0, ⟨#[]⟩, (jdW g m).size⟩ : TkR)]).length = m + 1 := by rw [h1]; simp
  refine ⟨_, e1, hl, fun i hi => ?_⟩
  have := h2 i (by omega)
  rw [gt_gZ g m i hi] at this
  exact this
theorem good_at {g : Nat → TkR} {n : Nat} (h : okAll g n = true) {i : Nat} (hi : i < n) : okT (g i) = true ∧ ((g i).k ≠ 0 ∨ n ≤ i + 1) := by
  have := List.all_eq_true.1 h i (List.mem_range.2 hi)
  unfold goodT at this
  simpa using this
theorem back_A {g : Nat → TkR} {n : Nat} (h : okAll g n = true) (hA : n = 0 ∨ (g (n - 1)).k ≠ 0) (hs : (jdW g n).size ≤ 16000) (hn : n ≤ 200) : ∃ LM, lexM (jdW g n) = .ok LM ∧ LM.length = n + 1 ∧ ∀ i, i < n + 1 → (gt LM i).k = (gZ g n i).k ∧ (gt LM i).s = (gZ g n i).s :=
  back_core (fun k hk => (good_at h hk).1) (fun k hk => by
    rcases (good_at h hk).2 with h1 | h1
    · exact h1
    · obtain rfl : k = n - 1 := by omega
      rcases hA with h2 | h2
      · omega
      · exact h2) (by omega) (by omega)
theorem end_txt {x : TkR} (h : okT x = true) (h0 : x.k = 0) : x.s = ⟨#[]⟩ := by
  unfold okT at h
  rw [if_pos h0] at h
  have h4 := List.isEmpty_iff.1 h
  apply ByteArray.ext
  rw [Lib.toList_data] at h4
  apply Array.ext'
  rw [h4]
theorem back_B {g : Nat → TkR} {k : Nat} (h : okAll g (k + 1) = true) (hB : (g k).k = 0) (hs : (jdW g (k + 1)).size ≤ 16000) (hn : k + 1 ≤ 200) : ∃ LM, lexM (jdW g (k + 1)) = .ok LM ∧ LM.length = k + 1 ∧ ∀ i, i < k + 1 → (gt LM i).k = (g i).k ∧ (gt LM i).s = (g i).s := by
  have hx := end_txt (good_at h (Nat.lt_succ_self k)).1 hB
  have ht : tellT (g k) = ⟨#[]⟩ := by
    unfold tellT
    rw [if_neg (by omega), hx]
  have hj : jdW g (k + 1) = jdW g k := by
    show (if 0 < k ∧ (g k).k ≠ 0 then jdW g k ++ ⟨#[32]⟩ else jdW g k) ++ tellT (g k) = _
    rw [if_neg (fun c => c.2 hB), ht, ba_nil]
  rw [hj] at hs ⊢
  obtain ⟨LM, e1, e2, e3⟩ := back_core (g := g) (m := k) (fun i hi => (good_at h (by omega)).1) (fun i hi => by
    rcases (good_at h (show i < k + 1 by omega)).2 with h1 | h1
    · exact h1
    · omega) (by omega) (by omega)
  refine ⟨LM, e1, e2, fun i hi => ?_⟩
  have := e3 i hi
  by_cases hik : i < k
  · unfold gZ at this
    rw [if_pos hik] at this
    exact this
  · obtain rfl : i = k := by omega
    unfold gZ at this
    rw [if_neg hik] at this
    rw [hB, hx]
    exact this
end Go.Proofs.YtpiaofpglagfmaaDoor
/- Layer 17: LexBack, the walk. -/
namespace Go.Proofs.YtpiaofpglagfmaaDoor
open Go.RowKit Go.Maps
set_option maxRecDepth 20000 in
set_option maxHeartbeats 20000000 in
theorem back_walk (a : Option Addr) (n cap : Nat) (g : Nat → TkR) (w : World) (l : Nm.Lim w) (hc : LxC w) (hn : n ≤ maxLen) (ha : a = none → cap = 0) (hv : TkV w a n g) : Calls Tryd.prog 3 #[.slice a n cap] w fun e w' => e = .returned (.bool true) ∧ Below w.heap.size w w' := by
  obtain ⟨i0, hi, hz0, hz1, hz2⟩ := infoT
  have HV0 := Lib.hid hv
  have HL0 := Lib.hid l
  have HC0 := Lib.hid hc
  have HA := Lib.hid ha
  have HN0 := Lib.hid hn
  have HAL := Lib.hid (alive17_any w hc)
  clear hv l hn ha hc
  go_enter Tryd.func3, Tryd.ntmps3
  go_wp2_with fail
  refine HAL.out.mono ?_
  rintro e w0 ⟨rfl, b0⟩
  have B0 := Lib.hid b0
  have HV := Lib.hid (HV0.out.below b0)
  have HG := Lib.hid (rgreat_any a n cap g w0 HV.out HN0.out)
  have HLM := Lib.hid (lim_up HL0.out b0)
  have HC := Lib.hid (HC0.out.up b0)
  clear b0
  go_wp2_with fail
  refine HG.out.mono ?_
  rintro e w' ⟨x, rfl, hx, hw⟩
  obtain rfl := hw.symm
  clear hw
  cases x with
  | true =>
    go_wp2_with fail
    go_ret
    exact ⟨rfl, B0.out⟩
  | false =>
  have HX := Lib.hid (hx rfl)
  clear hx
  have HJ := Lib.hid (ljoin_any a n cap g w0 HLM.out HX.out.2 (Nat.le_trans HX.out.1 (by decide)) HV.out)
  cases hk : okAll g n with
  | false =>
    have hr : jnR g n = ⟨#[]⟩ := by unfold jnR; rw [hk]; rfl
    have he : jnE g n = 8 := by unfold jnE; rw [hk]; rfl
    rw [hr, he] at HJ
    clear hr he
    go_wp2_with fail
    refine HJ.out.mono ?_
    rintro e w1 ⟨rfl, b1⟩
    have B1 := Lib.hid (B0.out.trans (b1.mono B0.out.size))
    clear b1
    go_wp2_with fail
    go_ret
    exact ⟨rfl, B1.out⟩
  | true =>
  have hr : jnR g n = jdW g n := by unfold jnR; rw [hk]; rfl
  have he : jnE g n = 0 := by unfold jnE; rw [hk]; rfl
  rw [hr, he] at HJ
  clear hr he
  have HK := Lib.hid hk
  obtain ⟨J, hJ⟩ : ∃ J, J = jdW g n := ⟨_, rfl⟩
  rw [← hJ] at HJ
  have HJD := Lib.hid hJ
  clear hJ hk
  go_wp2_with fail
  refine HJ.out.mono ?_
  rintro e w1 ⟨rfl, b1⟩
  have B1 := Lib.hid (B0.out.trans (b1.mono B0.out.size))
  have HV1 := Lib.hid (HV.out.below b1)
  have HC1 := Lib.hid (HC.out.up b1)
  clear b1
  by_cases hJS : (jdW g n).size ≤ 16000
  case neg =>
    have hJn : ¬ ((J.size : Int) ≤ 16000) := by rw [HJD.out]; omega
    go_wp2_with fail
    go_ret
    exact ⟨rfl, B1.out⟩
  have HJS := Lib.hid hJS
  have hJz : (J.size : Int) ≤ 16000 := by rw [HJD.out]; omega
  clear hJS
  rcases Nat.eq_zero_or_pos n with h0 | h0
  · subst h0
    obtain ⟨LM, e1, e2, e3⟩ := back_A HK.out (.inl rfl) HJS.out HX.out.1
    have HXL := Lib.hid (lex_any J w1 HC1.out (by omega))
    rw [← HJD.out] at e1
    rw [e1] at HXL
    have HLX : Hid (Calls Tryd.prog 8 #[.string J] w1 fun e w' => Below w1.heap.size w1 w' ∧ ∃ v, e = .returned (.tuple #[v, .int .i64 0, .int .i64 0]) ∧ OwT w1.heap.size w' v LM) := HXL
    have E2 := Lib.hid e2
    have E3 := Lib.hid e3
    clear e1 e2 e3 HXL
    go_wp2_with fail
    refine HLX.out.mono ?_
    rintro e w2 ⟨b2, v2, rfl, o2⟩
    obtain ⟨a2, c2, rfl, t2⟩ := own_tk o2
    rw [E2.out] at t2 ⊢
    have T2 := Lib.hid t2
    have B2 := Lib.hid (B1.out.trans (b2.mono B1.out.size))
    have HV2 := Lib.hid (HV1.out.below b2)
    clear b2 o2 t2
    cases a with
    | none =>
      obtain rfl := HA.out rfl
      obtain ⟨w3, hw3⟩ : ∃ w3, w3 = w2.alloc (.cells #[] 31) := ⟨_, rfl⟩
      have O3 : Hid ((w2.alloc (.cells #[] 31)).ownsRow w2.heap.size 31 3 (.slice (some ⟨w2.heap.size, 0, none⟩) 0 0) 0 (rw3 g 0)) := Lib.hid (own_empty w2)
      have B23 : Hid (Below w2.heap.size w2 (w2.alloc (.cells #[] 31))) := Lib.hid (below_box _ _)
      go_wp2_with (at_builtin; refine wpList_append_own _ rfl _ _ 22 rfl w2.heap.size 31 i0 (.agg #[.int .u8 0, .string ⟨#[]⟩, .int .i64 0]) 3 32 Tryd.underlying22 hi hz0 hz1 hz2 rfl (by decide) (.slice (some ⟨w2.heap.size, 0, none⟩) (0) 0) (0) (rw3 g (0)) rfl (O3.out.alloc _) ⟨w2.heap.size + 1, 0, none⟩ 1 1 [.int .u8 0, .string ⟨#[]⟩, .int .i64 0] rfl rfl (news_at2 _ _ _ _ rfl (by simp)) (by intro u hu; simp at hu; rcases hu with rfl | rfl | rfl <;> rfl) (by have := HX.out.1; unfold maxLen; omega) (by have := HX.out.1; omega) (by have := B23.out.size; simp at this ⊢; omega) ?_; intro v4 w4 ho4 hg4 _; have B24 : Hid (Below w2.heap.size w2 w4) := Lib.hid ((B23.out.alloc B23.out.size _).grown hg4 (by have := B23.out.size; simp at this ⊢; omega) (fun q hq => (O3.out.lt q hq).1)); rw [← rw3_gZ] at ho4; obtain ⟨a4, c4, he, hv4⟩ := own_tk ho4; subst he; have V4 := Lib.hid hv4; clear hv4 ho4 hg4)
      refine (rsameF_any a2 a4 (0 + 1) c2 c4 (gt LM) (gZ g (0)) w4 (by have := HX.out.1; unfold maxLen; omega) E3.out (T2.out.below B24.out) V4.out).mono ?_
      rintro e w5 ⟨rfl, b5⟩
      have B5 := Lib.hid ((B2.out.trans (B24.out.mono B2.out.size)).trans (b5.mono (Nat.le_trans B2.out.size B24.out.size)))
      clear b5
      go_wp2_with fail
      go_ret
      exact ⟨rfl, B5.out⟩
    | some ad =>
      have HNa := Lib.hid (tk_news (HV2.out.below (below_box w2 (.cells #[] 31))))
      have HO := Lib.hid (own_empty w2)
      have HL3 := Lib.hid (rw3_len g (0))
      have H13 := Lib.hid (rw3_one g (0))
      have HOT : Hid (∀ v1 w1, World.ownsRow w1 w2.heap.size 31 3 v1 (0 + (0)) ([] ++ rw3 g (0)) → ∃ a c, v1 = .slice a (0) c ∧ TkV w1 a (0) g ∧ w1.ownsRow w2.heap.size 31 3 v1 (0) (rw3 g (0))) := Lib.hid (fun v1 w1 h => by have h2 : World.ownsRow w1 w2.heap.size 31 3 v1 (0) (rw3 g (0)) := (by simpa using h); obtain ⟨a, c, e, t⟩ := own_tk h2; exact ⟨a, c, e, t, h2⟩)
      obtain ⟨L, hL⟩ : ∃ L, L = rw3 g (0) := ⟨_, rfl⟩
      have HLE := Lib.hid hL
      rw [← hL] at HNa HL3 H13
      have _ := HLE
      clear hL
      go_wp2_with (first | (at_builtin; refine wpList_append_own _ rfl _ _ 22 rfl w2.heap.size 31 i0 (.agg #[.int .u8 0, .string ⟨#[]⟩, .int .i64 0]) 3 32 Tryd.underlying22 hi hz0 hz1 hz2 rfl (by decide) (.slice (some ⟨w2.heap.size, 0, none⟩) 0 0) 0 [] rfl HO.out ad (0) cap L rfl HL3.out HNa.out H13.out (by have := HX.out.1; unfold maxLen; omega) (by have := HX.out.1; omega) (by simp) ?_; intro v3 w3 ho3 hg3 _; have B23 : Hid (Below w2.heap.size w2 w3) := Lib.hid ((below_box w2 _).grown hg3 (by simp) (fun q hq => by simp [Value.ownBlock] at hq; omega)); obtain ⟨a3, c3, he, hv3, ho3'⟩ := HOT.out _ _ (HLE.out ▸ ho3); subst he; have V3 := Lib.hid hv3; have O3 := Lib.hid ho3'; clear hv3 ho3 ho3' hg3) | (at_builtin; refine wpList_append_own _ rfl _ _ 22 rfl w2.heap.size 31 i0 (.agg #[.int .u8 0, .string ⟨#[]⟩, .int .i64 0]) 3 32 Tryd.underlying22 hi hz0 hz1 hz2 rfl (by decide) (.slice a3 (0) c3) (0) (rw3 g (0)) rfl (O3.out.alloc _) ⟨w3.heap.size, 0, none⟩ 1 1 [.int .u8 0, .string ⟨#[]⟩, .int .i64 0] rfl rfl (news_at2 _ _ _ _ rfl rfl) (by intro u hu; simp at hu; rcases hu with rfl | rfl | rfl <;> rfl) (by have := HX.out.1; unfold maxLen; omega) (by have := HX.out.1; omega) (by have := B23.out.size; simp at this ⊢; omega) ?_; intro v4 w4 ho4 hg4 _; have B24 : Hid (Below w2.heap.size w2 w4) := Lib.hid ((B23.out.alloc B23.out.size _).grown hg4 (by have := B23.out.size; simp at this ⊢; omega) (fun q hq => (O3.out.lt q hq).1)); rw [← rw3_gZ] at ho4; obtain ⟨a4, c4, he, hv4⟩ := own_tk ho4; subst he; have V4 := Lib.hid hv4; clear hv4 ho4 hg4))
      refine (rsameF_any a2 a4 (0 + 1) c2 c4 (gt LM) (gZ g (0)) w4 (by have := HX.out.1; unfold maxLen; omega) E3.out (T2.out.below B24.out) V4.out).mono ?_
      rintro e w5 ⟨rfl, b5⟩
      have B5 := Lib.hid ((B2.out.trans (B24.out.mono B2.out.size)).trans (b5.mono (Nat.le_trans B2.out.size B24.out.size)))
      clear b5
      go_wp2_with fail
      go_ret
      exact ⟨rfl, B5.out⟩
  · obtain ⟨k, rfl⟩ : ∃ k, n = k + 1 := ⟨n - 1, by omega⟩
    obtain ⟨b, off, ha⟩ := HV1.out.addr h0
    obtain ⟨ad, had⟩ : ∃ ad : Addr, ad = ⟨b, off, none⟩ := ⟨_, rfl⟩
    rw [← had] at ha
    subst ha
    clear had h0
    have hki : (k : Int) ≤ 199 := by have := HX.out.1; omega
    by_cases hZ : (g k).k = 0
    · have HZ := Lib.hid hZ
      obtain ⟨LM, e1, e2, e3⟩ := back_B HK.out HZ.out HJS.out HX.out.1
      have HXL := Lib.hid (lex_any J w1 HC1.out (by omega))
      rw [← HJD.out] at e1
      rw [e1] at HXL
      have HLX : Hid (Calls Tryd.prog 8 #[.string J] w1 fun e w' => Below w1.heap.size w1 w' ∧ ∃ v, e = .returned (.tuple #[v, .int .i64 0, .int .i64 0]) ∧ OwT w1.heap.size w' v LM) := HXL
      have E2 := Lib.hid e2
      have E3 := Lib.hid e3
      clear e1 e2 e3 HXL
      go_wp2_with fail
      refine HLX.out.mono ?_
      rintro e w2 ⟨b2, v2, rfl, o2⟩
      obtain ⟨a2, c2, rfl, t2⟩ := own_tk o2
      rw [E2.out] at t2 ⊢
      have T2 := Lib.hid t2
      have B2 := Lib.hid (B1.out.trans (b2.mono B1.out.size))
      have HV2 := Lib.hid (HV1.out.below b2)
      clear b2 o2 t2
      have HNa := Lib.hid (tk_news (HV2.out.below (below_box w2 (.cells #[] 31))))
      have HO := Lib.hid (own_empty w2)
      have HL3 := Lib.hid (rw3_len g (k + 1))
      have H13 := Lib.hid (rw3_one g (k + 1))
      have HOT : Hid (∀ v1 w1, World.ownsRow w1 w2.heap.size 31 3 v1 (0 + (k + 1)) ([] ++ rw3 g (k + 1)) → ∃ a c, v1 = .slice a (k + 1) c ∧ TkV w1 a (k + 1) g ∧ w1.ownsRow w2.heap.size 31 3 v1 (k + 1) (rw3 g (k + 1))) := Lib.hid (fun v1 w1 h => by have h2 : World.ownsRow w1 w2.heap.size 31 3 v1 (k + 1) (rw3 g (k + 1)) := (by simpa using h); obtain ⟨a, c, e, t⟩ := own_tk h2; exact ⟨a, c, e, t, h2⟩)
      obtain ⟨L, hL⟩ : ∃ L, L = rw3 g (k + 1) := ⟨_, rfl⟩
      have HLE := Lib.hid hL
      rw [← hL] at HNa HL3 H13
      have _ := HLE
      clear hL
      go_wp2_with (first | (at_builtin; refine wpList_append_own _ rfl _ _ 22 rfl w2.heap.size 31 i0 (.agg #[.int .u8 0, .string ⟨#[]⟩, .int .i64 0]) 3 32 Tryd.underlying22 hi hz0 hz1 hz2 rfl (by decide) (.slice (some ⟨w2.heap.size, 0, none⟩) 0 0) 0 [] rfl HO.out ad (k + 1) cap L rfl HL3.out HNa.out H13.out (by have := HX.out.1; unfold maxLen; omega) (by have := HX.out.1; omega) (by simp) ?_; intro v3 w3 ho3 hg3 _; have B23 : Hid (Below w2.heap.size w2 w3) := Lib.hid ((below_box w2 _).grown hg3 (by simp) (fun q hq => by simp [Value.ownBlock] at hq; omega)); obtain ⟨a3, c3, he, hv3, ho3'⟩ := HOT.out _ _ (HLE.out ▸ ho3); subst he; have V3 := Lib.hid hv3; have O3 := Lib.hid ho3'; clear hv3 ho3 ho3' hg3; obtain ⟨b3, off3, h3⟩ := V3.out.addr (Nat.succ_pos k); subst h3; have q3 := (V3.out.at_ (Nat.lt_succ_self k)).2.1; rw [HZ.out] at q3))
      refine (rsameF_any a2 (some ⟨b3, off3, none⟩) (k + 1) c2 c3 (gt LM) g w3 (by have := HX.out.1; unfold maxLen; omega) E3.out (T2.out.below B23.out) V3.out).mono ?_
      rintro e w5 ⟨rfl, b5⟩
      have B5 := Lib.hid ((B2.out.trans (B23.out.mono B2.out.size)).trans (b5.mono (Nat.le_trans B2.out.size B23.out.size)))
      clear b5
      go_wp2_with fail
      go_ret
      exact ⟨rfl, B5.out⟩
    · have HZ := Lib.hid hZ
      obtain ⟨LM, e1, e2, e3⟩ := back_A HK.out (.inr HZ.out) HJS.out HX.out.1
      have HXL := Lib.hid (lex_any J w1 HC1.out (by omega))
      rw [← HJD.out] at e1
      rw [e1] at HXL
      have HLX : Hid (Calls Tryd.prog 8 #[.string J] w1 fun e w' => Below w1.heap.size w1 w' ∧ ∃ v, e = .returned (.tuple #[v, .int .i64 0, .int .i64 0]) ∧ OwT w1.heap.size w' v LM) := HXL
      have E2 := Lib.hid e2
      have E3 := Lib.hid e3
      clear e1 e2 e3 HXL
      go_wp2_with fail
      refine HLX.out.mono ?_
      rintro e w2 ⟨b2, v2, rfl, o2⟩
      obtain ⟨a2, c2, rfl, t2⟩ := own_tk o2
      rw [E2.out] at t2 ⊢
      have T2 := Lib.hid t2
      have B2 := Lib.hid (B1.out.trans (b2.mono B1.out.size))
      have HV2 := Lib.hid (HV1.out.below b2)
      clear b2 o2 t2
      have HNa := Lib.hid (tk_news (HV2.out.below (below_box w2 (.cells #[] 31))))
      have HO := Lib.hid (own_empty w2)
      have HL3 := Lib.hid (rw3_len g (k + 1))
      have H13 := Lib.hid (rw3_one g (k + 1))
      have HOT : Hid (∀ v1 w1, World.ownsRow w1 w2.heap.size 31 3 v1 (0 + (k + 1)) ([] ++ rw3 g (k + 1)) → ∃ a c, v1 = .slice a (k + 1) c ∧ TkV w1 a (k + 1) g ∧ w1.ownsRow w2.heap.size 31 3 v1 (k + 1) (rw3 g (k + 1))) := Lib.hid (fun v1 w1 h => by have h2 : World.ownsRow w1 w2.heap.size 31 3 v1 (k + 1) (rw3 g (k + 1)) := (by simpa using h); obtain ⟨a, c, e, t⟩ := own_tk h2; exact ⟨a, c, e, t, h2⟩)
      obtain ⟨L, hL⟩ : ∃ L, L = rw3 g (k + 1) := ⟨_, rfl⟩
      have HLE := Lib.hid hL
      rw [← hL] at HNa HL3 H13
      have _ := HLE
      clear hL
      go_wp2_with (first | (at_builtin; refine wpList_append_own _ rfl _ _ 22 rfl w2.heap.size 31 i0 (.agg #[.int .u8 0, .string ⟨#[]⟩, .int .i64 0]) 3 32 Tryd.underlying22 hi hz0 hz1 hz2 rfl (by decide) (.slice (some ⟨w2.heap.size, 0, none⟩) 0 0) 0 [] rfl HO.out ad (k + 1) cap L rfl HL3.out HNa.out H13.out (by have := HX.out.1; unfold maxLen; omega) (by have := HX.out.1; omega) (by simp) ?_; intro v3 w3 ho3 hg3 _; have B23 : Hid (Below w2.heap.size w2 w3) := Lib.hid ((below_box w2 _).grown hg3 (by simp) (fun q hq => by simp [Value.ownBlock] at hq; omega)); obtain ⟨a3, c3, he, hv3, ho3'⟩ := HOT.out _ _ (HLE.out ▸ ho3); subst he; have V3 := Lib.hid hv3; have O3 := Lib.hid ho3'; clear hv3 ho3 ho3' hg3; obtain ⟨b3, off3, h3⟩ := V3.out.addr (Nat.succ_pos k); subst h3; have q3 := (V3.out.at_ (Nat.lt_succ_self k)).2.1) | (at_builtin; refine wpList_append_own _ rfl _ _ 22 rfl w2.heap.size 31 i0 (.agg #[.int .u8 0, .string ⟨#[]⟩, .int .i64 0]) 3 32 Tryd.underlying22 hi hz0 hz1 hz2 rfl (by decide) (.slice (some ⟨b3, off3, none⟩) (k + 1) c3) (k + 1) (rw3 g (k + 1)) rfl (O3.out.alloc _) ⟨w3.heap.size, 0, none⟩ 1 1 [.int .u8 0, .string ⟨#[]⟩, .int .i64 0] rfl rfl (news_at2 _ _ _ _ rfl rfl) (by intro u hu; simp at hu; rcases hu with rfl | rfl | rfl <;> rfl) (by have := HX.out.1; unfold maxLen; omega) (by have := HX.out.1; omega) (by have := B23.out.size; simp at this ⊢; omega) ?_; intro v4 w4 ho4 hg4 _; have B24 : Hid (Below w2.heap.size w2 w4) := Lib.hid ((B23.out.alloc B23.out.size _).grown hg4 (by have := B23.out.size; simp at this ⊢; omega) (fun q hq => (O3.out.lt q hq).1)); rw [← rw3_gZ] at ho4; obtain ⟨a4, c4, he, hv4⟩ := own_tk ho4; subst he; have V4 := Lib.hid hv4; clear hv4 ho4 hg4))
      refine (rsameF_any a2 a4 (k + 1 + 1) c2 c4 (gt LM) (gZ g (k + 1)) w4 (by have := HX.out.1; unfold maxLen; omega) E3.out (T2.out.below B24.out) V4.out).mono ?_
      rintro e w5 ⟨rfl, b5⟩
      have B5 := Lib.hid ((B2.out.trans (B24.out.mono B2.out.size)).trans (b5.mono (Nat.le_trans B2.out.size B24.out.size)))
      clear b5
      go_wp2_with fail
      go_ret
      exact ⟨rfl, B5.out⟩
      exact absurd (by simpa using (‹((k : Int) + 1 == 0) = false ∧ ((g k).k != 0) = false›).2) HZ.out
end Go.Proofs.YtpiaofpglagfmaaDoor
/- Layer 17: the frame of LexBack. -/
namespace Go.Proofs.YtpiaofpglagfmaaDoor
open Go.ChangeShapes Go.WideShapes Go.ChangeAt Go.RowKit
theorem own : ownKnob Tryd.prog.godebug = none := by kernel_rfl
theorem laidOut : laidOutB Tryd.prog = true := by kernel_rfl
def vTok : Vw := vCons (vInt .u8) (vCons zStr (vCons (vInt .i64) vNil))
theorem oStr : OpensZ Tryd.prog zStr 9 := zopens_str Tryd.underlying9 (by kernel_rfl)
set_option maxRecDepth 100000 in
theorem oTok : OpensZ Tryd.prog vTok 31 := zopens_struct Tryd.underlying31 (by kernel_rfl) (zfopens_cons rfl (opens_int Tryd.underlying5 (by kernel_rfl)).z (zfopens_cons rfl oStr (zfopens_cons rfl (opens_int Tryd.underlying3 (by kernel_rfl)).z (zfopens_nil _ _))))
theorem oToks : OpensZ Tryd.prog (zSlice vTok (Tryd.prog.bytesOf 31)) 22 := zopens_slice Tryd.underlying22 (by kernel_rfl) oTok (by decide)
abbrev KD := Int × ByteArray × Int × Unit
def kd0 : KD := (0, ⟨#[]⟩, 0, ())
def toTk (d : KD) : TkR := ⟨d.1, d.2.1, d.2.2.1⟩
theorem tok_es {w : World} {d : KD} {es : List Value} (h : vTok.rd w d es) : es = [.int .u8 (toTk d).k, .string (toTk d).s, .int .i64 (toTk d).a] := by
  obtain ⟨k, s, a, u⟩ := d
  obtain ⟨e1, r1, q1, _, _, ⟨h1, _⟩, k1⟩ := h
  obtain ⟨e2, r2, q2, _, _, ⟨h2, _⟩, k2⟩ := k1
  obtain ⟨e3, r3, q3, _, _, ⟨h3, _⟩, k3⟩ := k2
  have k3' : r3 = [] := k3
  dsimp only at h1 h2 h3
  rw [q1, q2, q3, k3', h1, h2, h3]
  rfl
theorem getD_at {α : Type} (l : List α) (d : α) (i : Nat) (h : i < l.length) : l.getD i d = l[i] := by rw [List.getD_eq_getElem?_getD, List.getElem?_eq_getElem h]; rfl
theorem open_cells {H : Type} {enc : TypeId × Value → H} {W : World} {base : Nat} {sp : Nat → Bool} {held : Bool} {a : Option Addr} {n cap : Nat} {d : DataW H} {ps : List MemPlace} (h : DataW.Trod enc Tryd.prog W base sp held 22 (.slice a n cap) d ps) (hw : Lt Tryd.prog 22 d) : ∃ g : Nat → TkR, TkV W a n g ∧ (n ≤ maxLen ∧ (a = none → cap = 0)) ∧ True := by
  obtain ⟨fuel, hf⟩ := h
  obtain ⟨ds0, hds⟩ := oToks.2 hf hw
  obtain ⟨ds, e0⟩ : ∃ ds : List KD, ds = ds0 := ⟨ds0, rfl⟩
  subst e0
  obtain ⟨a', c, he, h1, h2, h3, _, h5⟩ := hds
  simp only [Value.cells, List.cons.injEq, Value.slice.injEq, and_true] at he
  obtain ⟨rfl, rfl, rfl⟩ := he
  refine ⟨fun i => toTk (ds.getD i kd0), fun i hi => ?_, ⟨Nat.le_trans h1 h2, fun e => (h3 e).2⟩, trivial⟩
  obtain ⟨b, off, e, hb, es, _, hc, hr⟩ := h5 i hi
  have he := tok_es hr
  have hgd : ds.getD i kd0 = ds[i]'hi := getD_at ds kd0 i hi
  show ∃ b off, a = some ⟨b, off, none⟩ ∧ b < W.heap.size ∧ W.cell? ⟨b, off + i * 3, none⟩ = some (.int .u8 (toTk (ds.getD i kd0)).k) ∧ W.cell? ⟨b, off + i * 3 + 1, none⟩ = some (.string (toTk (ds.getD i kd0)).s) ∧ W.cell? ⟨b, off + i * 3 + 2, none⟩ = some (.int .i64 (toTk (ds.getD i kd0)).a)
  rw [hgd]
  rw [he] at hc
  exact ⟨b, off, e, hb, hc 0 (by decide), hc 1 (by decide), hc 2 (by decide)⟩
/-! ### The listed table -/
theorem gLimits : Tryd.prog.globalNamed "provost/whole.limits" = some 1 := by kernel_rfl
def laid1 : List (String × DataW Unit) := [("provost/whole.limits", Rows.laid_provost_whole_limits)]
theorem door_met1 (os : Os) (args : Array Value) : laidMetH Tryd.prog laid1 ((World.doorLaid Tryd.prog 400 os).forCall (fun _ _ => 0) ⟨#[], args, []⟩).memory :=
  laidMetH_of_parts3 (fuel := 8) (laidMet_of_run' 8 (by kernel_rfl) (by kernel_rfl)) (by kernel_rfl) (by kernel_rfl)
theorem facts1 {W : World} (h : laidMetH Tryd.prog laid1 W) : Nm.Lim W := by
  rw [MakeChecks.laidMetH_plain _ _ _ (by kernel_rfl)] at h
  have hT := Lib.tabIs_of_head (k := .u64) (zs := [9223372036854775808, 9223372036854775807]) gLimits (by kernel_rfl : (Tryd.prog.globals[1]?).map (·.type) = some 103) (by kernel_rfl : Tryd.prog.underlying 103 = some (.array 2 93)) Tryd.underlying93 (by kernel_rfl) (by kernel_rfl) h
  exact ⟨hT.cell gLimits 0 (by decide), hT.cell gLimits 1 (by decide)⟩
theorem limP_of17 {W : World} (h : Nm.Lim W) : LimP W.heap.size W := ⟨World.block_lt_of_cell? _ _ h.1, h⟩
theorem maxLen_of {W : World} (h : W.ShapedOpen Tryd.prog) : ∃ m, W.cell? ⟨0, 0, none⟩ = some (.int .i64 m) :=
  cell_of_shapedOpen_int h (of_decide_eq_true (by kernel_rfl)) (t := 3) (zero := #[.int .i64 0]) (by kernel_rfl) rfl (by kernel_rfl) (by kernel_rfl) Tryd.underlying3
theorem lxc_of {W : World} (l : Nm.Lim W) (hs : W.ShapedOpen Tryd.prog) : LxC W :=
  ⟨fun V b x hx => lint_any x V (lim_up l b) (by unfold maxLen; omega), fun V b x _ hx => Read_any x V (limP_of17 (lim_up l b)) (by unfold maxLen; omega), fun V b x hx => by
    obtain ⟨m, hm⟩ := maxLen_of hs
    have hcb : Lib.countB x ⟨#[9]⟩ ≤ x.size + 1 := Nat.le_succ_of_le (Lib.countB_le ⟨#[9]⟩ (by decide) x.size x (Nat.le_refl _))
    refine (Tryd.strings_ReplaceAll x ⟨#[9]⟩ ⟨#[92, 116]⟩ m V (by omega) ((b.cell (World.block_lt_of_cell? _ _ hm)).trans hm) (by decide) (by
      have : (⟨#[92, 116]⟩ : ByteArray).size = 2 := rfl
      rw [this]
      omega)).mono ?_
    rintro e w' ⟨rfl, bb⟩
    exact ⟨by rw [← rep_tab x], bb⟩⟩
theorem returns_sized_shaped {H : Type} {enc : TypeId × Value → H} {a : Assume} {C : Checked} {os : Os} {f : FuncId} {fn : Func} {s : ChangeSpec} {conds : List PathCond} {apart fresh handsOn again : Bool} {X : World → Array Value → Prop}
    (hX : ∀ (w w' : World) (args : Array Value), w.heap = w'.heap → X w args → X w' args)
    (own : ownKnob C.prog.godebug = none) (started : os.Started) (noInit : C.prog.inits.idxOf? f = none) (hfn : C.prog.funcs[f]? = some fn)
    (witness : ∃ (w : World) (tape : Tape) (i : Input), w.os = os ∧ (w.forCall tape i).Shaped C.prog ∧ i.vars = [] ∧ Input.okWide C.prog (w.forCall tape i) .any w.heap.size f i ∧
      ((s.pre enc C.prog fn conds apart (w.forCall tape i).memory i.args ∧ X (w.forCall tape i).memory i.args) ∧ sizedMet enc C.prog fn (OpenSpec.ofChange s) apart (w.forCall tape i).memory i.args) ∧ a.holds C.prog (lone (Frame.enter C.prog f i.args .normal) [] (w.forCall tape i)))
    (contract : ∀ (W : World) (base : Nat) (args : Array Value) (ds gs : List (DataW H)) (before : List MemPlace),
      (∀ (j : Nat) t v, fn.params[j]? = some t → args[j]? = some v → Value.okWide C.prog W .any base t v) →
      DataW.Whole enc C.prog fn.params.toList s.vars apart W args.toList ds gs before →
      (DataW.weightsEach C.prog (fn.params.toList ++ s.plain.varTypes C.prog) (ds ++ gs)).all (· ≤ reachBytes) = true → X W args → W.ShapedOpen C.prog →
      Calls C.prog f args W fun e W' => ∃ v, e = .returned v ∧ s.post enc C.prog fn apart fresh handsOn again W args v W') :
    ReturnsInHanded a C os f .any (fun w args => (s.pre enc C.prog fn conds apart w args ∧ X w args) ∧ sizedMet enc C.prog fn (OpenSpec.ofChange s) apart w args) (s.post enc C.prog fn apart fresh handsOn again) := by
  refine returnsInHanded_of_calls own started noInit witness ?_
  intro w tape i _ hsh _ hok hpre hholds
  obtain ⟨_, _, _, fn', hfn', _, _, _, _, hval⟩ := hok
  have e : fn' = fn := Option.some.inj (hfn'.symm.trans hfn)
  subst e
  obtain ⟨⟨⟨ds, gs, before, hw, hc⟩, hx⟩, hz⟩ := hpre
  have hw' := DataW.Whole.of_heap (w' := w.forCall tape i) (by rfl) hw
  refine (contract (w.forCall tape i) w.heap.size i.args ds gs before hval hw' (hz.weights hw) (hX _ _ _ (by rfl) hx) hsh).mono fun e W' ⟨v, he, hp⟩ => ?_
  subst he
  exact ChangeSpec.post_blind hp
theorem back_in (a : Option Addr) (n cap : Nat) (g : Nat → TkR) (W : World) (l : Nm.Lim W ∧ W.ShapedOpen Tryd.prog) (hv : TkV W a n g) (hc : n ≤ maxLen ∧ (a = none → cap = 0)) : Calls Tryd.prog 3 #[.slice a n cap] W fun e w' => e = .returned (.bool true) ∧ Below W.heap.size W w' :=
  back_walk a n cap g W l.1 (lxc_of l.1 l.2) hc.1 hc.2 hv
end Go.Proofs.YtpiaofpglagfmaaDoor
/- Layer 17, plain: what is read, in order. -/
namespace Go.Proofs.YtpiaofpglagfmaaDoor
open Go.RowKit Go.Maps
theorem tok_at {s : ByteArray} {a k : Nat} {t : TkR} (h : tokM s a = some (t, k)) : t.a = a ∧ (t.k = 1 ∨ t.k = 2 ∨ t.k = 3 ∨ t.k = 4) := by
  unfold tokM at h
  cases h1 : namR s a with
  | bad => rw [h1] at h; cases h
  | ok t' k' =>
    rw [h1] at h
    cases h
    unfold namR at h1
    split at h1
    · cases h1; exact ⟨rfl, .inl rfl⟩
    · cases h1
  | no =>
    rw [h1] at h
    cases h2 : intR s a with
    | bad => rw [h2] at h; cases h
    | ok t' k' =>
      rw [h2] at h
      cases h
      unfold intR at h2
      split at h2
      · split at h2
        · cases h2
        · cases h2; exact ⟨rfl, .inr (.inl rfl)⟩
      · cases h2
    | no =>
      rw [h2] at h
      cases h3 : txtR s a with
      | bad => rw [h3] at h; cases h
      | ok t' k' =>
        rw [h3] at h
        cases h
        unfold txtR at h3
        split at h3
        · unfold txt1 at h3
          split at h3
          · cases h3
          · unfold txt2 at h3
            split at h3
            · cases h3
            · split at h3
              · cases h3
              · cases h3; exact ⟨rfl, .inr (.inr (.inl rfl))⟩
        · cases h3
      | no =>
        rw [h3] at h
        cases h4 : mrkR s a with
        | bad => rw [h4] at h; cases h
        | no => rw [h4] at h; cases h
        | ok t' k' =>
          rw [h4] at h
          cases h
          unfold mrkR at h4
          split at h4
          · cases h4; exact ⟨rfl, .inr (.inr (.inr rfl))⟩
          · split at h4
            · cases h4; exact ⟨rfl, .inr (.inr (.inr rfl))⟩
            · cases h4
/-- Tokens that were read from a place on: each begins behind the one ahead. -/
def Toks (s : ByteArray) : Nat → List TkR → Prop
  | _, [] => True
  | i, t :: r => ∃ j k : Nat, i ≤ j ∧ j < k ∧ k ≤ s.size ∧ tokM s j = some (t, k) ∧ Toks s k r
theorem lexF_shape {s : ByteArray} : ∀ (n i : Nat) (L R : List TkR), i ≤ s.size → lexF s n i L = .ok R → ∃ M, R = L ++ M ++ [⟨0, ⟨#[]⟩, s.size⟩] ∧ Toks s i M ∧ M.length ≤ n := by
  intro n
  induction n with
  | zero =>
    intro i L R hi h
    rw [lexF_step0] at h
    split at h
    · cases h
    · split at h
      · rename_i e
        cases h
        exact ⟨[], by rw [e]; simp, trivial, Nat.le_refl _⟩
      · cases h
  | succ n ih =>
    intro i L R hi h
    obtain ⟨hb1, hb2⟩ := bk_le hi
    rw [lexF_step] at h
    split at h
    · cases h
    · split at h
      · rename_i e
        cases h
        exact ⟨[], by rw [e]; simp, trivial, Nat.zero_le _⟩
      · rename_i hne
        have hlt : (bk s i).1 < s.size := by omega
        cases ht : tokM s (bk s i).1 with
        | none => rw [ht] at h; cases h
        | some y =>
          obtain ⟨t, k⟩ := y
          rw [ht] at h
          obtain ⟨hk1, hk2⟩ := tok_ok hlt ht
          obtain ⟨M, e1, e2, e3⟩ := ih k (L ++ [t]) R hk2 h
          refine ⟨t :: M, ?_, ⟨(bk s i).1, k, hb1, hk1, hk2, ht, e2⟩, by simp; omega⟩
          rw [e1]
          simp
/-- What Lex reads: tokens in order, and the end behind them. -/
theorem lexM_shape {s : ByteArray} {R : List TkR} (h : lexM s = .ok R) : ckE s = 0 ∧ ∃ M, R = M ++ [⟨0, ⟨#[]⟩, s.size⟩] ∧ Toks s 0 M ∧ M.length ≤ 1024 := by
  unfold lexM at h
  split at h
  · cases h
  · rename_i h0
    obtain ⟨M, e1, e2, e3⟩ := lexF_shape 1024 0 [] R (Nat.zero_le _) h
    exact ⟨by omega, M, by rw [e1]; rfl, e2, e3⟩
/-- Their places rise, and lie ahead of the end. -/
theorem toks_at {s : ByteArray} : ∀ (M : List TkR) (i k : Nat), Toks s i M → k < M.length → (i : Int) ≤ (gt M k).a ∧ (gt M k).a < s.size ∧ (∀ k', k' < k → (gt M k').a < (gt M k).a) ∧ ((gt M k).k = 1 ∨ (gt M k).k = 2 ∨ (gt M k).k = 3 ∨ (gt M k).k = 4)
  | [], _, k, _, hk => absurd hk (Nat.not_lt_zero k)
  | t :: r, i, 0, h, _ => by
    obtain ⟨j, k, h1, h2, h3, h4, h5⟩ := h
    obtain ⟨ha, hk⟩ := tok_at h4
    have e : gt (t :: r) 0 = t := rfl
    rw [e, ha]
    exact ⟨by omega, by omega, fun k' hk' => absurd hk' (Nat.not_lt_zero k'), hk⟩
  | t :: r, i, n + 1, h, hn => by
    obtain ⟨j, k, h1, h2, h3, h4, h5⟩ := h
    obtain ⟨ha, _⟩ := tok_at h4
    have hn' : n < r.length := by simpa using hn
    obtain ⟨q1, q2, q3, q4⟩ := toks_at r k n h5 hn'
    have e : gt (t :: r) (n + 1) = gt r n := rfl
    rw [e]
    refine ⟨by omega, q2, fun k' hk' => ?_, q4⟩
    cases k' with
    | zero =>
      have e0 : gt (t :: r) 0 = t := rfl
      rw [e0, ha]
      omega
    | succ m =>
      have e0 : gt (t :: r) (m + 1) = gt r m := rfl
      rw [e0]
      exact q3 m (by omega)
end Go.Proofs.YtpiaofpglagfmaaDoor
/- Layer 17, plain: what is read may be. -/
namespace Go.Proofs.YtpiaofpglagfmaaDoor
open Go.RowKit Go.Maps
theorem wd_mem {s : ByteArray} : ∀ (n j : Nat), s.size - j ≤ n → ∀ k, j ≤ k → k < wd s j → wcI (byt s k) = true := by
  intro n
  induction n with
  | zero =>
    intro j hn k h1 h2
    by_cases h : wcI (byt s j) = true
    · have hj : j < s.size := byt_in (by intro e; rw [e] at h; exact absurd h (by decide))
      omega
    · rw [wd_stop (by simpa using h)] at h2
      omega
  | succ n ih =>
    intro j hn k h1 h2
    by_cases h : wcI (byt s j) = true
    · have hj : j < s.size := byt_in (by intro e; rw [e] at h; exact absurd h (by decide))
      by_cases hk : k = j
      · rw [hk]; exact h
      · rw [wd_step h] at h2
        exact ih (j + 1) (by omega) k (by omega) h2
    · rw [wd_stop (by simpa using h)] at h2
      omega
theorem nm_of {t : ByteArray} (h0 : 0 < t.size) (h1 : ltI (byt t 0) = true) (h2 : ∀ k, k < t.size → wcI (byt t k) = true) : nmB t = true := by
  rw [nm_iff]
  refine ⟨by omega, fun i hi => ?_⟩
  have e := byt_eq t i hi
  have hw := h2 i hi
  unfold okAt
  by_cases hi0 : i = 0
  · subst hi0
    rw [← e, ← ltI_eq] at h1
    rw [h1]
    rfl
  · unfold wcI at hw
    rw [← e, ← ltI_eq, ← dgI_eq] at hw
    simp [hi0]
    simpa using hw
theorem read_txt {t : ByteArray} {M : List CR} (h34 : byt t 0 = 34) (h : readM t = .ok M) : ckE t = 0 ∧ ∃ x, strM t 0 = .ok x ∧ (gl M 0).tx = mkB x.1 := by
  have hbl : bl t 0 = 0 := bl_stop (by rw [h34]; decide)
  unfold readM at h
  by_cases hc : ckE t = 0
  · rw [if_neg (by omega), hbl] at h
    unfold valM at h
    rw [h34, if_neg (by decide), if_neg (by rintro ⟨e, _⟩; rcases e with e | e <;> cases e), if_neg (by decide), if_neg (by decide), if_neg (by decide), if_pos rfl] at h
    cases hx : strM t 0 with
    | bad m => rw [hx] at h; cases h
    | ok x =>
      rw [hx] at h
      simp only [Rs.bind_ok] at h
      split at h
      · cases h
      · cases h
        exact ⟨hc, x, rfl, rfl⟩
  · rw [if_pos hc] at h
    cases h
theorem ck_tw {t : ByteArray} (h : ckE t = 0) : t.size ≤ 16384 ∧ Tw t 0 t.size := by
  refine ⟨ckE_size h, ?_⟩
  unfold ckE at h
  rw [if_neg (by have := ckE_size h; omega)] at h
  cases e : isTx t with
  | false => rw [e] at h; cases h
  | true => exact isTx_tw e
theorem txt_ck {T : ByteArray} {M : List CR} (hs : T.size ≤ 2000) (hf : byt T 0 = 34) (hr : readM T = .ok M) : ckE ((gl M 0).tx) = 0 := by
  obtain ⟨hck, x, hx, htx⟩ := read_txt hf hr
  obtain ⟨y, hy⟩ := ck_tw hck
  have hp := strM_pt hy hx
  obtain ⟨m, k⟩ := x
  have hl := strM_len hx
  have hok := strM_ok hx
  have ht := hp.1.tx
  dsimp only at htx ht
  rw [htx]
  unfold ckE
  rw [if_neg (by rw [mkB_size]; omega), ht]
  rfl
theorem tok_okT {s : ByteArray} {a k : Nat} {t : TkR} (ha : a < s.size) (hs : s.size ≤ 1000) (h : tokM s a = some (t, k)) : okT t = true := by
  unfold tokM at h
  cases h1 : namR s a with
  | bad => rw [h1] at h; cases h
  | ok t' k' =>
    rw [h1] at h
    cases h
    unfold namR at h1
    split at h1
    · rename_i hl
      cases h1
      obtain ⟨w1, w2⟩ := wd_range (s := s) s.size (a + 1) (by omega) (by omega)
      show nmB (s.extract a (wd s (a + 1))) = true
      obtain ⟨z, hz⟩ : ∃ z, wd s (a + 1) = a + z := ⟨wd s (a + 1) - a, by omega⟩
      have hm := wd_mem (s := s) s.size (a + 1) (by omega)
      rw [hz] at w1 w2 hm ⊢
      have hsz : (s.extract a (a + z)).size = z := by simp; omega
      refine nm_of (by omega) ?_ (fun j hj => ?_)
      · rw [byt_extract w2 0 (by omega)]
        exact hl
      · rw [byt_extract w2 j (by omega)]
        by_cases hj0 : j = 0
        · subst hj0
          rw [Nat.add_zero]
          unfold wcI
          rw [hl]
          rfl
        · exact hm (a + j) (by omega) (by omega)
    · cases h1
  | no =>
    rw [h1] at h
    cases h2 : intR s a with
    | bad => rw [h2] at h; cases h
    | ok t' k' =>
      rw [h2] at h
      cases h
      unfold intR at h2
      split at h2
      · split at h2
        · cases h2
        · rename_i hn
          cases h2
          show intB _ = true
          cases e : intB (s.extract a (dg s (a + 1))) with
          | true => rfl
          | false => exact absurd (.inr (.inr e)) hn
      · cases h2
    | no =>
      rw [h2] at h
      cases h3 : txtR s a with
      | bad => rw [h3] at h; cases h
      | ok t' k' =>
        rw [h3] at h
        cases h
        unfold txtR at h3
        split at h3
        · rename_i h34
          cases hq : quM s a with
          | none => rw [hq] at h3; cases h3
          | some n =>
            rw [hq] at h3
            obtain ⟨q1, q2⟩ := quM_ok hq
            have hf := tab_first (s := s) (a := a) (n := n) h34 (by omega) q2
            have hts := tabT_size (s.extract a n)
            have hxs : (s.extract a n).size ≤ s.size := ba_cut
            unfold txt1 at h3
            cases hr : readM (tabT (s.extract a n)) with
            | bad m => dsimp only at h3; rw [hr] at h3; cases h3
            | ok M =>
              dsimp only at h3
              rw [hr] at h3
              have hc := txt_ck (by omega) hf hr
              unfold txt2 at h3
              dsimp only at h3
              split at h3
              · cases h3
              · cases h3
                show (ckE ((gl M 0).tx) == 0) = true
                rw [hc]
                rfl
        · cases h3
      | no =>
        rw [h3] at h
        cases h4 : mrkR s a with
        | bad => rw [h4] at h; cases h
        | no => rw [h4] at h; cases h
        | ok t' k' =>
          rw [h4] at h
          cases h
          unfold mrkR at h4
          split at h4
          · cases h4
            show pmB ⟨#[46, 46, 46]⟩ = true
            exact mk_dots (by decide +kernel)
          · split at h4
            · rename_i hp
              cases h4
              exact hp
            · cases h4
end Go.Proofs.YtpiaofpglagfmaaDoor
/- Layer 17, plain: what counts for nothing between tokens. -/
namespace Go.Proofs.YtpiaofpglagfmaaDoor
open Go.RowKit Go.Maps
theorem bkF_two {s : ByteArray} : ∀ (f f' j : Nat) (ins : Bool), s.size - j + 1 ≤ f → s.size - j + 1 ≤ f' → bkF s f j ins = bkF s f' j ins := by
  intro f
  induction f with
  | zero => intro f' j ins h; omega
  | succ f ih =>
    intro f' j ins h h'
    rw [bkF_step (f := f + 1) (by omega), bkF_step (f := f') (by omega)]
    by_cases hj : s.size ≤ j
    · rw [if_pos hj, if_pos hj]
    · rw [if_neg hj, if_neg hj]
      have e1 : ∀ b, bkF s (f + 1 - 1) (j + 1) b = bkF s (f' - 1) (j + 1) b := fun b => ih _ _ _ (by omega) (by omega)
      have e3 : ∀ b, bkF s (f + 1 - 1) (j + 3) b = bkF s (f' - 1) (j + 3) b := fun b => ih _ _ _ (by omega) (by omega)
      rw [e1, e1, e1, e3]
theorem bk_nl {s : ByteArray} {j : Nat} (hj : j < s.size) (h : byt s j = 10 ∨ byt s j = 13) : bk s j = bk s (j + 1) := by
  unfold bk
  rw [bkF_step (f := s.size - j + 1) (by omega), if_neg (by omega), if_pos h]
  exact bkF_two _ _ _ _ (by omega) (by omega)
theorem bk_bom {s : ByteArray} {j : Nat} (hj : j < s.size) (h1 : byt s j = 239) (h2 : byt s (j + 1) = 187) (h3 : byt s (j + 2) = 191) : bk s j = bk s (j + 3) := by
  unfold bk
  rw [bkF_step (f := s.size - j + 1) (by omega), if_neg (by omega), if_neg (by omega), if_neg (fun e => by cases e.1), if_neg (by rintro (e | e | e | e); cases e; omega; omega; omega), if_neg (by omega), if_pos ⟨h1, h2, h3⟩]
  exact bkF_two _ _ _ _ (by omega) (by omega)
/-- Within a remark: on to the line's end. -/
theorem bkF_rem {s : ByteArray} {f j : Nat} (hf : s.size - j + 1 ≤ f) (hj : j < s.size) (h : 32 ≤ byt s j) : bkF s f j true = bkF s (s.size - j) (j + 1) true := by
  rw [bkF_step (by omega), if_neg (by omega), if_neg (by omega), if_neg (by omega), if_pos (.inl rfl)]
  exact bkF_two _ _ _ _ (by omega) (by omega)
theorem bk_rem {s : ByteArray} {j : Nat} (h : AtL s j [35, 120, 32, 34, 10]) : bk s j = bk s (j + 5) := by
  have hl := at_le h
  have hl5 : j + 5 ≤ s.size := by simpa using hl
  have b0 := at_getD h 0 (by decide)
  have b1 := at_getD h 1 (by decide)
  have b2 := at_getD h 2 (by decide)
  have b3 := at_getD h 3 (by decide)
  have b4 := at_getD h 4 (by decide)
  rw [Nat.add_zero] at b0
  simp at b0 b1 b2 b3 b4
  unfold bk
  rw [bkF_step (f := s.size - j + 1) (by omega), if_neg (by omega), if_neg (by omega), if_neg (fun e => by cases e.1), if_neg (by rintro (e | e | e | e); cases e; omega; omega; omega), if_pos b0]
  rw [bkF_rem (by omega) (by omega) (by omega), bkF_rem (by omega) (by omega) (by rw [show j + 1 + 1 = j + 2 by omega]; omega), bkF_rem (by omega) (by omega) (by rw [show j + 1 + 1 + 1 = j + 3 by omega]; omega)]
  rw [bkF_step (by omega), if_neg (by omega), if_pos (.inl (by rw [show j + 1 + 1 + 1 + 1 = j + 4 by omega]; exact b4))]
  exact bkF_two _ _ _ _ (by omega) (by omega)
/-- The five. -/
def blT : Nat → ByteArray
  | 0 => ⟨#[32]⟩
  | 1 => ⟨#[9, 44]⟩
  | 2 => ⟨#[13, 10]⟩
  | 3 => ⟨#[35, 120, 32, 34, 10]⟩
  | _ => ⟨#[239, 187, 191]⟩
theorem bk_bl {s : ByteArray} {i j : Nat} (h : AtL s i (bI (blT j))) : bk s i = bk s (i + (blT j).size) := by
  have hl := at_le h
  have g := fun k hk => at_getD h k hk
  match j with
  | 0 =>
    have b0 : byt s i = 32 := g 0 (by decide)
    exact bk_sp (by have : i + 1 ≤ s.size := hl; omega) (.inl b0)
  | 1 =>
    have b0 : byt s i = 9 := g 0 (by decide)
    have b1 : byt s (i + 1) = 44 := g 1 (by decide)
    have hz : i + 2 ≤ s.size := hl
    rw [bk_sp (by omega) (.inr (.inl b0)), bk_sp (by omega) (.inr (.inr b1))]
    rfl
  | 2 =>
    have b0 : byt s i = 13 := g 0 (by decide)
    have b1 : byt s (i + 1) = 10 := g 1 (by decide)
    have hz : i + 2 ≤ s.size := hl
    rw [bk_nl (by omega) (.inr b0), bk_nl (by omega) (.inl b1)]
    rfl
  | 3 => exact bk_rem h
  | j + 4 =>
    have b0 : byt s i = 239 := g 0 (show 0 < 3 by omega)
    have b1 : byt s (i + 1) = 187 := g 1 (show 1 < 3 by omega)
    have b2 : byt s (i + 2) = 191 := g 2 (show 2 < 3 by omega)
    have hz : i + 3 ≤ s.size := hl
    exact bk_bom (by omega) b0 b1 b2
theorem bl_fol {s : ByteArray} {i j : Nat} (h : AtL s i (bI (blT j))) : Fol (byt s i) := by
  have g := fun k hk => at_getD h k hk
  match j with
  | 0 => have b0 : byt s i = 32 := g 0 (by decide)
         rw [b0]; exact ⟨by decide, by decide, by decide⟩
  | 1 => have b0 : byt s i = 9 := g 0 (by decide)
         rw [b0]; exact ⟨by decide, by decide, by decide⟩
  | 2 => have b0 : byt s i = 13 := g 0 (by decide)
         rw [b0]; exact ⟨by decide, by decide, by decide⟩
  | 3 => have b0 : byt s i = 35 := g 0 (by decide)
         rw [b0]; exact ⟨by decide, by decide, by decide⟩
  | j + 4 => have b0 : byt s i = 239 := g 0 (show 0 < 3 by omega)
             rw [b0]; exact ⟨by decide, by decide, by decide⟩
theorem bl_tw {s : ByteArray} {i j : Nat} (h : AtL s i (bI (blT j))) : Tw s i (i + (blT j).size) := by
  match j with
  | 0 => exact tw_asc (L := [32]) (by decide) h
  | 1 => exact tw_asc (L := [9, 44]) (by decide) h
  | 2 => exact tw_asc (L := [13, 10]) (by decide) h
  | 3 => exact tw_asc (L := [35, 120, 32, 34, 10]) (by decide) h
  | j + 4 =>
    have e : bI (blT (j + 4)) = [65279].flatMap enc := by rfl
    rw [e] at h
    exact tw_encs [65279] i (by decide) h
end Go.Proofs.YtpiaofpglagfmaaDoor
/- Layer 17, plain: tokens with blanks between them are read as the same. -/
namespace Go.Proofs.YtpiaofpglagfmaaDoor
open Go.RowKit Go.Maps
def jbW (c : Nat) (g : Nat → TkR) : Nat → ByteArray
  | 0 => ⟨#[]⟩
  | i + 1 => jbW c g i ++ (blT ((c + i) % 5) ++ tellT (g i))
theorem jb_bI (c : Nat) (g : Nat → TkR) (k : Nat) : bI (jbW c g (k + 1)) = bI (jbW c g k) ++ (bI (blT ((c + k) % 5)) ++ bI (tellT (g k))) := by
  show bI (jbW c g k ++ (blT ((c + k) % 5) ++ tellT (g k))) = _
  rw [bI_app, bI_app]
theorem jb_size (c : Nat) (g : Nat → TkR) (k : Nat) : (jbW c g (k + 1)).size = (jbW c g k).size + (blT ((c + k) % 5)).size + (tellT (g k)).size := by
  rw [← bI_len, jb_bI, List.length_append, List.length_append, bI_len, bI_len, bI_len]
  omega
theorem jb_pre {S : ByteArray} {c : Nat} {g : Nat → TkR} {m : Nat} (h : AtL S 0 (bI (jbW c g m))) : ∀ d k, k + d = m → AtL S 0 (bI (jbW c g k))
  | 0, k, e => by obtain rfl : k = m := by omega
                  exact h
  | d + 1, k, e => by
    have := jb_pre h d (k + 1) (by omega)
    rw [jb_bI] at this
    exact (at_app.1 this).1
theorem jb_at {S : ByteArray} {c : Nat} {g : Nat → TkR} {m : Nat} (h : AtL S 0 (bI (jbW c g m))) {k : Nat} (hk : k < m) : AtL S (jbW c g k).size (bI (blT ((c + k) % 5)) ++ bI (tellT (g k))) := by
  have := jb_pre h (m - (k + 1)) (k + 1) (by omega)
  rw [jb_bI] at this
  have := (at_app.1 this).2
  rw [bI_len, Nat.zero_add] at this
  exact this
def itB (c : Nat) (g : Nat → TkR) : Nat → Nat → List (Nat × TkR)
  | 0, _ => []
  | d + 1, k => ((blT ((c + k) % 5)).size, g k) :: itB c g d (k + 1)
theorem itB_len (c : Nat) (g : Nat → TkR) : ∀ d k, (itB c g d k).length = d
  | 0, _ => rfl
  | d + 1, k => by simp [itB, itB_len c g d]
theorem itB_map (c : Nat) (g : Nat → TkR) : ∀ d k, (itB c g d k).map (fun y => ksT y.2) = (List.range d).map (fun j => ksT (g (k + j)))
  | 0, _ => rfl
  | d + 1, k => by
    rw [itB, List.map_cons, itB_map c g d (k + 1), List.range_succ_eq_map, List.map_cons, List.map_map]
    congr 1
    apply List.map_congr_left
    intro j _
    show ksT (g (k + 1 + j)) = ksT (g (k + (j + 1)))
    rw [show k + 1 + j = k + (j + 1) by omega]
theorem lay_jb {S : ByteArray} {c : Nat} {g : Nat → TkR} {m : Nat} (hok : ∀ k, k < m → okT (g k) = true) (hk : ∀ k, k < m → (g k).k ≠ 0) (hsz : S.size ≤ 16384) (hall : AtL S 0 (bI (jbW c g m))) (hlast : AtL S (jbW c g m).size (bI (blT ((c + m) % 5)))) (hS : S.size = (jbW c g m).size + (blT ((c + m) % 5)).size) : ∀ d k, k + d = m → Lay S (jbW c g k).size (itB c g d k) ∧ Tw S (jbW c g k).size S.size
  | 0, k, e => by
    obtain rfl : k = m := by omega
    refine ⟨?_, ?_⟩
    · show bk S (jbW c g k).size = (S.size, false)
      rw [bk_bl hlast, ← hS, bk_end]
    · have := bl_tw hlast
      rw [← hS] at this
      exact this
  | d + 1, k, e => by
    have hkm : k < m := by omega
    obtain ⟨ih1, ih2⟩ := lay_jb hok hk hsz hall hlast hS d (k + 1) (by omega)
    obtain ⟨hA, hB⟩ := at_app.1 (jb_at hall hkm)
    rw [bI_len] at hB
    have hle := at_le hB
    rw [bI_len] at hle
    obtain ⟨t0, tn⟩ := tell_b0 (hok k hkm) (hk k hkm)
    have hb := bytA hB 0 t0
    rw [Nat.add_zero] at hb
    have hfol : Fol (byt S (jbW c g (k + 1)).size) := by
      by_cases e2 : k + 1 < m
      · exact bl_fol (at_app.1 (jb_at hall e2)).1
      · obtain rfl : m = k + 1 := by omega
        exact bl_fol hlast
    rw [jb_size] at ih1 ih2 hfol
    refine ⟨?_, ((bl_tw hA).trans (tell_tw (hok k hkm) (hk k hkm) hB)).trans ih2⟩
    exact ⟨by rw [bk_bl hA]; exact bk_here (by omega) (by rw [hb]; exact tn), by show (jbW c g k).size + (blT ((c + k) % 5)).size < S.size; omega, hok k hkm, hk k hkm, by show (tellT (g k)).size ≤ 16384; omega, hB, hfol, ih1⟩
/-- Tokens with blanks ahead of each, and of the end, are read as the same. -/
theorem blank_lex {c : Nat} {g : Nat → TkR} {m : Nat} (hok : ∀ k, k < m → okT (g k) = true) (hk : ∀ k, k < m → (g k).k ≠ 0) (hend : tellT (g m) = ⟨#[]⟩) (hsz : (jbW c g (m + 1)).size ≤ 16384) (hm : m ≤ 1024) : ∃ L', lexM (jbW c g (m + 1)) = .ok (L' ++ [⟨0, ⟨#[]⟩, (jbW c g (m + 1)).size⟩]) ∧ L'.map ksT = (List.range m).map (fun j => ksT (g j)) := by
  have hz := jb_size c g m
  rw [hend] at hz
  have hz0 : (⟨#[]⟩ : ByteArray).size = 0 := rfl
  have hall := at_all (jbW c g (m + 1))
  rw [jb_bI, hend] at hall
  obtain ⟨h1, h2⟩ := at_app.1 hall
  rw [bI_len, Nat.zero_add] at h2
  have h3 := (at_app.1 h2).1
  obtain ⟨a1, a2⟩ := lay_jb (S := jbW c g (m + 1)) hok hk hsz h1 h3 (by omega) m 0 (by omega)
  obtain ⟨L', e1, e2⟩ := lexM_of a2 hsz a1 (by rw [itB_len]; exact hm)
  refine ⟨L', e1, ?_⟩
  rw [e2, itB_map]
  apply List.map_congr_left
  intro j _
  rw [Nat.zero_add]
end Go.Proofs.YtpiaofpglagfmaaDoor
/- Layer 17, plain: a text that is read is no longer than it was written (the same as in wip/read BO, without the cells). -/
namespace Go.Proofs.YtpiaofpglagfmaaDoor
open Go.RowKit Go.Maps
theorem four_len {s : ByteArray} : ∀ {k i : Nat} {n : Int} {x : Int × Nat}, fourF s k i n = .ok x → x.2 = i + k
  | 0, i, n, x, e => by cases e; rfl
  | k + 1, i, n, x, e => by
    unfold fourF at e
    split at e
    · cases e
    · have := four_len e; omega
theorem point_len {s : ByteArray} {i : Nat} {x : Int × Nat} (e : pointM s i = .ok x) : i + 4 ≤ x.2 := by
  unfold pointM at e
  cases h1 : fourF s 4 i 0 with
  | bad m => rw [h1] at e; cases e
  | ok y =>
    rw [h1] at e
    have a1 := four_len h1
    simp only [Rs.bind_ok] at e
    split at e
    · cases h2 : wordM s [92, 117] y.2 with
      | bad m => rw [h2] at e; cases e
      | ok j =>
        rw [h2] at e
        have a2 := (word_asc (by decide) h2).le
        simp only [Rs.bind_ok] at e
        cases h3 : fourF s 4 j 0 with
        | bad m => rw [h3] at e; cases e
        | ok z =>
          rw [h3] at e
          have a3 := four_len h3
          simp only [Rs.bind_ok] at e
          split at e
          · cases e
          · cases e
            show i + 4 ≤ z.2
            omega
    · split at e
      · cases e; omega
      · cases e
theorem esL_one (x : Int) : esL [x] = escI x := by unfold esL; simp
theorem esL_app (a b : List Int) : esL (a ++ b) = esL a ++ esL b := by unfold esL; rw [List.flatMap_append]
theorem enc_es {p : Int} (h : isPt p = true) : (esL (enc p)).length ≤ 6 := by
  by_cases hl : p < 128
  · rw [enc_low p hl, esL_one]
    exact esc_len p
  · have hh : ∀ c ∈ enc p, 128 ≤ c := by
      have hr := isPt_range h
      intro c hc
      unfold enc at hc
      rw [if_neg hl] at hc
      (repeat' split at hc) <;> simp at hc <;> omega
    rw [esL_high hh]
    have := (enc_len p).2
    omega
theorem esc_es {s : ByteArray} {i j : Nat} {m : List Int} (e : escM s i = .ok (m, j)) : (esL m).length + i ≤ j + 1 := by
  unfold escM at e
  dsimp only at e
  split at e
  · rename_i hb
    cases e
    rw [esL_one]
    have h2 : (escI (byt s i)).length ≤ 2 := by rcases hb with hb | hb | hb <;> rw [hb] <;> decide
    omega
  split at e
  · cases e; rw [esL_one]; have : (escI 8).length = 2 := rfl; omega
  split at e
  · cases e; rw [esL_one]; have : (escI 12).length = 2 := rfl; omega
  split at e
  · cases e; rw [esL_one]; have : (escI 10).length = 2 := rfl; omega
  split at e
  · cases e; rw [esL_one]; have : (escI 13).length = 2 := rfl; omega
  split at e
  · cases e; rw [esL_one]; have : (escI 9).length = 2 := rfl; omega
  split at e
  · cases hp : pointM s (i + 1) with
    | bad m' => rw [hp] at e; cases e
    | ok x =>
      rw [hp] at e
      have h1 := point_len hp
      have h2 := enc_es (point_asc hp).2
      simp only [Rs.bind_ok] at e
      cases e
      omega
  · cases e
theorem strF_es {s : ByteArray} : ∀ (f j : Nat) (l m : List Int) (k : Nat), strF s f j l = .ok (m, k) → (esL m).length + j + 1 ≤ (esL l).length + k
  | 0, j, l, m, k, e => by cases e
  | f + 1, j, l, m, k, e => by
    rw [strF] at e
    split at e
    · cases e; omega
    split at e
    · cases he : escM s (j + 1) with
      | bad m' => rw [he] at e; cases e
      | ok y =>
        obtain ⟨y1, j'⟩ := y
        rw [he] at e
        have h1 := esc_es he
        have h2 := strF_es f j' _ m k e
        rw [esL_app, List.length_append] at h2
        dsimp only at h2
        omega
    split at e
    · cases e
    · rename_i n1 n2 n3
      have h2 := strF_es f (j + 1) _ m k e
      have h3 : (esL [byt s j]).length = 1 := by
        rw [esL_one, esc_own _ n3]
        · rfl
        · unfold shortI
          rw [if_neg n1, if_neg n2, if_neg (by omega), if_neg (by omega), if_neg (by omega), if_neg (by omega), if_neg (by omega)]
      rw [esL_app, List.length_append, h3] at h2
      omega
theorem strM_es {s : ByteArray} {i k : Nat} {m : List Int} (hw : Tw s i s.size) (e : strM s i = .ok (m, k)) : (quT (mkB m)).size + i ≤ k := by
  have hp := (strM_pt hw e).1
  unfold strM at e
  cases h1 : wordM s [34] i with
  | bad m' => rw [h1] at e; cases e
  | ok j =>
    rw [h1] at e
    obtain ⟨w1, rfl⟩ := word1 h1
    have h := strF_es _ _ _ _ _ e
    have hsz : (quT (mkB m)).size = (esL m).length + 2 := by rw [← bI_len, quT_bI, bI_mk hp.range]; simp
    rw [hsz]
    have e0 : (esL []).length = 0 := rfl
    rw [e0] at h
    omega
/-- A token's text is no longer than what stood there. -/
theorem txt_size {T : ByteArray} {M : List CR} (hs : T.size ≤ 2000) (hf : byt T 0 = 34) (hr : readM T = .ok M) : ((gl M 0).tx).size ≤ 2000 := by
  obtain ⟨hck, x, hx, htx⟩ := read_txt hf hr
  obtain ⟨y, hy⟩ := ck_tw hck
  obtain ⟨m, k⟩ := x
  have h1 := strM_es hy hx
  have h2 := (strM_ok hx).2
  have h3 := esL_len (bI (mkB m))
  have h4 := quT_size2 (mkB m)
  rw [bI_len] at h3
  rw [htx]
  show (mkB m).size ≤ 2000
  omega
theorem tok_small {s : ByteArray} {a k : Nat} {t : TkR} (ha : a < s.size) (hs : s.size ≤ 1000) (h : tokM s a = some (t, k)) : t.s.size ≤ 3000 := by
  unfold tokM at h
  have hcut : ∀ x y, (s.extract x y).size ≤ s.size := fun x y => ba_cut
  cases h1 : namR s a with
  | bad => rw [h1] at h; cases h
  | ok t' k' =>
    rw [h1] at h
    cases h
    unfold namR at h1
    split at h1
    · cases h1
      exact Nat.le_trans (hcut _ _) (by omega)
    · cases h1
  | no =>
    rw [h1] at h
    cases h2 : intR s a with
    | bad => rw [h2] at h; cases h
    | ok t' k' =>
      rw [h2] at h
      cases h
      unfold intR at h2
      split at h2
      · split at h2
        · cases h2
        · cases h2
          exact Nat.le_trans (hcut _ _) (by omega)
      · cases h2
    | no =>
      rw [h2] at h
      cases h3 : txtR s a with
      | bad => rw [h3] at h; cases h
      | ok t' k' =>
        rw [h3] at h
        cases h
        unfold txtR at h3
        split at h3
        · rename_i h34
          cases hq : quM s a with
          | none => rw [hq] at h3; cases h3
          | some n =>
            rw [hq] at h3
            obtain ⟨q1, q2⟩ := quM_ok hq
            have hf := tab_first (s := s) (a := a) (n := n) h34 (by omega) q2
            have hts := tabT_size (s.extract a n)
            have hxs := hcut a n
            unfold txt1 at h3
            cases hr : readM (tabT (s.extract a n)) with
            | bad m => dsimp only at h3; rw [hr] at h3; cases h3
            | ok M =>
              dsimp only at h3
              rw [hr] at h3
              have hc := txt_size (by omega) hf hr
              unfold txt2 at h3
              dsimp only at h3
              split at h3
              · cases h3
              · cases h3
                show ((gl M 0).tx).size ≤ 3000
                omega
        · cases h3
      | no =>
        rw [h3] at h
        cases h4 : mrkR s a with
        | bad => rw [h4] at h; cases h
        | no => rw [h4] at h; cases h
        | ok t' k' =>
          rw [h4] at h
          cases h
          unfold mrkR at h4
          split at h4
          · cases h4
            show (⟨#[46, 46, 46]⟩ : ByteArray).size ≤ 3000
            decide
          · split at h4
            · cases h4
              exact Nat.le_trans (hcut _ _) (by omega)
            · cases h4
/-- Each token that is read may be, and is small. -/
theorem toks_ok {s : ByteArray} (hs : s.size ≤ 1000) : ∀ (M : List TkR) (i k : Nat), Toks s i M → k < M.length → okT (gt M k) = true ∧ (gt M k).s.size ≤ 3000
  | [], _, k, _, hk => absurd hk (Nat.not_lt_zero k)
  | t :: r, i, 0, h, _ => by
    obtain ⟨j, k, h1, h2, h3, h4, h5⟩ := h
    exact ⟨tok_okT (by omega) hs h4, tok_small (by omega) hs h4⟩
  | t :: r, i, n + 1, h, hn => by
    obtain ⟨j, k, h1, h2, h3, h4, h5⟩ := h
    exact toks_ok hs r k n h5 (by simpa using hn)
theorem okT_end (a : Int) : okT ⟨0, ⟨#[]⟩, a⟩ = true := by
  unfold okT
  rw [if_pos rfl]
  have e : (⟨#[]⟩ : ByteArray).toList = [] := by rw [Lib.toList_data]
  show ((⟨#[]⟩ : ByteArray).toList).isEmpty = true
  rw [e]
  rfl
theorem gt_snoc_l {M : List TkR} {e : TkR} {i : Nat} (h : i < M.length) : gt (M ++ [e]) i = gt M i := by
  unfold gt
  rw [List.getD_eq_getElem?_getD, List.getD_eq_getElem?_getD, List.getElem?_append_left h]
theorem gt_snoc_r {M : List TkR} {e : TkR} : gt (M ++ [e]) M.length = e := by
  unfold gt
  rw [List.getD_eq_getElem?_getD, List.getElem?_append_right (Nat.le_refl _)]
  simp
/-- What the law asks of the tokens, one by one. -/
theorem blank_facts {s : ByteArray} {M : List TkR} (hs : s.size ≤ 1000) (h : Toks s 0 M) {g : Nat → TkR} (hg : g = gt (M ++ [⟨0, ⟨#[]⟩, s.size⟩])) : ∀ i, i < M.length + 1 → okT (g i) = true ∧ (g i).s.size ≤ 3000 ∧ (if i = 0 then -1 else (g (i - 1)).a) < (g i).a ∧ ((g i).k = 0 ↔ i = M.length) ∧ 0 ≤ (g i).a ∧ (g i).a ≤ s.size := by
  intro i hi
  by_cases him : i < M.length
  · obtain ⟨q1, q2, q3, q4⟩ := toks_at M 0 i h him
    obtain ⟨r1, r2⟩ := toks_ok hs M 0 i h him
    have e : g i = gt M i := by rw [hg, gt_snoc_l him]
    rw [e]
    refine ⟨r1, r2, ?_, ⟨fun hk => by omega, fun hk => by omega⟩, by omega, by omega⟩
    by_cases h0 : i = 0
    · rw [if_pos h0]; omega
    · rw [if_neg h0, hg, gt_snoc_l (by omega)]
      exact q3 (i - 1) (by omega)
  · obtain rfl : i = M.length := by omega
    have e : g M.length = ⟨0, ⟨#[]⟩, s.size⟩ := by rw [hg, gt_snoc_r]
    rw [e]
    refine ⟨okT_end _, by show (⟨#[]⟩ : ByteArray).size ≤ 3000; decide, ?_, ⟨fun _ => rfl, fun _ => rfl⟩, by show (0 : Int) ≤ s.size; omega, by show (s.size : Int) ≤ s.size; omega⟩
    by_cases h0 : M.length = 0
    · rw [if_pos h0]; show (-1 : Int) < s.size; omega
    · rw [if_neg h0, hg, gt_snoc_l (by omega)]
      obtain ⟨q1, q2, q3, q4⟩ := toks_at M 0 (M.length - 1) h (by omega)
      exact q2
end Go.Proofs.YtpiaofpglagfmaaDoor
/- Layer 17, plain: what stands behind a line's end counts for nothing for what stands ahead. -/
namespace Go.Proofs.YtpiaofpglagfmaaDoor
open Go.RowKit Go.Maps
/-- A text begins another; there its line ends. -/
structure Beg (a S : ByteArray) : Prop where
  lt : a.size < S.size
  same : ∀ j, j < a.size → byt S j = byt a j
  nl : byt S a.size = 10
  cut : ∀ i j, j ≤ a.size → S.extract i j = a.extract i j
theorem beg_of (a b : ByteArray) : Beg a (a ++ ⟨#[10]⟩ ++ b) := by
  have e1 : (a ++ ⟨#[10]⟩ ++ b).size = a.size + 1 + b.size := by
    rw [ByteArray.size_append, ByteArray.size_append]
    rfl
  have hb : bI (a ++ ⟨#[10]⟩ ++ b) = bI a ++ ([10] ++ bI b) := by
    rw [bI_app, bI_app, List.append_assoc]
    rfl
  have hin : ∀ j, j < a.size + 1 → byt (a ++ ⟨#[10]⟩ ++ b) j = (bI a ++ ([10] ++ bI b)).getD j 0 := fun j hj => by
    have h := bI_at (a ++ ⟨#[10]⟩ ++ b) j (by omega)
    rw [hb] at h
    rw [List.getD_eq_getElem?_getD, h]
    rfl
  refine ⟨by omega, fun j hj => ?_, ?_, fun i j hj => bI_inj ?_⟩
  · rw [hin j (by omega), List.getD_eq_getElem?_getD, List.getElem?_append_left (by rw [bI_len]; exact hj), bI_at a j hj]
    rfl
  · rw [hin _ (by omega), List.getD_eq_getElem?_getD, List.getElem?_append_right (by rw [bI_len]; exact Nat.le_refl _), bI_len, Nat.sub_self]
    rfl
  · rw [bI_extract, bI_extract, hb, List.take_append_of_le_length (by rw [bI_len]; exact hj)]
theorem Beg.wdE {a S : ByteArray} (h : Beg a S) : ∀ (n j : Nat), a.size - j ≤ n → j ≤ a.size → wd S j = wd a j := by
  intro n
  induction n with
  | zero =>
    intro j hn hj
    obtain rfl : j = a.size := by omega
    rw [wd_stop (s := a) (by rw [byt_end (Nat.le_refl _)]; rfl), wd_stop (s := S) (by rw [h.nl]; rfl)]
  | succ n ih =>
    intro j hn hj
    by_cases hjl : j < a.size
    · cases hw : wcI (byt a j) with
      | true => rw [wd_step (s := a) hw, wd_step (s := S) (by rw [h.same j hjl]; exact hw), ih (j + 1) (by omega) (by omega)]
      | false => rw [wd_stop (s := a) hw, wd_stop (s := S) (by rw [h.same j hjl]; exact hw)]
    · obtain rfl : j = a.size := by omega
      rw [wd_stop (s := a) (by rw [byt_end (Nat.le_refl _)]; rfl), wd_stop (s := S) (by rw [h.nl]; rfl)]
theorem Beg.dgE {a S : ByteArray} (h : Beg a S) : ∀ (n j : Nat), a.size - j ≤ n → j ≤ a.size → dg S j = dg a j := by
  intro n
  induction n with
  | zero =>
    intro j hn hj
    obtain rfl : j = a.size := by omega
    rw [dg_stop (s := a) (by rw [byt_end (Nat.le_refl _)]; rfl), dg_stop (s := S) (by rw [h.nl]; rfl)]
  | succ n ih =>
    intro j hn hj
    by_cases hjl : j < a.size
    · cases hw : isDg (byt a j) with
      | true => rw [dg_step (s := a) hw, dg_step (s := S) (by rw [h.same j hjl]; exact hw), ih (j + 1) (by omega) (by omega)]
      | false => rw [dg_stop (s := a) hw, dg_stop (s := S) (by rw [h.same j hjl]; exact hw)]
    · obtain rfl : j = a.size := by omega
      rw [dg_stop (s := a) (by rw [byt_end (Nat.le_refl _)]; rfl), dg_stop (s := S) (by rw [h.nl]; rfl)]
/-- A byte that is neither none nor a line's end stands in both alike. -/
theorem Beg.iff {a S : ByteArray} (h : Beg a S) {j : Nat} (hj : j ≤ a.size) (p : Int → Prop) (p0 : ¬ p 0) (p1 : ¬ p 10) : p (byt S j) ↔ p (byt a j) := by
  by_cases hjl : j < a.size
  · rw [h.same j hjl]
  · obtain rfl : j = a.size := by omega
    rw [h.nl, byt_end (Nat.le_refl _)]
    exact ⟨fun k => absurd k p1, fun k => absurd k p0⟩
theorem Beg.quFE {a S : ByteArray} (h : Beg a S) : ∀ (f f' j : Nat), j ≤ a.size → a.size - j + 1 ≤ f → S.size - j + 1 ≤ f' → quF S f' j = quF a f j := by
  intro f
  induction f with
  | zero => intro f' j hj hf; omega
  | succ f ih =>
    intro f' j hj hf hf'
    have hl := h.lt
    rw [quF_step (f := f + 1) (by omega), quF_step (f := f') (by omega)]
    by_cases hjl : j < a.size
    · rw [h.same j hjl, if_neg (show ¬ S.size ≤ j by omega), if_neg (show ¬ a.size ≤ j by omega)]
      by_cases c1 : byt a j = 34
      · rw [if_pos c1, if_pos c1]
      rw [if_neg c1, if_neg c1]
      by_cases c2 : byt a j = 92 ∧ 32 ≤ byt a (j + 1)
      · have hj1 : j + 1 < a.size := byt_in (by omega)
        rw [if_pos c2, if_pos ⟨c2.1, by rw [h.same _ hj1]; exact c2.2⟩]
        exact ih _ _ (by omega) (by omega) (by omega)
      rw [if_neg c2, if_neg (fun k => c2 ⟨k.1, (h.iff (j := j + 1) (by omega) (fun c => 32 ≤ c) (by decide) (by decide)).1 k.2⟩)]
      by_cases c3 : byt a j = 92 ∨ (byt a j < 32 ∧ byt a j ≠ 9)
      · rw [if_pos c3, if_pos c3]
      · rw [if_neg c3, if_neg c3]
        exact ih _ _ (by omega) (by omega) (by omega)
    · obtain rfl : j = a.size := by omega
      rw [h.nl, if_neg (by omega), if_neg (by decide), if_neg (fun k => absurd k.1 (by decide)), if_pos (.inr (by decide)), if_pos (Nat.le_refl _)]
theorem Beg.quME {a S : ByteArray} (h : Beg a S) {i : Nat} (hi : i < a.size) : quM S i = quM a i := by
  have hl := h.lt
  unfold Go.Proofs.YtpiaofpglagfmaaDoor.quM
  exact h.quFE _ _ _ (by omega) (by omega) (by omega)
theorem Beg.tok {a S : ByteArray} (h : Beg a S) {i : Nat} (hi : i < a.size) : tokM S i = tokM a i := by
  have e1 : namR S i = namR a i := by
    unfold namR
    have w := wd_range (s := a) _ (i + 1) (Nat.le_refl _) (by omega)
    rw [h.same i hi, h.wdE _ (i + 1) (Nat.le_refl _) (by omega), h.cut _ _ w.2]
  have e2 : intR S i = intR a i := by
    unfold intR
    have w := dg_le (s := a) (i := i + 1) (by omega)
    have q1 : (byt S (dg a (i + 1)) = 46 ∨ ltI (byt S (dg a (i + 1))) = true) ↔ (byt a (dg a (i + 1)) = 46 ∨ ltI (byt a (dg a (i + 1))) = true) := h.iff w (fun c => c = 46 ∨ ltI c = true) (by decide) (by decide)
    rw [h.same i hi, h.dgE _ (i + 1) (Nat.le_refl _) (by omega), h.cut _ _ w]
    by_cases c0 : byt a i = 45 ∨ isDg (byt a i) = true
    · rw [if_pos c0, if_pos c0]
      by_cases c1 : byt a (dg a (i + 1)) = 46 ∨ ltI (byt a (dg a (i + 1))) = true ∨ intB (a.extract i (dg a (i + 1))) = false
      · rw [if_pos c1, if_pos (by
          rcases c1 with k | k | k
          · exact (q1.2 (.inl k)).elim .inl (fun k => .inr (.inl k))
          · exact (q1.2 (.inr k)).elim .inl (fun k => .inr (.inl k))
          · exact .inr (.inr k))]
      · rw [if_neg c1, if_neg (by
          intro k
          apply c1
          rcases k with k | k | k
          · exact (q1.1 (.inl k)).elim .inl (fun k => .inr (.inl k))
          · exact (q1.1 (.inr k)).elim .inl (fun k => .inr (.inl k))
          · exact .inr (.inr k))]
    · rw [if_neg c0, if_neg c0]
  have e3 : txtR S i = txtR a i := by
    unfold txtR
    rw [h.same i hi, h.quME hi]
    by_cases c0 : byt a i = 34
    · rw [if_pos c0, if_pos c0]
      cases hq : quM a i with
      | none => rfl
      | some n =>
        have w := quM_ok hq
        have q := h.iff w.2 (fun c => c = 34) (by decide) (by decide)
        unfold txt1
        dsimp only
        rw [h.cut _ _ w.2]
        cases readM (tabT (a.extract i n)) with
        | bad m => rfl
        | ok M =>
          unfold txt2
          dsimp only
          by_cases c1 : (gl M 0).tx = ⟨#[]⟩ ∧ byt a n = 34
          · rw [if_pos c1, if_pos ⟨c1.1, q.2 c1.2⟩]
          · rw [if_neg c1, if_neg (fun k => c1 ⟨k.1, q.1 k.2⟩)]
    · rw [if_neg c0, if_neg c0]
  have e4 : mrkR S i = mrkR a i := by
    unfold mrkR
    rw [h.same i hi, h.cut _ _ (show i + 1 ≤ a.size by omega)]
    by_cases c0 : byt a i = 46 ∧ byt a (i + 1) = 46 ∧ byt a (i + 2) = 46
    · have h1 : i + 2 < a.size := byt_in (by omega)
      rw [if_pos c0, if_pos ⟨c0.1, by rw [h.same _ (by omega)]; exact c0.2.1, by rw [h.same _ h1]; exact c0.2.2⟩]
    · rw [if_neg c0, if_neg (fun k => c0 ?_)]
      have k1 := (h.iff (j := i + 1) (by omega) (fun c => c = 46) (by decide) (by decide)).1 k.2.1
      have h1 : i + 1 < a.size := byt_in (by omega)
      exact ⟨k.1, k1, (h.iff (j := i + 2) (by omega) (fun c => c = 46) (by decide) (by decide)).1 k.2.2⟩
  unfold tokM
  rw [e1, e2, e3, e4]
theorem Beg.bkFE {a S : ByteArray} (h : Beg a S) : ∀ (f f' j : Nat) (ins : Bool), j ≤ a.size → a.size - j + 1 ≤ f → S.size - j + 1 ≤ f' → (bkF a f j ins).1 < a.size → bkF S f' j ins = bkF a f j ins := by
  intro f
  induction f with
  | zero => intro f' j ins hj hf; omega
  | succ f ih =>
    intro f' j ins hj hf hf' hlt
    have hl := h.lt
    rw [bkF_step (f := f + 1) (by omega)] at hlt
    rw [bkF_step (f := f + 1) (by omega), bkF_step (f := f') (by omega)]
    by_cases hjl : j < a.size
    · rw [if_neg (by omega)] at hlt
      rw [h.same j hjl, if_neg (show ¬ S.size ≤ j by omega), if_neg (show ¬ a.size ≤ j by omega)]
      by_cases c1 : byt a j = 10 ∨ byt a j = 13
      · rw [if_pos c1] at hlt
        rw [if_pos c1, if_pos c1]
        exact ih _ _ _ (by omega) (by omega) (by omega) hlt
      rw [if_neg c1] at hlt
      rw [if_neg c1, if_neg c1]
      by_cases c2 : ins = true ∧ byt a j < 32 ∧ byt a j ≠ 9
      · rw [if_pos c2, if_pos c2]
      rw [if_neg c2] at hlt
      rw [if_neg c2, if_neg c2]
      by_cases c3 : ins = true ∨ byt a j = 32 ∨ byt a j = 9 ∨ byt a j = 44
      · rw [if_pos c3] at hlt
        rw [if_pos c3, if_pos c3]
        exact ih _ _ _ (by omega) (by omega) (by omega) hlt
      rw [if_neg c3] at hlt
      rw [if_neg c3, if_neg c3]
      by_cases c4 : byt a j = 35
      · rw [if_pos c4] at hlt
        rw [if_pos c4, if_pos c4]
        exact ih _ _ _ (by omega) (by omega) (by omega) hlt
      rw [if_neg c4] at hlt
      rw [if_neg c4, if_neg c4]
      by_cases c5 : byt a j = 239 ∧ byt a (j + 1) = 187 ∧ byt a (j + 2) = 191
      · have h2 : j + 2 < a.size := byt_in (by omega)
        rw [if_pos c5] at hlt
        rw [if_pos c5, if_pos ⟨c5.1, by rw [h.same _ (by omega)]; exact c5.2.1, by rw [h.same _ h2]; exact c5.2.2⟩]
        exact ih _ _ _ (by omega) (by omega) (by omega) hlt
      · rw [if_neg c5, if_neg (fun k => c5 ?_)]
        have k1 := (h.iff (j := j + 1) (by omega) (fun c => c = 187) (by decide) (by decide)).1 k.2.1
        have h1 : j + 1 < a.size := byt_in (by omega)
        exact ⟨k.1, k1, (h.iff (j := j + 2) (by omega) (fun c => c = 191) (by decide) (by decide)).1 k.2.2⟩
    · rw [if_pos (by omega)] at hlt
      exact absurd hlt (by dsimp only; omega)
theorem Beg.bkE {a S : ByteArray} (h : Beg a S) {j : Nat} (hj : j ≤ a.size) (hlt : (bk a j).1 < a.size) : bk S j = bk a j := h.bkFE _ _ _ _ hj (by omega) (by omega) hlt
theorem bkF_broken {s : ByteArray} : ∀ (f j : Nat) (ins : Bool), (bkF s f j ins).2 = true → (bkF s f j ins).1 < s.size
  | 0, j, ins, h => by cases h
  | f + 1, j, ins, h => by
    unfold bkF at h ⊢
    by_cases c0 : s.size ≤ j
    · rw [if_pos c0] at h; cases h
    rw [if_neg c0] at h ⊢
    by_cases c1 : byt s j = 10 ∨ byt s j = 13
    · rw [if_pos c1] at h ⊢; exact bkF_broken _ _ _ h
    rw [if_neg c1] at h ⊢
    by_cases c2 : ins = true ∧ byt s j < 32 ∧ byt s j ≠ 9
    · rw [if_pos c2]; dsimp only; omega
    rw [if_neg c2] at h ⊢
    by_cases c3 : ins = true ∨ byt s j = 32 ∨ byt s j = 9 ∨ byt s j = 44
    · rw [if_pos c3] at h ⊢; exact bkF_broken _ _ _ h
    rw [if_neg c3] at h ⊢
    by_cases c4 : byt s j = 35
    · rw [if_pos c4] at h ⊢; exact bkF_broken _ _ _ h
    rw [if_neg c4] at h ⊢
    by_cases c5 : byt s j = 239 ∧ byt s (j + 1) = 187 ∧ byt s (j + 2) = 191
    · rw [if_pos c5] at h ⊢; exact bkF_broken _ _ _ h
    · rw [if_neg c5] at h; cases h
theorem Beg.bad {a S : ByteArray} (h : Beg a S) : ∀ (n i : Nat) (L L' : List TkR) (p : Nat) (m : Int), i ≤ a.size → lexF a n i L = .bad p m → lexF S n i L' = .bad p m := by
  intro n
  induction n with
  | zero =>
    intro i L L' p m hi hb
    have hl := h.lt
    have hle := bk_le hi
    rw [lexF_step0] at hb
    rw [lexF_step0]
    by_cases c0 : (bk a i).2 = true
    · rw [if_pos c0] at hb
      rw [h.bkE hi (bkF_broken _ _ _ c0), if_pos c0]
      exact hb
    rw [if_neg c0] at hb
    by_cases c1 : (bk a i).1 = a.size
    · rw [if_pos c1] at hb; cases hb
    · rw [if_neg c1] at hb
      rw [h.bkE hi (by omega), if_neg c0, if_neg (by omega)]
      exact hb
  | succ n ih =>
    intro i L L' p m hi hb
    have hl := h.lt
    have hle := bk_le hi
    rw [lexF_step] at hb
    rw [lexF_step]
    by_cases c0 : (bk a i).2 = true
    · rw [if_pos c0] at hb
      rw [h.bkE hi (bkF_broken _ _ _ c0), if_pos c0]
      exact hb
    rw [if_neg c0] at hb
    by_cases c1 : (bk a i).1 = a.size
    · rw [if_pos c1] at hb; cases hb
    · rw [if_neg c1] at hb
      rw [h.bkE hi (by omega), if_neg c0, if_neg (by omega), h.tok (by omega)]
      cases ht : tokM a (bk a i).1 with
      | none => rw [ht] at hb; exact hb
      | some y =>
        rw [ht] at hb
        have hk := tok_ok (t := y.1) (k := y.2) (by omega) ht
        exact ih _ _ _ _ _ hk.2 hb
theorem lexF_more {s : ByteArray} : ∀ (n i : Nat) (L R : List TkR), lexF s n i L = .ok R → ∃ T, R = L ++ T ∧ T ≠ [] := by
  intro n
  induction n with
  | zero =>
    intro i L R h
    rw [lexF_step0] at h
    split at h
    · cases h
    split at h
    · cases h; exact ⟨_, rfl, by simp⟩
    · cases h
  | succ n ih =>
    intro i L R h
    rw [lexF_step] at h
    split at h
    · cases h
    split at h
    · cases h; exact ⟨_, rfl, by simp⟩
    · cases ht : tokM s (bk s i).1 with
      | none => rw [ht] at h; cases h
      | some y =>
        rw [ht] at h
        obtain ⟨T, e, _⟩ := ih _ _ _ h
        exact ⟨y.1 :: T, by rw [e]; simp, by simp⟩
theorem Beg.ok {a S : ByteArray} (h : Beg a S) : ∀ (n i : Nat) (L R R' : List TkR), i ≤ a.size → lexF a n i L = .ok R → lexF S n i L = .ok R' → ∃ M T e, R = M ++ [e] ∧ R' = M ++ T ∧ T ≠ [] := by
  intro n
  induction n with
  | zero =>
    intro i L R R' hi hb hb'
    rw [lexF_step0] at hb
    obtain ⟨T, e, hT⟩ := lexF_more _ _ _ _ hb'
    split at hb
    · cases hb
    split at hb
    · cases hb; exact ⟨L, T, _, rfl, e, hT⟩
    · cases hb
  | succ n ih =>
    intro i L R R' hi hb hb'
    have hl := h.lt
    have hle := bk_le hi
    rw [lexF_step] at hb
    by_cases c0 : (bk a i).2 = true
    · rw [if_pos c0] at hb; cases hb
    rw [if_neg c0] at hb
    by_cases c1 : (bk a i).1 = a.size
    · rw [if_pos c1] at hb
      cases hb
      obtain ⟨T, e, hT⟩ := lexF_more _ _ _ _ hb'
      exact ⟨L, T, _, rfl, e, hT⟩
    · rw [if_neg c1] at hb
      rw [lexF_step, h.bkE hi (by omega), if_neg c0, if_neg (by omega), h.tok (by omega)] at hb'
      cases ht : tokM a (bk a i).1 with
      | none => rw [ht] at hb; cases hb
      | some y =>
        rw [ht] at hb hb'
        have hk := tok_ok (t := y.1) (k := y.2) (by omega) ht
        exact ih _ _ _ _ hk.2 hb hb'
theorem conts_at {s : ByteArray} {a : Nat} : ∀ {k j : Nat}, conts s a k = true → j < k → 128 ≤ byt s (a + j)
  | 0, j, _, h => by omega
  | k + 1, j, hc, h => by
    simp only [conts, Bool.and_eq_true, decide_eq_true_eq] at hc
    by_cases e : j = k
    · rw [e]; exact hc.2.2.1
    · exact conts_at hc.1 (by omega)
theorem Beg.tw {a S : ByteArray} (h : Beg a S) {i n : Nat} (ht : Tw S i n) (hn : n = S.size) : i ≤ a.size → Tw a i a.size := by
  induction ht with
  | nil i =>
    intro hi
    have := h.lt
    omega
  | step h1 h2 _ ih =>
    rename_i i b _
    intro hi
    by_cases he : i = a.size
    · rw [he]; exact .nil _
    have hia : i < a.size := by omega
    obtain ⟨d1, d2⟩ := decIs_lead h2
    have hle : i + leadN (byt S i) ≤ a.size := by
      by_cases hc : i + leadN (byt S i) ≤ a.size
      · exact hc
      · exfalso
        have := conts_at (j := a.size - (i + 1)) d2 (by omega)
        rw [show i + 1 + (a.size - (i + 1)) = a.size by omega, h.nl] at this
        exact absurd this (by decide)
    have hcut : S.extract 0 a.size = a := by rw [h.cut 0 a.size (Nat.le_refl _)]; exact ByteArray.extract_zero_size
    have hd := dec_cut (s := S) (a := i) (e := a.size) (Nat.le_of_lt h.lt) hle d1
    rw [hcut, h2] at hd
    refine .step hia hd ?_
    rw [← h.same i hia]
    exact ih hn hle
theorem Beg.ck {a S : ByteArray} (h : Beg a S) (ha : a.size ≤ 16384) (hc : ckE S = 0) : ckE a = 0 := by
  have ht := h.tw (ck_tw hc).2 rfl (Nat.zero_le _)
  unfold ckE
  rw [if_neg (by omega), if_pos]
  exact ht.tx rfl _ (by omega)
/-- What the law asks, where the first is no text of tokens. -/
theorem begin_bad {a S : ByteArray} (h : Beg a S) (ha : a.size ≤ 16384) {p : Nat} {m : Int} (hb : lexM a = .bad p m) : ∃ p' m', lexM S = .bad p' m' := by
  unfold lexM at hb ⊢
  by_cases c : ckE S = 0
  · rw [if_neg (by rw [h.ck ha c]; exact fun k => k rfl)] at hb
    rw [if_neg (by rw [c]; exact fun k => k rfl)]
    exact ⟨p, m, h.bad _ _ _ _ _ _ (Nat.zero_le _) hb⟩
  · rw [if_pos c]
    exact ⟨_, _, rfl⟩
/-- What it asks where both are. -/
theorem begin_ok {a S : ByteArray} (h : Beg a S) {R R' : List TkR} (hb : lexM a = .ok R) (hb' : lexM S = .ok R') : ∃ m, R.length = m + 1 ∧ m + 1 ≤ R'.length ∧ ∀ k, k < m → gt R' k = gt R k := by
  unfold lexM at hb hb'
  split at hb
  · cases hb
  split at hb'
  · cases hb'
  obtain ⟨M, T, e, rfl, rfl, hT⟩ := h.ok _ _ _ _ _ (Nat.zero_le _) hb hb'
  refine ⟨M.length, by simp, ?_, fun k hk => ?_⟩
  · cases T with
    | nil => exact absurd rfl hT
    | cons x r => simp
  · unfold gt
    rw [List.getD_eq_getElem?_getD, List.getD_eq_getElem?_getD, List.getElem?_append_left hk, List.getElem?_append_left hk]
theorem own_cap {B : Nat} {w : World} {a : Option Addr} {n c : Nat} {L : List TkR} (h : OwT B w (.slice a n c) L) : L.length ≤ c ∧ c ≤ maxLen := by
  rcases h.2 with ⟨e, hn⟩ | ⟨g, cap, cur, e, hb, hg, h1, h2, h3, h4⟩
  · cases e
    exact ⟨by omega, by unfold maxLen; omega⟩
  · cases e
    exact ⟨h1, h2⟩
theorem lexF_bad {s : ByteArray} : ∀ (n i : Nat) (L : List TkR) (p : Nat) (m : Int), lexF s n i L = .bad p m → m ≠ 0 := by
  intro n
  induction n with
  | zero =>
    intro i L p m h
    rw [lexF_step0] at h
    split at h
    · cases h; decide
    · split at h
      · cases h
      · cases h; decide
  | succ n ih =>
    intro i L p m h
    rw [lexF_step] at h
    split at h
    · cases h; decide
    · split at h
      · cases h
      · cases ht : tokM s (bk s i).1 with
        | none => rw [ht] at h; cases h; decide
        | some y => rw [ht] at h; exact ih _ _ _ _ h
theorem lexM_bad {s : ByteArray} {p : Nat} {m : Int} (h : lexM s = .bad p m) : m ≠ 0 := by
  unfold lexM at h
  split at h
  · rename_i h0
    cases h
    exact h0
  · exact lexF_bad _ _ _ _ _ h
end Go.Proofs.YtpiaofpglagfmaaDoor
