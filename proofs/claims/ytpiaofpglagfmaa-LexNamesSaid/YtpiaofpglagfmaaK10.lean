import Derived.Test.YtpiaofpglagfmaaK9
import Derived.Test.YtpiaofpglagfmaaK7
import Derived.Shelf.Vars
import Derived.Handed
import Derived.HandedShaped
/- Layer 17: the law's helpers: mark, name, alive. -/
namespace Go.Proofs.Ytpiaofpglagfmaa
open Go.RowKit Go.Maps
theorem ret_mk {R : Ending → World → Prop} {fn : Func} {tmps : Array Value} {w : World} {g : Nat} {cs : Array Value} (hr : fn.results = #[.cell 2 30]) (h2 : tmps.getD 2 undef = .pointer (some ⟨g, 0, none⟩)) (hg : w.heap[g]? = some (.cells cs 30)) (hs : cs.size = 3)
    (hR : R (.returned (.agg cs)) w) : bodyPost Try.prog fn R .ret ⟨tmps, []⟩ w := by
  obtain ⟨i0, hin, hz0, hz1, hz2⟩ := infoT
  refine bodyPost_ret (v := .agg cs) ?_ rfl hR
  exact results_cell_row hr tmps w g 30 cs (0, 0) _ h2 hg Try.underlying30 rfl (by rw [hin]; simp [hz1, hs])
set_option maxRecDepth 20000 in
set_option maxHeartbeats 2000000 in
theorem mkmark_any (s : ByteArray) (w : World) : Calls Try.prog 10 #[.string s] w fun e w' => e = .returned (.agg #[.int .u8 4, .string s, .int .i64 0]) ∧ Below w.heap.size w w' := by
  go_enter Try.func10, Try.ntmps10
  go_wp2_with fail
  exact ret_mk Try.results10 rfl (heap_alloc_new _ _) rfl ⟨rfl, (Below.refl _ _).alloc (Nat.le_refl _) _⟩
set_option maxRecDepth 20000 in
set_option maxHeartbeats 2000000 in
theorem mkname_any (s : ByteArray) (w : World) : Calls Try.prog 9 #[.string s] w fun e w' => e = .returned (.agg #[.int .u8 1, .string s, .int .i64 0]) ∧ Below w.heap.size w w' := by
  go_enter Try.func9, Try.ntmps9
  go_wp2_with fail
  exact ret_mk Try.results9 rfl (heap_alloc_new _ _) rfl ⟨rfl, (Below.refl _ _).alloc (Nat.le_refl _) _⟩
theorem al_lex1 : lexM ⟨#[123, 97, 40, 98, 58, 45, 49, 41, 125, 32, 35, 120]⟩ = .ok ([⟨4, ⟨#[123]⟩, 0⟩, ⟨1, ⟨#[97]⟩, 1⟩, ⟨4, ⟨#[40]⟩, 2⟩, ⟨1, ⟨#[98]⟩, 3⟩, ⟨4, ⟨#[58]⟩, 4⟩, ⟨2, ⟨#[45, 49]⟩, 5⟩, ⟨4, ⟨#[41]⟩, 7⟩, ⟨4, ⟨#[125]⟩, 8⟩] ++ [⟨0, ⟨#[]⟩, 12⟩]) := by kernel_rfl
theorem al_lex2 : lexM ⟨#[34, 92, 117, 48, 48, 101, 57, 44, 34, 44, 32, 120]⟩ = .ok ([⟨3, ⟨#[195, 169, 44]⟩, 0⟩, ⟨1, ⟨#[120]⟩, 11⟩] ++ [⟨0, ⟨#[]⟩, 12⟩]) := by kernel_rfl
/-- Behind a box of one's own: what was is kept. -/
theorem below_boxed0 {w w' : World} {o : Obj} (h : Below w.heap.size (w.alloc o) w') : Below w.heap.size w w' := ((Below.refl _ _).alloc (Nat.le_refl _) _).trans h
set_option maxRecDepth 20000 in
set_option maxHeartbeats 4000000 in
theorem alive17_any (w : World) (hc : LxC w) : Calls Try.prog 7 #[] w fun e w' => e = .returned (.bool true) ∧ Below w.heap.size w w' := by
  have HC := Lib.hid hc
  clear hc
  go_enter Try.func7, Try.ntmps7
  go_wp2_with fail
  refine (mkmark_any _ _).mono ?_
  rintro e w1 ⟨rfl, b1⟩
  have B1 := Lib.hid (b1)
  clear b1
  go_wp2_with fail
  refine (mkname_any _ _).mono ?_
  rintro e w2 ⟨rfl, b2⟩
  have B2 := Lib.hid (B1.out.trans (b2.mono B1.out.size))
  clear b2
  go_wp2_with fail
  refine (mkmark_any _ _).mono ?_
  rintro e w3 ⟨rfl, b3⟩
  have B3 := Lib.hid (B2.out.trans (b3.mono B2.out.size))
  clear b3
  go_wp2_with fail
  refine (mkname_any _ _).mono ?_
  rintro e w4 ⟨rfl, b4⟩
  have B4 := Lib.hid (B3.out.trans (b4.mono B3.out.size))
  clear b4
  go_wp2_with fail
  refine (mkmark_any _ _).mono ?_
  rintro e w5 ⟨rfl, b5⟩
  have B5 := Lib.hid (B4.out.trans (b5.mono B4.out.size))
  clear b5
  go_wp2_with fail
  refine (mkmark_any _ _).mono ?_
  rintro e w6 ⟨rfl, b6⟩
  have B6 := Lib.hid (B5.out.trans (b6.mono B5.out.size))
  clear b6
  go_wp2_with fail
  refine (mkmark_any _ _).mono ?_
  rintro e w7 ⟨rfl, b7⟩
  have B7 := Lib.hid (B6.out.trans (b7.mono B6.out.size))
  clear b7
  go_wp2_with fail
  refine (lexis_any (L' := [⟨4, ⟨#[123]⟩, 0⟩, ⟨1, ⟨#[97]⟩, 1⟩, ⟨4, ⟨#[40]⟩, 2⟩, ⟨1, ⟨#[98]⟩, 3⟩, ⟨4, ⟨#[58]⟩, 4⟩, ⟨2, ⟨#[45, 49]⟩, 5⟩, ⟨4, ⟨#[41]⟩, 7⟩, ⟨4, ⟨#[125]⟩, 8⟩]) (L := [⟨4, ⟨#[123]⟩, 0⟩, ⟨1, ⟨#[97]⟩, 0⟩, ⟨4, ⟨#[40]⟩, 0⟩, ⟨1, ⟨#[98]⟩, 0⟩, ⟨4, ⟨#[58]⟩, 0⟩, ⟨2, ⟨#[45, 49]⟩, 0⟩, ⟨4, ⟨#[41]⟩, 0⟩, ⟨4, ⟨#[125]⟩, 0⟩]) (B := w7.heap.size) _ (HC.out.up (B7.out.alloc B7.out.size _)) (by decide) al_lex1 rfl ?_ (by simp) (by decide)).mono ?_
  · exact ⟨rfl, .inr ⟨w7.heap.size, 8, _, rfl, Nat.le_refl _, heap_alloc_new _ _, Nat.le_refl _, by decide, rfl, rfl⟩⟩
  rintro e w8 ⟨rfl, b8⟩
  have B8 := Lib.hid (B7.out.trans ((below_boxed0 b8).mono B7.out.size))
  clear b8
  go_wp2_with fail
  refine (mkname_any _ _).mono ?_
  rintro e w9 ⟨rfl, b9⟩
  have B9 := Lib.hid (B8.out.trans (b9.mono B8.out.size))
  clear b9
  go_wp2_with fail
  refine (lexis_any (L' := [⟨3, ⟨#[195, 169, 44]⟩, 0⟩, ⟨1, ⟨#[120]⟩, 11⟩]) (L := [⟨3, ⟨#[195, 169, 44]⟩, 0⟩, ⟨1, ⟨#[120]⟩, 0⟩]) (B := w9.heap.size) _ (HC.out.up (B9.out.alloc B9.out.size _)) (by decide) al_lex2 rfl ?_ (by simp) (by decide)).mono ?_
  · exact ⟨rfl, .inr ⟨w9.heap.size, 2, _, rfl, Nat.le_refl _, heap_alloc_new _ _, Nat.le_refl _, by decide, rfl, rfl⟩⟩
  rintro e w10 ⟨rfl, b10⟩
  have B10 := Lib.hid (B9.out.trans ((below_boxed0 b10).mono B9.out.size))
  clear b10
  go_wp2_with fail
  go_ret
  exact ⟨rfl, B10.out⟩
end Go.Proofs.Ytpiaofpglagfmaa
/- Layer 17, plain seat: what Lex needs of its callees, by the world's shape alone. -/
namespace Go.Proofs.Ytpiaofpglagfmaa
open Go.ChangeShapes Go.WideShapes Go.RowKit
theorem cell_u64 {v : Value} {t : TypeId} {P : Program} {w : World} {r : Reach} {base : Nat} (hu : P.underlying t = some (.int .u64)) (h : Cell.ok P w r base t v) : ∃ m, v = .int .u64 m := by
  unfold Cell.ok at h
  rw [hu] at h
  cases hv : v <;> rw [hv] at h <;> simp at h
  case int k' n => exact ⟨n, by rw [h.1]⟩
set_option maxRecDepth 100000 in
theorem limA_of {W : World} (h : W.ShapedOpen Try.prog) : Nm.LimA W := by
  obtain ⟨cs, hh, hs, hr⟩ := h.1 0 #[.int .u64 0, .int .u64 0] 96 (of_decide_eq_true (by kernel_rfl)) (by kernel_rfl)
  obtain ⟨ts, hts, _, hall⟩ := hr (by kernel_rfl)
  have hc : Try.prog.cellTypes Try.prog.depth 96 = some [90, 90] := by kernel_rfl
  rw [hc] at hts
  cases hts
  have h2 : cs.size = 2 := hs
  have ho : ∀ i (hi : i < 2), ∃ m, cs[i] = .int .u64 m := fun i hi => by
    obtain ⟨u, hu, hok⟩ := hall i cs[i] (by simp [h2, hi])
    have : u = 90 := by
      rcases (show i = 0 ∨ i = 1 by omega) with rfl | rfl <;> simpa using hu.symm
    subst this
    exact cell_u64 Try.underlying90 hok
  refine ⟨?_, ?_⟩
  · obtain ⟨m, hm⟩ := ho 0 (by decide)
    exact ⟨m, by rw [← hm]; simp [World.cell?, hh, h2]⟩
  · obtain ⟨m, hm⟩ := ho 1 (by decide)
    exact ⟨m, by rw [← hm]; simp [World.cell?, hh, h2]⟩
theorem maxLen_of {W : World} (h : W.ShapedOpen Try.prog) : ∃ m, W.cell? ⟨1, 0, none⟩ = some (.int .i64 m) :=
  cell_of_shapedOpen_int h (of_decide_eq_true (by kernel_rfl)) (t := 3) (zero := #[.int .i64 0]) (by kernel_rfl) rfl (by kernel_rfl) (by kernel_rfl) Try.underlying3
theorem limA_up {w w' : World} (l : Nm.LimA w) (hb : Below w.heap.size w w') : Nm.LimA w' := by
  obtain ⟨⟨c0, l0⟩, c1, l1⟩ := l
  exact ⟨⟨c0, by rw [hb.cell (World.block_lt_of_cell? _ _ l0)]; exact l0⟩, c1, by rw [hb.cell (World.block_lt_of_cell? _ _ l1)]; exact l1⟩
theorem lxc_q {W : World} (hs : W.ShapedOpen Try.prog) : LxC W :=
  ⟨fun V b x hx => lint_form x V (limA_up (limA_of hs) b) (by unfold maxLen; omega), fun V b x hb hx => Read_q x V hb (by unfold maxLen; omega), fun V b x hx => by
    obtain ⟨m, hm⟩ := maxLen_of hs
    have hcb : Lib.countB x ⟨#[9]⟩ ≤ x.size + 1 := Nat.le_succ_of_le (Lib.countB_le ⟨#[9]⟩ (by decide) x.size x (Nat.le_refl _))
    refine (Try.strings_ReplaceAll x ⟨#[9]⟩ ⟨#[92, 116]⟩ m V (by omega) ((b.cell (World.block_lt_of_cell? _ _ hm)).trans hm) (by decide) (by
      have : (⟨#[92, 116]⟩ : ByteArray).size = 2 := rfl
      rw [this]
      omega)).mono ?_
    rintro e w' ⟨rfl, bb⟩
    exact ⟨by rw [← rep_tab x], bb⟩⟩
theorem returns_shaped {H : Type} {enc : TypeId × Value → H} {a : Assume} {C : Checked} {os : Os} {f : FuncId} {fn : Func} {s : ChangeSpec} {conds : List PathCond} {apart fresh handsOn again : Bool}
    (own : ownKnob C.prog.godebug = none) (started : os.Started) (noInit : C.prog.inits.idxOf? f = none) (hfn : C.prog.funcs[f]? = some fn)
    (witness : ∃ (w : World) (tape : Tape) (i : Input), w.os = os ∧ (w.forCall tape i).Shaped C.prog ∧ i.vars = [] ∧ Input.okWide C.prog (w.forCall tape i) .any w.heap.size f i ∧
      s.pre6 enc C.prog fn conds apart (w.forCall tape i).memory i.args ∧ a.holds C.prog (lone (Frame.enter C.prog f i.args .normal) [] (w.forCall tape i)))
    (contract : ∀ (W : World) (base : Nat) (args : Array Value) (ds gs : List (DataW H)) (before : List MemPlace),
      (∀ (j : Nat) t v, fn.params[j]? = some t → args[j]? = some v → Value.okWide C.prog W .any base t v) →
      DataW.Whole enc C.prog fn.params.toList s.vars apart W args.toList ds gs before →
      conds.all (PathCond.test C.prog ⟨fn.params.toList, ds, s.plain.varTypes C.prog, gs⟩) = true → W.ShapedOpen C.prog →
      Calls C.prog f args W fun e W' => ∃ v, e = .returned v ∧ s.post enc C.prog fn apart fresh handsOn again W args v W') :
    ReturnsInHanded a C os f .any (s.pre6 enc C.prog fn conds apart) (s.post enc C.prog fn apart fresh handsOn again) := by
  refine returnsInHanded_of_calls own started noInit witness ?_
  intro w tape i _ hsh _ hok hpre hholds
  obtain ⟨_, _, _, fn', hfn', _, _, _, _, hval⟩ := hok
  have e : fn' = fn := Option.some.inj (hfn'.symm.trans hfn)
  subst e
  obtain ⟨⟨ds, gs, before, hw, hc⟩, _⟩ := hpre
  have hw' := DataW.Whole.of_heap (w' := w.forCall tape i) (by rfl) hw
  refine (contract (w.forCall tape i) w.heap.size i.args ds gs before hval hw' hc hsh).mono fun e W' ⟨v, he, hp⟩ => ?_
  subst he
  exact ChangeSpec.post_blind hp
end Go.Proofs.Ytpiaofpglagfmaa
/- Layer 17: LexBack. -/
namespace Go.Proofs.Ytpiaofpglagfmaa
open Go.RowKit Go.Maps
def gZ (g : Nat → TkR) (n i : Nat) : TkR := if i < n then g i else ⟨0, ⟨#[]⟩, 0⟩
theorem rw3_cong {g g' : Nat → TkR} : ∀ n, (∀ i, i < n → g i = g' i) → rw3 g n = rw3 g' n
  | 0, _ => rfl
  | n + 1, h => by
    show rw3 g n ++ _ = rw3 g' n ++ _
    rw [rw3_cong n (fun i hi => h i (by omega)), h n (by omega)]
theorem rw3_gZ (g : Nat → TkR) (n : Nat) : rw3 (gZ g n) (n + 1) = rw3 g n ++ [.int .u8 0, .string ⟨#[]⟩, .int .i64 0] := by
  show rw3 (gZ g n) n ++ [.int .u8 (gZ g n n).k, .string (gZ g n n).s, .int .i64 (gZ g n n).a] = _
  rw [rw3_cong (g := gZ g n) (g' := g) n (fun i hi => by unfold gZ; rw [if_pos hi])]
  unfold gZ
  rw [if_neg (Nat.lt_irrefl n)]
theorem gt_gZ (g : Nat → TkR) (n i : Nat) (hi : i < n + 1) : gt ((List.range n).map g ++ [(⟨0, ⟨#[]⟩, 0⟩ : TkR)]) i = gZ g n i := by
  unfold gt gZ
  rw [List.getD_eq_getElem?_getD]
  by_cases h : i < n
  · rw [if_pos h, List.getElem?_append_left (by simpa using h)]
    simp [h]
  · obtain rfl : i = n := by omega
    rw [if_neg h, List.getElem?_append_right (by simp)]
    simp
theorem back_core {g : Nat → TkR} {m : Nat} (hok : ∀ k, k < m → okT (g k) = true) (hk : ∀ k, k < m → (g k).k ≠ 0) (hsz : (jdW g m).size ≤ 16384) (hm : m ≤ 1024) : ∃ LM, lexM (jdW g m) = .ok LM ∧ LM.length = m + 1 ∧ ∀ i, i < m + 1 → (gt LM i).k = (gZ g m i).k ∧ (gt LM i).s = (gZ g m i).s := by
  obtain ⟨L', e1, e2⟩ := back_lex hok hk hsz hm
  have e : (L' ++ [(⟨0, ⟨#[]⟩, (jdW g m).size⟩ : TkR)]).map ksT = ((List.range m).map g ++ [(⟨0, ⟨#[]⟩, 0⟩ : TkR)]).map ksT := by
    rw [List.map_append, List.map_append, e2, List.map_map]
    rfl
  obtain ⟨h1, h2⟩ := ks_at e
  have hl : (L' ++ [(⟨0, ⟨#[]⟩, (jdW g m).size⟩ : TkR)]).length = m + 1 := by rw [h1]; simp
  refine ⟨_, e1, hl, fun i hi => ?_⟩
  have := h2 i (by omega)
  rw [gt_gZ g m i hi] at this
  exact this
theorem good_at {g : Nat → TkR} {n : Nat} (h : okAll g n = true) {i : Nat} (hi : i < n) : okT (g i) = true ∧ ((g i).k ≠ 0 ∨ n ≤ i + 1) := by
  have := List.all_eq_true.1 h i (List.mem_range.2 hi)
  unfold goodT at this
  simpa using this
theorem back_A {g : Nat → TkR} {n : Nat} (h : okAll g n = true) (hA : n = 0 ∨ (g (n - 1)).k ≠ 0) (hs : (jdW g n).size ≤ 16000) (hn : n ≤ 200) : ∃ LM, lexM (jdW g n) = .ok LM ∧ LM.length = n + 1 ∧ ∀ i, i < n + 1 → (gt LM i).k = (gZ g n i).k ∧ (gt LM i).s = (gZ g n i).s :=
  back_core (fun k hk => (good_at h hk).1) (fun k hk => by
    rcases (good_at h hk).2 with h1 | h1
    · exact h1
    · obtain rfl : k = n - 1 := by omega
      rcases hA with h2 | h2
      · omega
      · exact h2) (by omega) (by omega)
theorem end_txt {x : TkR} (h : okT x = true) (h0 : x.k = 0) : x.s = ⟨#[]⟩ := by
  unfold okT at h
  rw [if_pos h0] at h
  have h4 := List.isEmpty_iff.1 h
  apply ByteArray.ext
  rw [Lib.toList_data] at h4
  apply Array.ext'
  rw [h4]
theorem back_B {g : Nat → TkR} {k : Nat} (h : okAll g (k + 1) = true) (hB : (g k).k = 0) (hs : (jdW g (k + 1)).size ≤ 16000) (hn : k + 1 ≤ 200) : ∃ LM, lexM (jdW g (k + 1)) = .ok LM ∧ LM.length = k + 1 ∧ ∀ i, i < k + 1 → (gt LM i).k = (g i).k ∧ (gt LM i).s = (g i).s := by
  have hx := end_txt (good_at h (Nat.lt_succ_self k)).1 hB
  have ht : tellT (g k) = ⟨#[]⟩ := by
    unfold tellT
    rw [if_neg (by omega), hx]
  have hj : jdW g (k + 1) = jdW g k := by
    show (if 0 < k ∧ (g k).k ≠ 0 then jdW g k ++ ⟨#[32]⟩ else jdW g k) ++ tellT (g k) = _
    rw [if_neg (fun c => c.2 hB), ht, ba_nil]
  rw [hj] at hs ⊢
  obtain ⟨LM, e1, e2, e3⟩ := back_core (g := g) (m := k) (fun i hi => (good_at h (by omega)).1) (fun i hi => by
    rcases (good_at h (show i < k + 1 by omega)).2 with h1 | h1
    · exact h1
    · omega) (by omega) (by omega)
  refine ⟨LM, e1, e2, fun i hi => ?_⟩
  have := e3 i hi
  by_cases hik : i < k
  · unfold gZ at this
    rw [if_pos hik] at this
    exact this
  · obtain rfl : i = k := by omega
    unfold gZ at this
    rw [if_neg hik] at this
    rw [hB, hx]
    exact this
end Go.Proofs.Ytpiaofpglagfmaa
/- Layer 17, plain: what is read, in order. -/
namespace Go.Proofs.Ytpiaofpglagfmaa
open Go.RowKit Go.Maps
theorem tok_at {s : ByteArray} {a k : Nat} {t : TkR} (h : tokM s a = some (t, k)) : t.a = a ∧ (t.k = 1 ∨ t.k = 2 ∨ t.k = 3 ∨ t.k = 4) := by
  unfold tokM at h
  cases h1 : namR s a with
  | bad => rw [h1] at h; cases h
  | ok t' k' =>
    rw [h1] at h
    cases h
    unfold namR at h1
    split at h1
    · cases h1; exact ⟨rfl, .inl rfl⟩
    · cases h1
  | no =>
    rw [h1] at h
    cases h2 : intR s a with
    | bad => rw [h2] at h; cases h
    | ok t' k' =>
      rw [h2] at h
      cases h
      unfold intR at h2
      split at h2
      · split at h2
        · cases h2
        · cases h2; exact ⟨rfl, .inr (.inl rfl)⟩
      · cases h2
    | no =>
      rw [h2] at h
      cases h3 : txtR s a with
      | bad => rw [h3] at h; cases h
      | ok t' k' =>
        rw [h3] at h
        cases h
        unfold txtR at h3
        split at h3
        · unfold txt1 at h3
          split at h3
          · cases h3
          · unfold txt2 at h3
            split at h3
            · cases h3
            · split at h3
              · cases h3
              · cases h3; exact ⟨rfl, .inr (.inr (.inl rfl))⟩
        · cases h3
      | no =>
        rw [h3] at h
        cases h4 : mrkR s a with
        | bad => rw [h4] at h; cases h
        | no => rw [h4] at h; cases h
        | ok t' k' =>
          rw [h4] at h
          cases h
          unfold mrkR at h4
          split at h4
          · cases h4; exact ⟨rfl, .inr (.inr (.inr rfl))⟩
          · split at h4
            · cases h4; exact ⟨rfl, .inr (.inr (.inr rfl))⟩
            · cases h4
/-- Tokens that were read from a place on: each begins behind the one ahead. -/
def Toks (s : ByteArray) : Nat → List TkR → Prop
  | _, [] => True
  | i, t :: r => ∃ j k : Nat, i ≤ j ∧ j < k ∧ k ≤ s.size ∧ tokM s j = some (t, k) ∧ Toks s k r
theorem lexF_shape {s : ByteArray} : ∀ (n i : Nat) (L R : List TkR), i ≤ s.size → lexF s n i L = .ok R → ∃ M, R = L ++ M ++ [⟨0, ⟨#[]⟩, s.size⟩] ∧ Toks s i M ∧ M.length ≤ n := by
  intro n
  induction n with
  | zero =>
    intro i L R hi h
    rw [lexF_step0] at h
    split at h
    · cases h
    · split at h
      · rename_i e
        cases h
        exact ⟨[], by rw [e]; simp, trivial, Nat.le_refl _⟩
      · cases h
  | succ n ih =>
    intro i L R hi h
    obtain ⟨hb1, hb2⟩ := bk_le hi
    rw [lexF_step] at h
    split at h
    · cases h
    · split at h
      · rename_i e
        cases h
        exact ⟨[], by rw [e]; simp, trivial, Nat.zero_le _⟩
      · rename_i hne
        have hlt : (bk s i).1 < s.size := by omega
        cases ht : tokM s (bk s i).1 with
        | none => rw [ht] at h; cases h
        | some y =>
          obtain ⟨t, k⟩ := y
          rw [ht] at h
          obtain ⟨hk1, hk2⟩ := tok_ok hlt ht
          obtain ⟨M, e1, e2, e3⟩ := ih k (L ++ [t]) R hk2 h
          refine ⟨t :: M, ?_, ⟨(bk s i).1, k, hb1, hk1, hk2, ht, e2⟩, by simp; omega⟩
          rw [e1]
          simp
/-- What Lex reads: tokens in order, and the end behind them. -/
theorem lexM_shape {s : ByteArray} {R : List TkR} (h : lexM s = .ok R) : ckE s = 0 ∧ ∃ M, R = M ++ [⟨0, ⟨#[]⟩, s.size⟩] ∧ Toks s 0 M ∧ M.length ≤ 1024 := by
  unfold lexM at h
  split at h
  · cases h
  · rename_i h0
    obtain ⟨M, e1, e2, e3⟩ := lexF_shape 1024 0 [] R (Nat.zero_le _) h
    exact ⟨by omega, M, by rw [e1]; rfl, e2, e3⟩
/-- Their places rise, and lie ahead of the end. -/
theorem toks_at {s : ByteArray} : ∀ (M : List TkR) (i k : Nat), Toks s i M → k < M.length → (i : Int) ≤ (gt M k).a ∧ (gt M k).a < s.size ∧ (∀ k', k' < k → (gt M k').a < (gt M k).a) ∧ ((gt M k).k = 1 ∨ (gt M k).k = 2 ∨ (gt M k).k = 3 ∨ (gt M k).k = 4)
  | [], _, k, _, hk => absurd hk (Nat.not_lt_zero k)
  | t :: r, i, 0, h, _ => by
    obtain ⟨j, k, h1, h2, h3, h4, h5⟩ := h
    obtain ⟨ha, hk⟩ := tok_at h4
    have e : gt (t :: r) 0 = t := rfl
    rw [e, ha]
    exact ⟨by omega, by omega, fun k' hk' => absurd hk' (Nat.not_lt_zero k'), hk⟩
  | t :: r, i, n + 1, h, hn => by
    obtain ⟨j, k, h1, h2, h3, h4, h5⟩ := h
    obtain ⟨ha, _⟩ := tok_at h4
    have hn' : n < r.length := by simpa using hn
    obtain ⟨q1, q2, q3, q4⟩ := toks_at r k n h5 hn'
    have e : gt (t :: r) (n + 1) = gt r n := rfl
    rw [e]
    refine ⟨by omega, q2, fun k' hk' => ?_, q4⟩
    cases k' with
    | zero =>
      have e0 : gt (t :: r) 0 = t := rfl
      rw [e0, ha]
      omega
    | succ m =>
      have e0 : gt (t :: r) (m + 1) = gt r m := rfl
      rw [e0]
      exact q3 m (by omega)
end Go.Proofs.Ytpiaofpglagfmaa
/- Layer 17, plain: what is read may be. -/
namespace Go.Proofs.Ytpiaofpglagfmaa
open Go.RowKit Go.Maps
theorem wd_mem {s : ByteArray} : ∀ (n j : Nat), s.size - j ≤ n → ∀ k, j ≤ k → k < wd s j → wcI (byt s k) = true := by
  intro n
  induction n with
  | zero =>
    intro j hn k h1 h2
    by_cases h : wcI (byt s j) = true
    · have hj : j < s.size := byt_in (by intro e; rw [e] at h; exact absurd h (by decide))
      omega
    · rw [wd_stop (by simpa using h)] at h2
      omega
  | succ n ih =>
    intro j hn k h1 h2
    by_cases h : wcI (byt s j) = true
    · have hj : j < s.size := byt_in (by intro e; rw [e] at h; exact absurd h (by decide))
      by_cases hk : k = j
      · rw [hk]; exact h
      · rw [wd_step h] at h2
        exact ih (j + 1) (by omega) k (by omega) h2
    · rw [wd_stop (by simpa using h)] at h2
      omega
theorem nm_of {t : ByteArray} (h0 : 0 < t.size) (h1 : ltI (byt t 0) = true) (h2 : ∀ k, k < t.size → wcI (byt t k) = true) : nmB t = true := by
  rw [nm_iff]
  refine ⟨by omega, fun i hi => ?_⟩
  have e := byt_eq t i hi
  have hw := h2 i hi
  unfold okAt
  by_cases hi0 : i = 0
  · subst hi0
    rw [← e, ← ltI_eq] at h1
    rw [h1]
    rfl
  · unfold wcI at hw
    rw [← e, ← ltI_eq, ← dgI_eq] at hw
    simp [hi0]
    simpa using hw
theorem read_txt {t : ByteArray} {M : List CR} (h34 : byt t 0 = 34) (h : readM t = .ok M) : ckE t = 0 ∧ ∃ x, strM t 0 = .ok x ∧ (gl M 0).tx = mkB x.1 := by
  have hbl : bl t 0 = 0 := bl_stop (by rw [h34]; decide)
  unfold readM at h
  by_cases hc : ckE t = 0
  · rw [if_neg (by omega), hbl] at h
    unfold valM at h
    rw [h34, if_neg (by decide), if_neg (by rintro ⟨e, _⟩; rcases e with e | e <;> cases e), if_neg (by decide), if_neg (by decide), if_neg (by decide), if_pos rfl] at h
    cases hx : strM t 0 with
    | bad m => rw [hx] at h; cases h
    | ok x =>
      rw [hx] at h
      simp only [Rs.bind_ok] at h
      split at h
      · cases h
      · cases h
        exact ⟨hc, x, rfl, rfl⟩
  · rw [if_pos hc] at h
    cases h
theorem ck_tw {t : ByteArray} (h : ckE t = 0) : t.size ≤ 16384 ∧ Tw t 0 t.size := by
  refine ⟨ckE_size h, ?_⟩
  unfold ckE at h
  rw [if_neg (by have := ckE_size h; omega)] at h
  cases e : isTx t with
  | false => rw [e] at h; cases h
  | true => exact isTx_tw e
theorem txt_ck {T : ByteArray} {M : List CR} (hs : T.size ≤ 2000) (hf : byt T 0 = 34) (hr : readM T = .ok M) : ckE ((gl M 0).tx) = 0 := by
  obtain ⟨hck, x, hx, htx⟩ := read_txt hf hr
  obtain ⟨y, hy⟩ := ck_tw hck
  have hp := strM_pt hy hx
  obtain ⟨m, k⟩ := x
  have hl := strM_len hx
  have hok := strM_ok hx
  have ht := hp.1.tx
  dsimp only at htx ht
  rw [htx]
  unfold ckE
  rw [if_neg (by rw [mkB_size]; omega), ht]
  rfl
theorem tok_okT {s : ByteArray} {a k : Nat} {t : TkR} (ha : a < s.size) (hs : s.size ≤ 1000) (h : tokM s a = some (t, k)) : okT t = true := by
  unfold tokM at h
  cases h1 : namR s a with
  | bad => rw [h1] at h; cases h
  | ok t' k' =>
    rw [h1] at h
    cases h
    unfold namR at h1
    split at h1
    · rename_i hl
      cases h1
      obtain ⟨w1, w2⟩ := wd_range (s := s) s.size (a + 1) (by omega) (by omega)
      show nmB (s.extract a (wd s (a + 1))) = true
      obtain ⟨z, hz⟩ : ∃ z, wd s (a + 1) = a + z := ⟨wd s (a + 1) - a, by omega⟩
      have hm := wd_mem (s := s) s.size (a + 1) (by omega)
      rw [hz] at w1 w2 hm ⊢
      have hsz : (s.extract a (a + z)).size = z := by simp; omega
      refine nm_of (by omega) ?_ (fun j hj => ?_)
      · rw [byt_extract w2 0 (by omega)]
        exact hl
      · rw [byt_extract w2 j (by omega)]
        by_cases hj0 : j = 0
        · subst hj0
          rw [Nat.add_zero]
          unfold wcI
          rw [hl]
          rfl
        · exact hm (a + j) (by omega) (by omega)
    · cases h1
  | no =>
    rw [h1] at h
    cases h2 : intR s a with
    | bad => rw [h2] at h; cases h
    | ok t' k' =>
      rw [h2] at h
      cases h
      unfold intR at h2
      split at h2
      · split at h2
        · cases h2
        · rename_i hn
          cases h2
          show intB _ = true
          cases e : intB (s.extract a (dg s (a + 1))) with
          | true => rfl
          | false => exact absurd (.inr (.inr e)) hn
      · cases h2
    | no =>
      rw [h2] at h
      cases h3 : txtR s a with
      | bad => rw [h3] at h; cases h
      | ok t' k' =>
        rw [h3] at h
        cases h
        unfold txtR at h3
        split at h3
        · rename_i h34
          cases hq : quM s a with
          | none => rw [hq] at h3; cases h3
          | some n =>
            rw [hq] at h3
            obtain ⟨q1, q2⟩ := quM_ok hq
            have hf := tab_first (s := s) (a := a) (n := n) h34 (by omega) q2
            have hts := tabT_size (s.extract a n)
            have hxs : (s.extract a n).size ≤ s.size := ba_cut
            unfold txt1 at h3
            cases hr : readM (tabT (s.extract a n)) with
            | bad m => dsimp only at h3; rw [hr] at h3; cases h3
            | ok M =>
              dsimp only at h3
              rw [hr] at h3
              have hc := txt_ck (by omega) hf hr
              unfold txt2 at h3
              dsimp only at h3
              split at h3
              · cases h3
              · cases h3
                show (ckE ((gl M 0).tx) == 0) = true
                rw [hc]
                rfl
        · cases h3
      | no =>
        rw [h3] at h
        cases h4 : mrkR s a with
        | bad => rw [h4] at h; cases h
        | no => rw [h4] at h; cases h
        | ok t' k' =>
          rw [h4] at h
          cases h
          unfold mrkR at h4
          split at h4
          · cases h4
            show pmB ⟨#[46, 46, 46]⟩ = true
            exact mk_dots (by decide +kernel)
          · split at h4
            · rename_i hp
              cases h4
              exact hp
            · cases h4
end Go.Proofs.Ytpiaofpglagfmaa
/- Layer 17, plain: what stands behind a line's end counts for nothing for what stands ahead. -/
namespace Go.Proofs.Ytpiaofpglagfmaa
open Go.RowKit Go.Maps
/-- A text begins another; there its line ends. -/
structure Beg (a S : ByteArray) : Prop where
  lt : a.size < S.size
  same : ∀ j, j < a.size → byt S j = byt a j
  nl : byt S a.size = 10
  cut : ∀ i j, j ≤ a.size → S.extract i j = a.extract i j
theorem beg_of (a b : ByteArray) : Beg a (a ++ ⟨#[10]⟩ ++ b) := by
  have e1 : (a ++ ⟨#[10]⟩ ++ b).size = a.size + 1 + b.size := by
    rw [ByteArray.size_append, ByteArray.size_append]
    rfl
  have hb : bI (a ++ ⟨#[10]⟩ ++ b) = bI a ++ ([10] ++ bI b) := by
    rw [bI_app, bI_app, List.append_assoc]
    rfl
  have hin : ∀ j, j < a.size + 1 → byt (a ++ ⟨#[10]⟩ ++ b) j = (bI a ++ ([10] ++ bI b)).getD j 0 := fun j hj => by
    have h := bI_at (a ++ ⟨#[10]⟩ ++ b) j (by omega)
    rw [hb] at h
    rw [List.getD_eq_getElem?_getD, h]
    rfl
  refine ⟨by omega, fun j hj => ?_, ?_, fun i j hj => bI_inj ?_⟩
  · rw [hin j (by omega), List.getD_eq_getElem?_getD, List.getElem?_append_left (by rw [bI_len]; exact hj), bI_at a j hj]
    rfl
  · rw [hin _ (by omega), List.getD_eq_getElem?_getD, List.getElem?_append_right (by rw [bI_len]; exact Nat.le_refl _), bI_len, Nat.sub_self]
    rfl
  · rw [bI_extract, bI_extract, hb, List.take_append_of_le_length (by rw [bI_len]; exact hj)]
theorem Beg.wdE {a S : ByteArray} (h : Beg a S) : ∀ (n j : Nat), a.size - j ≤ n → j ≤ a.size → wd S j = wd a j := by
  intro n
  induction n with
  | zero =>
    intro j hn hj
    obtain rfl : j = a.size := by omega
    rw [wd_stop (s := a) (by rw [byt_end (Nat.le_refl _)]; rfl), wd_stop (s := S) (by rw [h.nl]; rfl)]
  | succ n ih =>
    intro j hn hj
    by_cases hjl : j < a.size
    · cases hw : wcI (byt a j) with
      | true => rw [wd_step (s := a) hw, wd_step (s := S) (by rw [h.same j hjl]; exact hw), ih (j + 1) (by omega) (by omega)]
      | false => rw [wd_stop (s := a) hw, wd_stop (s := S) (by rw [h.same j hjl]; exact hw)]
    · obtain rfl : j = a.size := by omega
      rw [wd_stop (s := a) (by rw [byt_end (Nat.le_refl _)]; rfl), wd_stop (s := S) (by rw [h.nl]; rfl)]
theorem Beg.dgE {a S : ByteArray} (h : Beg a S) : ∀ (n j : Nat), a.size - j ≤ n → j ≤ a.size → dg S j = dg a j := by
  intro n
  induction n with
  | zero =>
    intro j hn hj
    obtain rfl : j = a.size := by omega
    rw [dg_stop (s := a) (by rw [byt_end (Nat.le_refl _)]; rfl), dg_stop (s := S) (by rw [h.nl]; rfl)]
  | succ n ih =>
    intro j hn hj
    by_cases hjl : j < a.size
    · cases hw : isDg (byt a j) with
      | true => rw [dg_step (s := a) hw, dg_step (s := S) (by rw [h.same j hjl]; exact hw), ih (j + 1) (by omega) (by omega)]
      | false => rw [dg_stop (s := a) hw, dg_stop (s := S) (by rw [h.same j hjl]; exact hw)]
    · obtain rfl : j = a.size := by omega
      rw [dg_stop (s := a) (by rw [byt_end (Nat.le_refl _)]; rfl), dg_stop (s := S) (by rw [h.nl]; rfl)]
/-- A byte that is neither none nor a line's end stands in both alike. -/
theorem Beg.iff {a S : ByteArray} (h : Beg a S) {j : Nat} (hj : j ≤ a.size) (p : Int → Prop) (p0 : ¬ p 0) (p1 : ¬ p 10) : p (byt S j) ↔ p (byt a j) := by
  by_cases hjl : j < a.size
  · rw [h.same j hjl]
  · obtain rfl : j = a.size := by omega
    rw [h.nl, byt_end (Nat.le_refl _)]
    exact ⟨fun k => absurd k p1, fun k => absurd k p0⟩
theorem Beg.quFE {a S : ByteArray} (h : Beg a S) : ∀ (f f' j : Nat), j ≤ a.size → a.size - j + 1 ≤ f → S.size - j + 1 ≤ f' → quF S f' j = quF a f j := by
  intro f
  induction f with
  | zero => intro f' j hj hf; omega
  | succ f ih =>
    intro f' j hj hf hf'
    have hl := h.lt
    rw [quF_step (f := f + 1) (by omega), quF_step (f := f') (by omega)]
    by_cases hjl : j < a.size
    · rw [h.same j hjl, if_neg (show ¬ S.size ≤ j by omega), if_neg (show ¬ a.size ≤ j by omega)]
      by_cases c1 : byt a j = 34
      · rw [if_pos c1, if_pos c1]
      rw [if_neg c1, if_neg c1]
      by_cases c2 : byt a j = 92 ∧ 32 ≤ byt a (j + 1)
      · have hj1 : j + 1 < a.size := byt_in (by omega)
        rw [if_pos c2, if_pos ⟨c2.1, by rw [h.same _ hj1]; exact c2.2⟩]
        exact ih _ _ (by omega) (by omega) (by omega)
      rw [if_neg c2, if_neg (fun k => c2 ⟨k.1, (h.iff (j := j + 1) (by omega) (fun c => 32 ≤ c) (by decide) (by decide)).1 k.2⟩)]
      by_cases c3 : byt a j = 92 ∨ (byt a j < 32 ∧ byt a j ≠ 9)
      · rw [if_pos c3, if_pos c3]
      · rw [if_neg c3, if_neg c3]
        exact ih _ _ (by omega) (by omega) (by omega)
    · obtain rfl : j = a.size := by omega
      rw [h.nl, if_neg (by omega), if_neg (by decide), if_neg (fun k => absurd k.1 (by decide)), if_pos (.inr (by decide)), if_pos (Nat.le_refl _)]
theorem Beg.quME {a S : ByteArray} (h : Beg a S) {i : Nat} (hi : i < a.size) : quM S i = quM a i := by
  have hl := h.lt
  unfold Go.Proofs.Ytpiaofpglagfmaa.quM
  exact h.quFE _ _ _ (by omega) (by omega) (by omega)
theorem Beg.tok {a S : ByteArray} (h : Beg a S) {i : Nat} (hi : i < a.size) : tokM S i = tokM a i := by
  have e1 : namR S i = namR a i := by
    unfold namR
    have w := wd_range (s := a) _ (i + 1) (Nat.le_refl _) (by omega)
    rw [h.same i hi, h.wdE _ (i + 1) (Nat.le_refl _) (by omega), h.cut _ _ w.2]
  have e2 : intR S i = intR a i := by
    unfold intR
    have w := dg_le (s := a) (i := i + 1) (by omega)
    have q1 : (byt S (dg a (i + 1)) = 46 ∨ ltI (byt S (dg a (i + 1))) = true) ↔ (byt a (dg a (i + 1)) = 46 ∨ ltI (byt a (dg a (i + 1))) = true) := h.iff w (fun c => c = 46 ∨ ltI c = true) (by decide) (by decide)
    rw [h.same i hi, h.dgE _ (i + 1) (Nat.le_refl _) (by omega), h.cut _ _ w]
    by_cases c0 : byt a i = 45 ∨ isDg (byt a i) = true
    · rw [if_pos c0, if_pos c0]
      by_cases c1 : byt a (dg a (i + 1)) = 46 ∨ ltI (byt a (dg a (i + 1))) = true ∨ intB (a.extract i (dg a (i + 1))) = false
      · rw [if_pos c1, if_pos (by
          rcases c1 with k | k | k
          · exact (q1.2 (.inl k)).elim .inl (fun k => .inr (.inl k))
          · exact (q1.2 (.inr k)).elim .inl (fun k => .inr (.inl k))
          · exact .inr (.inr k))]
      · rw [if_neg c1, if_neg (by
          intro k
          apply c1
          rcases k with k | k | k
          · exact (q1.1 (.inl k)).elim .inl (fun k => .inr (.inl k))
          · exact (q1.1 (.inr k)).elim .inl (fun k => .inr (.inl k))
          · exact .inr (.inr k))]
    · rw [if_neg c0, if_neg c0]
  have e3 : txtR S i = txtR a i := by
    unfold txtR
    rw [h.same i hi, h.quME hi]
    by_cases c0 : byt a i = 34
    · rw [if_pos c0, if_pos c0]
      cases hq : quM a i with
      | none => rfl
      | some n =>
        have w := quM_ok hq
        have q := h.iff w.2 (fun c => c = 34) (by decide) (by decide)
        unfold txt1
        dsimp only
        rw [h.cut _ _ w.2]
        cases readM (tabT (a.extract i n)) with
        | bad m => rfl
        | ok M =>
          unfold txt2
          dsimp only
          by_cases c1 : (gl M 0).tx = ⟨#[]⟩ ∧ byt a n = 34
          · rw [if_pos c1, if_pos ⟨c1.1, q.2 c1.2⟩]
          · rw [if_neg c1, if_neg (fun k => c1 ⟨k.1, q.1 k.2⟩)]
    · rw [if_neg c0, if_neg c0]
  have e4 : mrkR S i = mrkR a i := by
    unfold mrkR
    rw [h.same i hi, h.cut _ _ (show i + 1 ≤ a.size by omega)]
    by_cases c0 : byt a i = 46 ∧ byt a (i + 1) = 46 ∧ byt a (i + 2) = 46
    · have h1 : i + 2 < a.size := byt_in (by omega)
      rw [if_pos c0, if_pos ⟨c0.1, by rw [h.same _ (by omega)]; exact c0.2.1, by rw [h.same _ h1]; exact c0.2.2⟩]
    · rw [if_neg c0, if_neg (fun k => c0 ?_)]
      have k1 := (h.iff (j := i + 1) (by omega) (fun c => c = 46) (by decide) (by decide)).1 k.2.1
      have h1 : i + 1 < a.size := byt_in (by omega)
      exact ⟨k.1, k1, (h.iff (j := i + 2) (by omega) (fun c => c = 46) (by decide) (by decide)).1 k.2.2⟩
  unfold tokM
  rw [e1, e2, e3, e4]
theorem Beg.bkFE {a S : ByteArray} (h : Beg a S) : ∀ (f f' j : Nat) (ins : Bool), j ≤ a.size → a.size - j + 1 ≤ f → S.size - j + 1 ≤ f' → (bkF a f j ins).1 < a.size → bkF S f' j ins = bkF a f j ins := by
  intro f
  induction f with
  | zero => intro f' j ins hj hf; omega
  | succ f ih =>
    intro f' j ins hj hf hf' hlt
    have hl := h.lt
    rw [bkF_step (f := f + 1) (by omega)] at hlt
    rw [bkF_step (f := f + 1) (by omega), bkF_step (f := f') (by omega)]
    by_cases hjl : j < a.size
    · rw [if_neg (by omega)] at hlt
      rw [h.same j hjl, if_neg (show ¬ S.size ≤ j by omega), if_neg (show ¬ a.size ≤ j by omega)]
      by_cases c1 : byt a j = 10 ∨ byt a j = 13
      · rw [if_pos c1] at hlt
        rw [if_pos c1, if_pos c1]
        exact ih _ _ _ (by omega) (by omega) (by omega) hlt
      rw [if_neg c1] at hlt
      rw [if_neg c1, if_neg c1]
      by_cases c2 : ins = true ∧ byt a j < 32 ∧ byt a j ≠ 9
      · rw [if_pos c2, if_pos c2]
      rw [if_neg c2] at hlt
      rw [if_neg c2, if_neg c2]
      by_cases c3 : ins = true ∨ byt a j = 32 ∨ byt a j = 9 ∨ byt a j = 44
      · rw [if_pos c3] at hlt
        rw [if_pos c3, if_pos c3]
        exact ih _ _ _ (by omega) (by omega) (by omega) hlt
      rw [if_neg c3] at hlt
      rw [if_neg c3, if_neg c3]
      by_cases c4 : byt a j = 35
      · rw [if_pos c4] at hlt
        rw [if_pos c4, if_pos c4]
        exact ih _ _ _ (by omega) (by omega) (by omega) hlt
      rw [if_neg c4] at hlt
      rw [if_neg c4, if_neg c4]
      by_cases c5 : byt a j = 239 ∧ byt a (j + 1) = 187 ∧ byt a (j + 2) = 191
      · have h2 : j + 2 < a.size := byt_in (by omega)
        rw [if_pos c5] at hlt
        rw [if_pos c5, if_pos ⟨c5.1, by rw [h.same _ (by omega)]; exact c5.2.1, by rw [h.same _ h2]; exact c5.2.2⟩]
        exact ih _ _ _ (by omega) (by omega) (by omega) hlt
      · rw [if_neg c5, if_neg (fun k => c5 ?_)]
        have k1 := (h.iff (j := j + 1) (by omega) (fun c => c = 187) (by decide) (by decide)).1 k.2.1
        have h1 : j + 1 < a.size := byt_in (by omega)
        exact ⟨k.1, k1, (h.iff (j := j + 2) (by omega) (fun c => c = 191) (by decide) (by decide)).1 k.2.2⟩
    · rw [if_pos (by omega)] at hlt
      exact absurd hlt (by dsimp only; omega)
theorem Beg.bkE {a S : ByteArray} (h : Beg a S) {j : Nat} (hj : j ≤ a.size) (hlt : (bk a j).1 < a.size) : bk S j = bk a j := h.bkFE _ _ _ _ hj (by omega) (by omega) hlt
theorem bkF_broken {s : ByteArray} : ∀ (f j : Nat) (ins : Bool), (bkF s f j ins).2 = true → (bkF s f j ins).1 < s.size
  | 0, j, ins, h => by cases h
  | f + 1, j, ins, h => by
    unfold bkF at h ⊢
    by_cases c0 : s.size ≤ j
    · rw [if_pos c0] at h; cases h
    rw [if_neg c0] at h ⊢
    by_cases c1 : byt s j = 10 ∨ byt s j = 13
    · rw [if_pos c1] at h ⊢; exact bkF_broken _ _ _ h
    rw [if_neg c1] at h ⊢
    by_cases c2 : ins = true ∧ byt s j < 32 ∧ byt s j ≠ 9
    · rw [if_pos c2]; dsimp only; omega
    rw [if_neg c2] at h ⊢
    by_cases c3 : ins = true ∨ byt s j = 32 ∨ byt s j = 9 ∨ byt s j = 44
    · rw [if_pos c3] at h ⊢; exact bkF_broken _ _ _ h
    rw [if_neg c3] at h ⊢
    by_cases c4 : byt s j = 35
    · rw [if_pos c4] at h ⊢; exact bkF_broken _ _ _ h
    rw [if_neg c4] at h ⊢
    by_cases c5 : byt s j = 239 ∧ byt s (j + 1) = 187 ∧ byt s (j + 2) = 191
    · rw [if_pos c5] at h ⊢; exact bkF_broken _ _ _ h
    · rw [if_neg c5] at h; cases h
theorem Beg.bad {a S : ByteArray} (h : Beg a S) : ∀ (n i : Nat) (L L' : List TkR) (p : Nat) (m : Int), i ≤ a.size → lexF a n i L = .bad p m → lexF S n i L' = .bad p m := by
  intro n
  induction n with
  | zero =>
    intro i L L' p m hi hb
    have hl := h.lt
    have hle := bk_le hi
    rw [lexF_step0] at hb
    rw [lexF_step0]
    by_cases c0 : (bk a i).2 = true
    · rw [if_pos c0] at hb
      rw [h.bkE hi (bkF_broken _ _ _ c0), if_pos c0]
      exact hb
    rw [if_neg c0] at hb
    by_cases c1 : (bk a i).1 = a.size
    · rw [if_pos c1] at hb; cases hb
    · rw [if_neg c1] at hb
      rw [h.bkE hi (by omega), if_neg c0, if_neg (by omega)]
      exact hb
  | succ n ih =>
    intro i L L' p m hi hb
    have hl := h.lt
    have hle := bk_le hi
    rw [lexF_step] at hb
    rw [lexF_step]
    by_cases c0 : (bk a i).2 = true
    · rw [if_pos c0] at hb
      rw [h.bkE hi (bkF_broken _ _ _ c0), if_pos c0]
      exact hb
    rw [if_neg c0] at hb
    by_cases c1 : (bk a i).1 = a.size
    · rw [if_pos c1] at hb; cases hb
    · rw [if_neg c1] at hb
      rw [h.bkE hi (by omega), if_neg c0, if_neg (by omega), h.tok (by omega)]
      cases ht : tokM a (bk a i).1 with
      | none => rw [ht] at hb; exact hb
      | some y =>
        rw [ht] at hb
        have hk := tok_ok (t := y.1) (k := y.2) (by omega) ht
        exact ih _ _ _ _ _ hk.2 hb
theorem lexF_more {s : ByteArray} : ∀ (n i : Nat) (L R : List TkR), lexF s n i L = .ok R → ∃ T, R = L ++ T ∧ T ≠ [] := by
  intro n
  induction n with
  | zero =>
    intro i L R h
    rw [lexF_step0] at h
    split at h
    · cases h
    split at h
    · cases h; exact ⟨_, rfl, by simp⟩
    · cases h
  | succ n ih =>
    intro i L R h
    rw [lexF_step] at h
    split at h
    · cases h
    split at h
    · cases h; exact ⟨_, rfl, by simp⟩
    · cases ht : tokM s (bk s i).1 with
      | none => rw [ht] at h; cases h
      | some y =>
        rw [ht] at h
        obtain ⟨T, e, _⟩ := ih _ _ _ h
        exact ⟨y.1 :: T, by rw [e]; simp, by simp⟩
theorem Beg.ok {a S : ByteArray} (h : Beg a S) : ∀ (n i : Nat) (L R R' : List TkR), i ≤ a.size → lexF a n i L = .ok R → lexF S n i L = .ok R' → ∃ M T e, R = M ++ [e] ∧ R' = M ++ T ∧ T ≠ [] := by
  intro n
  induction n with
  | zero =>
    intro i L R R' hi hb hb'
    rw [lexF_step0] at hb
    obtain ⟨T, e, hT⟩ := lexF_more _ _ _ _ hb'
    split at hb
    · cases hb
    split at hb
    · cases hb; exact ⟨L, T, _, rfl, e, hT⟩
    · cases hb
  | succ n ih =>
    intro i L R R' hi hb hb'
    have hl := h.lt
    have hle := bk_le hi
    rw [lexF_step] at hb
    by_cases c0 : (bk a i).2 = true
    · rw [if_pos c0] at hb; cases hb
    rw [if_neg c0] at hb
    by_cases c1 : (bk a i).1 = a.size
    · rw [if_pos c1] at hb
      cases hb
      obtain ⟨T, e, hT⟩ := lexF_more _ _ _ _ hb'
      exact ⟨L, T, _, rfl, e, hT⟩
    · rw [if_neg c1] at hb
      rw [lexF_step, h.bkE hi (by omega), if_neg c0, if_neg (by omega), h.tok (by omega)] at hb'
      cases ht : tokM a (bk a i).1 with
      | none => rw [ht] at hb; cases hb
      | some y =>
        rw [ht] at hb hb'
        have hk := tok_ok (t := y.1) (k := y.2) (by omega) ht
        exact ih _ _ _ _ hk.2 hb hb'
theorem conts_at {s : ByteArray} {a : Nat} : ∀ {k j : Nat}, conts s a k = true → j < k → 128 ≤ byt s (a + j)
  | 0, j, _, h => by omega
  | k + 1, j, hc, h => by
    simp only [conts, Bool.and_eq_true, decide_eq_true_eq] at hc
    by_cases e : j = k
    · rw [e]; exact hc.2.2.1
    · exact conts_at hc.1 (by omega)
theorem Beg.tw {a S : ByteArray} (h : Beg a S) {i n : Nat} (ht : Tw S i n) (hn : n = S.size) : i ≤ a.size → Tw a i a.size := by
  induction ht with
  | nil i =>
    intro hi
    have := h.lt
    omega
  | step h1 h2 _ ih =>
    rename_i i b _
    intro hi
    by_cases he : i = a.size
    · rw [he]; exact .nil _
    have hia : i < a.size := by omega
    obtain ⟨d1, d2⟩ := decIs_lead h2
    have hle : i + leadN (byt S i) ≤ a.size := by
      by_cases hc : i + leadN (byt S i) ≤ a.size
      · exact hc
      · exfalso
        have := conts_at (j := a.size - (i + 1)) d2 (by omega)
        rw [show i + 1 + (a.size - (i + 1)) = a.size by omega, h.nl] at this
        exact absurd this (by decide)
    have hcut : S.extract 0 a.size = a := by rw [h.cut 0 a.size (Nat.le_refl _)]; exact ByteArray.extract_zero_size
    have hd := dec_cut (s := S) (a := i) (e := a.size) (Nat.le_of_lt h.lt) hle d1
    rw [hcut, h2] at hd
    refine .step hia hd ?_
    rw [← h.same i hia]
    exact ih hn hle
theorem Beg.ck {a S : ByteArray} (h : Beg a S) (ha : a.size ≤ 16384) (hc : ckE S = 0) : ckE a = 0 := by
  have ht := h.tw (ck_tw hc).2 rfl (Nat.zero_le _)
  unfold ckE
  rw [if_neg (by omega), if_pos]
  exact ht.tx rfl _ (by omega)
/-- What the law asks, where the first is no text of tokens. -/
theorem begin_bad {a S : ByteArray} (h : Beg a S) (ha : a.size ≤ 16384) {p : Nat} {m : Int} (hb : lexM a = .bad p m) : ∃ p' m', lexM S = .bad p' m' := by
  unfold lexM at hb ⊢
  by_cases c : ckE S = 0
  · rw [if_neg (by rw [h.ck ha c]; exact fun k => k rfl)] at hb
    rw [if_neg (by rw [c]; exact fun k => k rfl)]
    exact ⟨p, m, h.bad _ _ _ _ _ _ (Nat.zero_le _) hb⟩
  · rw [if_pos c]
    exact ⟨_, _, rfl⟩
/-- What it asks where both are. -/
theorem begin_ok {a S : ByteArray} (h : Beg a S) {R R' : List TkR} (hb : lexM a = .ok R) (hb' : lexM S = .ok R') : ∃ m, R.length = m + 1 ∧ m + 1 ≤ R'.length ∧ ∀ k, k < m → gt R' k = gt R k := by
  unfold lexM at hb hb'
  split at hb
  · cases hb
  split at hb'
  · cases hb'
  obtain ⟨M, T, e, rfl, rfl, hT⟩ := h.ok _ _ _ _ _ (Nat.zero_le _) hb hb'
  refine ⟨M.length, by simp, ?_, fun k hk => ?_⟩
  · cases T with
    | nil => exact absurd rfl hT
    | cons x r => simp
  · unfold gt
    rw [List.getD_eq_getElem?_getD, List.getD_eq_getElem?_getD, List.getElem?_append_left hk, List.getElem?_append_left hk]
theorem own_cap {B : Nat} {w : World} {a : Option Addr} {n c : Nat} {L : List TkR} (h : OwT B w (.slice a n c) L) : L.length ≤ c ∧ c ≤ maxLen := by
  rcases h.2 with ⟨e, hn⟩ | ⟨g, cap, cur, e, hb, hg, h1, h2, h3, h4⟩
  · cases e
    exact ⟨by omega, by unfold maxLen; omega⟩
  · cases e
    exact ⟨h1, h2⟩
theorem lexF_bad {s : ByteArray} : ∀ (n i : Nat) (L : List TkR) (p : Nat) (m : Int), lexF s n i L = .bad p m → m ≠ 0 := by
  intro n
  induction n with
  | zero =>
    intro i L p m h
    rw [lexF_step0] at h
    split at h
    · cases h; decide
    · split at h
      · cases h
      · cases h; decide
  | succ n ih =>
    intro i L p m h
    rw [lexF_step] at h
    split at h
    · cases h; decide
    · split at h
      · cases h
      · cases ht : tokM s (bk s i).1 with
        | none => rw [ht] at h; cases h; decide
        | some y => rw [ht] at h; exact ih _ _ _ _ h
theorem lexM_bad {s : ByteArray} {p : Nat} {m : Int} (h : lexM s = .bad p m) : m ≠ 0 := by
  unfold lexM at h
  split at h
  · rename_i h0
    cases h
    exact h0
  · exact lexF_bad _ _ _ _ _ h
end Go.Proofs.Ytpiaofpglagfmaa
/- Layer 17, plain seat: the examples of LexNames (plain). -/
namespace Go.Proofs.Ytpiaofpglagfmaa
open Go.RowKit Go.Maps
theorem nl_1 : lexM ⟨#[48, 49]⟩ = .bad 0 170 := by kernel_rfl
theorem nl_2 : lexM ⟨#[49, 46, 53]⟩ = .bad 0 170 := by kernel_rfl
theorem nl_3 : lexM ⟨#[49, 97]⟩ = .bad 0 170 := by kernel_rfl
theorem nl_4 : lexM ⟨#[46, 46]⟩ = .bad 0 170 := by kernel_rfl
theorem nl_5 : lexM ⟨#[34, 97]⟩ = .bad 0 170 := by kernel_rfl
theorem nl_6 : lexM ⟨#[34, 34, 34, 34]⟩ = .bad 0 170 := by kernel_rfl
theorem nl_7 : lexM ⟨#[97, 32, 63]⟩ = .bad 2 170 := by kernel_rfl
theorem nl_8 : lexM ⟨#[35, 1]⟩ = .bad 1 170 := by kernel_rfl
theorem nl_9 : lexM ⟨#[255]⟩ = .bad 0 10 := by kernel_rfl
theorem nl_e : lexM ⟨#[]⟩ = .ok ([] ++ [⟨0, ⟨#[]⟩, 0⟩]) := by kernel_rfl
theorem nl_m : lexM ⟨#[239, 187, 191, 32, 97, 9, 34, 9, 34, 46, 46, 46]⟩ = .ok ([⟨1, ⟨#[97]⟩, 4⟩, ⟨3, ⟨#[9]⟩, 6⟩, ⟨4, ⟨#[46, 46, 46]⟩, 9⟩] ++ [⟨0, ⟨#[]⟩, 12⟩]) := by kernel_rfl
theorem nl_n1 : nmB ⟨#[95, 97, 49]⟩ = true := by kernel_rfl
theorem nl_n2 : nmB ⟨#[49, 97]⟩ = false := by kernel_rfl
/-! ### Many tokens -/
def mny : Nat → ByteArray
  | 0 => ⟨#[]⟩
  | k + 1 => mny k ++ ⟨#[97, 32]⟩
theorem mny_bI (k : Nat) : bI (mny (k + 1)) = bI (mny k) ++ [97, 32] := by
  show bI (mny k ++ ⟨#[97, 32]⟩) = _
  rw [bI_app]
  rfl
theorem mny_size : ∀ k, (mny k).size = 2 * k
  | 0 => rfl
  | k + 1 => by
    have h := mny_size k
    rw [← bI_len, mny_bI, List.length_append, bI_len, h]
    show 2 * k + 2 = 2 * (k + 1)
    omega
theorem mny_at : ∀ (K k : Nat), k < K → byt (mny K) (2 * k) = 97 ∧ byt (mny K) (2 * k + 1) = 32
  | 0, k, h => by omega
  | K + 1, k, h => by
    have z := mny_size (K + 1)
    have z0 := mny_size K
    have g : ∀ j, j < 2 * (K + 1) → byt (mny (K + 1)) j = (bI (mny K) ++ [97, 32]).getD j 0 := fun j hj => by
      have q := bI_at (mny (K + 1)) j (by omega)
      rw [mny_bI] at q
      rw [List.getD_eq_getElem?_getD, q]
      rfl
    by_cases hk : k < K
    · obtain ⟨i1, i2⟩ := mny_at K k hk
      have f : ∀ j, j < 2 * K → byt (mny (K + 1)) j = byt (mny K) j := fun j hj => by
        rw [g j (by omega), List.getD_eq_getElem?_getD, List.getElem?_append_left (by rw [bI_len]; omega), bI_at (mny K) j (by omega)]
        rfl
      rw [f _ (by omega), f _ (by omega)]
      exact ⟨i1, i2⟩
    · obtain rfl : k = K := by omega
      rw [g _ (by omega), g _ (by omega), List.getD_eq_getElem?_getD, List.getD_eq_getElem?_getD, List.getElem?_append_right (by rw [bI_len]; omega), List.getElem?_append_right (by rw [bI_len]; omega), bI_len, z0, Nat.sub_self, show 2 * k + 1 - 2 * k = 1 by omega]
      exact ⟨rfl, rfl⟩
theorem mny_asc : ∀ K, ∀ c ∈ bI (mny K), c < 128
  | 0, c, h => by cases h
  | K + 1, c, h => by
    rw [mny_bI, List.mem_append] at h
    rcases h with h | h
    · exact mny_asc K c h
    · simp at h
      rcases h with rfl | rfl <;> decide
theorem mny_ck {K : Nat} (h : K ≤ 2000) : ckE (mny K) = 0 := by
  have z := mny_size K
  have t := tw_asc (mny_asc K) (at_all (mny K))
  rw [bI_len, Nat.zero_add] at t
  unfold ckE
  rw [if_neg (by omega), if_pos]
  exact t.tx rfl _ (by omega)
theorem mny_cut (K : Nat) : (mny (K + 1)).extract 0 (2 * K) = mny K := by
  apply bI_inj
  rw [bI_extract, List.drop_zero, mny_bI, List.take_left' (by rw [bI_len, mny_size])]
theorem lexF_from {s : ByteArray} {i j : Nat} (h : bk s i = bk s j) : ∀ (n : Nat) (L : List TkR), lexF s n i L = lexF s n j L
  | 0, L => by rw [lexF_step0, lexF_step0, h]
  | n + 1, L => by rw [lexF_step, lexF_step, h]
theorem mny_bk {K k : Nat} (h : k < K) : bk (mny K) (2 * k) = (2 * k, false) := by
  have z := mny_size K
  exact bk_here (by omega) (by rw [(mny_at K k h).1]; exact nbl_of (by decide) (by decide))
theorem mny_bk2 {K k : Nat} (h : k < K) : bk (mny K) (2 * k + 1) = bk (mny K) (2 * (k + 1)) := by
  have z := mny_size K
  exact bk_sp (by omega) (.inl (mny_at K k h).2)
theorem mny_tok {K k : Nat} (h : k < K) : tokM (mny K) (2 * k) = some (⟨1, (mny K).extract (2 * k) (2 * k + 1), (2 * k : Nat)⟩, 2 * k + 1) := by
  obtain ⟨h1, h2⟩ := mny_at K k h
  have e : namR (mny K) (2 * k) = .ok ⟨1, (mny K).extract (2 * k) (2 * k + 1), (2 * k : Nat)⟩ (2 * k + 1) := by
    unfold namR
    rw [if_pos (by rw [h1]; decide), wd_stop (by rw [h2]; decide)]
  unfold tokM
  rw [e]
  rfl
theorem mny_ok {K : Nat} : ∀ (n k : Nat) (L : List TkR), k ≤ K → K - k ≤ n → ∃ R, lexF (mny K) n (2 * k) L = .ok R ∧ R.length = L.length + (K - k) + 1 := by
  have z := mny_size K
  intro n
  induction n with
  | zero =>
    intro k L hk hn
    obtain rfl : k = K := by omega
    rw [lexF_step0, ← z, bk_end, if_neg (fun e => by cases e), if_pos rfl]
    exact ⟨_, rfl, by simp⟩
  | succ n ih =>
    intro k L hk hn
    by_cases hlt : k < K
    · rw [lexF_step, mny_bk hlt, if_neg (fun e => by cases e), if_neg (by show ¬ 2 * k = (mny K).size; omega)]
      show ∃ R, lexK (2 * k) (tokM (mny K) (2 * k)) _ = .ok R ∧ _
      rw [mny_tok hlt]
      show ∃ R, lexF (mny K) n (2 * k + 1) _ = .ok R ∧ _
      rw [lexF_from (mny_bk2 hlt)]
      obtain ⟨R, e1, e2⟩ := ih (k + 1) (L ++ [⟨1, (mny K).extract (2 * k) (2 * k + 1), (2 * k : Nat)⟩]) hlt (by omega)
      refine ⟨R, e1, ?_⟩
      rw [e2]
      simp
      omega
    · obtain rfl : k = K := by omega
      rw [lexF_step, ← z, bk_end, if_neg (fun e => by cases e), if_pos rfl]
      exact ⟨_, rfl, by simp⟩
theorem mny_bad {K : Nat} : ∀ (n k : Nat) (L : List TkR), n < K - k → lexF (mny K) n (2 * k) L = .bad (2 * (k + n)) 171 := by
  have z := mny_size K
  intro n
  induction n with
  | zero =>
    intro k L hn
    rw [lexF_step0, mny_bk (by omega), if_neg (fun e => by cases e), if_neg (by show ¬ 2 * k = (mny K).size; omega)]
    rfl
  | succ n ih =>
    intro k L hn
    rw [lexF_step, mny_bk (by omega), if_neg (fun e => by cases e), if_neg (by show ¬ 2 * k = (mny K).size; omega)]
    show lexK (2 * k) (tokM (mny K) (2 * k)) _ = _
    rw [mny_tok (by omega)]
    show lexF (mny K) n (2 * k + 1) _ = _
    rw [lexF_from (mny_bk2 (by omega)), ih (k + 1) _ (by omega), show k + 1 + n = k + (n + 1) by omega]
theorem mny_full : ∃ R, lexM (mny 1024) = .ok R ∧ R.length = 1025 := by
  unfold lexM
  rw [if_neg (by rw [mny_ck (by decide)]; exact fun k => k rfl)]
  exact mny_ok 1024 0 [] (by decide) (by decide)
theorem mny_over : lexM (mny 1025) = .bad 2048 171 := by
  unfold lexM
  rw [if_neg (by rw [mny_ck (by decide)]; exact fun k => k rfl)]
  exact mny_bad 1024 0 [] (by decide)
end Go.Proofs.Ytpiaofpglagfmaa
/- Layer 17, plain seat: LexNames, the walk. -/
namespace Go.Proofs.Ytpiaofpglagfmaa
open Go.RowKit Go.Maps
set_option maxRecDepth 20000 in
set_option maxHeartbeats 4000000 in
theorem fails17_any {s : ByteArray} {p : Nat} {m : Int} (w : World) (hc : LxC w) (hs : s.size ≤ 1000000) (hl : lexM s = .bad p m) : Calls Try.prog 5 #[.string s, .int .i64 m, .int .i64 p] w fun e w' => e = .returned (.bool true) ∧ Below w.heap.size w w' := by
  have HX := Lib.hid (lex_any s w hc hs)
  rw [hl] at HX
  have HX1 : Hid (Calls Try.prog 6 #[.string s] w fun e w' => Below w.heap.size w w' ∧ e = .returned (.tuple #[.slice none 0 0, .int .i64 p, .int .i64 m])) := HX
  clear HX hl hc
  go_enter Try.func5, Try.ntmps5
  go_wp2_with fail
  refine HX1.out.mono ?_
  rintro e w1 ⟨b1, rfl⟩
  have B1 := Lib.hid b1
  clear b1
  go_wp2_with fail
  go_ret
  exact ⟨rfl, B1.out⟩
set_option maxRecDepth 20000 in
set_option maxHeartbeats 8000000 in
theorem lexnames_walk (w : World) (hs : w.ShapedOpen Try.prog) : Calls Try.prog 3 #[] w fun e w' => e = .returned (.bool true) ∧ Below w.heap.size w w' := by
  have HC := Lib.hid (lxc_q hs)
  clear hs
  have B0 : Hid (Below w.heap.size w w) := Lib.hid (Below.refl _ _)
  go_enter Try.func3, Try.ntmps3
  go_wp2_with fail
  refine (fails17_any (p := 0) (m := 170) _ (HC.out.up B0.out) (by decide) nl_1).mono ?_
  rintro e w1 ⟨rfl, b1⟩
  have B1 := Lib.hid (B0.out.trans (b1.mono B0.out.size))
  clear b1
  go_wp2_with fail
  refine (fails17_any (p := 0) (m := 170) _ (HC.out.up B1.out) (by decide) nl_2).mono ?_
  rintro e w2 ⟨rfl, b2⟩
  have B2 := Lib.hid (B1.out.trans (b2.mono B1.out.size))
  clear b2
  go_wp2_with fail
  refine (fails17_any (p := 0) (m := 170) _ (HC.out.up B2.out) (by decide) nl_3).mono ?_
  rintro e w3 ⟨rfl, b3⟩
  have B3 := Lib.hid (B2.out.trans (b3.mono B2.out.size))
  clear b3
  go_wp2_with fail
  refine (fails17_any (p := 0) (m := 170) _ (HC.out.up B3.out) (by decide) nl_4).mono ?_
  rintro e w4 ⟨rfl, b4⟩
  have B4 := Lib.hid (B3.out.trans (b4.mono B3.out.size))
  clear b4
  go_wp2_with fail
  refine (fails17_any (p := 0) (m := 170) _ (HC.out.up B4.out) (by decide) nl_5).mono ?_
  rintro e w5 ⟨rfl, b5⟩
  have B5 := Lib.hid (B4.out.trans (b5.mono B4.out.size))
  clear b5
  go_wp2_with fail
  refine (fails17_any (p := 0) (m := 170) _ (HC.out.up B5.out) (by decide) nl_6).mono ?_
  rintro e w6 ⟨rfl, b6⟩
  have B6 := Lib.hid (B5.out.trans (b6.mono B5.out.size))
  clear b6
  go_wp2_with fail
  refine (fails17_any (p := 2) (m := 170) _ (HC.out.up B6.out) (by decide) nl_7).mono ?_
  rintro e w7 ⟨rfl, b7⟩
  have B7 := Lib.hid (B6.out.trans (b7.mono B6.out.size))
  clear b7
  go_wp2_with fail
  refine (fails17_any (p := 1) (m := 170) _ (HC.out.up B7.out) (by decide) nl_8).mono ?_
  rintro e w8 ⟨rfl, b8⟩
  have B8 := Lib.hid (B7.out.trans (b8.mono B7.out.size))
  clear b8
  go_wp2_with fail
  go_loopw [2, 3] (fun v2 v3 wr => ∃ i : Nat, i ≤ 1025 ∧ v3 = .int .i64 i ∧ v2 = .string (mny i) ∧ wr = w8) (fun _ v3 _ => 1025 - (intOf v3).toNat)
  case atStart => exact ⟨0, by decide, rfl, rfl, rfl⟩
  case round =>
    obtain ⟨i, hi, rfl, rfl, rfl⟩ := hrel
    have hz := mny_size i
    by_cases hin : i < 1025
    · have hii : (i : Int) < 1025 := by omega
      have hn1 : ¬ (9223372036854775807 < (mny i).size + 2) := by omega
      go_wp2_with fail
      go_roundw
      case rel => exact ⟨i + 1, by omega, by go_num, rfl, trivial⟩
      case measure => (simp [intOf]; omega)
    · obtain rfl : i = 1025 := by omega
      have HS := Lib.hid (mny_cut 1024)
      have HO := Lib.hid mny_over
      obtain ⟨S, hS⟩ : ∃ S, S = mny 1025 := ⟨_, rfl⟩
      rw [← hS] at hz HS HO ⊢
      have HS2 : Hid (S.extract 0 2048 = mny 1024) := HS
      clear hS HS
      have hsz : (S.size : Int) = 2050 := by omega
      have hsz2 : S.size = 2050 := by omega
      obtain ⟨R, hR, hlen⟩ := mny_full
      obtain ⟨T, hT⟩ : ∃ T, T = mny 1024 := ⟨_, rfl⟩
      have HTZ : Hid (T.size ≤ 1000000) := Lib.hid (by rw [hT, mny_size]; decide)
      rw [← hT] at HS2 hR
      clear hT
      have HX := Lib.hid (lex_any T wr (HC.out.up B8.out) HTZ.out)
      rw [hR] at HX
      have HX1 : Hid (Calls Try.prog 6 #[.string T] wr fun e w' => Below wr.heap.size wr w' ∧ ∃ v, e = .returned (.tuple #[v, .int .i64 0, .int .i64 0]) ∧ OwT wr.heap.size w' v R) := HX
      clear HX hR
      have HLen := Lib.hid hlen
      clear hlen
      go_wp2_with fail
      rw [HS2.out]
      refine HX1.out.mono ?_
      rintro e w9 ⟨b9, v9, rfl, o9⟩
      have B9 := Lib.hid (B8.out.trans (b9.mono B8.out.size))
      obtain ⟨a9, c9, rfl, t9⟩ := own_tk o9
      clear b9 o9 t9
      rw [HLen.out]
      go_wp2_with fail
      refine (alive17_any _ (HC.out.up B9.out)).mono ?_
      rintro e w10 ⟨rfl, b10⟩
      have B10 := Lib.hid (B9.out.trans (b10.mono B9.out.size))
      clear b10
      go_wp2_with fail
      refine (fails17_any (p := 2048) (m := 171) _ (HC.out.up B10.out) (by omega) HO.out).mono ?_
      rintro e w11 ⟨rfl, b11⟩
      have B11 := Lib.hid (B10.out.trans (b11.mono B10.out.size))
      clear b11
      go_wp2_with fail
      refine (lexis_any (L' := []) (L := []) (B := w11.heap.size) _ (HC.out.up B11.out) (by decide) nl_e rfl ⟨rfl, .inl ⟨rfl, rfl⟩⟩ (Nat.le_refl _) (by decide)).mono ?_
      rintro e w12 ⟨rfl, b12⟩
      have B12 := Lib.hid (B11.out.trans (b12.mono B11.out.size))
      clear b12
      go_wp2_with fail
      refine (mkname_any _ _).mono ?_
      rintro e w13 ⟨rfl, b13⟩
      have B13 := Lib.hid (B12.out.trans (b13.mono B12.out.size))
      clear b13
      go_wp2_with fail
      refine (mkmark_any _ _).mono ?_
      rintro e w14 ⟨rfl, b14⟩
      have B14 := Lib.hid (B13.out.trans (b14.mono B13.out.size))
      clear b14
      go_wp2_with fail
      refine (lexis_any (L' := [⟨1, ⟨#[97]⟩, 4⟩, ⟨3, ⟨#[9]⟩, 6⟩, ⟨4, ⟨#[46, 46, 46]⟩, 9⟩]) (L := [⟨1, ⟨#[97]⟩, 0⟩, ⟨3, ⟨#[9]⟩, 0⟩, ⟨4, ⟨#[46, 46, 46]⟩, 0⟩]) (B := w14.heap.size) _ (HC.out.up (B14.out.alloc B14.out.size _)) (by decide) nl_m rfl ?_ (by simp) (by decide)).mono ?_
      · exact ⟨rfl, .inr ⟨w14.heap.size, 3, _, rfl, Nat.le_refl _, heap_alloc_new _ _, Nat.le_refl _, by decide, rfl, rfl⟩⟩
      rintro e w15 ⟨rfl, b15⟩
      have B15 := Lib.hid (B14.out.trans ((below_boxed0 b15).mono B14.out.size))
      clear b15
      go_wp2_with fail
      refine (lname_any _ _ (by decide)).mono ?_
      rintro e w16 ⟨rfl, hw⟩
      obtain rfl := hw
      rw [nl_n1]
      go_wp2_with fail
      refine (lname_any _ _ (by decide)).mono ?_
      rintro e w17 ⟨rfl, hw⟩
      obtain rfl := hw
      rw [nl_n2]
      go_wp2_with fail
      refine (fails17_any (p := 0) (m := 10) _ (HC.out.up B15.out) (by decide) nl_9).mono ?_
      rintro e w18 ⟨rfl, b18⟩
      have B18 := Lib.hid (B15.out.trans (b18.mono B15.out.size))
      clear b18
      go_wp2_with fail
      go_ret
      exact ⟨rfl, B18.out⟩
end Go.Proofs.Ytpiaofpglagfmaa
