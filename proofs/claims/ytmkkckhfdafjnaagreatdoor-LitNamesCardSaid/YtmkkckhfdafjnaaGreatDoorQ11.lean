import Derived.Test.YtmkkckhfdafjnaaGreatDoorQ10
import Derived.Test.YtmkkckhfdafjnaaGreatDoorQ1
import Derived.Shelf.Spec.SlicesInsertGrow
/- Layer 18: arguments: what holds between them. -/
namespace Go.Proofs.YtmkkckhfdafjnaaGreatDoor.Li
open Go.RowKit Go.Maps Rt
/-- Between arguments. -/
structure AgI (s : LTok) (p bm : Nat) (w0 W : World) (i : Nat) (ns : List ByteArray) (va : Value) (A : List AgR) (X : List (ByteArray × Value)) : Prop where
  rd : ∃ op v, Rt.RdB W p s i op v
  kp : KpB p w0 W
  lim : LimP p W
  pbm : p < bm
  new : w0.heap.size ≤ bm
  met : ∃ n, n ≤ i ∧ Met W bm n ns
  own : PrP 48 CwP w0.heap.size W va A X
  hp : p < w0.heap.size
theorem AgI.below {s : LTok} {p bm i : Nat} {w0 W W' : World} {ns : List ByteArray} {va : Value} {A : List AgR} {X : List (ByteArray × Value)} (h : AgI s p bm w0 W i ns va A X) (b : Below W.heap.size W W') : AgI s p bm w0 W' i ns va A X := by
  obtain ⟨op, v, r⟩ := h.rd
  obtain ⟨n, hn, hm⟩ := h.met
  have k := KpB.of_below (p := p) b
  have hk : ∀ T, Mv T w0.heap.size W W' := fun T => Mv.of_all fun j _ hj => b.block j hj
  exact ⟨⟨op, v, (r.below b).1⟩, h.kp.trans k, lim_kp h.lim k (Nat.le_of_lt r.lt), h.pbm, h.new, ⟨n, hn, met_same hm (b.block _ (met_lt hm))⟩, h.own.mv (T' := 44) (by decide) (fun _ _ q => CwP.mv (T := 44) (by decide) q (hk _)) (hk _), h.hp⟩
theorem AgI.step {s : LTok} {p bm i j op : Nat} {v : Value} {w0 W W' : World} {ns : List ByteArray} {va : Value} {A : List AgR} {X : List (ByteArray × Value)} (h : AgI s p bm w0 W i ns va A X) (r : Rt.RdB W' p s j op v) (k : KpB p W W') (hij : i ≤ j) : AgI s p bm w0 W' j ns va A X := by
  obtain ⟨op', v', r'⟩ := h.rd
  obtain ⟨n, hn, hm⟩ := h.met
  have hpb := h.pbm
  have hp := h.hp
  have hk : ∀ T, Mv T w0.heap.size W W' := fun T => Mv.of_all fun j h1 hj => k.kept j hj (by omega)
  exact ⟨⟨op, v, r⟩, h.kp.trans k, lim_kp h.lim k (Nat.le_of_lt r'.lt), h.pbm, h.new, ⟨n, Nat.le_trans hn hij, met_same hm (k.kept _ (met_lt hm) (by omega))⟩, h.own.mv (T' := 44) (by decide) (fun _ _ q => CwP.mv (T := 44) (by decide) q (hk _)) (hk _), h.hp⟩
theorem met_map {w : World} {b n : Nat} {ns : List ByteArray} (h : Met w b n ns) : ∃ es c, w.heap[b]? = some (.map es c) := by
  obtain ⟨es, clock, hb, _⟩ := h
  exact ⟨es, clock, hb⟩
/-- A new name is taken. -/
theorem AgI.named {s : LTok} {p bm i n op : Nat} {v : Value} {w0 W W' : World} {nm : ByteArray} {ns : List ByteArray} {va : Value} {A : List AgR} {X : List (ByteArray × Value)} (h : AgI s p bm w0 W i ns va A X) (r : Rt.RdB W' p s (i + 1) op v) (hn : n ≤ i) (hm : Met W' bm (n + 1) (nm :: ns)) (hf : ∃ V, KpB p W V ∧ V.grownBy W' (some bm) ∧ bm < V.heap.size) : AgI s p bm w0 W' (i + 1) (nm :: ns) va A X := by
  obtain ⟨op', v', r'⟩ := h.rd
  obtain ⟨m, _, hm0⟩ := h.met
  obtain ⟨es, c, he⟩ := met_map hm0
  obtain ⟨V, k, g, hV⟩ := hf
  have hnew := h.new
  have hpb := h.pbm
  have hp := h.hp
  have kp : ∀ j, j < W.heap.size → j ≠ p → j ≠ bm → W'.heap[j]? = W.heap[j]? := fun j hj h1 h2 => by
    rw [g.block j (Nat.lt_of_lt_of_le hj k.size) (fun e => by cases e; exact h2 rfl)]
    exact k.kept j hj h1
  have hk : ∀ T, Mv T w0.heap.size W W' := fun T j cs e h1 h2 _ => kp j (Array.getElem?_eq_some_iff.1 h2).1 (by omega) (fun q => by subst q; rw [he] at h2; cases h2)
  have hsz := h.kp.size
  refine ⟨⟨op, v, r⟩, ⟨g.os.trans (k.os.trans h.kp.os), g.tape.trans (k.tape.trans h.kp.tape), g.output.trans (k.output.trans h.kp.output), Nat.le_trans h.kp.size (Nat.le_trans k.size g.size), fun j h1 h2 => (kp j (by omega) h2 (by omega)).trans (h.kp.kept j h1 h2)⟩, ?_, hpb, hnew, ⟨n + 1, by omega, hm⟩, h.own.mv (T' := 44) (by decide) (fun _ _ q => CwP.mv (T := 44) (by decide) q (hk _)) (hk _), hp⟩
  have hl := h.lim
  have e := kp _ (Nat.lt_trans hl.1 r'.lt) (by have := hl.1; omega) (by have := hl.1; omega)
  refine ⟨hl.1, ?_, ?_⟩
  · rw [← hl.2.1]; unfold World.cell?; dsimp only; rw [e]
  · rw [← hl.2.2]; unfold World.cell?; dsimp only; rw [e]
/-- An argument is put to them. -/
theorem AgI.push {s : LTok} {p bm i : Nat} {w0 W w2 : World} {nm : ByteArray} {ns : List ByteArray} {va v2 u : Value} {M : List CR} {A : List AgR} {X : List (ByteArray × Value)} (h : AgI s p bm w0 W i ns va A X) (o : Obj) (row : w2.ownsRow w0.heap.size 48 2 v2 (A.length + 1) (rw2 X ++ [.string nm, u])) (g : (W.alloc o).grownBy w2 va.ownBlock) (hu : CwP w0.heap.size W u M) : AgI s p bm w0 w2 i ns v2 (A ++ [(nm, M)]) (X ++ [(nm, u)]) := by
  have hA := h.below (below_box W o)
  obtain ⟨op, v, r⟩ := hA.rd
  obtain ⟨n, hn, hm⟩ := hA.met
  obtain ⟨es, c, he⟩ := met_map hm
  have hp := h.hp
  have hb := hA.own.1.lt
  have kb : ∀ j, j < w0.heap.size → w2.heap[j]? = (W.alloc o).heap[j]? := fun j hj => g.block j (by have := hA.kp.size; omega) (fun e => by have := (hb j e.symm).1; omega)
  have hmv := own_grown hA.own.1 g
  have hl := hA.lim
  have e := kb 1 (by have := hl.1; omega)
  have hbm : w2.heap[bm]? = (W.alloc o).heap[bm]? := g.block bm (met_lt hm) (fun e => by
    rcases hA.own.1.2 with ⟨hv, _⟩ | ⟨q, cap, cur, hv, _, hg, _⟩
    · rw [hv] at e; cases e
    · rw [hv] at e; cases e; rw [he] at hg; cases hg)
  refine ⟨⟨op, v, r.same (kb p hp) (fun j hj => kb j (by omega))⟩, ⟨g.os.trans hA.kp.os, g.tape.trans hA.kp.tape, g.output.trans hA.kp.output, Nat.le_trans hA.kp.size g.size, fun j h1 h2 => (kb j h1).trans (hA.kp.kept j h1 h2)⟩, ⟨hl.1, ?_, ?_⟩, h.pbm, h.new, ⟨n, hn, met_same hm hbm⟩, hA.own.push (fun _ _ q => CwP.mv (by decide) q hmv) row (CwP.mv (by decide) (CwP.mv (T := 48) (by decide) hu (Mv.of_all fun j _ hj => heap_alloc_old _ _ hj)) hmv), hp⟩
  · rw [← hl.2.1]; unfold World.cell?; dsimp only; rw [e]
  · rw [← hl.2.2]; unfold World.cell?; dsimp only; rw [e]
/-- Arguments are told, or an error thrown. -/
def AgN (p : Nat) (s : LTok) (w : World) (x : LR (Nat × List AgR)) (e : Ending) (w' : World) : Prop := match x with
  | .ok (j, A) => ∃ va op' v', e = .returned va ∧ AgP w.heap.size w' va A ∧ Rt.RdB w' p s j op' v' ∧ KpB p w w'
  | .bad a m => e = thr a m ∧ Below p w w'
theorem AgI.start {s : LTok} {p i op : Nat} {v : Value} {w0 W : World} (r : Rt.RdB W p s i op v) (k : KpB p w0 W) (l : LimP p w0) (hp : p < w0.heap.size) : AgI s p W.heap.size w0 (W.alloc (.map #[] 0)) i [] (.slice none 0 0) [] [] := by
  have rb := r.below (below_box W (.map #[] 0))
  have kk := k.trans rb.2
  exact ⟨⟨op, v, rb.1⟩, kk, lim_kp l kk (Nat.le_of_lt hp), r.lt, k.size, ⟨0, Nat.zero_le _, World.ownsMap_made W _ _ _⟩, PrP.nil _ _ _ _, hp⟩
end Go.Proofs.YtmkkckhfdafjnaaGreatDoor.Li
/- Layer 18: arguments, the walk. -/
namespace Go.Proofs.YtmkkckhfdafjnaaGreatDoor.Li
open Go.RowKit Go.Maps Rt
theorem infoA : ∃ i, Tryz.prog.info? 48 = some i ∧ i.zero = some (.agg #[.string ⟨#[]⟩, .slice none 0 0]) ∧ i.size = 2 ∧ i.bytes = 40 := by
  have h := Tryz.typeInfo48 default
  unfold typeInfo at h
  cases hq : Tryz.prog.info? 48 with
  | none => simp [hq] at h
  | some i =>
    simp [hq] at h
    subst h
    exact ⟨_, rfl, rfl, rfl, rfl⟩
theorem own_slice {w : World} {B n sz : Nat} {e : TypeId} {v : Value} {x : List Value} (h : w.ownsRow B e sz v n x) : ∃ ad cp, v = .slice ad n cp := by
  rcases h.2 with ⟨rfl, h0⟩ | ⟨g, cap, cur, rfl, _⟩
  · exact ⟨none, 0, by rw [h0]⟩
  · exact ⟨_, _, rfl⟩
set_option maxRecDepth 20000 in
set_option maxHeartbeats 8000000 in
theorem arguments_any {s : LTok} {p i op : Nat} {v : Value} (w : World) (h : Rt.RdB w p s i op v) (l : LimP p w) (hi : i ≤ s.n) : Calls Tryz.prog 37 #[.pointer (some ⟨p, 0, none⟩)] w (AgN p s w (agL s i)) := by
  obtain ⟨i0, hin, hz0, hz1, hz2⟩ := infoA
  have hn : s.n ≤ 100000 := h.tok.2.1
  have HP := Lib.hid h.lt
  have hmk := @run_makeMap Tryz.prog
  obtain ⟨Z, hZ⟩ : ∃ Z, Z = agL s i := ⟨_, rfl⟩
  rw [← hZ]
  unfold agL at hZ
  by_cases hsk : isMk (tkA s i) mLP = true
  case neg =>
    have HSK := Lib.hid (Rt.skip_no (x := mLP) w h (by omega) (by simpa using hsk))
    have HZ : Hid (Z = .ok (i, [])) := Lib.hid (by rw [hZ, if_neg hsk])
    have HR := Lib.hid h
    unfold mLP at HSK
    clear hsk hZ h l
    go_enter Tryz.func37, Tryz.ntmps37
    go_wp2_with fail
    refine HSK.out.mono ?_
    rintro e w1 ⟨rfl, b1⟩
    have R1 := Lib.hid (HR.out.below b1)
    clear b1
    go_wp2_with fail
    go_ret
    rw [HZ.out]
    exact ⟨_, op, v, rfl, ⟨[], PrP.nil _ _ _ _⟩, R1.out.1, R1.out.2⟩
  case pos =>
  have hi1 : i < s.n := isMk_in hsk
  have HSK := Lib.hid (Rt.skip_yes (x := mLP) w h (by omega) hsk)
  have HZ : Hid (Z = agF s (s.n + 1 - (i + 1)) (i + 1) [] []) := Lib.hid (by rw [hZ, if_pos hsk])
  have HL := Lib.hid l
  unfold mLP at HSK
  clear hsk hZ h l
  go_enter Tryz.func37, Tryz.ntmps37
  go_wp2_with fail
  refine HSK.out.mono ?_
  rintro e w1 ⟨rfl, r1, k1⟩
  have HS := Lib.hid (AgI.start r1 k1 HL.out HP.out)
  have hbm : w1.heap.size = w1.heap.size := rfl
  clear r1 k1 hbm
  go_wp2_with fail
  obtain ⟨W4, hW4⟩ : ∃ W4, W4 = w1.alloc (.map #[] 0) := ⟨_, rfl⟩
  rw [← hW4] at HS ⊢
  obtain ⟨bm, hbm⟩ : ∃ bm, bm = w1.heap.size := ⟨_, rfl⟩
  rw [← hbm] at HS ⊢
  clear hW4 hbm
  obtain ⟨F0, hF0⟩ : ∃ F0, F0 = s.n + 1 - (i + 1) := ⟨_, rfl⟩
  rw [← hF0] at HZ
  have hfu : s.n + 1 - (i + 1) ≤ F0 := by omega
  clear hF0
  go_loopg [3, 5, 13, 14, 15, 19, 20, 21] F0 (fun fu sva _ _ _ _ _ _ _ wr => ∃ (j : Nat) (ns : List ByteArray) (A : List AgR) (X : List (ByteArray × Value)), s.n + 1 - j ≤ fu ∧ j ≤ s.n ∧ A.length ≤ j ∧ (A = [] → sva = .slice none 0 0) ∧ Hid (Z = agF s fu j ns A) ∧ Hid (AgI s p bm w wr j ns sva A X))
  case atStart => exact ⟨i + 1, [], [], [], hfu, by omega, Nat.zero_le _, fun _ => rfl, HZ, HS⟩
  case round =>
    obtain ⟨j, ns, A, X, hf, hj, hAj, hnil, HZr, HIr⟩ := hrel
    clear hfu HZ HS
    have hZs : Z = if 0 < A.length ∧ isMk (tkA s j) mRP = true then .ok (j + 1, A) else (nwL s ns j).bind fun nm => if isMk (tkA s (j + 1)) mColon = true then (ltL s (j + 2)).bind fun y => agF s (gk - 1) y.1 (nm :: ns) (A ++ [(nm, y.2)]) else .bad (j + 1) 180 := by
      obtain ⟨g2, hg2⟩ : ∃ g2, gk = g2 + 1 := ⟨gk - 1, by omega⟩
      rw [HZr.out, hg2]
      rfl
    by_cases hA0 : A.length = 0
    case pos =>
      rw [if_neg (by omega)] at hZs
      obtain rfl : A = [] := List.eq_nil_of_length_eq_zero hA0
      obtain rfl := hnil rfl
      clear hA0 hnil hAj
      have hI8 := HIr.out
      obtain ⟨op8, v8, r8⟩ := hI8.rd
      obtain ⟨n8, hn8, m8⟩ := hI8.met
      have HNW := Lib.hid (Rt.newName_any wr r8 m8 hI8.pbm (by omega) (by omega))
      have HNQ := Lib.hid (fun x => nwL_ok (s := s) (ns := ns) (i := j) (x := x))
      obtain ⟨Y0, hY0⟩ : ∃ Y0, Y0 = nwL s ns j := ⟨_, rfl⟩
      rw [← hY0] at HNW hZs HNQ
      have HZq := Lib.hid hZs
      have HI8 := Lib.hid hI8
      clear hY0 r8 m8 hZs hI8
      go_wp2_with fail
      cases Y0 with
      | bad a m =>
        have HN9 : Hid (Calls Tryz.prog 62 #[.pointer (some ⟨p, 0, none⟩), .map (some bm)] wr fun e w' => e = thr a m ∧ Below p wr w') := Lib.hid HNW.out
        have HZ4 : Hid (Z = .bad a m) := Lib.hid HZq.out
        refine HN9.out.mono ?_
        rintro e w9 ⟨he, b9⟩
        unfold thr at he
        subst he
        (try go_wp2_with fail)
        rw [HZ4.out]
        simp only [bodyPost]
        exact ⟨trivial, rfl, (HI8.out.kp.below (Nat.le_of_lt HP.out)).trans b9⟩
      | ok x =>
        have HN9 : Hid (Calls Tryz.prog 62 #[.pointer (some ⟨p, 0, none⟩), .map (some bm)] wr fun e w' => e = .returned (.string x) ∧ Rt.RdB w' p s (j + 1) op8 v8 ∧ Met w' bm (n8 + 1) (x :: ns) ∧ Below p wr w' ∧ ∃ W, KpB p wr W ∧ W.grownBy w' (some bm) ∧ bm < W.heap.size) := Lib.hid HNW.out
        have hj1 : j < s.n := isNm_in (HNQ.out x rfl).1
        have hZs := HZq.out
        simp only [LR.bind_ok] at hZs
        clear HNW HNQ HZq
        refine HN9.out.mono ?_
        rintro e w9 ⟨rfl, r9, m9, b9, hW⟩
        have O9 := Lib.hid (HI8.out.named r9 hn8 m9 hW)
        clear m9 hW b9
        by_cases hc : isMk (tkA s (j + 1)) mColon = true
        · have hj2 : j + 1 < s.n := isMk_in hc
          have HTK := Lib.hid (Rt.take_ok (x := mColon) w9 r9 (by omega) hc)
          rw [if_pos hc] at hZs
          have HZq := Lib.hid hZs
          unfold mColon at HTK
          clear hc r9 hZs
          go_wp2_with fail
          refine HTK.out.mono ?_
          rintro e w10 ⟨rfl, r10, k10⟩
          have O10 := Lib.hid (O9.out.step r10 k10 (Nat.le_succ _))
          have HLT := Lib.hid (literal_new w10 r10 O10.out.lim (by omega))
          have HOK := Lib.hid (fun j1 N1 => ltL_ok (s := s) (i := j + 2) (j := j1) (N := N1))
          obtain ⟨Y, hY⟩ : ∃ Y, Y = ltL s (j + 2) := ⟨_, rfl⟩
          rw [show j + 1 + 1 = j + 2 by omega, ← hY] at HLT
          rw [← hY] at HOK HZq
          clear hY r10 k10
          cases Y with
          | bad a m =>
            have HL9 : Hid (Calls Tryz.prog 39 #[.pointer (some ⟨p, 0, none⟩)] w10 fun e w' => e = thr a m ∧ Below p w10 w') := Lib.hid HLT.out
            have HZ4 : Hid (Z = .bad a m) := Lib.hid HZq.out
            clear HLT HOK HZq
            go_wp2_with fail
            refine HL9.out.mono ?_
            rintro e w11 ⟨he, b11⟩
            unfold thr at he
            subst he
            (try go_wp2_with fail)
            rw [HZ4.out]
            simp only [bodyPost]
            exact ⟨trivial, rfl, (O10.out.kp.below (Nat.le_of_lt HP.out)).trans b11⟩
          | ok y =>
            obtain ⟨j1, N1⟩ := y
            have HL9 : Hid (Calls Tryz.prog 39 #[.pointer (some ⟨p, 0, none⟩)] w10 fun e w' => ∃ v', e = .returned v' ∧ CwP w10.heap.size w' v' N1 ∧ Rt.RdB w' p s j1 0 v' ∧ KpB p w10 w') := Lib.hid HLT.out
            have HZ4 : Hid (Z = agF s (gk - 1) j1 (x :: ns) (([] : List AgR) ++ [(x, N1)])) := Lib.hid HZq.out
            obtain ⟨g1, g2, g3, g4⟩ := HOK.out j1 N1 rfl
            clear HLT HOK HZq
            go_wp2_with fail
            refine HL9.out.mono ?_
            rintro e w11 ⟨v11, rfl, c11, r11, k11⟩
            obtain ⟨ad1, cp1, rfl⟩ := own_slice c11
            have O11 := Lib.hid (O10.out.step r11 k11 (by omega))
            have C11 := Lib.hid (own_raise c11 (fun q e => Nat.le_trans O10.out.kp.size (c11.lt q e).1) : CwP w.heap.size w11 (.slice ad1 N1.length cp1) N1)
            have HRW := Lib.hid O11.out.own.1
            have HSZ := Lib.hid O11.out.kp.size
            clear c11 r11 k11
            go_wp2_with (at_builtin; refine wpList_append_own _ rfl _ _ 34 rfl w.heap.size 48 i0 (.agg #[.string ⟨#[]⟩, .slice none 0 0]) 2 40 Tryz.underlying34 hin hz0 hz1 hz2 rfl (by decide) (.slice none 0 0) 0 (rw2 X) rfl (HRW.out.alloc _) ⟨w11.heap.size, 0, none⟩ 1 1 [.string x, .slice ad1 N1.length cp1] rfl rfl (news_at2 _ _ _ _ rfl (by simp)) (by intro u hu; simp at hu; rcases hu with rfl | rfl <;> rfl) (by unfold maxLen; omega) (by omega) (by have := HSZ.out; simp; omega) ?_; intro v12 w12 ho hg _; have O12 := Lib.hid (O11.out.push _ ho hg C11.out); clear ho hg)
            go_roundg (gk - 1)
            case rel => exact ⟨j1, x :: ns, ([] : List AgR) ++ [(x, N1)], X ++ [(x, .slice ad1 N1.length cp1)], by omega, by omega, by rw [List.length_append, List.length_singleton]; (try simp only [List.length_nil]); omega, fun e => by simp at e, HZ4, O12⟩
            case measure => omega
        · have HTK := Lib.hid (Rt.take_bad (x := mColon) w9 r9 (by omega) (by simpa using hc))
          rw [if_neg hc] at hZs
          have HZ4 : Hid (Z = .bad (j + 1) 180) := Lib.hid hZs
          unfold mColon at HTK
          clear hc hZs r9
          go_wp2_with fail
          refine HTK.out.mono ?_
          rintro e w10 ⟨he, b10⟩
          unfold thr at he
          subst he
          (try go_wp2_with fail)
          rw [HZ4.out]
          simp only [bodyPost]
          exact ⟨trivial, rfl, (O9.out.kp.below (Nat.le_of_lt HP.out)).trans (b10.mono (by have := O9.out.kp.size; have := HP.out; omega))⟩
    case neg =>
    obtain ⟨ad, cp, hsv⟩ := own_slice HIr.out.own.1
    subst hsv
    clear hnil
    have hlen : ((A.length : Int) == 0) = false := beq_eq_false_iff_ne.2 (by omega)
    obtain ⟨op7, v7, r7⟩ := HIr.out.rd
    by_cases hsk : isMk (tkA s j) mRP = true
    case pos =>
      have HSK := Lib.hid (Rt.skip_yes (x := mRP) wr r7 (by omega) hsk)
      have HZ3 : Hid (Z = .ok (j + 1, A)) := Lib.hid (by rw [hZs, if_pos ⟨by omega, hsk⟩])
      unfold mRP at HSK
      clear hZs hsk r7 HZr
      go_wp2_with fail
      refine HSK.out.mono ?_
      rintro e w8 ⟨rfl, r8, k8⟩
      have O8 := Lib.hid (HIr.out.step r8 k8 (Nat.le_succ _))
      have R8 := Lib.hid r8
      clear r8 k8
      go_wp2_with fail
      go_ret
      rw [HZ3.out]
      exact ⟨_, op7, v7, rfl, ⟨X, O8.out.own⟩, R8.out, O8.out.kp⟩
    case neg =>
      have HSK := Lib.hid (Rt.skip_no (x := mRP) wr r7 (by omega) (by simpa using hsk))
      unfold mRP at HSK
      rw [if_neg (fun e => hsk e.2)] at hZs
      have HZw := Lib.hid hZs
      clear hsk HZr hZs r7
      go_wp2_with fail
      refine HSK.out.mono ?_
      rintro e w8 ⟨rfl, b8⟩
      have hZs := HZw.out
      have hI8 := HIr.out.below b8
      obtain ⟨op8, v8, r8⟩ := hI8.rd
      obtain ⟨n8, hn8, m8⟩ := hI8.met
      clear b8 HZw
      have HNW := Lib.hid (Rt.newName_any w8 r8 m8 hI8.pbm (by omega) (by omega))
      have HNQ := Lib.hid (fun x => nwL_ok (s := s) (ns := ns) (i := j) (x := x))
      obtain ⟨Y0, hY0⟩ : ∃ Y0, Y0 = nwL s ns j := ⟨_, rfl⟩
      rw [← hY0] at HNW hZs HNQ
      have HZq := Lib.hid hZs
      have HI8 := Lib.hid hI8
      clear hY0 r8 m8 hZs hI8
      go_wp2_with fail
      cases Y0 with
      | bad a m =>
        have HN9 : Hid (Calls Tryz.prog 62 #[.pointer (some ⟨p, 0, none⟩), .map (some bm)] w8 fun e w' => e = thr a m ∧ Below p w8 w') := Lib.hid HNW.out
        have HZ4 : Hid (Z = .bad a m) := Lib.hid HZq.out
        refine HN9.out.mono ?_
        rintro e w9 ⟨he, b9⟩
        unfold thr at he
        subst he
        (try go_wp2_with fail)
        rw [HZ4.out]
        simp only [bodyPost]
        exact ⟨trivial, rfl, (HI8.out.kp.below (Nat.le_of_lt HP.out)).trans b9⟩
      | ok x =>
        have HN9 : Hid (Calls Tryz.prog 62 #[.pointer (some ⟨p, 0, none⟩), .map (some bm)] w8 fun e w' => e = .returned (.string x) ∧ Rt.RdB w' p s (j + 1) op8 v8 ∧ Met w' bm (n8 + 1) (x :: ns) ∧ Below p w8 w' ∧ ∃ W, KpB p w8 W ∧ W.grownBy w' (some bm) ∧ bm < W.heap.size) := Lib.hid HNW.out
        have hj1 : j < s.n := isNm_in (HNQ.out x rfl).1
        have hZs := HZq.out
        simp only [LR.bind_ok] at hZs
        clear HNW HNQ HZq
        refine HN9.out.mono ?_
        rintro e w9 ⟨rfl, r9, m9, b9, hW⟩
        have O9 := Lib.hid (HI8.out.named r9 hn8 m9 hW)
        clear m9 hW b9
        by_cases hc : isMk (tkA s (j + 1)) mColon = true
        · have hj2 : j + 1 < s.n := isMk_in hc
          have HTK := Lib.hid (Rt.take_ok (x := mColon) w9 r9 (by omega) hc)
          rw [if_pos hc] at hZs
          have HZq := Lib.hid hZs
          unfold mColon at HTK
          clear hc r9 hZs
          go_wp2_with fail
          refine HTK.out.mono ?_
          rintro e w10 ⟨rfl, r10, k10⟩
          have O10 := Lib.hid (O9.out.step r10 k10 (Nat.le_succ _))
          have HLT := Lib.hid (literal_new w10 r10 O10.out.lim (by omega))
          have HOK := Lib.hid (fun j1 N1 => ltL_ok (s := s) (i := j + 2) (j := j1) (N := N1))
          obtain ⟨Y, hY⟩ : ∃ Y, Y = ltL s (j + 2) := ⟨_, rfl⟩
          rw [show j + 1 + 1 = j + 2 by omega, ← hY] at HLT
          rw [← hY] at HOK HZq
          clear hY r10 k10
          cases Y with
          | bad a m =>
            have HL9 : Hid (Calls Tryz.prog 39 #[.pointer (some ⟨p, 0, none⟩)] w10 fun e w' => e = thr a m ∧ Below p w10 w') := Lib.hid HLT.out
            have HZ4 : Hid (Z = .bad a m) := Lib.hid HZq.out
            clear HLT HOK HZq
            go_wp2_with fail
            refine HL9.out.mono ?_
            rintro e w11 ⟨he, b11⟩
            unfold thr at he
            subst he
            (try go_wp2_with fail)
            rw [HZ4.out]
            simp only [bodyPost]
            exact ⟨trivial, rfl, (O10.out.kp.below (Nat.le_of_lt HP.out)).trans b11⟩
          | ok y =>
            obtain ⟨j1, N1⟩ := y
            have HL9 : Hid (Calls Tryz.prog 39 #[.pointer (some ⟨p, 0, none⟩)] w10 fun e w' => ∃ v', e = .returned v' ∧ CwP w10.heap.size w' v' N1 ∧ Rt.RdB w' p s j1 0 v' ∧ KpB p w10 w') := Lib.hid HLT.out
            have HZ4 : Hid (Z = agF s (gk - 1) j1 (x :: ns) (A ++ [(x, N1)])) := Lib.hid HZq.out
            obtain ⟨g1, g2, g3, g4⟩ := HOK.out j1 N1 rfl
            clear HLT HOK HZq
            go_wp2_with fail
            refine HL9.out.mono ?_
            rintro e w11 ⟨v11, rfl, c11, r11, k11⟩
            obtain ⟨ad1, cp1, rfl⟩ := own_slice c11
            have O11 := Lib.hid (O10.out.step r11 k11 (by omega))
            have C11 := Lib.hid (own_raise c11 (fun q e => Nat.le_trans O10.out.kp.size (c11.lt q e).1) : CwP w.heap.size w11 (.slice ad1 N1.length cp1) N1)
            have HRW := Lib.hid O11.out.own.1
            have HSZ := Lib.hid O11.out.kp.size
            clear c11 r11 k11
            go_wp2_with (at_builtin; refine wpList_append_own _ rfl _ _ 34 rfl w.heap.size 48 i0 (.agg #[.string ⟨#[]⟩, .slice none 0 0]) 2 40 Tryz.underlying34 hin hz0 hz1 hz2 rfl (by decide) _ A.length (rw2 X) rfl (HRW.out.alloc _) ⟨w11.heap.size, 0, none⟩ 1 1 [.string x, .slice ad1 N1.length cp1] rfl rfl (news_at2 _ _ _ _ rfl (by simp)) (by intro u hu; simp at hu; rcases hu with rfl | rfl <;> rfl) (by unfold maxLen; omega) (by omega) (by have := HSZ.out; simp; omega) ?_; intro v12 w12 ho hg _; have O12 := Lib.hid (O11.out.push _ ho hg C11.out); clear ho hg)
            go_roundg (gk - 1)
            case rel => exact ⟨j1, x :: ns, A ++ [(x, N1)], X ++ [(x, .slice ad1 N1.length cp1)], by omega, by omega, by rw [List.length_append, List.length_singleton]; (try simp only [List.length_nil]); omega, fun e => by simp at e, HZ4, O12⟩
            case measure => omega
        · have HTK := Lib.hid (Rt.take_bad (x := mColon) w9 r9 (by omega) (by simpa using hc))
          rw [if_neg hc] at hZs
          have HZ4 : Hid (Z = .bad (j + 1) 180) := Lib.hid hZs
          unfold mColon at HTK
          clear hc hZs r9
          go_wp2_with fail
          refine HTK.out.mono ?_
          rintro e w10 ⟨he, b10⟩
          unfold thr at he
          subst he
          (try go_wp2_with fail)
          rw [HZ4.out]
          simp only [bodyPost]
          exact ⟨trivial, rfl, (O9.out.kp.below (Nat.le_of_lt HP.out)).trans (b10.mono (by have := O9.out.kp.size; have := HP.out; omega))⟩
end Go.Proofs.YtmkkckhfdafjnaaGreatDoor.Li
/- Layer 18: directives, the walk. -/
namespace Go.Proofs.YtmkkckhfdafjnaaGreatDoor.Li
open Go.RowKit Go.Maps Rt
theorem infoD : ∃ i, Tryz.prog.info? 44 = some i ∧ i.zero = some (.agg #[.string ⟨#[]⟩, .slice none 0 0]) ∧ i.size = 2 ∧ i.bytes = 40 := by
  have h := Tryz.typeInfo44 default
  unfold typeInfo at h
  cases hq : Tryz.prog.info? 44 with
  | none => simp [hq] at h
  | some i =>
    simp [hq] at h
    subst h
    exact ⟨_, rfl, rfl, rfl, rfl⟩
/-- Between directives. -/
structure DrI (s : LTok) (p : Nat) (w0 W : World) (i : Nat) (vd : Value) (D : List DrR) (X : List (ByteArray × Value)) : Prop where
  rd : ∃ op v, Rt.RdB W p s i op v
  kp : KpB p w0 W
  lim : LimP p W
  own : PrP 44 AgP w0.heap.size W vd D X
  hp : p < w0.heap.size
theorem DrI.step {s : LTok} {p i j op : Nat} {v : Value} {w0 W W' : World} {vd : Value} {D : List DrR} {X : List (ByteArray × Value)} (h : DrI s p w0 W i vd D X) (r : Rt.RdB W' p s j op v) (k : KpB p W W') : DrI s p w0 W' j vd D X := by
  obtain ⟨op', v', r'⟩ := h.rd
  have hp := h.hp
  have hk : ∀ T, Mv T w0.heap.size W W' := fun T => Mv.of_all fun j h1 hj => k.kept j hj (by omega)
  exact ⟨⟨op, v, r⟩, h.kp.trans k, lim_kp h.lim k (Nat.le_of_lt r'.lt), h.own.mv (T' := 28) (by decide) (fun _ _ q => AgP.mv (T := 28) (by decide) (by decide) q (hk _)) (hk _), h.hp⟩
theorem DrI.below {s : LTok} {p i : Nat} {w0 W W' : World} {vd : Value} {D : List DrR} {X : List (ByteArray × Value)} (h : DrI s p w0 W i vd D X) (b : Below W.heap.size W W') : DrI s p w0 W' i vd D X := by
  obtain ⟨op', v', r'⟩ := h.rd
  exact h.step (r'.below b).1 (KpB.of_below b)
theorem DrI.push {s : LTok} {p i : Nat} {w0 W w2 : World} {nm : ByteArray} {vd v2 u : Value} {A : List AgR} {D : List DrR} {X : List (ByteArray × Value)} (h : DrI s p w0 W i vd D X) (o : Obj) (row : w2.ownsRow w0.heap.size 44 2 v2 (D.length + 1) (rw2 X ++ [.string nm, u])) (g : (W.alloc o).grownBy w2 vd.ownBlock) (hu : AgP w0.heap.size W u A) : DrI s p w0 w2 i v2 (D ++ [(nm, A)]) (X ++ [(nm, u)]) := by
  have hA := h.below (below_box W o)
  obtain ⟨op, v, r⟩ := hA.rd
  have hp := h.hp
  have hb := hA.own.1.lt
  have kb : ∀ j, j < w0.heap.size → w2.heap[j]? = (W.alloc o).heap[j]? := fun j hj => g.block j (by have := hA.kp.size; omega) (fun e => by have := (hb j e.symm).1; omega)
  have hmv := own_grown hA.own.1 g
  have hl := hA.lim
  have e := kb 1 (by have := hl.1; omega)
  refine ⟨⟨op, v, r.same (kb p hp) (fun j hj => kb j (by omega))⟩, ⟨g.os.trans hA.kp.os, g.tape.trans hA.kp.tape, g.output.trans hA.kp.output, Nat.le_trans hA.kp.size g.size, fun j h1 h2 => (kb j h1).trans (hA.kp.kept j h1 h2)⟩, ⟨hl.1, ?_, ?_⟩, hA.own.push (fun _ _ q => AgP.mv (by decide) (by decide) q hmv) row (AgP.mv (by decide) (by decide) (AgP.mv (T := 28) (by decide) (by decide) hu (Mv.of_all fun j _ hj => heap_alloc_old _ _ hj)) hmv), hp⟩
  · rw [← hl.2.1]; unfold World.cell?; dsimp only; rw [e]
  · rw [← hl.2.2]; unfold World.cell?; dsimp only; rw [e]
theorem AgP.raise {B B' : Nat} {w : World} {v : Value} {A : List AgR} (h : AgP B w v A) (hB : B' ≤ B) : AgP B' w v A := by
  obtain ⟨X, h1, h2, h3⟩ := h
  exact ⟨X, own_base h1 hB, h2, fun k n a e => (h3 k n a e).imp fun u ⟨q1, q2⟩ => ⟨q1, own_base q2 hB⟩⟩
/-- Directives are told, or an error thrown. -/
def DrN (p : Nat) (s : LTok) (w : World) (x : LR (Nat × List DrR)) (e : Ending) (w' : World) : Prop := match x with
  | .ok (j, D) => ∃ vd op' v', e = .returned vd ∧ DrP w.heap.size w' vd D ∧ Rt.RdB w' p s j op' v' ∧ KpB p w w'
  | .bad a m => e = thr a m ∧ Below p w w'
set_option maxRecDepth 20000 in
set_option maxHeartbeats 8000000 in
theorem directives_any {s : LTok} {p i op : Nat} {v : Value} (w : World) (h : Rt.RdB w p s i op v) (l : LimP p w) (hi : i ≤ s.n) : Calls Tryz.prog 35 #[.pointer (some ⟨p, 0, none⟩)] w (DrN p s w (drL s i)) := by
  obtain ⟨i0, hin, hz0, hz1, hz2⟩ := infoD
  have hn : s.n ≤ 100000 := h.tok.2.1
  have HP := Lib.hid h.lt
  obtain ⟨Z, hZ⟩ : ∃ Z, Z = drL s i := ⟨_, rfl⟩
  rw [← hZ]
  unfold drL at hZ
  have HZ := Lib.hid hZ
  have HS : Hid (DrI s p w w i (.slice none 0 0) [] []) := Lib.hid ⟨⟨op, v, h⟩, KpB.refl p w, l, PrP.nil _ _ _ _, h.lt⟩
  obtain ⟨F0, hF0⟩ : ∃ F0, F0 = s.n + 1 - i := ⟨_, rfl⟩
  rw [← hF0] at HZ
  have hfu : s.n + 1 - i ≤ F0 := by omega
  clear hZ h l hF0
  go_enter Tryz.func35, Tryz.ntmps35
  go_wp2_with fail
  go_loopg [3, 4, 8] F0 (fun fu svd _ _ wr => ∃ (j : Nat) (D : List DrR) (X : List (ByteArray × Value)), s.n + 1 - j ≤ fu ∧ j ≤ s.n ∧ D.length ≤ j ∧ Hid (Z = drF s fu j D) ∧ Hid (DrI s p w wr j svd D X))
  case atStart => exact ⟨i, [], [], hfu, by omega, Nat.zero_le _, HZ, HS⟩
  case round =>
    obtain ⟨j, D, X, hf, hj, hDj, HZr, HIr⟩ := hrel
    clear hfu HZ HS
    have hZs : Z = if isMk (tkA s j) mAt = true then (if isNm (tkA s (j + 1)) = true then (agL s (j + 2)).bind fun y => drF s (gk - 1) y.1 (D ++ [((tkA s (j + 1)).s, y.2)]) else .bad (j + 1) 180) else .ok (j, D) := by
      obtain ⟨g2, hg2⟩ : ∃ g2, gk = g2 + 1 := ⟨gk - 1, by omega⟩
      rw [HZr.out, hg2]
      rfl
    obtain ⟨ad, cp, hsv⟩ := own_slice HIr.out.own.1
    subst hsv
    obtain ⟨op7, v7, r7⟩ := HIr.out.rd
    by_cases hsk : isMk (tkA s j) mAt = true
    case neg =>
      have HSK := Lib.hid (Rt.skip_no (x := mAt) wr r7 (by omega) (by simpa using hsk))
      have HZ3 : Hid (Z = .ok (j, D)) := Lib.hid (by rw [hZs, if_neg hsk])
      unfold mAt at HSK
      clear hsk HZr hZs r7
      go_wp2_with fail
      refine HSK.out.mono ?_
      rintro e w8 ⟨rfl, b8⟩
      have O8 := Lib.hid (HIr.out.below b8)
      clear b8
      go_wp2_with fail
      go_ret
      rw [HZ3.out]
      obtain ⟨op8, v8, r8⟩ := O8.out.rd
      exact ⟨_, op8, v8, rfl, ⟨X, O8.out.own⟩, r8, O8.out.kp⟩
    case pos =>
      have hj1 : j < s.n := isMk_in hsk
      have HSK := Lib.hid (Rt.skip_yes (x := mAt) wr r7 (by omega) hsk)
      rw [if_pos hsk] at hZs
      have HZw := Lib.hid hZs
      unfold mAt at HSK
      clear hsk HZr hZs r7
      go_wp2_with fail
      refine HSK.out.mono ?_
      rintro e w8 ⟨rfl, r8, k8⟩
      have O8 := Lib.hid (HIr.out.step r8 k8)
      have hZs := HZw.out
      clear k8 HZw
      by_cases hnm : isNm (tkA s (j + 1)) = true
      case neg =>
        have HNN := Lib.hid (Rt.name_no w8 r8 (by omega) (by simpa using hnm))
        rw [if_neg hnm] at hZs
        have HZ4 := Lib.hid hZs
        clear hnm hZs r8
        go_wp2_with fail
        refine HNN.out.mono ?_
        rintro e w9 ⟨he, b9⟩
        unfold thr at he
        subst he
        (try go_wp2_with fail)
        rw [HZ4.out]
        simp only [bodyPost]
        exact ⟨trivial, rfl, (O8.out.kp.below (Nat.le_of_lt HP.out)).trans (b9.mono (by have := O8.out.kp.size; have := HP.out; omega))⟩
      case pos =>
        have hj2 : j + 1 < s.n := isNm_in hnm
        have HNY := Lib.hid (Rt.name_yes w8 r8 (by omega) hnm)
        rw [if_pos hnm] at hZs
        obtain ⟨x, hx⟩ : ∃ x, x = (tkA s (j + 1)).s := ⟨_, rfl⟩
        rw [← hx] at HNY hZs
        have HZq := Lib.hid hZs
        clear hnm hZs r8 hx
        go_wp2_with fail
        refine HNY.out.mono ?_
        rintro e w10 ⟨rfl, r10, k10⟩
        have O10 := Lib.hid (O8.out.step r10 k10)
        have HLT := Lib.hid (arguments_any w10 r10 O10.out.lim (by omega))
        have HOK := Lib.hid (fun j1 N1 => agL_goes (s := s) (i := j + 2) (j := j1) (B := N1))
        obtain ⟨Y, hY⟩ : ∃ Y, Y = agL s (j + 2) := ⟨_, rfl⟩
        rw [show j + 1 + 1 = j + 2 by omega, ← hY] at HLT
        rw [← hY] at HOK HZq
        clear hY r10 k10
        cases Y with
        | bad a m =>
          have HL9 : Hid (Calls Tryz.prog 37 #[.pointer (some ⟨p, 0, none⟩)] w10 fun e w' => e = thr a m ∧ Below p w10 w') := Lib.hid HLT.out
          have HZ4 : Hid (Z = .bad a m) := Lib.hid HZq.out
          clear HLT HOK HZq
          go_wp2_with fail
          refine HL9.out.mono ?_
          rintro e w11 ⟨he, b11⟩
          unfold thr at he
          subst he
          (try go_wp2_with fail)
          rw [HZ4.out]
          simp only [bodyPost]
          exact ⟨trivial, rfl, (O10.out.kp.below (Nat.le_of_lt HP.out)).trans b11⟩
        | ok y =>
          obtain ⟨j1, N1⟩ := y
          have HL9 : Hid (Calls Tryz.prog 37 #[.pointer (some ⟨p, 0, none⟩)] w10 fun e w' => ∃ va op' v', e = .returned va ∧ AgP w10.heap.size w' va N1 ∧ Rt.RdB w' p s j1 op' v' ∧ KpB p w10 w') := Lib.hid HLT.out
          have HZ4 : Hid (Z = drF s (gk - 1) j1 (D ++ [(x, N1)])) := Lib.hid HZq.out
          obtain ⟨g1, g2, g3⟩ := HOK.out j1 N1 rfl
          have g4 := g2 (by omega)
          clear HLT HOK HZq
          go_wp2_with fail
          refine HL9.out.mono ?_
          rintro e w11 ⟨v11, op11, u11, rfl, c11, r11, k11⟩
          have O11 := Lib.hid (O10.out.step r11 k11)
          have C11 := Lib.hid (c11.raise O10.out.kp.size)
          obtain ⟨ad1, cp1, rfl⟩ : ∃ ad cp, v11 = .slice ad N1.length cp := by
            obtain ⟨_, c12, _⟩ := c11
            exact own_slice c12
          have HRW := Lib.hid O11.out.own.1
          have HSZ := Lib.hid O11.out.kp.size
          clear c11 r11 k11
          go_wp2_with (at_builtin; refine wpList_append_own _ rfl _ _ 31 rfl w.heap.size 44 i0 (.agg #[.string ⟨#[]⟩, .slice none 0 0]) 2 40 Tryz.underlying31 hin hz0 hz1 hz2 rfl (by decide) _ D.length (rw2 X) rfl (HRW.out.alloc _) ⟨w11.heap.size, 0, none⟩ 1 1 [.string x, .slice ad1 N1.length cp1] rfl rfl (news_at2 _ _ _ _ rfl (by simp)) (by intro u hu; simp at hu; rcases hu with rfl | rfl <;> rfl) (by unfold maxLen; omega) (by omega) (by have := HSZ.out; simp; omega) ?_; intro v12 w12 ho hg _; have O12 := Lib.hid (O11.out.push _ ho hg C11.out); clear ho hg)
          go_roundg (gk - 1)
          case rel => exact ⟨j1, D ++ [(x, N1)], X ++ [(x, .slice ad1 N1.length cp1)], by omega, by omega, by rw [List.length_append, List.length_singleton]; omega, HZ4, O12⟩
          case measure => omega
end Go.Proofs.YtmkkckhfdafjnaaGreatDoor.Li
/- Layer 18: a byte is put ahead of others (slices.Insert). -/
namespace Go.Proofs.YtmkkckhfdafjnaaGreatDoor.Li
open Go.RowKit Go.Maps Go.Lib
theorem info8 : ∃ i, Tryz.prog.info? 5 = some i ∧ i.zero = some (.int .u8 0) ∧ i.size = 1 ∧ i.bytes = 1 := by
  have h := Tryz.typeInfo5 default
  unfold typeInfo at h
  cases hq : Tryz.prog.info? 5 with
  | none => simp [hq] at h
  | some i =>
    simp [hq] at h
    subst h
    exact ⟨_, rfl, rfl, rfl, rfl⟩
/-- Wraps that lie above a place. -/
def BwP (B : Nat) (w : World) (v : Value) (ws : List Nat) : Prop := w.ownsRow B 5 1 v ws.length (ws.map fun n => Value.int .u8 (n : Nat)) ∧ (ws = [] → v = .slice none 0 0)
/-- What a row's cells are, it owns. -/
theorem own_of_cells {w : World} {B g n cap : Nat} {e : TypeId} {cur : Array Value} {L : List Value} (hg : w.heap[g]? = some (.cells cur e (0, 0))) (hB : B ≤ g) (hL : L.length = n) (hn : n ≤ cap) (hc : cap ≤ maxLen) (hs : cur.size = cap) (hv : ∀ j u, L[j]? = some u → w.cell? ⟨g, j, none⟩ = some u) : w.ownsRow B e 1 (.slice (some ⟨g, 0, none⟩) n cap) n L := by
  refine ⟨by omega, .inr ⟨g, cap, cur, rfl, hB, hg, hn, hc, by omega, ?_⟩⟩
  apply List.ext_getElem?
  intro j
  by_cases hj : j < n
  · rw [List.getElem?_take_of_lt (by omega)]
    have e := hv j _ (List.getElem?_eq_getElem (by omega))
    rw [List.getElem?_eq_getElem (by omega : j < L.length)]
    simp only [World.cell?, hg] at e
    simpa using e
  · rw [List.getElem?_eq_none (by rw [List.length_take]; omega), List.getElem?_eq_none (by omega)]
theorem heap_setCells (g : Nat) (e : TypeId) : ∀ (vs : List Value) (o : Nat) (w : World) (cur : Array Value), w.heap[g]? = some (.cells cur e (0, 0)) → ∃ cur', (w.setCells g o vs).heap[g]? = some (.cells cur' e (0, 0)) ∧ cur'.size = cur.size
  | [], _, _, cur, h => ⟨cur, h, rfl⟩
  | v :: vs, o, w, cur, h => by
    obtain ⟨c', h1, h2⟩ := heap_setCells g e vs (o + 1) (w.setCell ⟨g, o, none⟩ v) (cur.setIfInBounds o v) (by simp [World.setCell, Array.getElem?_modify, h])
    exact ⟨c', h1, by rw [h2]; simp⟩
theorem grown_setCells (g : Nat) : ∀ (vs : List Value) (o : Nat) (w : World), w.grownBy (w.setCells g o vs) (some g)
  | [], _, _ => ⟨rfl, rfl, rfl, Nat.le_refl _, fun _ _ _ => rfl⟩
  | v :: vs, o, w => by
    have h := grown_setCells g vs (o + 1) (w.setCell ⟨g, o, none⟩ v)
    exact ⟨h.os, h.tape, h.output, Nat.le_trans (by simp) h.size, fun k hk hne => (h.block k (by simpa using hk) hne).trans (Below.heap_setCell w ⟨g, o, none⟩ _ k (fun e => hne (by rw [e])))⟩
set_option maxHeartbeats 4000000 in
set_option maxRecDepth 100000 in
/-- Ahead of none. -/
theorem ins_nil (w : World) (x : Value) (vb : Nat) (B : Nat) (hx1 : x.oneCell' = true) (hvb : w.heap[vb]? = some (.cells #[x] 5)) (hB : B ≤ w.heap.size) : Calls Tryz.prog 57 #[.slice none 0 0, .int .i64 0, .slice (some ⟨vb, 0, none⟩) 1 1] w fun e w' => ∃ v', e = .returned v' ∧ w'.ownsRow B 5 1 v' 1 [x] ∧ w.grownBy w' none := by
  obtain ⟨i0, hin, hz0, hz1, hz2⟩ := info8
  have hO : w.ownsRow B 5 1 (.slice none 0 0) 0 [] := World.ownsRow_nil _ _ _ _
  have hnews : ∀ j u, [x][j]? = some u → w.cell? ((⟨vb, 0, none⟩ : Addr).add j) = some u := fun j u hj => by
    simp only [Addr.add_lit, Nat.zero_add, World.cell?, hvb]
    simpa using hj
  go_enter Tryz.func57, Tryz.ntmps57
  go_wp2_with (at_builtin; refine wpList_append_own _ rfl _ _ 26 rfl B 5 i0 (.int .u8 0) 1 1 Tryz.underlying26 hin hz0 hz1 hz2 rfl (by decide) (.slice none 0 0) 0 [] rfl hO ⟨vb, 0, none⟩ 1 1 [x] rfl rfl hnews (by intro u hu; simp at hu; subst hu; exact hx1) (by decide) (by decide) hB ?_; intro v' w' ho hg _)
  go_ret
  exact ⟨v', rfl, ho, hg⟩
set_option maxHeartbeats 4000000 in
set_option maxRecDepth 100000 in
/-- Ahead of others, where there is room. -/
theorem ins_room (w : World) (x : Value) (vb g n cap : Nat) (cur : Array Value) (L : List Value) (hn0 : 0 < n) (hn : n + 1 ≤ cap) (hc : cap ≤ maxLen) (hL : L.length = n) (h1 : ∀ u ∈ L, u.oneCell' = true) (hx1 : x.oneCell' = true) (hg : w.heap[g]? = some (.cells cur 5 (0, 0))) (hs : cur.size = cap) (hv : ∀ j u, L[j]? = some u → w.cell? ⟨g, j, none⟩ = some u) (hvb : w.heap[vb]? = some (.cells #[x] 5)) (hne : vb ≠ g) : Calls Tryz.prog 57 #[.slice (some ⟨g, 0, none⟩) n cap, .int .i64 0, .slice (some ⟨vb, 0, none⟩) 1 1] w fun e w' => e = .returned (.slice (some ⟨g, 0, none⟩) (n + 1) cap) ∧ w' = (w.drew.setCells g 1 L).setCells g 0 [x] := by
  have hc63 : cap ≤ 9223372036854775807 := by unfold maxLen at hc; omega
  have hsz : (Tryz.prog.info? 5).map (·.size) = some 1 := by
    obtain ⟨i0, hi0, _, hz, _⟩ := info8
    rw [hi0]; simp [hz]
  have hcl : ∀ j, j < cap → (w.cell? ⟨g, j, none⟩).isSome = true := fun j hj => by simp [World.cell?, hg, hs, hj]
  have hfz : ∀ j, w.frozen? ⟨g, j, none⟩ = false := fun j => by simp [World.frozen?, hg]
  have hov : ∀ lb cb, (callFunc 76 #[.slice (some ⟨vb, 0, none⟩) 1 1, .slice (some ⟨g, 1, none⟩) lb cb]).run Tryz.prog w = .ok (.value (.bool false)) w := fun lb cb => by
    rw [run_callFunc_extern Tryz.func76 (by kernel_rfl) (by kernel_rfl) (by kernel_rfl) (e := Extern.SlicesOverlaps.overlaps #[26, 26] #[4]) (by kernel_rfl),
      Lib.run_overlaps_apart w 26 4 5 Tryz.underlying26 1 Tryz.sizeOf5 ⟨vb, 0, none⟩ ⟨g, 1, none⟩ 1 1 lb cb hne 5 5 1 cap (by simp [World.shape?, hvb]) (by simp [World.shape?, hg, hs]) (by omega) (by simp [World.frozen?, hvb]) (by simp [World.frozen?, hvb])]
    rfl
  have hcp1 : ∀ ty dc sc, (Builtin.copy_ #[26, 26] ty #[.slice (some ⟨g, 1, none⟩) n dc, .slice (some ⟨g, 0, none⟩) (n + 1) sc]).run Tryz.prog w.drew = .ok (goInt L.length) (w.drew.setCells g 1 L) := fun ty dc sc =>
    run_copy_cells w.drew _ _ ty 5 g 1 n dc ⟨g, 0, none⟩ (n + 1) sc L Tryz.underlying26 hsz (by rw [hL]; simp only [Nat.min_def]; split <;> omega) (fun j v hj => by rw [Addr.add_lit, Nat.zero_add]; exact hv j v hj) (fun j hj => hcl _ (by omega)) (fun j _ => hfz _) h1
  obtain ⟨W1, hW1⟩ : ∃ W1, W1 = w.drew.setCells g 1 L := ⟨_, rfl⟩
  have k1 : W1.cell? ⟨vb, 0, none⟩ = some x := by
    rw [hW1, World.cell?_setCells_out g _ _ _ _ (fun h _ => absurd h hne)]
    show w.cell? ⟨vb, 0, none⟩ = some x
    simp [World.cell?, hvb]
  obtain ⟨cur1, hg1, hs1⟩ := heap_setCells g 5 L 1 w.drew cur hg
  rw [← hW1] at hg1
  have hcp2 : ∀ (W : World), (∀ a, W.cell? a = W1.cell? a) → (∀ a, W.frozen? a = W1.frozen? a) → ∀ ty dc, (Builtin.copy_ #[26, 26] ty #[.slice (some ⟨g, 0, none⟩) (n + 1) dc, .slice (some ⟨vb, 0, none⟩) 1 1]).run Tryz.prog W = .ok (goInt [x].length) (W.setCells g 0 [x]) := fun W hWc hWf ty dc =>
    run_copy_cells W _ _ ty 5 g 0 (n + 1) dc ⟨vb, 0, none⟩ 1 1 [x] Tryz.underlying26 hsz (by show 1 = _; simp only [Nat.min_def]; split <;> omega)
      (fun j v hj => by
        cases j with
        | zero => simp at hj; subst hj; rw [Addr.add_lit, hWc]; exact k1
        | succ j => simp at hj)
      (fun j hj => by
        simp at hj
        subst hj
        rw [hWc]
        simp [World.cell?, hg1, hs1, hs]
        omega) (fun j _ => by rw [hWf]; simp [World.frozen?, hg1]) (by intro u hu; simp at hu; subst hu; exact hx1)
  rw [← hW1] at hcp1
  have hz2 : ¬ ((0 : Int) = (n : Int)) := by omega
  have hr1 : ¬ ((cap : Int) < (n : Int) + 1) := by omega
  have hr2 : (n : Int) + 1 ≤ cap := by omega
  have hr3 : (1 : Int) ≤ (n : Int) + 1 := by omega
  have hr4 : ¬ (cap = 1) := by omega
  have hr5 : ¬ (cap = 0) := by omega
  have mixed : Tryz.prog.follows .mixedOrders = true := by kernel_rfl
  have hw1 : IntKind.i64.wrap 1 = 1 := by decide
  have hr6 : (0 : Int) ≤ (n : Int) + 1 := by omega
  have hni : (n : Int) ≤ 9223372036854775806 := by omega
  have HW1 := Lib.hid hW1
  clear hcl hfz hg hs hv hvb h1 hg1 hs1 k1 hW1
  go_enter Tryz.func57, Tryz.ntmps57
  go_wp2_with (simp only [hov])
  go_region_law_o (refine step_copy_runI rfl _ _ 26 26 rfl _ _ (by simp [Act.eval, Act.put]) (by simp [Act.eval, Act.put]) (hcp1 _ _ _) ?_)
  go_wp2_with (at_builtin; refine wpList_copy_runI _ rfl _ _ 26 26 rfl _ _ rfl rfl (hcp2 _ (fun _ => rfl) (fun _ => rfl) _ _) ?_)
  go_ret
  exact ⟨rfl, by rw [HW1.out]⟩
set_option maxHeartbeats 4000000 in
set_option maxRecDepth 100000 in
/-- Ahead of others, where there is no room. -/
theorem ins_grow (w : World) (x : Value) (vb g n cap : Nat) (cur : Array Value) (L : List Value) (hn0 : 0 < n) (hn : n ≤ cap) (hro : cap < n + 1) (hsm : n ≤ 1000) (hL : L.length = n) (h1 : ∀ u ∈ L, u.oneCell' = true) (hx1 : x.oneCell' = true) (hg : w.heap[g]? = some (.cells cur 5 (0, 0))) (hs : cur.size = cap) (hv : ∀ j u, L[j]? = some u → w.cell? ⟨g, j, none⟩ = some u) (hvb : w.heap[vb]? = some (.cells #[x] 5)) : Calls Tryz.prog 57 #[.slice (some ⟨g, 0, none⟩) n cap, .int .i64 0, .slice (some ⟨vb, 0, none⟩) 1 1] w fun e w' => ∃ (G : Nat) (ROW : Array Value), e = .returned (.slice (some ⟨w.heap.size, 0, none⟩) (n + 1) G) ∧ ROW.size = G ∧ n + 1 ≤ G ∧ G ≤ maxLen ∧ w' = (((w.alloc (.cells ROW 5)).drew.setCells w.heap.size 0 [x]).drew).setCells w.heap.size 1 L := by
  obtain ⟨i0, hi0, hz0, hzs, hzb⟩ := info8
  have hsz : (Tryz.prog.info? 5).map (·.size) = some 1 := by rw [hi0]; simp [hzs]
  have hgl : g < w.heap.size := (Array.getElem?_eq_some_iff.1 hg).1
  have hvl : vb < w.heap.size := (Array.getElem?_eq_some_iff.1 hvb).1
  have hold : (Builtin.firstCells i0.size 0 (.slice (some ⟨g, 0, none⟩) 0 cap)).run Tryz.prog w.drew = .ok #[] w.drew := by
    rw [hzs]
    exact run_firstCells_some w.drew 1 0 ⟨g, 0, none⟩ 0 cap [] (by decide) (fun j v hj => by simp at hj)
  have hbig : (n + 1) * 1 ≤ 140737488355328 := by omega
  have hrz : ∀ ty, (Builtin.append_ #[26, 3] ty #[.slice (some ⟨g, 0, none⟩) 0 cap, .int .i64 ((n : Int) + 1)]).run Tryz.prog w =
      .ok (.slice (some ⟨w.heap.size, 0, none⟩) (n + 1) (grownCap w (n + 1) cap 5)) (w.drew.alloc (.cells (#[] ++ Builtin.zeroCells (Value.int .u8 0).cells (n + 1) ++ Builtin.zeroCells (Value.int .u8 0).cells (grownCap w (n + 1) cap 5 - (n + 1))) 5)) := fun ty => by
    have h := Lib.run_append_grow_zeros w 26 3 ty 5 i0 _ .i64 .i64 Tryz.underlying26 Tryz.underlying3 hi0 hz0 (some ⟨g, 0, none⟩) 0 cap [] hold (n + 1) (by omega) (by omega) (by omega) (by omega) (by rw [hzb]; omega) (by rw [hzb, Nat.zero_add]; exact growslice_fits hro hbig)
    rw [Nat.zero_add] at h
    exact h
  have hG1 : n + 1 ≤ grownCap w (n + 1) cap 5 := grownCap_ge w _ _ _
  have hG2 : grownCap w (n + 1) cap 5 ≤ maxLen := grownCap_le_maxLen w (n + 1) cap 5 (by unfold maxLen; omega)
  obtain ⟨G, hG⟩ : ∃ G, G = grownCap w (n + 1) cap 5 := ⟨_, rfl⟩
  rw [← hG] at hrz hG1 hG2
  obtain ⟨ROW, hROW⟩ : ∃ ROW : Array Value, ROW = #[] ++ Builtin.zeroCells (Value.int .u8 0).cells (n + 1) ++ Builtin.zeroCells (Value.int .u8 0).cells (G - (n + 1)) := ⟨_, rfl⟩
  rw [← hROW] at hrz
  have hRs : ROW.size = G := by
    rw [hROW]
    simp [Builtin.zeroCells, Value.cells]
    omega
  obtain ⟨W1, hW1⟩ : ∃ W1, W1 = w.drew.alloc (.cells ROW 5) := ⟨_, rfl⟩
  rw [← hW1] at hrz
  have hN : W1.heap[w.heap.size]? = some (.cells ROW 5 (0, 0)) := by rw [hW1]; exact heap_alloc_new w.drew _
  have hk : ∀ k, k < w.heap.size → W1.heap[k]? = w.heap[k]? := fun k hk => by rw [hW1]; exact heap_alloc_old w.drew _ hk
  have k1 : W1.cell? ⟨vb, 0, none⟩ = some x := by
    rw [World.cell?_of_block (hk vb hvl)]
    simp [World.cell?, hvb]
  have hcpA : ∀ (W : World), (∀ a, W.cell? a = W1.cell? a) → (∀ a, W.frozen? a = W1.frozen? a) → ∀ ty dc, (Builtin.copy_ #[26, 26] ty #[.slice (some ⟨w.heap.size, 0, none⟩) (n + 1) dc, .slice (some ⟨vb, 0, none⟩) 1 1]).run Tryz.prog W = .ok (goInt [x].length) (W.setCells w.heap.size 0 [x]) := fun W hWc hWf ty dc =>
    run_copy_cells W _ _ ty 5 w.heap.size 0 (n + 1) dc ⟨vb, 0, none⟩ 1 1 [x] Tryz.underlying26 hsz (by show 1 = _; simp only [Nat.min_def]; split <;> omega)
      (fun j v hj => by
        cases j with
        | zero => simp at hj; subst hj; rw [Addr.add_lit, hWc]; exact k1
        | succ j => simp at hj)
      (fun j hj => by
        simp at hj
        subst hj
        rw [hWc]
        simp [World.cell?, hN, hRs]
        omega) (fun j _ => by rw [hWf]; simp [World.frozen?, hN]) (by intro u hu; simp at hu; subst hu; exact hx1)
  obtain ⟨row2, hN2, hs2⟩ := heap_setCells w.heap.size 5 [x] 0 W1 ROW hN
  have hcpB : ∀ (W : World), (∀ a, W.cell? a = (W1.setCells w.heap.size 0 [x]).cell? a) → (∀ a, W.frozen? a = (W1.setCells w.heap.size 0 [x]).frozen? a) → ∀ ty dc sc, (Builtin.copy_ #[26, 26] ty #[.slice (some ⟨w.heap.size, 1, none⟩) n dc, .slice (some ⟨g, 0, none⟩) n sc]).run Tryz.prog W = .ok (goInt L.length) (W.setCells w.heap.size 1 L) := fun W hWc hWf ty dc sc =>
    run_copy_cells W _ _ ty 5 w.heap.size 1 n dc ⟨g, 0, none⟩ n sc L Tryz.underlying26 hsz (by rw [hL]; simp only [Nat.min_def]; split <;> omega)
      (fun j v hj => by
        rw [Addr.add_lit, Nat.zero_add, hWc, World.cell?_setCells_out _ _ _ _ _ (fun h _ => absurd h (by show g ≠ w.heap.size; omega)), World.cell?_of_block (hk g hgl)]
        exact hv j v hj)
      (fun j hj => by
        rw [hWc]
        simp [World.cell?, hN2, hs2, hRs]
        omega)
      (fun j hj => by rw [hWf]; simp [World.frozen?, hN2]) h1
  have hz2 : ¬ ((0 : Int) = (n : Int)) := by omega
  have hr1 : (cap : Int) < (n : Int) + 1 := by omega
  have hr2 : (0 : Int) ≤ (n : Int) + 1 := by omega
  have hr3 : (1 : Int) ≤ (n : Int) + 1 := by omega
  have hr4 : ¬ (G = 1) := by omega
  have hr5 : ¬ (cap = 0) := by omega
  have hr6 : ¬ (G = 0) := by omega
  have hni : (n : Int) ≤ 1000 := by omega
  have mixed : Tryz.prog.follows .mixedOrders = true := by kernel_rfl
  have hw1 : IntKind.i64.wrap 1 = 1 := by decide
  subst hW1
  have hE1 : ∀ a, ((w.alloc (.cells ROW 5)).drew).cell? a = (w.drew.alloc (.cells ROW 5)).cell? a := fun a => rfl
  have hE2 : ∀ a, ((w.alloc (.cells ROW 5)).drew).frozen? a = (w.drew.alloc (.cells ROW 5)).frozen? a := fun a => rfl
  have hF1 : ∀ a, (((w.alloc (.cells ROW 5)).drew.setCells w.heap.size 0 [x]).drew).cell? a = ((w.drew.alloc (.cells ROW 5)).setCells w.heap.size 0 [x]).cell? a := fun a => rfl
  have hF2 : ∀ a, (((w.alloc (.cells ROW 5)).drew.setCells w.heap.size 0 [x]).drew).frozen? a = ((w.drew.alloc (.cells ROW 5)).setCells w.heap.size 0 [x]).frozen? a := fun a => rfl
  clear hold hROW hG hg hs hv hvb h1 hN hN2 hk k1 hs2
  go_enter Tryz.func57, Tryz.ntmps57
  go_wp2_with (first
    | (at_builtin; refine Lib.wpList_append_run _ rfl _ _ _ _ rfl _ _ rfl rfl _ _ (hrz _) ?_)
    | (at_builtin; refine wpList_copy_runI _ rfl _ _ 26 26 rfl _ _ rfl rfl (hcpA _ hE1 hE2 _ _) ?_)
    | (at_builtin; refine wpList_copy_runI _ rfl _ _ 26 26 rfl _ _ rfl rfl (hcpB _ (fun _ => rfl) (fun _ => rfl) _ _ _) ?_))
  go_region_law_o (refine step_copy_runI rfl _ _ 26 26 rfl (.slice (some ⟨w.heap.size, 1, none⟩) n (G - 1)) (.slice (some ⟨g, 0, none⟩) n cap) (by simp [Act.eval, Act.put]) (by simp [Act.eval, Act.put]) (hcpB _ hF1 hF2 3 (G - 1) cap) ?_)
  go_wp2
  go_ret
  exact ⟨G, ROW, rfl, hRs, hG1, hG2, rfl⟩
end Go.Proofs.YtmkkckhfdafjnaaGreatDoor.Li
/- Layer 18: a byte is put ahead of others: all ways. -/
namespace Go.Proofs.YtmkkckhfdafjnaaGreatDoor.Li
open Go.RowKit Go.Maps Go.Lib
theorem ws_one (ws : List Nat) : ∀ u ∈ ws.map (fun n => Value.int .u8 (n : Nat)), u.oneCell' = true := by
  intro u hu
  obtain ⟨n, _, rfl⟩ := List.mem_map.1 hu
  rfl
/-- Two stores into a row: its cells. -/
theorem own_two {w0 w : World} {g n cap B : Nat} {cur : Array Value} {x : Value} {L : List Value} (hg : w.heap[g]? = some (.cells cur 5 (0, 0))) (hs : cur.size = cap) (hn : n + 1 ≤ cap) (hc : cap ≤ maxLen) (hL : L.length = n) (hB : B ≤ g) (W : World) (hW : W = (w.setCells g 1 L).setCells g 0 [x] ∨ W = (w.setCells g 0 [x]).setCells g 1 L) : W.ownsRow B 5 1 (.slice (some ⟨g, 0, none⟩) (n + 1) cap) (n + 1) (x :: L) := by
  have hcl : ∀ (V : World) (c : Array Value), V.heap[g]? = some (.cells c 5 (0, 0)) → c.size = cap → ∀ j, j < cap → (V.cell? ⟨g, j, none⟩).isSome = true := fun V c h1 h2 j hj => by simp [World.cell?, h1, h2, hj]
  rcases hW with rfl | rfl
  · obtain ⟨c1, h1, s1⟩ := heap_setCells g 5 L 1 w cur hg
    obtain ⟨c2, h2, s2⟩ := heap_setCells g 5 [x] 0 _ c1 h1
    refine own_of_cells h2 hB (by simp [hL]) hn hc (by omega) (fun j u hj => ?_)
    cases j with
    | zero =>
      simp at hj
      subst hj
      have e := World.cell?_setCells_in g [x] 0 (w.setCells g 1 L) (fun j hj => hcl _ c1 h1 (by omega) _ (by simp at hj; omega)) 0 (by simp)
      simpa using e
    | succ j =>
      simp at hj
      have hjL : j < L.length := (List.getElem?_eq_some_iff.1 hj).1
      rw [World.cell?_setCells_out g _ _ _ _ (fun _ _ => by show j + 1 < 0 ∨ 0 + 1 ≤ j + 1; omega)]
      have e := World.cell?_setCells_in g L 1 w (fun j hj => hcl _ cur hg hs _ (by omega)) j hjL
      rw [show j + 1 = 1 + j by omega, e]
      rw [← List.getElem?_eq_getElem hjL]
      exact hj
  · obtain ⟨c1, h1, s1⟩ := heap_setCells g 5 [x] 0 w cur hg
    obtain ⟨c2, h2, s2⟩ := heap_setCells g 5 L 1 _ c1 h1
    refine own_of_cells h2 hB (by simp [hL]) hn hc (by omega) (fun j u hj => ?_)
    cases j with
    | zero =>
      simp at hj
      subst hj
      rw [World.cell?_setCells_out g _ _ _ _ (fun _ _ => by show 0 < 1 ∨ 1 + L.length ≤ 0; omega)]
      have e := World.cell?_setCells_in g [x] 0 w (fun j hj => hcl _ cur hg hs _ (by simp at hj; omega)) 0 (by simp)
      simpa using e
    | succ j =>
      simp at hj
      have hjL : j < L.length := (List.getElem?_eq_some_iff.1 hj).1
      have e := World.cell?_setCells_in g L 1 (w.setCells g 0 [x]) (fun j hj => hcl _ c1 h1 (by omega) _ (by omega)) j hjL
      rw [show j + 1 = 1 + j by omega, e]
      rw [← List.getElem?_eq_getElem hjL]
      exact hj
theorem grown_drew {w w' : World} {r : Option Nat} (h : w.drew.grownBy w' r) : w.grownBy w' r := ⟨h.os, h.tape, h.output, h.size, h.block⟩
theorem grown_trans {w w1 w2 : World} {r : Option Nat} (h : w.grownBy w1 r) (k : w1.grownBy w2 r) : w.grownBy w2 r := ⟨k.os.trans h.os, k.tape.trans h.tape, k.output.trans h.output, Nat.le_trans h.size k.size, fun j h1 h2 => (k.block j (Nat.lt_of_lt_of_le h1 h.size) h2).trans (h.block j h1 h2)⟩
theorem insert_any (B : Nat) (w : World) (v : Value) (ws : List Nat) (x vb : Nat) (hO : BwP B w v ws) (hl : ws.length ≤ 100) (hvb : w.heap[vb]? = some (.cells #[.int .u8 (x : Nat)] 5)) (hne : v.ownBlock ≠ some vb) (hB : B ≤ w.heap.size) : Calls Tryz.prog 57 #[v, .int .i64 0, .slice (some ⟨vb, 0, none⟩) 1 1] w fun e w' => ∃ v', e = .returned v' ∧ BwP B w' v' (x :: ws) ∧ w.grownBy w' v.ownBlock ∧ (v'.ownBlock = v.ownBlock ∨ ∃ g, v'.ownBlock = some g ∧ w.heap.size ≤ g) := by
  obtain ⟨hrow, hnil⟩ := hO
  cases ws with
  | nil =>
    obtain rfl := hnil rfl
    refine (ins_nil w (.int .u8 (x : Nat)) vb w.heap.size rfl hvb (Nat.le_refl _)).mono ?_
    rintro e w' ⟨v', rfl, ho, hg⟩
    exact ⟨v', rfl, ⟨own_base ho hB, fun e => by cases e⟩, hg, .inr (by
      obtain ⟨q, cap, hq, h1, h2⟩ := own_addr ho (by decide)
      exact ⟨q, by rw [hq]; rfl, h1⟩)⟩
  | cons y ws =>
    obtain ⟨L, hL⟩ : ∃ L, L = (y :: ws).map (fun n => Value.int .u8 (n : Nat)) := ⟨_, rfl⟩
    have hone := ws_one (y :: ws)
    obtain ⟨n, hn⟩ : ∃ n, n = (y :: ws).length := ⟨_, rfl⟩
    have hLn : L.length = n := by rw [hL, hn]; simp
    have hn0 : 0 < n := by rw [hn]; simp
    have hcells : (x :: y :: ws).map (fun n => Value.int .u8 (n : Nat)) = Value.int .u8 (x : Nat) :: L := by rw [hL]; rfl
    have hlen : (x :: y :: ws).length = n + 1 := by rw [hn]; rfl
    unfold BwP
    rw [hcells, hlen]
    rw [← hL] at hrow hone
    rw [← hn] at hrow hl
    rcases hrow.2 with ⟨_, h0⟩ | ⟨g, cap, cur, rfl, hBg, hg, hnc, hcm, hs, ht⟩
    · omega
    have hs1 : cur.size = cap := by omega
    have hv : ∀ j u, L[j]? = some u → w.cell? ⟨g, j, none⟩ = some u := fun j u hj => by
      have hjn : j < L.length := (List.getElem?_eq_some_iff.1 hj).1
      rw [← ht, List.getElem?_take_of_lt (by omega)] at hj
      simp only [World.cell?, hg]
      simpa using hj
    have hgv : g ≠ vb := fun e => hne (by rw [e]; rfl)
    by_cases hr : n + 1 ≤ cap
    · refine (ins_room w (.int .u8 (x : Nat)) vb g n cap cur L hn0 hr hcm hLn hone rfl hg hs1 hv hvb (fun e => hgv e.symm)).mono ?_
      rintro e w' ⟨rfl, rfl⟩
      exact ⟨_, rfl, ⟨own_two (w0 := w) (w := w.drew) hg hs1 hr hcm hLn hBg _ (.inl rfl), fun e => by cases e⟩, grown_trans (grown_drew (grown_setCells g L 1 w.drew)) (grown_setCells g _ 0 _), .inl rfl⟩
    · refine (ins_grow w (.int .u8 (x : Nat)) vb g n cap cur L hn0 hnc (by omega) (by omega) hLn hone rfl hg hs1 hv hvb).mono ?_
      rintro e w' ⟨G, ROW, rfl, h1, h2, h3, rfl⟩
      have hgl : g < w.heap.size := (Array.getElem?_eq_some_iff.1 hg).1
      have ga : w.grownBy (w.alloc (.cells ROW 5)).drew (some g) := ⟨rfl, rfl, rfl, by show _ ≤ (w.alloc _).heap.size; simp, fun k hk _ => heap_alloc_old w _ hk⟩
      have gs : ∀ (vs : List Value) (o : Nat) (W : World), w.grownBy W (some g) → w.grownBy (W.setCells w.heap.size o vs) (some g) := fun vs o W h => by
        have k := grown_setCells w.heap.size vs o W
        exact ⟨k.os.trans h.os, k.tape.trans h.tape, k.output.trans h.output, Nat.le_trans h.size k.size, fun j hj hne => (k.block j (Nat.lt_of_lt_of_le hj h.size) (fun e => by cases e; omega)).trans (h.block j hj hne)⟩
      have gd : ∀ W : World, w.grownBy W (some g) → w.grownBy W.drew (some g) := fun W h => ⟨h.os, h.tape, h.output, h.size, h.block⟩
      refine ⟨_, rfl, ⟨own_two (w0 := w) (w := (w.alloc (.cells ROW 5)).drew.drew) (x := .int .u8 (x : Nat)) (cur := ROW) (heap_alloc_new w _) h1 h2 h3 hLn hB _ (.inr ?_), fun e => by cases e⟩, gs _ _ _ (gd _ (gs _ _ _ ga)), .inr ⟨_, rfl, Nat.le_refl _⟩⟩
      rw [drew_setCells]
end Go.Proofs.YtmkkckhfdafjnaaGreatDoor.Li
/- Layer 18: a type: what its closures share. -/
namespace Go.Proofs.YtmkkckhfdafjnaaGreatDoor.Li
open Go.RowKit Go.Maps Rt
/-- Two blocks change. -/
structure Kr (p q : Nat) (w w' : World) : Prop where
  os : w'.os = w.os
  tape : w'.tape = w.tape
  output : w'.output = w.output
  size : w.heap.size ≤ w'.heap.size
  kept : ∀ k, k < w.heap.size → k ≠ p → k ≠ q → w'.heap[k]? = w.heap[k]?
theorem Kr.trans {p q : Nat} {w w1 w2 : World} (h : Kr p q w w1) (k : Kr p q w1 w2) : Kr p q w w2 := ⟨k.os.trans h.os, k.tape.trans h.tape, k.output.trans h.output, Nat.le_trans h.size k.size, fun j h1 h2 h3 => (k.kept j (Nat.lt_of_lt_of_le h1 h.size) h2 h3).trans (h.kept j h1 h2 h3)⟩
theorem Kr.of_kp {p q : Nat} {w w' : World} (k : KpB p w w') : Kr p q w w' := ⟨k.os, k.tape, k.output, k.size, fun j h1 h2 _ => k.kept j h1 h2⟩
theorem Kr.of_below {p q : Nat} {w w' : World} (b : Below w.heap.size w w') : Kr p q w w' := ⟨b.os, b.tape, b.output, b.size, fun j h1 _ _ => b.block j h1⟩
theorem Kr.below {p q : Nat} {w w' : World} (h : Kr p q w w') (hp : p ≤ w.heap.size) (hq : p < q) : Below p w w' := ⟨h.os, h.tape, h.output, h.size, fun k hk => h.kept k (by omega) (by omega) (by omega)⟩
/-- A reader of a type: what wraps, and how many there are. -/
structure RfB (w : World) (p b1 b3 b4 b5 : Nat) (s : LTok) (i op : Nat) (v : Value) (rd : Nat) : Prop where
  r : Rt.RdB w p s i op v
  h1 : w.heap[b1]? = some (.cells #[.pointer (some ⟨p, 0, none⟩)] 82)
  h3 : w.heap[b3]? = some (.cells #[.int .i64 rd] 3)
  h4 : w.heap[b4]? = some (.cells #[.func (.func 52) #[] #[.pointer (some ⟨b3, 0, none⟩), .pointer (some ⟨b1, 0, none⟩)]] 1)
  h5 : w.heap[b5]? = some (.cells #[.func (.func 54) #[] #[.pointer (some ⟨b1, 0, none⟩), .pointer (some ⟨b4, 0, none⟩), .pointer (some ⟨b5, 0, none⟩)]] 81)
  o1 : p < b1
  o3 : b1 < b3
  o4 : b3 < b4
  o5 : b4 < b5
theorem RfB.lt {w : World} {p b1 b3 b4 b5 : Nat} {s : LTok} {i op : Nat} {v : Value} {rd : Nat} (h : RfB w p b1 b3 b4 b5 s i op v rd) : b5 < w.heap.size := (Array.getElem?_eq_some_iff.1 h.h5).1
theorem RfB.keep {w w' : World} {p b1 b3 b4 b5 : Nat} {s : LTok} {i op : Nat} {v : Value} {rd : Nat} (h : RfB w p b1 b3 b4 b5 s i op v rd) (k : ∀ j, j ≤ b5 → w'.heap[j]? = w.heap[j]?) : RfB w' p b1 b3 b4 b5 s i op v rd := by
  have := h.o1
  have := h.o3
  have := h.o4
  have := h.o5
  exact ⟨h.r.same (k _ (by omega)) (fun j hj => k _ (by omega)), (k _ (by omega)).trans h.h1, (k _ (by omega)).trans h.h3, (k _ (by omega)).trans h.h4, (k _ (by omega)).trans h.h5, h.o1, h.o3, h.o4, h.o5⟩
theorem RfB.step {w w' : World} {p b1 b3 b4 b5 : Nat} {s : LTok} {i j op op' : Nat} {v v' : Value} {rd : Nat} (h : RfB w p b1 b3 b4 b5 s i op v rd) (r : Rt.RdB w' p s j op' v') (k : KpB p w w') : RfB w' p b1 b3 b4 b5 s j op' v' rd := by
  have := h.o1
  have := h.o3
  have := h.o4
  have := h.o5
  have := h.lt
  have kk : ∀ q, q ≤ b5 → q ≠ p → w'.heap[q]? = w.heap[q]? := fun q h1 h2 => k.kept q (by omega) h2
  exact ⟨r, (kk _ (by omega) (by omega)).trans h.h1, (kk _ (by omega) (by omega)).trans h.h3, (kk _ (by omega) (by omega)).trans h.h4, (kk _ (by omega) (by omega)).trans h.h5, h.o1, h.o3, h.o4, h.o5⟩
theorem cell0_of {w : World} {b : Nat} {x : Value} {t : TypeId} (h : w.heap[b]? = some (.cells #[x] t)) : w.cell? ⟨b, 0, none⟩ = some x ∧ w.frozen? ⟨b, 0, none⟩ = false := ⟨by simp [World.cell?, h], by simp [World.frozen?, h]⟩
/-- Eight are read: no more. -/
theorem wrap_bad {w : World} {p b1 b3 b4 b5 : Nat} {s : LTok} {i op : Nat} {v : Value} {rd : Nat} (h : RfB w p b1 b3 b4 b5 s i op v rd) (hr : rd = 8) : Calls Tryz.prog 52 #[.pointer (some ⟨b3, 0, none⟩), .pointer (some ⟨b1, 0, none⟩)] w fun e w' => e = thr i 30 ∧ Below w.heap.size w w' := by
  subst hr
  have c3 := (cell0_of h.h3).1
  have c1 := (cell0_of h.h1).1
  have HF := Lib.hid (Rt.fail_any 30 w h.r)
  have hri : ((8 : Nat) : Int) = 8 := rfl
  clear h
  go_enter Tryz.func52, Tryz.ntmps52
  go_wp2_with fail
  refine HF.out.mono ?_
  rintro e w9 ⟨he, b9⟩
  unfold thr at he
  subst he
  (try go_wp2_with fail)
  simp only [bodyPost]
  exact ⟨trivial, rfl, b9⟩
theorem wrap_ok {w : World} {p b1 b3 b4 b5 : Nat} {s : LTok} {i op : Nat} {v : Value} {rd : Nat} (h : RfB w p b1 b3 b4 b5 s i op v rd) (hr : rd < 8) (hi : i ≤ 1999999) : Calls Tryz.prog 52 #[.pointer (some ⟨b3, 0, none⟩), .pointer (some ⟨b1, 0, none⟩)] w fun e w' => e = .returned (.tuple #[]) ∧ RfB w' p b1 b3 b4 b5 s (i + 1) op v (rd + 1) ∧ Kr p b3 w w' := by
  have c3 := (cell0_of h.h3).1
  have z3 := (cell0_of h.h3).2
  have c1 := (cell0_of h.h1).1
  have cp := h.r.c1
  have zp := h.r.z 1
  have o1 := h.o1
  have o3 := h.o3
  have o4 := h.o4
  have o5 := h.o5
  have n1 : ¬ (b3 = p) := by omega
  have n2 : ¬ (p = b3) := by omega
  have n3 : ¬ (b3 = b1) := by omega
  have n4 : ¬ (b1 = b3) := by omega
  have q8 : ((rd : Int) == 8) = false := beq_eq_false_iff_ne.2 (by omega)
  have hri : (rd : Int) ≤ 8 := by omega
  have hii : (i : Int) ≤ 1999999 := by omega
  have HFIN : Hid (RfB ((w.setCell ⟨b3, 0, none⟩ (.int .i64 ((rd : Int) + 1))).setCell ⟨p, 1, none⟩ (.int .i64 ((i : Int) + 1))) p b1 b3 b4 b5 s (i + 1) op v (rd + 1) ∧ Kr p b3 w ((w.setCell ⟨b3, 0, none⟩ (.int .i64 ((rd : Int) + 1))).setCell ⟨p, 1, none⟩ (.int .i64 ((i : Int) + 1)))) := Lib.hid (by
    obtain ⟨W, hW⟩ : ∃ W, W = w.setCell ⟨b3, 0, none⟩ (.int .i64 ((rd : Int) + 1)) := ⟨_, rfl⟩
    have kW : ∀ k, k ≠ b3 → W.heap[k]? = w.heap[k]? := fun k hk => by rw [hW]; exact Below.heap_setCell w ⟨b3, 0, none⟩ _ k hk
    have rW : Rt.RdB W p s i op v := h.r.same (kW _ (by omega)) (fun j hj => kW _ (by omega))
    have hsW : W.heap.size = w.heap.size := by rw [hW]; simp
    have gW : W.heap[b3]? = some (.cells #[.int .i64 (rd + 1 : Nat)] 3) := by
      rw [hW]
      have := set1_heap (i := 0) (p := .int .i64 ((rd : Int) + 1)) h.h3
      simpa using this
    obtain ⟨rV, kV⟩ := rW.at_ (i + 1) ((i : Int) + 1) (by omega)
    rw [← hW]
    have hlt := h.lt
    have kk : ∀ q, q < w.heap.size → q ≠ p → (W.setCell ⟨p, 1, none⟩ (.int .i64 ((i : Int) + 1))).heap[q]? = W.heap[q]? := fun q h1 h2 => kV.kept q (by omega) h2
    exact ⟨⟨rV, by rw [kk _ (by omega) (by omega), kW _ (by omega)]; exact h.h1, by rw [kk _ (by omega) (by omega)]; exact gW, by rw [kk _ (by omega) (by omega), kW _ (by omega)]; exact h.h4, by rw [kk _ (by omega) (by omega), kW _ (by omega)]; exact h.h5, h.o1, h.o3, h.o4, h.o5⟩,
      ⟨kV.os.trans (by rw [hW]; rfl), kV.tape.trans (by rw [hW]; rfl), kV.output.trans (by rw [hW]; rfl), by have := kV.size; omega, fun q h1 h2 h3 => (kk q h1 h2).trans (kW q h3)⟩⟩)
  clear h o1 o3 o4 o5
  go_enter Tryz.func52, Tryz.ntmps52
  go_wp2_with fail
  go_end0
  exact ⟨rfl, HFIN.out⟩
/-! ### Between a type's parts -/
/-- A type is being read: what stands where. -/
structure Mid (w W : World) (p b1 b3 b4 b5 : Nat) (s : LTok) (i op : Nat) (v : Value) (rd : Nat) (nm : ByteArray) (ws : List Nat) (vw : Value) : Prop where
  rf : RfB W p b1 b3 b4 b5 s i op v rd
  n0 : W.heap[w.heap.size]? = some (.cells #[.string ⟨#[]⟩, .slice none 0 0] 28)
  n1 : W.heap[w.heap.size + 1]? = some (.cells #[.string nm, vw] 28)
  bw : BwP w.heap.size W vw ws
  kr : Kr p b3 w W
  low : b5 < w.heap.size
theorem BwP.off {B : Nat} {w : World} {v : Value} {ws : List Nat} (h : BwP B w v ws) {j : Nat} {cs : Array Value} {t : TypeId} (hj : w.heap[j]? = some (.cells cs t)) (ht : t ≠ 5) : v.ownBlock ≠ some j := fun e => by
  rcases h.1.2 with ⟨hv, _⟩ | ⟨g, cap, cur, hv, _, hg, _⟩
  · rw [hv] at e; cases e
  · rw [hv] at e
    cases e
    rw [hg] at hj
    cases hj
    exact ht rfl
theorem BwP.move {B : Nat} {w w' : World} {v : Value} {ws : List Nat} (h : BwP B w v ws) (k : ∀ j, v.ownBlock = some j → w'.heap[j]? = w.heap[j]?) : BwP B w' v ws := by
  refine ⟨⟨h.1.1, ?_⟩, h.2⟩
  rcases h.1.2 with ⟨hv, h0⟩ | ⟨g, cap, cur, hv, hB, hg, rest⟩
  · exact .inl ⟨hv, h0⟩
  · exact .inr ⟨g, cap, cur, hv, hB, (k g (by rw [hv]; rfl)).trans hg, rest⟩
theorem Mid.step {w W W' : World} {p b1 b3 b4 b5 : Nat} {s : LTok} {i j op : Nat} {v : Value} {rd rd' : Nat} {nm : ByteArray} {ws : List Nat} {vw : Value} (h : Mid w W p b1 b3 b4 b5 s i op v rd nm ws vw) (r : RfB W' p b1 b3 b4 b5 s j op v rd') (k : Kr p b3 W W') : Mid w W' p b1 b3 b4 b5 s j op v rd' nm ws vw := by
  have := h.rf.o1
  have := h.rf.o3
  have := h.rf.o4
  have := h.rf.o5
  have hl := h.low
  have l1 := (Array.getElem?_eq_some_iff.1 h.n1).1
  refine ⟨r, (k.kept _ (by omega) (by omega) (by omega)).trans h.n0, (k.kept _ l1 (by omega) (by omega)).trans h.n1, h.bw.move (fun j e => ?_), h.kr.trans k, hl⟩
  obtain ⟨q1, q2⟩ := h.bw.1.lt j e
  exact k.kept j q2 (by omega) (by omega)
theorem Mid.below {w W W' : World} {p b1 b3 b4 b5 : Nat} {s : LTok} {i op : Nat} {v : Value} {rd : Nat} {nm : ByteArray} {ws : List Nat} {vw : Value} (h : Mid w W p b1 b3 b4 b5 s i op v rd nm ws vw) (b : Below W.heap.size W W') : Mid w W' p b1 b3 b4 b5 s i op v rd nm ws vw :=
  h.step (h.rf.keep (fun j hj => b.block j (by have := h.rf.lt; omega))) (Kr.of_below b)
theorem Mid.kp {w W W' : World} {p b1 b3 b4 b5 : Nat} {s : LTok} {i j op : Nat} {v : Value} {rd : Nat} {nm : ByteArray} {ws : List Nat} {vw : Value} (h : Mid w W p b1 b3 b4 b5 s i op v rd nm ws vw) (r : Rt.RdB W' p s j op v) (k : KpB p W W') : Mid w W' p b1 b3 b4 b5 s j op v rd nm ws vw := h.step (h.rf.step r k) (Kr.of_kp k)
theorem Mid.start {w : World} {p b1 b3 b4 b5 : Nat} {s : LTok} {i op : Nat} {v : Value} {rd : Nat} (h : RfB w p b1 b3 b4 b5 s i op v rd) : Mid w ((w.alloc (.cells #[.string ⟨#[]⟩, .slice none 0 0] 28)).alloc (.cells #[.string ⟨#[]⟩, .slice none 0 0] 28)) p b1 b3 b4 b5 s i op v rd ⟨#[]⟩ [] (.slice none 0 0) := by
  have hlt := h.lt
  have hb : Below w.heap.size w ((w.alloc (.cells #[.string ⟨#[]⟩, .slice none 0 0] 28)).alloc (.cells #[.string ⟨#[]⟩, .slice none 0 0] 28)) := ((Below.refl _ _).alloc (Nat.le_refl _) _).alloc (by simp) _
  refine ⟨h.keep (fun j hj => hb.block j (by omega)), ?_, ?_, ⟨World.ownsRow_nil _ _ _ _, fun _ => rfl⟩, Kr.of_below hb, hlt⟩
  · rw [heap_alloc_old _ _ (by simp)]; exact heap_alloc_new _ _
  · have e := heap_alloc_new (w.alloc (.cells #[.string ⟨#[]⟩, .slice none 0 0] 28)) (.cells #[.string ⟨#[]⟩, .slice none 0 0] 28)
    simpa using e
/-- Something is stored at a block that is made: the rest stays. -/
theorem Mid.at1 {w W W' : World} {p b1 b3 b4 b5 : Nat} {s : LTok} {i op : Nat} {v : Value} {rd : Nat} {nm nm' : ByteArray} {ws ws' : List Nat} {vw vw' : Value} (h : Mid w W p b1 b3 b4 b5 s i op v rd nm ws vw) (k : ∀ j, j < W.heap.size → j ≠ w.heap.size + 1 → vw.ownBlock ≠ some j → W'.heap[j]? = W.heap[j]?) (os : W'.os = W.os) (tape : W'.tape = W.tape) (out : W'.output = W.output) (sz : W.heap.size ≤ W'.heap.size) (n1 : W'.heap[w.heap.size + 1]? = some (.cells #[.string nm', vw'] 28)) (bw : BwP w.heap.size W' vw' ws') : Mid w W' p b1 b3 b4 b5 s i op v rd nm' ws' vw' := by
  have hl := h.low
  have hlt := h.rf.lt
  have l1 := (Array.getElem?_eq_some_iff.1 h.n1).1
  have far : ∀ j, j < w.heap.size → vw.ownBlock ≠ some j := fun j hj e => by have := (h.bw.1.lt j e).1; omega
  have kl : ∀ j, j < w.heap.size → W'.heap[j]? = W.heap[j]? := fun j hj => k j (by omega) (by omega) (far j hj)
  exact ⟨h.rf.keep (fun j hj => kl j (by omega)), (k _ (by omega) (by omega) (h.bw.off h.n0 (by decide))).trans h.n0, n1, bw, ⟨os.trans h.kr.os, tape.trans h.kr.tape, out.trans h.kr.output, Nat.le_trans h.kr.size sz, fun j h1 h2 h3 => (kl j h1).trans (h.kr.kept j h1 h2 h3)⟩, hl⟩
/-- A wrap is put ahead. -/
theorem Mid.ins {w W W4 : World} {p b1 b3 b4 b5 : Nat} {s : LTok} {i op : Nat} {v : Value} {rd : Nat} {nm : ByteArray} {ws : List Nat} {vw v' : Value} {x : Nat} (h : Mid w W p b1 b3 b4 b5 s i op v rd nm ws vw) (o : Obj) (g : (W.alloc o).grownBy W4 vw.ownBlock) (b : BwP w.heap.size W4 v' (x :: ws)) : W4.cell? ⟨w.heap.size + 1, 1, none⟩ = some vw ∧ W4.frozen? ⟨w.heap.size + 1, 1, none⟩ = false ∧ Mid w (W4.setCell ⟨w.heap.size + 1, 1, none⟩ v') p b1 b3 b4 b5 s i op v rd nm (x :: ws) v' := by
  have l1 := (Array.getElem?_eq_some_iff.1 h.n1).1
  have kA : ∀ j, j < W.heap.size → vw.ownBlock ≠ some j → W4.heap[j]? = W.heap[j]? := fun j hj hne => (g.block j (by simp; omega) (fun e => hne e.symm)).trans (heap_alloc_old _ _ hj)
  have n1 := (kA _ l1 (h.bw.off h.n1 (by decide))).trans h.n1
  refine ⟨by simp [World.cell?, n1], by simp [World.frozen?, n1], h.at1 (fun j h1 h2 h3 => ?_) g.os g.tape g.output ?_ ?_ (b.move (fun j e => ?_))⟩
  · rw [Below.heap_setCell W4 ⟨w.heap.size + 1, 1, none⟩ _ j h2]; exact kA j h1 h3
  · have := g.size; simp at this ⊢; omega
  · have := set1_heap (i := 1) (p := v') n1
    simpa using this
  · exact Below.heap_setCell W4 ⟨w.heap.size + 1, 1, none⟩ _ j (fun q => b.off n1 (by decide) (by rw [e, q]))
/-- A name is set. -/
theorem Mid.setn {w W : World} {p b1 b3 b4 b5 : Nat} {s : LTok} {i op : Nat} {v : Value} {rd : Nat} {nm : ByteArray} {ws : List Nat} {vw : Value} (h : Mid w W p b1 b3 b4 b5 s i op v rd nm ws vw) (x : ByteArray) : Mid w (W.setCell ⟨w.heap.size + 1, 0, none⟩ (.string x)) p b1 b3 b4 b5 s i op v rd x ws vw := by
  refine h.at1 (fun j h1 h2 h3 => Below.heap_setCell W ⟨w.heap.size + 1, 0, none⟩ _ j h2) rfl rfl rfl (by simp) ?_ (h.bw.move (fun j e => Below.heap_setCell W ⟨w.heap.size + 1, 0, none⟩ _ j (fun q => h.bw.off h.n1 (by decide) (by rw [e, q]))))
  have := set1_heap (i := 0) (p := .string x) h.n1
  simpa using this
/-- A type is set. -/
theorem Mid.set {w W : World} {p b1 b3 b4 b5 : Nat} {s : LTok} {i op : Nat} {v : Value} {rd : Nat} {nm nm' : ByteArray} {ws ws' : List Nat} {vw vw' : Value} (h : Mid w W p b1 b3 b4 b5 s i op v rd nm ws vw) (b : BwP w.heap.size W vw' ws') : Mid w ((W.setCell ⟨w.heap.size + 1, 0, none⟩ (.string nm')).setCell ⟨w.heap.size + 1, 1, none⟩ vw') p b1 b3 b4 b5 s i op v rd nm' ws' vw' := by
  have kS : ∀ j, j ≠ w.heap.size + 1 → ((W.setCell ⟨w.heap.size + 1, 0, none⟩ (.string nm')).setCell ⟨w.heap.size + 1, 1, none⟩ vw').heap[j]? = W.heap[j]? := fun j hj => by
    rw [Below.heap_setCell _ ⟨w.heap.size + 1, 1, none⟩ _ j hj, Below.heap_setCell _ ⟨w.heap.size + 1, 0, none⟩ _ j hj]
  refine h.at1 (fun j h1 h2 h3 => kS j h2) rfl rfl rfl (by simp) ?_ (b.move (fun j e => kS j (fun q => b.off h.n1 (by decide) (by rw [e, q]))))
  have := set1_heap (i := 1) (p := vw') (set1_heap (i := 0) (p := .string nm') h.n1)
  simpa using this
/-- What is told is laid. -/
theorem Mid.fin {w W : World} {p b1 b3 b4 b5 : Nat} {s : LTok} {i op : Nat} {v : Value} {rd : Nat} {nm : ByteArray} {ws : List Nat} {vw : Value} (h : Mid w W p b1 b3 b4 b5 s i op v rd nm ws vw) : ((W.setCell ⟨w.heap.size, 0, none⟩ (.string nm)).setCell ⟨w.heap.size, 1, none⟩ vw).heap[w.heap.size]? = some (.cells #[.string nm, vw] 28) ∧ BwP w.heap.size ((W.setCell ⟨w.heap.size, 0, none⟩ (.string nm)).setCell ⟨w.heap.size, 1, none⟩ vw) vw ws ∧ RfB ((W.setCell ⟨w.heap.size, 0, none⟩ (.string nm)).setCell ⟨w.heap.size, 1, none⟩ vw) p b1 b3 b4 b5 s i op v rd ∧ Kr p b3 w ((W.setCell ⟨w.heap.size, 0, none⟩ (.string nm)).setCell ⟨w.heap.size, 1, none⟩ vw) := by
  have kS : ∀ j, j ≠ w.heap.size → ((W.setCell ⟨w.heap.size, 0, none⟩ (.string nm)).setCell ⟨w.heap.size, 1, none⟩ vw).heap[j]? = W.heap[j]? := fun j hj => by
    rw [Below.heap_setCell _ ⟨w.heap.size, 1, none⟩ _ j hj, Below.heap_setCell _ ⟨w.heap.size, 0, none⟩ _ j hj]
  have hl := h.low
  refine ⟨?_, h.bw.move (fun j e => kS j (fun q => h.bw.off h.n0 (by decide) (by rw [e, q]))), h.rf.keep (fun j hj => kS j (by omega)), ⟨h.kr.os, h.kr.tape, h.kr.output, by have := h.kr.size; simp; omega, fun j h1 h2 h3 => (kS j (by omega)).trans (h.kr.kept j h1 h2 h3)⟩⟩
  have := set1_heap (i := 1) (p := vw) (set1_heap (i := 0) (p := .string nm) h.n0)
  simpa using this
theorem infoR : ∃ i, Tryz.prog.info? 28 = some i ∧ i.zero = some (.agg #[.string ⟨#[]⟩, .slice none 0 0]) ∧ i.size = 2 ∧ i.bytes = 40 := by
  have h := Tryz.typeInfo28 default
  unfold typeInfo at h
  cases hq : Tryz.prog.info? 28 with
  | none => simp [hq] at h
  | some i =>
    simp [hq] at h
    subst h
    exact ⟨_, rfl, rfl, rfl, rfl⟩
theorem ret_ref {R : Ending → World → Prop} {fn : Func} {tmps : Array Value} {w : World} {g k : Nat} {cs : Array Value} (hr : fn.results = #[.cell k 28]) (h2 : tmps.getD k undef = .pointer (some ⟨g, 0, none⟩)) (hg : w.heap[g]? = some (.cells cs 28)) (hs : cs.size = 2)
    (hR : R (.returned (.agg cs)) w) : bodyPost Tryz.prog fn R .ret ⟨tmps, []⟩ w := by
  obtain ⟨i0, hin, hz0, hz1, hz2⟩ := infoR
  refine bodyPost_ret (v := .agg cs) ?_ rfl hR
  exact results_cell_row hr tmps w g 28 cs (0, 0) _ h2 hg Tryz.underlying28 rfl (by rw [hin]; simp [hz1, hs])
end Go.Proofs.YtmkkckhfdafjnaaGreatDoor.Li
