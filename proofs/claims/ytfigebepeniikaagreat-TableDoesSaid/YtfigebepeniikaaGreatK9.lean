import Derived.Test.YtfigebepeniikaaGreatK8
import Derived.Lib.AppendZerosOnto
import Derived.Deep.RegionLaw
/- Layer 27: Get. -/
namespace Go.Proofs.YtfigebepeniikaaGreat
open Go.RowKit Go.Maps Go.Shelf
theorem ret_ct {P : Program} {Q : Ending → World → Prop} {fn : Func} {tmps : Array Value} {w : World} {p u : Nat} {ty : TypeId} {d : TypeDesc} {g : Nat} {cs : Array Value} {v : Value} (hr : fn.results = #[.cell p ty, .tmp u]) (h2 : tmps.getD p undef = .pointer (some ⟨g, 0, none⟩)) (h3 : tmps.getD u undef = v) (hg : w.heap[g]? = some (.cells cs ty))
    (hu : P.underlying ty = some d) (hd : (match d with | .struct _ | .array _ _ => true | _ => false) = true) (hi : (P.info? ty).map (·.size) = some cs.size) (hQ : Q (.returned (.tuple #[.agg cs, v])) w) : bodyPost P fn Q .ret ⟨tmps, []⟩ w := by
  refine bodyPost_ret (v := .tuple #[.agg cs, v]) ?_ rfl hQ
  rw [results_cell_tmp hr, h2, h3]
  simp [asAddr, Result.andThen, run_loadVar_row w g ty ty cs (0, 0) d hg hu hd hi]
theorem ret_rt {Q : Ending → World → Prop} {fn : Func} {tmps : Array Value} {w : World} {p u : Nat} {g : Nat} {x0 x1 v : Value} (hr : fn.results = #[.cell p 28, .tmp u]) (h2 : tmps.getD p undef = .pointer (some ⟨g, 0, none⟩)) (h3 : tmps.getD u undef = v) (hg : Bx2 w g x0 x1) (hQ : Q (.returned (.tuple #[.agg #[x0, x1], v])) w) : bodyPost Tryz.prog fn Q .ret ⟨tmps, []⟩ w :=
  ret_ct hr h2 h3 hg Tryz.underlying28 rfl (by rw [infoRk]; rfl) hQ
theorem infoTk : (Tryz.prog.info? 25).map (·.size) = some 4 := by kernel_rfl
theorem ret_tt {Q : Ending → World → Prop} {fn : Func} {tmps : Array Value} {w : World} {p u : Nat} {g : Nat} {x0 x1 x2 x3 v : Value} (hr : fn.results = #[.cell p 25, .tmp u]) (h2 : tmps.getD p undef = .pointer (some ⟨g, 0, none⟩)) (h3 : tmps.getD u undef = v) (hg : Bx4 w g 25 x0 x1 x2 x3) (hQ : Q (.returned (.tuple #[.agg #[x0, x1, x2, x3], v])) w) : bodyPost Tryz.prog fn Q .ret ⟨tmps, []⟩ w :=
  ret_ct hr h2 h3 hg Tryz.underlying25 rfl (by rw [infoTk]; rfl) hQ
/-- Find, of a list that does not rise. -/
theorem findOf_bad (a : Option Addr) (len cap : Nat) (L : List ByteArray) (s : ByteArray) (w : World) (hv : Ord.SView w a len L) (hc : Ord.chE L ≠ 0) :
    Calls Tryz.prog 48 #[.slice a len cap, .string s] w fun e w' => e = .returned (.tuple #[.int .i64 0, .bool false]) ∧ Below w.heap.size w w' := by
  have HV := Lib.hid hv
  have HK := Lib.hid (Ord.check_any a len cap L w hv)
  obtain ⟨z, hz⟩ : ∃ z, z = Ord.chE L := ⟨_, rfl⟩
  rw [← hz] at HK hc
  have hc2 : (z == 0) = false := by rw [beq_eq_false_iff_ne]; exact hc
  have hc3 : (z != 0) = true := by simpa using hc
  clear hv hz hc
  go_enter Tryz.func48, Tryz.ntmps48
  go_wp2_with fail
  refine HK.out.mono ?_
  rintro e w1 ⟨rfl, b1⟩
  have B1 := Lib.hid b1
  clear b1
  go_wp2_with fail
  go_ret2
  exact ⟨rfl, B1.out⟩
theorem find_bad (B p : Nat) (x0 x1 x2 : Value) (a2 : Option Addr) (c2 : Nat) (R : List RC) (s : ByteArray) (w : World) (hb : Bx4 w p 53 x0 x1 x2 (.slice a2 R.length c2)) (hv : RV B w a2 R) (hn : R.length ≤ 1000) (hc : Ord.chE (idsR R) ≠ 0) : Calls Tryz.prog 24 #[.pointer (some ⟨p, 0, none⟩), .string s] w fun e w' => e = .returned (.tuple #[.int .i64 0, .bool false]) ∧ Below w.heap.size w w' := by
  have K := Lib.hid (ids_any B p x0 x1 x2 a2 c2 R w hb hv hn)
  have HC := Lib.hid hc
  have HN : Hid ((idsR R).length = R.length) := Lib.hid (idsR_len R)
  clear hb hv hc
  go_enter Tryz.func24, Tryz.ntmps24
  go_wp2_with fail
  refine K.out.mono ?_
  rintro e w1 ⟨v, rfl, ho, b1⟩
  rw [← HN.out] at ho
  obtain ⟨ad, cap, rfl, _, _, sv, _, _⟩ := sview_own ho
  have HS := Lib.hid sv
  have HB := Lib.hid b1
  clear ho sv b1
  go_wp2_with fail
  refine (findOf_bad ad _ cap (idsR R) s w1 HS.out HC.out).mono ?_
  rintro e w2 ⟨rfl, b2⟩
  have B2 := Lib.hid (HB.out.trans (b2.mono HB.out.size))
  clear b2
  go_wp2_with fail
  go_ret2
  exact ⟨rfl, B2.out⟩
/-- find, whatever the rows. -/
theorem find_get (B p : Nat) (x0 x1 x2 : Value) (a2 : Option Addr) (c2 : Nat) (R : List RC) (s : ByteArray) (w : World) (hb : Bx4 w p 53 x0 x1 x2 (.slice a2 R.length c2)) (hv : RV B w a2 R) (hn : R.length ≤ 1000) : Calls Tryz.prog 24 #[.pointer (some ⟨p, 0, none⟩), .string s] w fun e w' => (∃ (k : Nat) (is : Bool), e = .returned (.tuple #[.int .i64 (k : Int), .bool is]) ∧ (is = true → k < R.length ∧ (rl R k).id = s) ∧ (is = false → Ord.chE (idsR R) = 0 → ¬ s ∈ idsR R)) ∧ Below w.heap.size w w' := by
  by_cases hc : Ord.chE (idsR R) = 0
  · refine (find_ok B p x0 x1 x2 a2 c2 R s w hb hv hn hc).mono ?_
    rintro e w' ⟨⟨k, is, rfl, hat⟩, hbl⟩
    refine ⟨⟨k, is, rfl, fun h => ?_, fun h _ => ?_⟩, hbl⟩
    · obtain ⟨h1, h2⟩ := hat.2.2.1 h
      rw [idsR_len] at h1
      rw [idsR_nth R k h1] at h2
      rw [rl_get h1]
      exact ⟨h1, h2⟩
    · have := at_mem hat
      rw [h] at this
      simpa using this.symm
  · refine (find_bad B p x0 x1 x2 a2 c2 R s w hb hv hn hc).mono ?_
    rintro e w' ⟨rfl, hbl⟩
    exact ⟨⟨0, false, rfl, fun h => (by cases h), fun _ h => absurd h hc⟩, hbl⟩
/-- What Get tells. -/
def GetPost (w : World) (T : TM) (s : ByteArray) (e : Ending) (w' : World) : Prop := (match getT T s with
  | none => e = .returned (.tuple #[.agg #[.string ⟨#[]⟩, .slice none 0 0], .bool false])
  | some r => ∃ q, e = .returned (.tuple #[rq r q, .bool true]) ∧ w.heap.size ≤ q ∧ OwnD w' q r.d) ∧ Below w.heap.size w w'
theorem get_none {w w' : World} {T : TM} {s : ByteArray} (h : getT T s = none) (hb : Below w.heap.size w w') : GetPost w T s (.returned (.tuple #[.agg #[.string ⟨#[]⟩, .slice none 0 0], .bool false])) w' := by
  refine ⟨?_, hb⟩
  rw [h]
theorem get_some {w w' : World} {T : TM} {s : ByteArray} {r : RC} {q : Nat} (h : getT T s = some r) (hq : w.heap.size ≤ q) (ho : OwnD w' q r.d) (hb : Below w.heap.size w w') : GetPost w T s (.returned (.tuple #[rq r q, .bool true])) w' := by
  refine ⟨?_, hb⟩
  rw [h]
  exact ⟨q, rfl, hq, ho⟩
set_option maxRecDepth 20000 in
set_option maxHeartbeats 2000000 in
theorem tGet_any (B : Nat) (T : TM) (a1 a2 : Option Addr) (c1 c2 : Nat) (s : ByteArray) (w : World) (hv : TVs B w T a1 c1 a2 c2) (hs : SmT T) : Calls Tryz.prog 7 #[tv T a1 c1 a2 c2, .string s] w (GetPost w T s) := by
  have HCK := Lib.hid (fun W (k : Below w.heap.size w W) => tCheck_any B T a1 a2 c1 c2 W (hv.below k) hs)
  have HFI := Lib.hid (fun p x0 x1 x2 W (k : Below w.heap.size w W) (hb : Bx4 W p 53 x0 x1 x2 (.slice a2 T.rows.length c2)) => find_get B p x0 x1 x2 a2 c2 T.rows s W hb (hv.r.below k) hs.rows)
  have HRV := Lib.hid (fun W (k : Below w.heap.size w W) => hv.r.below k)
  have HTW := Lib.hid (fun i (hi : i < T.rows.length) ad cp W (hd : DV B W ad cp (rl T.rows i).d) => twinR_any B (rl T.rows i) ad cp W hd (by have := (hs.each _ (rl_mem hi)).2.1; omega))
  have HN1 : Hid (tabOk T = false → getT T s = none) := Lib.hid (fun h => by unfold getT; rw [h]; rfl)
  have HN0 : Hid ((Ord.chE (idsR T.rows) = 0 → ¬ s ∈ idsR T.rows) → getT T s = none) := Lib.hid (fun h => by
    unfold getT
    split
    · rename_i ht; exact fnd_none.2 (h (tabOk_iff.1 ht).up)
    · rfl)
  have HN2 : Hid (tabOk T = true → ∀ k, k < T.rows.length → (rl T.rows k).id = s → getT T s = some (rl T.rows k)) := Lib.hid (fun h k hk hid => by
    unfold getT
    rw [if_pos h]
    exact (fnd_some (tabOk_iff.1 h).up).2 ⟨rl_mem hk, hid⟩)
  have HP0 := Lib.hid (fun W => get_none (w := w) (w' := W) (T := T) (s := s))
  have HP1 := Lib.hid (fun W r q => get_some (w := w) (w' := W) (T := T) (s := s) (r := r) (q := q))
  obtain ⟨X, hX⟩ : ∃ X, X = (w.alloc (.cells #[.string T.name, .int .i64 T.most, .slice a1 T.uq.length c1, .slice a2 T.rows.length c2] 25)).alloc (.cells #[.string ⟨#[]⟩, .slice none 0 0] 28) := ⟨_, rfl⟩
  have BX : Hid (Below w.heap.size w X) := Lib.hid (by rw [hX]; exact ((Below.refl _ _).alloc (Nat.le_refl _) _).alloc (by simp) _)
  have QX : Hid (Bx4 X w.heap.size 25 (.string T.name) (.int .i64 T.most) (.slice a1 T.uq.length c1) (.slice a2 T.rows.length c2)) := Lib.hid (by rw [hX]; exact (bx4_new w _ _ _ _ _).up ((Below.refl _ _).alloc (Nat.le_refl _) _))
  have RX : Hid (Bx2 X (w.heap.size + 1) (.string ⟨#[]⟩) (.slice none 0 0)) := Lib.hid (by
    rw [hX]
    have h := bx2_new (w.alloc (.cells #[.string T.name, .int .i64 T.most, .slice a1 T.uq.length c1, .slice a2 T.rows.length c2] 25)) (.string ⟨#[]⟩) (.slice none 0 0)
    simpa using h)
  obtain ⟨Y, hY⟩ : ∃ Y, Y = X.alloc (.cells #[.string T.name, .int .i64 T.most, .slice a1 T.uq.length c1, .slice a2 T.rows.length c2] 53) := ⟨_, rfl⟩
  have BXY : Hid (Below X.heap.size X Y) := Lib.hid (by rw [hY]; exact (Below.refl _ _).alloc (Nat.le_refl _) _)
  have BY := Lib.hid (BX.out.trans (BXY.out.mono BX.out.size))
  have QY := Lib.hid (QX.out.up BXY.out)
  have RY := Lib.hid (RX.out.up BXY.out)
  have hsz : X.heap.size = w.heap.size + 1 + 1 := by rw [hX]; simp
  have UY : Hid (Bx4 Y (w.heap.size + 1 + 1) 53 (.string T.name) (.int .i64 T.most) (.slice a1 T.uq.length c1) (.slice a2 T.rows.length c2)) := Lib.hid (by
    rw [hY]
    have h := bx4_new X 53 (.string T.name) (.int .i64 T.most) (.slice a1 T.uq.length c1) (.slice a2 T.rows.length c2)
    rw [hsz] at h
    exact h)
  rw [hX] at hY
  unfold tv at HCK ⊢
  obtain ⟨nm, hnm⟩ : ∃ x, x = T.name := ⟨_, rfl⟩
  obtain ⟨m, hm⟩ : ∃ x, x = T.most := ⟨_, rfl⟩
  obtain ⟨nu, hnu⟩ : ∃ x, x = T.uq.length := ⟨_, rfl⟩
  obtain ⟨n, hn⟩ : ∃ x, x = T.rows.length := ⟨_, rfl⟩
  have HNR := Lib.hid hn
  obtain ⟨tk, htk⟩ : ∃ x, x = tabOk T := ⟨_, rfl⟩
  rw [← hnm, ← hm, ← hnu, ← hn] at HCK hY QY UY ⊢
  rw [← hn] at HFI HTW HN2
  rw [← htk] at HCK HN1 HN2
  clear hnm hm hnu hn htk hv hs hX hsz BXY QX RX BX
  go_enter Tryz.func7, Tryz.ntmps7
  go_wp2_with fail
  rw [← hY]
  clear hY X
  refine (HFI.out _ _ _ _ Y BY.out UY.out).mono ?_
  rintro e w1 ⟨⟨k, is, rfl, hi1, hi0⟩, b1⟩
  have B1 := Lib.hid (BY.out.trans (b1.mono BY.out.size))
  have Q1 := Lib.hid (QY.out.up b1)
  have U1 := Lib.hid (UY.out.up b1)
  have R1 := Lib.hid (RY.out.up b1)
  have HI1 := Lib.hid hi1
  have HI0 := Lib.hid hi0
  have r0 := R1.out.c0
  have r1 := R1.out.c1
  have rf0 := R1.out.fz 0
  have rf1 := R1.out.fz 1
  have q0 := Q1.out.c0
  have q1 := Q1.out.c1
  have q2 := Q1.out.c2
  have q3 := Q1.out.c3
  clear hi1 hi0 b1 QY UY RY BY HFI
  cases is with
  | false =>
    have HG := Lib.hid (HN0.out (HI0.out rfl))
    clear q0 q1 q2 q3
    go_wp2_with fail
    exact ret_rt Tryz.results7 rfl rfl (R1.out.set _ _) (HP0.out _ HG.out (set2_below B1.out _ (by omega) _ _))
  | true =>
    obtain ⟨hk, hid⟩ := HI1.out rfl
    have HID := Lib.hid hid
    have HKR := Lib.hid hk
    cases tk with
    | false =>
      have HG := Lib.hid (HN1.out rfl)
      have HCK2 : Hid (∀ W, Below w.heap.size w W → Calls Tryz.prog 17 #[.agg #[.string nm, .int .i64 m, .slice a1 nu c1, .slice a2 n c2]] W fun e w' => e = .returned (.int .i64 8) ∧ Below W.heap.size W w') := Lib.hid (fun W k => HCK.out W k)
      clear r0 r1 rf0 rf1
      go_wp2_with fail
      refine (HCK2.out w1 B1.out).mono ?_
      rintro e w2 ⟨rfl, b2⟩
      have B2 := Lib.hid (B1.out.trans (b2.mono B1.out.size))
      have R2 := Lib.hid (R1.out.up b2)
      have r0 := R2.out.c0
      have r1 := R2.out.c1
      have rf0 := R2.out.fz 0
      have rf1 := R2.out.fz 1
      clear b2 q0 q1 q2 q3
      go_wp2_with fail
      exact ret_rt Tryz.results7 rfl rfl (R2.out.set _ _) (HP0.out _ HG.out (set2_below B2.out _ (by omega) _ _))
    | true =>
      have HG := Lib.hid (HN2.out rfl k hk HID.out)
      have HCK2 : Hid (∀ W, Below w.heap.size w W → Calls Tryz.prog 17 #[.agg #[.string nm, .int .i64 m, .slice a1 nu c1, .slice a2 n c2]] W fun e w' => e = .returned (.int .i64 0) ∧ Below W.heap.size W w') := Lib.hid (fun W k => HCK.out W k)
      clear r0 r1 rf0 rf1
      go_wp2_with fail
      refine (HCK2.out w1 B1.out).mono ?_
      rintro e w2 ⟨rfl, b2⟩
      have B2 := Lib.hid (B1.out.trans (b2.mono B1.out.size))
      have R2 := Lib.hid (R1.out.up b2)
      have U2 := Lib.hid (U1.out.up b2)
      have u3 := U2.out.c3
      have HRW := Lib.hid (HRV.out w2 B2.out)
      have hkR : k < T.rows.length := by rw [← HNR.out]; exact hk
      obtain ⟨b, off, rfl⟩ := HRW.out.addr (by omega)
      obtain ⟨ai, ci, _, _, d0, d1, dv⟩ := HRW.out.at_ hkR
      have HTC := Lib.hid (HTW.out k hk ai ci w2 dv)
      have HP2 := Lib.hid (fun W q => HP1.out W (rl T.rows k) q HG.out)
      unfold rv rq at HTC
      unfold rq at HP2
      obtain ⟨id, hid2⟩ : ∃ x, x = (rl T.rows k).id := ⟨_, rfl⟩
      obtain ⟨l, hl⟩ : ∃ x, x = (rl T.rows k).d.length := ⟨_, rfl⟩
      obtain ⟨dd, hdd⟩ : ∃ x, x = (rl T.rows k).d := ⟨_, rfl⟩
      rw [← hid2] at d0 HTC HP2
      rw [← hl] at d1 HTC HP2
      rw [← hdd] at HTC HP2
      have hk1 : (k : Int) < n := by omega
      have hk0 : (0 : Int) ≤ k := by omega
      clear b2 q0 q1 q2 q3 hid hid2 hl hdd dv HRW hkR hk
      go_wp2_with fail
      refine HTC.out.mono ?_
      rintro e w3 ⟨q, rfl, hq, ho, b3⟩
      have B3 := Lib.hid (B2.out.trans (b3.mono B2.out.size))
      have R3 := Lib.hid (R2.out.up b3)
      have r0 := R3.out.c0
      have r1 := R3.out.c1
      have rf0 := R3.out.fz 0
      have rf1 := R3.out.fz 1
      have HO := Lib.hid ho
      have HQ : Hid (w.heap.size ≤ q) := Lib.hid (Nat.le_trans B2.out.size hq)
      have HNE : Hid (w.heap.size + 1 ≠ q) := Lib.hid (by have := R2.out.lt; omega)
      clear b3 hq ho d0 d1
      go_wp2_with fail
      exact ret_rt Tryz.results7 rfl rfl (R3.out.set _ _) (HP2.out _ q HQ.out (HO.out.set2 HNE.out _ _) (set2_below B3.out _ (by omega) _ _))
end Go.Proofs.YtfigebepeniikaaGreat
/- Layer 27: slices.Insert of one record. -/
namespace Go.Proofs.YtfigebepeniikaaGreat
open Go.RowKit Go.Maps Go.Shelf
section
variable {P : Program}
theorem run_copy_at (k : Nat) (w : World) (dT sT ty elem : TypeId) (g o dLen dCap : Nat) (a : Addr) (sLen sCap m : Nat) (cur : List Value) (t : TypeId) (cs : List Value)
    (hu : P.underlying dT = some (.slice elem)) (hs : (P.info? elem).map (·.size) = some k) (hg : w.heap[g]? = some (.cells cur.toArray t (0, 0))) (hm : Nat.min sLen dLen = m) (hn : cs.length = m * k)
    (hsrc : ∀ j v, cs[j]? = some v → w.cell? (a.add j) = some v) (hfit : o + cs.length ≤ cur.length) (h1 : ∀ v ∈ cs, v.oneCell' = true) :
    (Builtin.copy_ #[dT, sT] ty #[.slice (some ⟨g, o, none⟩) dLen dCap, .slice (some a) sLen sCap]).run P w = .ok (goInt m) (w.setRow g (cur.take o ++ cs ++ cur.drop (o + cs.length)).toArray) := by
  have hl := run_loadCells_list (P := P) w a cs hsrc
  have hst := run_storeCells_at P g o t cs 0 cur.toArray w hg (by simpa using hfit) h1
  rw [Nat.add_zero] at hst
  cases hq : P.info? elem with
  | none => simp [hq] at hs
  | some i =>
    have hi : i.size = k := by simpa [hq] using hs
    rw [hn] at hl
    simp [Builtin.copy_, run_underlying hu, Builtin.lenOf, Builtin.firstCells, sizeOf, typeInfo, hq, hi, hm, hl, hst]
theorem wpList_copy_r (w : World) {ops : Array Oper} {rest : List Oper} {o : Oper} {a : Act} {Q : Exit → Act → World → Prop} (hgd : o.guard = none) (d s : Operand) (t t' : TypeId)
    (ho : o.op = .call { callee := .builtin .copy, args := #[d, s], argTypes := #[t, t'] }) (v u : Value) (hd : a.eval d = v) (hs : a.eval s = u) {v' : Value} {w' : World}
    (hr : (Builtin.copy_ #[t, t'] o.type #[v, u]).run P w = .ok v' w') (h : wpList P ops Q rest (a.put o.dst v') w') : wpList P ops Q (o :: rest) a w := by
  refine wpList_plain hgd fun K hK => ?_
  unfold Oper.wp execOp
  simp only [ho, resolve, invoke, builtin, Sem.run_bind, Sem.run_pure, Result.andThen_ok, List.map_toArray, List.map_cons, List.map_nil, hd, hs, hr]
  exact hK _ _ h
theorem step_copy_r {ops : Array Oper} {o : Oper} {a : Act} {w : World} {K : Act → World → Prop} {Q : Exit → Act → World → Prop} {E : Prop}
    (hg : o.guard = none) (d x : Operand) (dT sT : TypeId) (hop : o.op = Op.call { callee := Callee.builtin Builtin.copy, args := #[d, x], argTypes := #[dT, sT] })
    (v u : Value) (hd : a.eval d = v) (hx : a.eval x = u) {v' : Value} {w' : World} (hr : (Builtin.copy_ #[dT, sT] o.type #[v, u]).run P w = .ok v' w') (hK : K (a.put o.dst v') w') :
    if Region.wanted o (yielded ops a.tmps) = true then Oper.wp P o a w K Q else E := by
  have hw : Region.wanted o (yielded ops a.tmps) = true := by simp [Region.wanted, hg]
  rw [if_pos hw]
  unfold Oper.wp
  simp [execOp, hop, resolve, invoke, builtin, hd, hx, hr, Result.andThen]
  exact hK
end
theorem ins_list (X Y N D : List Value) (a b c : Nat) (hX : X.length = a) (hN : N.length = 2) (hD : D.length = b) (hY : Y.length = 2 + b + c) :
    (((X ++ Y).take a ++ N ++ (X ++ Y).drop (a + 2)).take (a + 2) ++ D ++ ((X ++ Y).take a ++ N ++ (X ++ Y).drop (a + 2)).drop (a + 2 + b)).take (a + 2 + b) = X ++ N ++ D := by
  have e1 : (X ++ Y).take a = X := by rw [← hX, List.take_left]
  rw [e1]
  have e2 : (X ++ N ++ (X ++ Y).drop (a + 2)).take (a + 2) = X ++ N := by
    rw [List.take_append_of_le_length (by simp; omega), List.take_of_length_le (by simp; omega)]
  rw [e2, List.take_append_of_le_length (by simp; omega), List.take_of_length_le (by simp; omega)]
/-- What Insert tells. -/
def InsPost (B g n i : Nat) (xs news : List Value) (w : World) (e : Ending) (w' : World) : Prop := ∃ v, e = .returned v ∧ w'.ownsRow B 28 2 v (n + 1) (xs.take (i * 2) ++ news ++ xs.drop (i * 2)) ∧ w.grownBy w' (some g)
set_option maxRecDepth 20000 in
set_option maxHeartbeats 4000000 in
theorem ins_end (B g n vb : Nat) (xs : List Value) (x0 x1 : Value) (w : World) (hown : w.ownsRow B 28 2 (.slice (some ⟨g, 0, none⟩) n n) n xs) (hn : n ≤ 1000) (hv0 : w.cell? ⟨vb, 0, none⟩ = some x0) (hv1 : w.cell? ⟨vb, 1, none⟩ = some x1) (h1n : ∀ u ∈ [x0, x1], u.oneCell' = true) (hB : B ≤ w.heap.size) :
    Calls Tryz.prog 31 #[.slice (some ⟨g, 0, none⟩) n n, .int .i64 (n : Nat), .slice (some ⟨vb, 0, none⟩) 1 1] w (InsPost B g n n xs [x0, x1] w) := by
  obtain ⟨i0, hI0, hz0, hz1, hz2⟩ := infoR
  have HOWN := Lib.hid hown
  have HPO : Hid (∀ v w', w'.ownsRow B 28 2 v (n + 1) (xs ++ [x0, x1]) → w.grownBy w' (some g) → InsPost B g n n xs [x0, x1] w (.returned v) w') := Lib.hid (fun v w' h1 h2 => by
    refine ⟨v, rfl, ?_, h2⟩
    have hl : xs.length = n * 2 := hown.1
    rw [← hl, List.take_length, List.drop_length, List.append_nil]
    exact h1)
  have HNW : Hid (∀ j u, [x0, x1][j]? = some u → w.cell? ((⟨vb, 0, none⟩ : Addr).add j) = some u) := Lib.hid (fun j u hj => by
    rw [Addr.add_lit, Nat.zero_add]
    rcases j with _ | _ | j
    · simp at hj; subst hj; exact hv0
    · simp at hj; subst hj; exact hv1
    · simp at hj)
  have H1N := Lib.hid h1n
  have hn1 : (n : Int) ≤ 1000 := by omega
  have hn0 : (0 : Int) ≤ n := by omega
  clear hown hv0 hv1 h1n
  go_enter Tryz.func31, Tryz.ntmps31
  go_wp2_with (at_builtin; refine wpList_append_own _ rfl _ _ 23 rfl B 28 i0 (.agg #[.string ⟨#[]⟩, .slice none 0 0]) 2 40 Tryz.underlying23 hI0 hz0 hz1 hz2 rfl (by decide) (.slice (some ⟨g, 0, none⟩) n n) n xs rfl HOWN.out ⟨vb, 0, none⟩ 1 1 [x0, x1] rfl rfl HNW.out H1N.out (by unfold maxLen; omega) (by omega) hB ?_; intro v1 w1 ho1 hg1 _)
  go_ret
  exact HPO.out _ _ ho1 hg1
end Go.Proofs.YtfigebepeniikaaGreat
/- Layer 27: slices.Insert of one record ahead of others. -/
namespace Go.Proofs.YtfigebepeniikaaGreat
open Go.RowKit Go.Maps Go.Shelf
def zR : Array Value := #[.string ⟨#[]⟩, .slice none 0 0]
theorem zR_len (n : Nat) : (Builtin.zeroCells zR n).size = n * 2 := by simp [Builtin.zeroCells, zR]
set_option maxRecDepth 100000 in
set_option maxHeartbeats 4000000 in
theorem ins_grow (B g n i vb : Nat) (xs : List Value) (x0 x1 : Value) (w : World) (hown : w.ownsRow B 28 2 (.slice (some ⟨g, 0, none⟩) n n) n xs) (hn : n ≤ 1000) (hin : i < n) (h1x : ∀ u ∈ xs, u.oneCell' = true) (hv0 : w.cell? ⟨vb, 0, none⟩ = some x0) (hv1 : w.cell? ⟨vb, 1, none⟩ = some x1) (h1n : ∀ u ∈ [x0, x1], u.oneCell' = true) (hB : B ≤ w.heap.size) :
    Calls Tryz.prog 31 #[.slice (some ⟨g, 0, none⟩) n n, .int .i64 (i : Nat), .slice (some ⟨vb, 0, none⟩) 1 1] w (InsPost B g n i xs [x0, x1] w) := by
  obtain ⟨i0, hI0, hz0, hz1, hz2⟩ := infoR
  have hxl : xs.length = n * 2 := hown.1
  have hcs : ∀ j u, xs[j]? = some u → w.cell? ⟨g, j, none⟩ = some u := fun j u hj => by
    rw [hown.cellAt j (by have := (List.getElem?_eq_some_iff.1 hj).1; omega)]; exact hj
  have hbw : g < w.heap.size := (hown.lt g rfl).2
  have hvw : vb < w.heap.size := World.block_lt_of_cell? _ _ hv0
  have hkk : (n : Int) + 1 - (i : Int) = ((n + 1 - i : Nat) : Int) := by omega
  have hik : i + (n + 1 - i) = n + 1 := by omega
  have hold : (Builtin.firstCells i0.size i (.slice (some ⟨g, 0, none⟩) i n)).run Tryz.prog w.drew = .ok (xs.take (i * 2)).toArray w.drew := by
    rw [hz1]
    exact run_firstCells_some w.drew 2 i ⟨g, 0, none⟩ i n (xs.take (i * 2)) (by rw [List.length_take]; omega) (fun j v hj => by
      rw [Addr.add_lit, Nat.zero_add]
      rw [List.getElem?_take] at hj
      split at hj
      · exact hcs j v hj
      · cases hj)
  obtain ⟨G, hG⟩ : ∃ G, G = grownCap w (n + 1) n 28 := ⟨_, rfl⟩
  obtain ⟨Y, hY⟩ : ∃ Y : List Value, Y = (Builtin.zeroCells zR (n + 1 - i)).toList ++ (Builtin.zeroCells zR (G - (n + 1))).toList := ⟨_, rfl⟩
  have hGn : n + 1 ≤ G := by rw [hG]; exact grownCap_ge w _ _ _
  have hGm : G ≤ maxLen := by rw [hG]; exact grownCap_le_maxLen w _ _ _ (by unfold maxLen; omega)
  have hYl : Y.length = 2 + (n - i) * 2 + (G - (n + 1)) * 2 := by
    rw [hY, List.length_append, Array.length_toList, Array.length_toList, zR_len, zR_len]; omega
  obtain ⟨X, hX⟩ : ∃ X : List Value, X = xs.take (i * 2) := ⟨_, rfl⟩
  have hXl : X.length = i * 2 := by rw [hX, List.length_take]; omega
  obtain ⟨W1, hW1⟩ : ∃ W1, W1 = w.drew.alloc (.cells (X ++ Y).toArray 28) := ⟨_, rfl⟩
  have hrz : ∀ ty, (Builtin.append_ #[23, 3] ty #[.slice (some ⟨g, 0, none⟩) i n, .int .i64 ((n : Int) + 1 - (i : Int))]).run Tryz.prog w =
      .ok (.slice (some ⟨w.heap.size, 0, none⟩) (n + 1) G) W1 := fun ty => by
    have h := Lib.run_append_grow_zeros w 23 3 ty 28 i0 _ .i64 .i64 Tryz.underlying23 Tryz.underlying3 hI0 hz0 (some ⟨g, 0, none⟩) i n (xs.take (i * 2)) hold (n + 1 - i) (by omega) (by rw [hz1]; omega) (by omega) (by omega) (by rw [hz2]; omega) (by rw [hz2, hik]; exact growslice_fits (by omega) (by omega))
    rw [hik, ← hG, ← hX] at h
    rw [hkk, h, hW1]
    have e : (X.toArray ++ Builtin.zeroCells (Value.cells (.agg #[.string ⟨#[]⟩, .slice none 0 0])) (n + 1 - i) ++ Builtin.zeroCells (Value.cells (.agg #[.string ⟨#[]⟩, .slice none 0 0])) (G - (n + 1))) = (X ++ Y).toArray := by
      rw [hY]
      apply Array.ext'
      simp [zR, Value.cells]
    rw [e]
  have hq : W1.heap[w.heap.size]? = some (.cells (X ++ Y).toArray 28) := by rw [hW1]; exact heap_alloc_new w.drew _
  have hOb : ∀ j v b, b < w.heap.size → w.cell? ⟨b, j, none⟩ = some v → W1.cell? ⟨b, j, none⟩ = some v := fun j v b hb h => by
    rw [hW1]
    have e : (w.drew.alloc (.cells (X ++ Y).toArray 28)).heap[b]? = w.heap[b]? := (((Below.refl w.heap.size w).drew).alloc (Nat.le_refl _) _).block b hb
    rw [World.cell?_of_block e]; exact h
  obtain ⟨R1, hR1⟩ : ∃ R1 : List Value, R1 = (X ++ Y).take (i * 2) ++ [x0, x1] ++ (X ++ Y).drop (i * 2 + 2) := ⟨_, rfl⟩
  have hR1l : R1.length = X.length + Y.length := by rw [hR1]; simp; omega
  obtain ⟨D, hD⟩ : ∃ D : List Value, D = xs.drop (i * 2) := ⟨_, rfl⟩
  have hDl : D.length = (n - i) * 2 := by rw [hD, List.length_drop]; omega
  have hsz : (Tryz.prog.info? 28).map (·.size) = some 2 := infoRk
  have hcpA : ∀ (W : World), (∀ x, W.cell? x = W1.cell? x) → W.heap[w.heap.size]? = W1.heap[w.heap.size]? → ∀ ty dc, (Builtin.copy_ #[23, 23] ty #[.slice (some ⟨w.heap.size, i * 2, none⟩) (n + 1 - i) dc, .slice (some ⟨vb, 0, none⟩) 1 1]).run Tryz.prog W = .ok (goInt 1) (W.setRow w.heap.size R1.toArray) := fun W hWc hWh ty dc => by
    have h := run_copy_at (P := Tryz.prog) 2 W 23 23 ty 28 w.heap.size (i * 2) (n + 1 - i) dc ⟨vb, 0, none⟩ 1 1 1 (X ++ Y) 28 [x0, x1] Tryz.underlying23 hsz (by rw [hWh]; exact hq) (by simp only [Nat.min_def]; split <;> omega) rfl (fun j u hj => by
      rw [Addr.add_lit, Nat.zero_add, hWc]
      rcases j with _ | _ | j
      · simp at hj; subst hj; exact hOb _ _ _ hvw hv0
      · simp at hj; subst hj; exact hOb _ _ _ hvw hv1
      · simp at hj) (by simp only [List.length_cons, List.length_nil, List.length_append]; omega) h1n
    rw [hR1]
    exact h
  obtain ⟨W2, hW2⟩ : ∃ W2, W2 = W1.setRow w.heap.size R1.toArray := ⟨_, rfl⟩
  have hq2 : W2.heap[w.heap.size]? = some (.cells R1.toArray 28) := by rw [hW2]; exact setRow_heap W1 _ _ _ _ (0, 0) hq
  have hO2 : ∀ j v, w.cell? ⟨g, j, none⟩ = some v → W2.cell? ⟨g, j, none⟩ = some v := fun j v h => by
    rw [hW2]
    have e : (W1.setRow w.heap.size R1.toArray).heap[g]? = W1.heap[g]? := setRow_other W1 _ _ _ (by omega)
    rw [World.cell?_of_block e]; exact hOb _ _ _ hbw h
  obtain ⟨R2, hR2⟩ : ∃ R2 : List Value, R2 = R1.take (i * 2 + 2) ++ D ++ R1.drop (i * 2 + 2 + (n - i) * 2) := ⟨_, rfl⟩
  have hcpB : ∀ (W : World), (∀ x, W.cell? x = W2.cell? x) → W.heap[w.heap.size]? = W2.heap[w.heap.size]? → ∀ ty dc sc, (Builtin.copy_ #[23, 23] ty #[.slice (some ⟨w.heap.size, (i + 1) * 2, none⟩) (n + 1 - (i + 1)) dc, .slice (some ⟨g, i * 2, none⟩) (n - i) sc]).run Tryz.prog W = .ok (goInt ((n - i : Nat) : Nat)) (W.setRow w.heap.size R2.toArray) := fun W hWc hWh ty dc sc => by
    have h := run_copy_at (P := Tryz.prog) 2 W 23 23 ty 28 w.heap.size ((i + 1) * 2) (n + 1 - (i + 1)) dc ⟨g, i * 2, none⟩ (n - i) sc (n - i) R1 28 D Tryz.underlying23 hsz (by rw [hWh]; exact hq2) (by simp only [Nat.min_def]; split <;> omega) hDl (fun j u hj => by
      rw [Addr.add_lit, hWc]
      refine hO2 _ _ (hcs (i * 2 + j) u ?_)
      rw [hD, List.getElem?_drop] at hj
      exact hj) (by rw [hDl, hR1l, hXl, hYl]; omega) (fun v hv => h1x v (by rw [hD] at hv; exact List.mem_of_mem_drop hv))
    rw [hDl, show (i + 1) * 2 = i * 2 + 2 by omega] at h
    rw [show (i + 1) * 2 = i * 2 + 2 by omega, hR2]
    exact h
  have hfin : ∀ (W : World), W.heap[w.heap.size]? = some (.cells R2.toArray 28) → W.ownsRow B 28 2 (.slice (some ⟨w.heap.size, 0, none⟩) (n + 1) G) (n + 1) (xs.take (i * 2) ++ [x0, x1] ++ xs.drop (i * 2)) := fun W h => by
    refine ⟨by rw [← hX, ← hD]; simp only [List.length_append, List.length_cons, List.length_nil, hXl, hDl]; omega, .inr ⟨w.heap.size, G, R2.toArray, rfl, hB, h, hGn, hGm, ?_, ?_⟩⟩
    · show R2.length = G * 2
      rw [hR2]
      simp only [List.length_append, List.length_take, List.length_drop, hDl, hR1l, hXl, hYl]
      omega
    · show R2.take ((n + 1) * 2) = _
      rw [← hX, ← hD, hR2, hR1, show (n + 1) * 2 = i * 2 + 2 + (n - i) * 2 by omega]
      exact ins_list X Y [x0, x1] D (i * 2) ((n - i) * 2) ((G - (n + 1)) * 2) hXl rfl hDl hYl
  have HFIN : Hid (∀ W, W.heap[w.heap.size]? = some (.cells R2.toArray 28) → w.grownBy W (some g) → InsPost B g n i xs [x0, x1] w (.returned (.slice (some ⟨w.heap.size, 0, none⟩) (n + 1) G)) W) := Lib.hid (fun W h1 h2 => ⟨_, rfl, hfin W h1, h2⟩)
  have HQ2 := Lib.hid hq2
  have HBL : Hid (Below w.heap.size w W2) := Lib.hid (by
    rw [hW2, hW1]
    exact below_setRow (((Below.refl w.heap.size w).drew).alloc (Nat.le_refl _) _) (Nat.le_refl _) _)
  have HSW : Hid (Below w.heap.size w (W2.drew.setRow w.heap.size R2.toArray)) := Lib.hid (below_setRow (HBL.out.drew) (Nat.le_refl _) _)
  have hG63 : (G : Int) ≤ 9223372036854775807 := by unfold maxLen at hGm; omega
  have hGi : ¬ (G = i) := by omega
  have hGim : ¬ (G = i + 1) := by omega
  have hni : ¬ (n = i) := by omega
  have hin' : (i : Int) < n := by omega
  have hle : (i : Int) ≤ n := by omega
  have hi0' : (0 : Int) ≤ i := by omega
  have hn1 : (n : Int) ≤ 1000 := by omega
  have hne : ((i : Int) == n) = false := by rw [beq_eq_false_iff_ne]; omega
  have hroom : (n : Int) < (n : Int) + 1 := by omega
  have htn : ((i : Int) + 1).toNat = i + 1 := by omega
  have hgG : (n : Int) + 1 ≤ G := by omega
  have hw1 : IntKind.i64.wrap ((i : Int) + 1) = (i : Int) + 1 := by rw [IntKind.wrap_i64]; omega
  have hb1 : (0 : Int) ≤ (i : Int) + 1 := by omega
  have hb2 : (i : Int) + 1 ≤ (n : Int) + 1 := by omega
  have hb3 : (i : Int) ≤ n := by omega
  have hb4 : i ≤ n := by omega
  have hrzH := Lib.hid hrz
  have hAH := Lib.hid (hcpA W1 (fun _ => rfl) rfl)
  have hBH := Lib.hid (fun ty dc sc => hcpB W2.drew (fun _ => rfl) rfl ty dc sc)
  rw [← hW2] at hAH
  clear hrz hcpA hcpB hfin hold hq hq2 hOb hO2 hX hXl hY hYl hD hDl hR1 hR1l hR2 hG hW1 hW2 hown hxl hcs hv0 hv1 hkk hik h1x h1n hGn hGm hin hbw hvw
  go_enter Tryz.func31, Tryz.ntmps31
  go_wp2_with (first
    | (at_builtin; refine Lib.wpList_append_run _ rfl _ _ _ _ rfl _ _ rfl rfl _ _ (hrzH.out _) ?_)
    | (with_reducible refine wpList_copy_r _ rfl (.tmp 43) (.tmp 44) 23 23 rfl _ _ rfl rfl (hAH.out _ _) ?_))
  go_region_law (refine step_copy_r rfl (.tmp 50) (.tmp 53) 23 23 rfl (.slice (some ⟨w.heap.size, (i + 1) * 2, none⟩) (n + 1 - (i + 1)) (G - (i + 1))) (.slice (some ⟨g, i * 2, none⟩) (n - i) (n - i)) (by simp [Act.eval, Act.put]) (by simp [Act.eval, Act.put]) (hBH.out _ _ _) ?_)
  all_goals (go_wp2_with fail)
  all_goals go_ret
  all_goals exact HFIN.out _ (setRow_heap W2.drew _ _ _ _ (0, 0) HQ2.out) ⟨(HSW.out).os, HSW.out.tape, HSW.out.output, HSW.out.size, fun k hk _ => HSW.out.block k hk⟩
theorem ins_any (B g n i vb : Nat) (xs : List Value) (x0 x1 : Value) (w : World) (hown : w.ownsRow B 28 2 (.slice (some ⟨g, 0, none⟩) n n) n xs) (hn : n ≤ 1000) (hin : i ≤ n) (h1x : ∀ u ∈ xs, u.oneCell' = true) (hv0 : w.cell? ⟨vb, 0, none⟩ = some x0) (hv1 : w.cell? ⟨vb, 1, none⟩ = some x1) (h1n : ∀ u ∈ [x0, x1], u.oneCell' = true) (hB : B ≤ w.heap.size) :
    Calls Tryz.prog 31 #[.slice (some ⟨g, 0, none⟩) n n, .int .i64 (i : Nat), .slice (some ⟨vb, 0, none⟩) 1 1] w (InsPost B g n i xs [x0, x1] w) := by
  by_cases e : i = n
  · subst e
    exact ins_end B g i vb xs x0 x1 w hown hn hv0 hv1 h1n hB
  · exact ins_grow B g n i vb xs x0 x1 w hown hn (by omega) h1x hv0 hv1 h1n hB
end Go.Proofs.YtfigebepeniikaaGreat
/- Layer 27: rows of one's own, put in, put in place of others, taken out. -/
namespace Go.Proofs.YtfigebepeniikaaGreat
open Go.RowKit Go.Maps Go.Shelf
def rc2 (p : RC × Nat) : List Value := rcell p.1 p.2
theorem zip_range (R : List RC) (qs : List Nat) (h : qs.length = R.length) : R.zip qs = (List.range qs.length).map fun j => (rl R j, qs.getD j 0) := by
  apply List.ext_getElem (by simp [h])
  intro i h1 h2
  have hi : i < R.length := by simp at h1; omega
  have hq : i < qs.length := by omega
  rw [List.getElem_zip, List.getElem_map, List.getElem_range, rl_get hi, List.getD_eq_getElem?_getD, List.getElem?_eq_getElem hq]
  rfl
theorem rwR_zip (R : List RC) (qs : List Nat) (h : qs.length = R.length) : rwR R qs = (R.zip qs).flatMap rc2 := by
  rw [zip_range R qs h, List.flatMap_map]
  rfl
theorem fm_take (f : RC × Nat → List Value) (hf : ∀ p, (f p).length = 2) : ∀ (l : List (RC × Nat)) (k : Nat), (l.flatMap f).take (k * 2) = (l.take k).flatMap f ∧ (l.flatMap f).drop (k * 2) = (l.drop k).flatMap f
  | [], k => by simp
  | p :: l, 0 => by simp
  | p :: l, k + 1 => by
    obtain ⟨e1, e2⟩ := fm_take f hf l k
    have hp := hf p
    rw [List.flatMap_cons, List.take_succ_cons, List.drop_succ_cons, List.flatMap_cons, show (k + 1) * 2 = (f p).length + k * 2 by omega]
    rw [List.take_length_add_append, List.drop_length_add_append]
    exact ⟨by rw [e1], e2⟩
theorem ownR_zip {B : Nat} {w : World} {v : Value} {R : List RC} {qs : List Nat} (h : OwnR B w v R qs) (hl : qs.length = R.length) : ∀ p ∈ R.zip qs, B ≤ p.2 ∧ OwnD w p.2 p.1.d := by
  intro p hp
  rw [zip_range R qs hl] at hp
  obtain ⟨j, hj, rfl⟩ := List.mem_map.1 hp
  exact h.each j (List.mem_range.1 hj)
theorem ownR_mk {B : Nat} {w : World} {v : Value} {R : List RC} {qs : List Nat} (hl : qs.length = R.length) (hr : w.ownsRow B 28 2 v R.length ((R.zip qs).flatMap rc2)) (he : ∀ p ∈ R.zip qs, B ≤ p.2 ∧ OwnD w p.2 p.1.d) : OwnR B w v R qs := by
  refine ⟨by rw [rwR_zip R qs hl, hl]; exact hr, fun j hj => ?_⟩
  refine he (rl R j, qs.getD j 0) ?_
  rw [zip_range R qs hl]
  exact List.mem_map.2 ⟨j, List.mem_range.2 hj, rfl⟩
theorem zip_td : ∀ (R : List RC) (qs : List Nat) (k : Nat), (R.zip qs).take k = (R.take k).zip (qs.take k) ∧ (R.zip qs).drop k = (R.drop k).zip (qs.drop k)
  | [], qs, k => by simp
  | r :: R, [], k => by cases k <;> simp
  | r :: R, q :: qs, 0 => by simp
  | r :: R, q :: qs, k + 1 => by
    obtain ⟨e1, e2⟩ := zip_td R qs k
    simp only [List.zip_cons_cons, List.take_succ_cons, List.drop_succ_cons, e1, e2, and_self]
theorem zip_ins (R : List RC) (qs : List Nat) (r : RC) (q k : Nat) (hl : qs.length = R.length) : (R.take k ++ r :: R.drop k).zip (qs.take k ++ q :: qs.drop k) = (R.zip qs).take k ++ (r, q) :: (R.zip qs).drop k := by
  rw [List.zip_append (by simp [hl]), List.zip_cons_cons, (zip_td R qs k).1, (zip_td R qs k).2]
/-- A table that a call made. -/
def OwnV (B : Nat) (w : World) (val : Value) (T : TM) : Prop := ∃ b1 k1 v qs, val = .agg #[.string T.name, .int .i64 T.most, .slice b1 T.uq.length k1, v] ∧ w.ownsRow B 9 1 (.slice b1 T.uq.length k1) T.uq.length (T.uq.map Value.string) ∧ OwnR B w v T.rows qs ∧ qs.length = T.rows.length
theorem OwnV.up {B : Nat} {w w' : World} {val : Value} {T : TM} (h : OwnV B w val T) (k : Below w.heap.size w w') : OwnV B w' val T := by
  obtain ⟨b1, k1, v, qs, e, hu, hr, hl⟩ := h
  exact ⟨b1, k1, v, qs, e, own_up hu k, hr.up k, hl⟩
theorem OwnV.tv {B : Nat} {w : World} {val : Value} {T : TM} (h : OwnV B w val T) (hm : ∀ r ∈ T.rows, r.d.length ≤ maxLen) : TV B w val T := by
  obtain ⟨b1, k1, v, qs, e, hu, hr, hl⟩ := h
  obtain ⟨ad, cap, e1, h1, h2, h3, h4, h5⟩ := sview_own hu
  simp only [Value.slice.injEq, true_and] at e1
  obtain ⟨rfl, rfl⟩ := e1
  obtain ⟨ad2, cap2, rfl, k1, k2, k3, k4⟩ := hr.rv hl hm
  exact ⟨b1, _, ad2, cap2, e, h3, h1, h2, h4, h5, k3, k1, k2, k4⟩
theorem ownV_z (B : Nat) (w : World) : OwnV B w (.agg #[.string ⟨#[]⟩, .int .i64 0, .slice none 0 0, .slice none 0 0]) zT :=
  ⟨none, 0, .slice none 0 0, [], rfl, World.ownsRow_nil _ _ _ _, ⟨World.ownsRow_nil _ _ _ _, fun j hj => absurd hj (Nat.not_lt_zero j)⟩, rfl⟩
theorem OwnT.ownV {B : Nat} {w : World} {T : TM} {a1 : Option Addr} {c1 g : Nat} {qs : List Nat} (h : OwnT B w T a1 c1 g qs) : OwnV B w (.agg #[.string T.name, .int .i64 T.most, .slice a1 T.uq.length c1, .slice (some ⟨g, 0, none⟩) T.rows.length T.rows.length]) T := ⟨a1, c1, _, qs, rfl, h.u, h.r, h.l⟩
/-- What Put, Set, Drop tell. -/
def TabPost (w : World) (T : TM) (err : Int) (e : Ending) (w' : World) : Prop := ∃ val, e = .returned (.tuple #[val, .int .i64 err]) ∧ OwnV w.heap.size w' val T ∧ Below w.heap.size w w'
/-- What lies in boxes all the while. -/
structure PF (w W : World) (y0 y1 y2 y3 z0 z1 : Value) : Prop where
  bl : Below w.heap.size w W
  b1 : Bx4 W w.heap.size 25 y0 y1 y2 y3
  b2 : Bx2 W (w.heap.size + 1) z0 z1
  b3 : Bx4 W (w.heap.size + 1 + 1) 25 (.string ⟨#[]⟩) (.int .i64 0) (.slice none 0 0) (.slice none 0 0)
theorem PF.up {w W W' : World} {y0 y1 y2 y3 z0 z1 : Value} (h : PF w W y0 y1 y2 y3 z0 z1) (k : Below W.heap.size W W') : PF w W' y0 y1 y2 y3 z0 z1 := ⟨h.bl.trans (k.mono h.bl.size), h.b1.up k, h.b2.up k, h.b3.up k⟩
theorem pf_new (w : World) (y0 y1 y2 y3 z0 z1 : Value) : PF w (((w.alloc (.cells #[y0, y1, y2, y3] 25)).alloc (.cells #[z0, z1] 28)).alloc (.cells #[.string ⟨#[]⟩, .int .i64 0, .slice none 0 0, .slice none 0 0] 25)) y0 y1 y2 y3 z0 z1 := by
  refine ⟨(((Below.refl _ _).alloc (Nat.le_refl _) _).alloc (by simp) _).alloc (by simp; omega) _, ((bx4_new w _ _ _ _ _).up ((Below.refl _ _).alloc (Nat.le_refl _) _)).up ((Below.refl _ _).alloc (Nat.le_refl _) _), ?_, ?_⟩
  · have h := (bx2_new (w.alloc (.cells #[y0, y1, y2, y3] 25)) z0 z1).up ((Below.refl _ _).alloc (Nat.le_refl _) (.cells #[.string ⟨#[]⟩, .int .i64 0, .slice none 0 0, .slice none 0 0] 25))
    simpa using h
  · have h := bx4_new ((w.alloc (.cells #[y0, y1, y2, y3] 25)).alloc (.cells #[z0, z1] 28)) 25 (.string ⟨#[]⟩) (.int .i64 0) (.slice none 0 0) (.slice none 0 0)
    simpa using h
theorem PF.zero {w W : World} {y0 y1 y2 y3 z0 z1 : Value} (h : PF w W y0 y1 y2 y3 z0 z1) (err : Int) : TabPost w zT err (.returned (.tuple #[.agg #[.string ⟨#[]⟩, .int .i64 0, .slice none 0 0, .slice none 0 0], .int .i64 err])) (W4 W (w.heap.size + 1 + 1) (.string ⟨#[]⟩) (.int .i64 0) (.slice none 0 0) (.slice none 0 0)) :=
  ⟨_, rfl, ownV_z _ _, w4_below h.bl (by omega) _ _ _ _⟩
end Go.Proofs.YtfigebepeniikaaGreat
/- Layer 27: Put. -/
namespace Go.Proofs.YtfigebepeniikaaGreat
open Go.RowKit Go.Maps Go.Shelf
theorem put_bad {T : TM} {r : RC} (h : (tabOk T && recOk r) = false) : putT T r = (zT, 8) := by unfold putT; rw [if_pos h]
theorem put_in {T : TM} {r : RC} (h1 : tabOk T = true) (h2 : recOk r = true) (h3 : r.id ∈ idsR T.rows) : putT T r = (zT, 271) := by
  unfold putT
  rw [h1, h2, decide_eq_true h3, if_neg (by simp), if_pos (by simp)]
theorem put_cl {T : TM} {r : RC} (h1 : tabOk T = true) (h2 : recOk r = true) (h3 : clT T r = true) : putT T r = (zT, 271) := by
  unfold putT
  rw [h1, h2, h3, if_neg (by simp), if_pos (by simp)]
theorem put_full {T : TM} {r : RC} (h1 : tabOk T = true) (h2 : recOk r = true) (h3 : ¬ r.id ∈ idsR T.rows) (h4 : clT T r = false) (h5 : (T.rows.length : Int) = T.most) : putT T r = (zT, 272) := by
  unfold putT
  rw [h1, h2, decide_eq_false h3, h4, if_neg (by simp), if_neg (by simp), if_pos h5]
theorem own_slice {B e size n : Nat} {w : World} {v : Value} {xs : List Value} (h : w.ownsRow B e size v n xs) : ∃ ad cap, v = .slice ad n cap := by
  rcases h.2 with ⟨rfl, hn⟩ | ⟨g, cap, cur, rfl, _⟩
  · exact ⟨none, 0, by rw [hn]⟩
  · exact ⟨_, _, rfl⟩
theorem rec_ck {r : RC} (h : recOk r = true) : ckL r.d = true := by
  unfold recOk at h
  simp only [Bool.and_eq_true] at h
  exact h.1.1.2
theorem rc_one (r : RC) (q : Nat) : ∀ u ∈ rcell r q, u.oneCell' = true := by
  intro u hu
  simp [rcell] at hu
  rcases hu with rfl | rfl <;> rfl
theorem fm_one (l : List (RC × Nat)) : ∀ u ∈ l.flatMap rc2, u.oneCell' = true := by
  intro u hu
  obtain ⟨p, _, hp⟩ := List.mem_flatMap.1 hu
  exact rc_one _ _ u hp
/-- The rows behind Insert. -/
theorem ins_rows {B : Nat} {w w' : World} {R : List RC} {qs : List Nat} {g k q : Nat} {r : RC} {v : Value} (h : OwnR B w (.slice (some ⟨g, 0, none⟩) R.length R.length) R qs) (hl : qs.length = R.length) (hk : k ≤ R.length) (hq : OwnD w q r.d) (hB : B ≤ q)
    (ho : w'.ownsRow B 28 2 v (R.length + 1) ((rwR R qs).take (k * 2) ++ rcell r q ++ (rwR R qs).drop (k * 2))) (hg : w.grownBy w' (some g)) :
    OwnR B w' v (R.take k ++ r :: R.drop k) (qs.take k ++ q :: qs.drop k) ∧ (qs.take k ++ q :: qs.drop k).length = (R.take k ++ r :: R.drop k).length := by
  have hll : (qs.take k ++ q :: qs.drop k).length = (R.take k ++ r :: R.drop k).length := by simp [hl]
  have hlen : (R.take k ++ r :: R.drop k).length = R.length + 1 := by simp; omega
  obtain ⟨_, cur, hc⟩ := h.cur
  refine ⟨ownR_mk hll ?_ fun p hp => ?_, hll⟩
  · rw [zip_ins R qs r q k hl, hlen, List.flatMap_append, List.flatMap_cons]
    rw [rwR_zip R qs hl] at ho
    obtain ⟨e1, e2⟩ := fm_take rc2 (fun _ => rfl) (R.zip qs) k
    rw [e1, e2, List.append_assoc] at ho
    exact ho
  · rw [zip_ins R qs r q k hl] at hp
    rcases List.mem_append.1 hp with hp | hp
    · obtain ⟨a, b⟩ := ownR_zip h hl p (List.mem_of_mem_take hp)
      exact ⟨a, b.grown hc hg⟩
    · rcases List.mem_cons.1 hp with rfl | hp
      · exact ⟨hB, hq.grown hc hg⟩
      · obtain ⟨a, b⟩ := ownR_zip h hl p (List.mem_of_mem_drop hp)
        exact ⟨a, b.grown hc hg⟩
theorem OwnR.mono {B B' : Nat} {w : World} {v : Value} {R : List RC} {qs : List Nat} (h : OwnR B w v R qs) (hb : B' ≤ B) : OwnR B' w v R qs := ⟨ownsRow_mono h.row hb, fun j hj => ⟨Nat.le_trans hb (h.each j hj).1, (h.each j hj).2⟩⟩
theorem OwnT.mono {B B' : Nat} {w : World} {T : TM} {a1 : Option Addr} {c1 g : Nat} {qs : List Nat} (h : OwnT B w T a1 c1 g qs) (hb : B' ≤ B) : OwnT B' w T a1 c1 g qs := ⟨ownsRow_mono h.u hb, h.r.mono hb, h.l⟩
theorem OwnR.setB4 {B : Nat} {w : World} {v : Value} {R : List RC} {qs : List Nat} {p : Nat} {t : TypeId} {x0 x1 x2 x3 : Value} (h : OwnR B w v R qs) (hp : Bx4 w p t x0 x1 x2 x3) (h2 : t ≠ 28) (h3 : t ≠ 47) (v0 v1 v2 v3 : Value) : OwnR B (W4 w p v0 v1 v2 v3) v R qs :=
  (((h.setB hp h2 h3).setB (hp.set0 v0) h2 h3).setB ((hp.set0 v0).set1 v1) h2 h3).setB (((hp.set0 v0).set1 v1).set2 v2) h2 h3
theorem own_setB4 {w : World} {B n e size p : Nat} {v : Value} {xs : List Value} {t : TypeId} {x0 x1 x2 x3 : Value} (ho : w.ownsRow B e size v n xs) (hp : Bx4 w p t x0 x1 x2 x3) (ht : t ≠ e) (v0 v1 v2 v3 : Value) : (W4 w p v0 v1 v2 v3).ownsRow B e size v n xs :=
  own_setB (own_setB (own_setB (own_setB ho hp ht) (hp.set0 v0) ht) ((hp.set0 v0).set1 v1) ht) (((hp.set0 v0).set1 v1).set2 v2) ht
end Go.Proofs.YtfigebepeniikaaGreat
/- Layer 27: Put, walked. -/
namespace Go.Proofs.YtfigebepeniikaaGreat
open Go.RowKit Go.Maps Go.Shelf
set_option maxRecDepth 20000 in
set_option maxHeartbeats 4000000 in
theorem tPut_any (B B' : Nat) (T : TM) (a1 a2 : Option Addr) (c1 c2 : Nat) (r : RC) (ad : Option Addr) (cp : Nat) (w : World) (hv : TVs B w T a1 c1 a2 c2) (hs : SmT T) (hd : DV B' w ad cp r.d) (hr : SmR r) : Calls Tryz.prog 9 #[tv T a1 c1 a2 c2, rv r ad cp] w (TabPost w (putT T r).1 (putT T r).2) := by
  obtain ⟨Q, hQ⟩ : ∃ Q, Q = TabPost w (putT T r).1 (putT T r).2 := ⟨_, rfl⟩
  have HLM : Hid (∀ r ∈ T.rows, r.d.length ≤ maxLen) := Lib.hid (fun r hr => by have := (hs.each r hr).2.1; unfold maxLen; omega)
  have HCK := Lib.hid (fun W (k : Below w.heap.size w W) => tCheck_any B T a1 a2 c1 c2 W (hv.below k) hs)
  have HRC := Lib.hid (fun W (k : Below w.heap.size w W) => rec_any B' r ad cp W (hd.below k) hr)
  have HTR := Lib.hid (fun W (k : Below w.heap.size w W) => twinR_any B' r ad cp W (hd.below k) (by have := hr.2.1; omega))
  have HOP := Lib.hid (fun (h : tabOk T = true) W (k : Below w.heap.size w W) => open_any B T a1 a2 c1 c2 r.id W (hv.below k) hs (tabOk_iff.1 h).up)
  have HCL := Lib.hid (fun (h1 : tabOk T = true) (h2 : recOk r = true) W p b1 k1 g qs B2 x0 x1 (k : Below w.heap.size w W) (hb : Bx4 W p 53 x0 x1 (.slice b1 T.uq.length k1) (.slice (some ⟨g, 0, none⟩) T.rows.length T.rows.length)) (ho : OwnT B2 W T b1 k1 g qs) =>
    clashes_any r ad cp p x0 x1 b1 (some ⟨g, 0, none⟩) k1 T.rows.length T.uq T.rows W hb (ho.tvs HLM.out).u (by have := hs.uq; omega) ((ho.tvs HLM.out).r.mono (Nat.zero_le _)) (by have := hs.rows; omega) ((hd.below k).mono (Nat.zero_le _)) (rec_ck h2) (fun a ha => rec_ck ((tabOk_iff.1 h1).rcs a ha)))
  have HIN := Lib.hid (fun W B2 g vb k xs x0 x1 (hown : W.ownsRow B2 28 2 (.slice (some ⟨g, 0, none⟩) T.rows.length T.rows.length) T.rows.length xs) (hk : k ≤ T.rows.length) (h1x : ∀ u ∈ xs, u.oneCell' = true) (hv0 : W.cell? ⟨vb, 0, none⟩ = some x0) (hv1 : W.cell? ⟨vb, 1, none⟩ = some x1) (h1n : ∀ u ∈ [x0, x1], u.oneCell' = true) (hB : B2 ≤ W.heap.size) => ins_any B2 g T.rows.length k vb xs x0 x1 W hown hs.rows hk h1x hv0 hv1 h1n hB)
  have HE8 : Hid ((tabOk T && recOk r) = false → ∀ W y0 y1 y2 y3 z0 z1, PF w W y0 y1 y2 y3 z0 z1 → Q (.returned (.tuple #[.agg #[.string ⟨#[]⟩, .int .i64 0, .slice none 0 0, .slice none 0 0], .int .i64 8])) (W4 W (w.heap.size + 1 + 1) (.string ⟨#[]⟩) (.int .i64 0) (.slice none 0 0) (.slice none 0 0))) := Lib.hid (fun h W y0 y1 y2 y3 z0 z1 hp => by rw [hQ, put_bad h]; exact hp.zero 8)
  have HE1 : Hid (tabOk T = true → recOk r = true → (r.id ∈ idsR T.rows ∨ clT T r = true) → ∀ W y0 y1 y2 y3 z0 z1, PF w W y0 y1 y2 y3 z0 z1 → Q (.returned (.tuple #[.agg #[.string ⟨#[]⟩, .int .i64 0, .slice none 0 0, .slice none 0 0], .int .i64 271])) (W4 W (w.heap.size + 1 + 1) (.string ⟨#[]⟩) (.int .i64 0) (.slice none 0 0) (.slice none 0 0))) := Lib.hid (fun h1 h2 h W y0 y1 y2 y3 z0 z1 hp => by
    rw [hQ]
    rcases h with h | h
    · rw [put_in h1 h2 h]; exact hp.zero 271
    · rw [put_cl h1 h2 h]; exact hp.zero 271)
  have HE2 : Hid (tabOk T = true → recOk r = true → ¬ r.id ∈ idsR T.rows → clT T r = false → (T.rows.length : Int) = T.most → ∀ W y0 y1 y2 y3 z0 z1, PF w W y0 y1 y2 y3 z0 z1 → Q (.returned (.tuple #[.agg #[.string ⟨#[]⟩, .int .i64 0, .slice none 0 0, .slice none 0 0], .int .i64 272])) (W4 W (w.heap.size + 1 + 1) (.string ⟨#[]⟩) (.int .i64 0) (.slice none 0 0) (.slice none 0 0))) := Lib.hid (fun h1 h2 h3 h4 h5 W y0 y1 y2 y3 z0 z1 hp => by rw [hQ, put_full h1 h2 h3 h4 h5]; exact hp.zero 272)
  have HE0 : Hid (tabOk T = true → recOk r = true → ¬ r.id ∈ idsR T.rows → clT T r = false → (T.rows.length : Int) ≠ T.most → ∀ k is, Ord.At (idsR T.rows) r.id k is → ∀ W b1 k1 v qs q, w.heap.size ≤ q → Below w.heap.size w W → W.ownsRow w.heap.size 9 1 (.slice b1 T.uq.length k1) T.uq.length (T.uq.map Value.string) → OwnR w.heap.size W v (T.rows.take k ++ r :: T.rows.drop k) qs ∧ qs.length = (T.rows.take k ++ r :: T.rows.drop k).length → Q (.returned (.tuple #[.agg #[.string T.name, .int .i64 T.most, .slice b1 T.uq.length k1, v], .int .i64 0])) W) := Lib.hid (fun h1 h2 h3 h4 h5 k is hat W b1 k1 v qs q hq hb hu ho => by
    rw [hQ, put_mk (tabOk_iff.1 h1) h2 h3 h4 h5]
    refine ⟨_, rfl, ⟨b1, k1, v, qs, rfl, hu, ?_, ?_⟩, hb⟩
    · show OwnR w.heap.size W v (insR T.rows r) qs
      rw [insR_at hat]; exact ho.1
    · show qs.length = (insR T.rows r).length
      rw [insR_at hat]; exact ho.2)
  rw [← hQ]
  obtain ⟨X, hX⟩ : ∃ X, X = ((w.alloc (.cells #[.string T.name, .int .i64 T.most, .slice a1 T.uq.length c1, .slice a2 T.rows.length c2] 25)).alloc (.cells #[.string r.id, .slice ad r.d.length cp] 28)).alloc (.cells #[.string ⟨#[]⟩, .int .i64 0, .slice none 0 0, .slice none 0 0] 25) := ⟨_, rfl⟩
  have PX : Hid (PF w X (.string T.name) (.int .i64 T.most) (.slice a1 T.uq.length c1) (.slice a2 T.rows.length c2) (.string r.id) (.slice ad r.d.length cp)) := Lib.hid (by rw [hX]; exact pf_new _ _ _ _ _ _ _)
  have HIR := Lib.hid (fun W W' (qs : List Nat) g k q v (h : OwnR w.heap.size W (.slice (some ⟨g, 0, none⟩) T.rows.length T.rows.length) T.rows qs) (hl : qs.length = T.rows.length) (hk : k ≤ T.rows.length) (hq : OwnD W q r.d) (hB : w.heap.size ≤ q) (ho : W'.ownsRow w.heap.size 28 2 v (T.rows.length + 1) ((rwR T.rows qs).take (k * 2) ++ rcell r q ++ (rwR T.rows qs).drop (k * 2))) (hg : W.grownBy W' (some g)) => ins_rows h hl hk hq hB ho hg)
  have HOT : Hid (∀ B2 W b1 k1 g qs, OwnT B2 W T b1 k1 g qs → OwnR B2 W (.slice (some ⟨g, 0, none⟩) T.rows.length T.rows.length) T.rows qs ∧ qs.length = T.rows.length ∧ W.ownsRow B2 9 1 (.slice b1 T.uq.length k1) T.uq.length (T.uq.map Value.string) ∧ W.ownsRow B2 28 2 (.slice (some ⟨g, 0, none⟩) T.rows.length T.rows.length) T.rows.length (rwR T.rows qs) ∧ ∀ u ∈ rwR T.rows qs, u.oneCell' = true) := Lib.hid (fun B2 W b1 k1 g qs h => ⟨h.r, h.l, h.u, by have := h.r.row; rwa [h.l] at this, by rw [rwR_zip _ _ h.l]; exact fm_one _⟩)
  have HR1 := Lib.hid (rc_one r)
  have HAT : Hid (∀ k is, Ord.At (idsR T.rows) r.id k is → k ≤ T.rows.length ∧ (is = true → r.id ∈ idsR T.rows) ∧ (is = false → ¬ r.id ∈ idsR T.rows)) := Lib.hid (fun k is h => by
    have e := at_mem h
    refine ⟨by have := h.1; rwa [idsR_len] at this, fun h => ?_, fun h => ?_⟩
    · rw [h] at e; simpa using e.symm
    · rw [h] at e; simpa using e.symm)
  unfold tv rv rcell rq at *
  unfold OpPost at HOP
  rw [clT_eq] at HCL
  have hRl : T.rows.length ≤ 1000 := hs.rows
  clear hv hs hd hr hQ HLM
  generalize T.name = nm at *
  generalize T.most = m at *
  generalize T.uq.length = nu at *
  generalize T.rows.length = n at *
  generalize r.id = id at *
  generalize r.d.length = l at *
  generalize tabOk T = tk at *
  generalize recOk r = rk at *
  generalize clT T r = ck at *
  go_enter Tryz.func9, Tryz.ntmps9
  go_wp2_with fail
  rw [← hX]
  clear hX
  refine (HCK.out X PX.out.bl).mono ?_
  rintro e w1 ⟨rfl, b1⟩
  have P1 := Lib.hid (PX.out.up b1)
  clear b1 PX
  cases tk with
  | false =>
    have z0 := P1.out.b3.c0
    have z1 := P1.out.b3.c1
    have z2 := P1.out.b3.c2
    have z3 := P1.out.b3.c3
    have f0 := P1.out.b3.fz 0
    have f1 := P1.out.b3.fz 1
    have f2 := P1.out.b3.fz 2
    have f3 := P1.out.b3.fz 3
    have HE := Lib.hid (HE8.out (by first | rfl | trivial))
    go_wp2_with fail
    exact ret_tt Tryz.results9 rfl rfl (P1.out.b3.set4 _ _ _ _) (HE.out _ _ _ _ _ _ _ P1.out)
  | true =>
    have r0 := P1.out.b2.c0
    have r1 := P1.out.b2.c1
    go_wp2_with fail
    refine (HRC.out w1 P1.out.bl).mono ?_
    rintro e w2 ⟨rfl, b2⟩
    have P2 := Lib.hid (P1.out.up b2)
    clear b2 r0 r1 P1
    cases rk with
    | false =>
      have z0 := P2.out.b3.c0
      have z1 := P2.out.b3.c1
      have z2 := P2.out.b3.c2
      have z3 := P2.out.b3.c3
      have f0 := P2.out.b3.fz 0
      have f1 := P2.out.b3.fz 1
      have f2 := P2.out.b3.fz 2
      have f3 := P2.out.b3.fz 3
      have HE := Lib.hid (HE8.out (by first | rfl | trivial))
      go_wp2_with fail
      exact ret_tt Tryz.results9 rfl rfl (P2.out.b3.set4 _ _ _ _) (HE.out _ _ _ _ _ _ _ P2.out)
    | true =>
      have y0 := P2.out.b1.c0
      have y1 := P2.out.b1.c1
      have y2 := P2.out.b1.c2
      have y3 := P2.out.b1.c3
      have r0 := P2.out.b2.c0
      go_wp2_with fail
      refine (HOP.out (by first | rfl | trivial) w2 P2.out.bl).mono ?_
      rintro e w3 ⟨p, k, is, b1, k1, g, qs, rfl, hat, hp, hbx, hot, b3⟩
      have P3 := Lib.hid (P2.out.up b3)
      have HP : Hid (w.heap.size + 1 + 1 < p) := Lib.hid (Nat.lt_of_lt_of_le P2.out.b3.lt hp)
      have HT3 := Lib.hid (hot.mono P2.out.bl.size)
      have U3 := Lib.hid hbx
      have HA := Lib.hid hat
      have HK := Lib.hid (HAT.out k is hat)
      clear y0 y1 y2 y3 r0 b3 hp hbx hot hat P2 HOP
      cases is with
      | true =>
        have z0 := P3.out.b3.c0
        have z1 := P3.out.b3.c1
        have z2 := P3.out.b3.c2
        have z3 := P3.out.b3.c3
        have f0 := P3.out.b3.fz 0
        have f1 := P3.out.b3.fz 1
        have f2 := P3.out.b3.fz 2
        have f3 := P3.out.b3.fz 3
        have HE := Lib.hid (HE1.out (by first | rfl | trivial) (by first | rfl | trivial) (.inl (HK.out.2.1 (by first | rfl | trivial))))
        go_wp2_with fail
        exact ret_tt Tryz.results9 rfl rfl (P3.out.b3.set4 _ _ _ _) (HE.out _ _ _ _ _ _ _ P3.out)
      | false =>
        have HNI := Lib.hid (HK.out.2.2 (by first | rfl | trivial))
        have HKN := Lib.hid HK.out.1
        have r0 := P3.out.b2.c0
        have r1 := P3.out.b2.c1
        go_wp2_with fail
        refine (HCL.out (by first | rfl | trivial) (by first | rfl | trivial) w3 p b1 k1 g qs _ _ _ P3.out.bl U3.out HT3.out).mono ?_
        rintro e w4 ⟨rfl, b4⟩
        have P4 := Lib.hid (P3.out.up b4)
        have U4 := Lib.hid (U3.out.up b4)
        have HT4 := Lib.hid (HT3.out.up b4)
        clear b4 r0 r1 P3 U3 HT3 HCL HK
        cases ck with
        | true =>
          have z0 := P4.out.b3.c0
          have z1 := P4.out.b3.c1
          have z2 := P4.out.b3.c2
          have z3 := P4.out.b3.c3
          have f0 := P4.out.b3.fz 0
          have f1 := P4.out.b3.fz 1
          have f2 := P4.out.b3.fz 2
          have f3 := P4.out.b3.fz 3
          have HE := Lib.hid (HE1.out (by first | rfl | trivial) (by first | rfl | trivial) (.inr (by first | rfl | trivial)))
          go_wp2_with fail
          exact ret_tt Tryz.results9 rfl rfl (P4.out.b3.set4 _ _ _ _) (HE.out _ _ _ _ _ _ _ P4.out)
        | false =>
          have u1 := U4.out.c1
          have u3 := U4.out.c3
          have PD := Lib.hid (fun q => P4.out.up (below_drewN0 (Below.refl w4.heap.size w4) q))
          have UD := Lib.hid (fun q => U4.out.up (below_drewN0 (Below.refl w4.heap.size w4) q))
          have HTD := Lib.hid (fun q => HT4.out.up (below_drewN0 (Below.refl w4.heap.size w4) q))
          have hni := HNI.out
          have hat := HA.out
          by_cases hfull : (n : Int) = m
          · have HE := Lib.hid (HE2.out (by first | rfl | trivial) (by first | rfl | trivial) hni (by first | rfl | trivial) hfull)
            have hb : ((n : Int) == m) = true := by simpa using hfull
            clear HE0 HE1 HE2 HE8 hni hat hfull
            go_wp2_with fail
            go_quiet (fail)
            have P5 := Lib.hid (PD.out nq)
            clear u1 u3 PD UD HTD P4 U4 HT4
            generalize w4.drewN nq = Y at P5 ⊢
            have z0 := P5.out.b3.c0
            have z1 := P5.out.b3.c1
            have z2 := P5.out.b3.c2
            have z3 := P5.out.b3.c3
            have f0 := P5.out.b3.fz 0
            have f1 := P5.out.b3.fz 1
            have f2 := P5.out.b3.fz 2
            have f3 := P5.out.b3.fz 3
            go_wp2_with fail
            exact ret_tt Tryz.results9 rfl rfl (P5.out.b3.set4 _ _ _ _) (HE.out _ _ _ _ _ _ _ P5.out)
          · have HE := Lib.hid (HE0.out (by first | rfl | trivial) (by first | rfl | trivial) hni (by first | rfl | trivial) hfull k false hat)
            have hb : ((n : Int) == m) = false := by simpa using hfull
            clear HE0 HE1 HE2 HE8 hni hat hfull
            go_wp2_with fail
            go_quiet (fail)
            have P5 := Lib.hid (PD.out nq)
            have U5 := Lib.hid (UD.out nq)
            have HT5 := Lib.hid (HTD.out nq)
            clear u1 u3 PD UD HTD P4 U4 HT4
            generalize w4.drewN nq = Y at P5 U5 HT5 ⊢
            have P6 := Lib.hid (P5.out.up (Below.refl Y.heap.size Y).drew)
            have U6 := Lib.hid (U5.out.up (Below.refl Y.heap.size Y).drew)
            have HT6 := Lib.hid (HT5.out.up (Below.refl Y.heap.size Y).drew)
            have u3 := U6.out.c3
            have r0 := P6.out.b2.c0
            have r1 := P6.out.b2.c1
            clear P5 U5 HT5
            go_wp2_with fail
            go_region_law (first
              | (go_simp; go_at_call 25; refine (HTR.out Y.drew P6.out.bl).mono ?_; rintro e w5 ⟨q, rfl, hq0, hod, b5⟩; have ZB : Hid (Below Y.drew.heap.size Y.drew (w5.alloc (.cells #[.string id, .slice (some ⟨q, 0, none⟩) l l] 28))) := Lib.hid (b5.trans (((Below.refl w5.heap.size w5).alloc (Nat.le_refl _) _).mono b5.size)); have P7 := Lib.hid (P6.out.up ZB.out); have U7 := Lib.hid (U6.out.up ZB.out); have T7 := Lib.hid (HOT.out _ _ _ _ _ _ (HT6.out.up ZB.out)); have D7 := Lib.hid (hod.up ((Below.refl w5.heap.size w5).alloc (Nat.le_refl _) (.cells #[.string id, .slice (some ⟨q, 0, none⟩) l l] 28))); have Q7 : Hid (w.heap.size ≤ q) := Lib.hid (Nat.le_trans P6.out.bl.size hq0); have V7 : Hid (Bx2 (w5.alloc (.cells #[.string id, .slice (some ⟨q, 0, none⟩) l l] 28)) w5.heap.size (.string id) (.slice (some ⟨q, 0, none⟩) l l)) := Lib.hid (bx2_new w5 _ _); have y3 := (U6.out.up b5).c3; have z3 := U7.out.c3; clear hq0 hod b5 ZB)
              | (go_simp; go_at_call 31; refine (HIN.out _ w.heap.size g w5.heap.size k (rwR T.rows qs) (.string id) (.slice (some ⟨q, 0, none⟩) l l) T7.out.2.2.2.1 HKN.out T7.out.2.2.2.2 V7.out.c0 V7.out.c1 (HR1.out q) P7.out.bl.size).mono ?_; rintro e w6 ⟨v6, rfl, ho6, hg6⟩; obtain ⟨ad6, cp6, rfl⟩ := own_slice ho6; have HO6 := Lib.hid ho6; have HG6 := Lib.hid hg6; have C7 := Lib.hid T7.out.1.cur; have U8 : Hid (Bx4 w6 p 53 (.string nm) (.int .i64 m) (.slice b1 nu k1) (.slice (some ⟨g, 0, none⟩) n n)) := Lib.hid (by obtain ⟨_, cur, hc⟩ := C7.out; exact U7.out.grown hc (by decide) HG6.out); have P8 : Hid (Bx4 w6 (w.heap.size + 1 + 1) 25 (.string ⟨#[]⟩) (.int .i64 0) (.slice none 0 0) (.slice none 0 0)) := Lib.hid (by obtain ⟨_, cur, hc⟩ := C7.out; exact P7.out.b3.grown hc (by decide) HG6.out); have y8 := U8.out.c3; have f8 := U8.out.fz 3; clear ho6 hg6))
            all_goals have UV := Lib.hid (U8.out.set3 (.slice ad6 (n + 1) cp6))
            all_goals have PV := Lib.hid (P8.out.other (k := 3) (Nat.ne_of_gt HP.out) (.slice ad6 (n + 1) cp6))
            all_goals have OV : Hid ((w6.setCell ⟨p, 3, none⟩ (.slice ad6 (n + 1) cp6)).ownsRow w.heap.size 9 1 (.slice b1 nu k1) nu (T.uq.map Value.string)) := Lib.hid (by
              obtain ⟨_, cur, hc⟩ := C7.out
              exact own_setB (own_other T7.out.2.2.1 hc (by decide) HG6.out) U8.out (by decide))
            all_goals have RV : Hid (OwnR w.heap.size (w6.setCell ⟨p, 3, none⟩ (.slice ad6 (n + 1) cp6)) (.slice ad6 (n + 1) cp6) (T.rows.take k ++ r :: T.rows.drop k) (qs.take k ++ q :: qs.drop k) ∧ (qs.take k ++ q :: qs.drop k).length = (T.rows.take k ++ r :: T.rows.drop k).length) := Lib.hid (by
              obtain ⟨h1, h2⟩ := HIR.out _ _ qs g k q _ T7.out.1 T7.out.2.1 HKN.out D7.out Q7.out HO6.out HG6.out
              exact ⟨h1.setB U8.out (by decide) (by decide), h2⟩)
            all_goals have BV : Hid (Below w.heap.size w (w6.setCell ⟨p, 3, none⟩ (.slice ad6 (n + 1) cp6))) := Lib.hid (by
              obtain ⟨hg0, _⟩ := C7.out
              exact (P7.out.bl.grown HG6.out P7.out.bl.size (fun q hq => by cases hq; exact hg0)).setCell (by have := HP.out; show w.heap.size ≤ p; omega) _)
            all_goals clear y8 f8 U8 P8 HO6 HG6 C7
            all_goals generalize w6.setCell ⟨p, 3, none⟩ (.slice ad6 (n + 1) cp6) = V at UV PV OV RV BV ⊢
            all_goals have x0 := UV.out.c0
            all_goals have x1 := UV.out.c1
            all_goals have x2 := UV.out.c2
            all_goals have x3 := UV.out.c3
            all_goals have z0 := PV.out.c0
            all_goals have z1 := PV.out.c1
            all_goals have z2 := PV.out.c2
            all_goals have z3 := PV.out.c3
            all_goals have f0 := PV.out.fz 0
            all_goals have f1 := PV.out.fz 1
            all_goals have f2 := PV.out.fz 2
            all_goals have f3 := PV.out.fz 3
            all_goals have HF := Lib.hid (HE.out (W4 V (w.heap.size + 1 + 1) (.string nm) (.int .i64 m) (.slice b1 nu k1) (.slice ad6 (n + 1) cp6)) b1 k1 (.slice ad6 (n + 1) cp6) (qs.take k ++ q :: qs.drop k) q Q7.out (w4_below BV.out (by omega) _ _ _ _) (own_setB4 OV.out PV.out (by decide) _ _ _ _) ⟨RV.out.1.setB4 PV.out (by decide) (by decide) _ _ _ _, RV.out.2⟩)
            all_goals (go_wp2_with fail)
            all_goals exact ret_tt Tryz.results9 rfl rfl (PV.out.set4 _ _ _ _) HF.out
end Go.Proofs.YtfigebepeniikaaGreat
/- Layer 27: slices.Delete of one record. -/
namespace Go.Proofs.YtfigebepeniikaaGreat
open Go.RowKit Go.Maps Go.Shelf
section
variable {P : Program}
theorem run_clear_at (w : World) (t e ty : TypeId) (z : Value) (ht : P.underlying t = some (.slice e)) (hv : ∀ w, (zeroValue e).run P w = .ok z w) (g o n c : Nat) (cur zs : List Value) (te : TypeId) (hn : 0 < n) (hz : (Builtin.zeroCells z.cells n).toList = zs) (hg : w.heap[g]? = some (.cells cur.toArray te (0, 0))) (hfit : o + zs.length ≤ cur.length) (h1 : ∀ v ∈ zs, v.oneCell' = true) :
    (Builtin.clear_ #[t] ty #[.slice (some ⟨g, o, none⟩) n c]).run P w = .ok (.tuple #[]) (w.setRow g (cur.take o ++ zs ++ cur.drop (o + zs.length)).toArray) := by
  have hst := run_storeCells_at P g o te zs 0 cur.toArray w hg (by simpa using hfit) h1
  rw [Nat.add_zero] at hst
  obtain ⟨m, rfl⟩ : ∃ m, n = m + 1 := ⟨n - 1, by omega⟩
  simp [Builtin.clear_, run_underlying ht, hv, hz, hst]
theorem wpList_clear_r (w : World) {ops : Array Oper} {rest : List Oper} {o : Oper} {a : Act} {Q : Exit → Act → World → Prop} (hgd : o.guard = none) (s : Operand) (t : TypeId)
    (ho : o.op = .call { callee := .builtin .clear, args := #[s], argTypes := #[t] }) (u : Value) (hs : a.eval s = u) {v' : Value} {w' : World}
    (hr : (Builtin.clear_ #[t] o.type #[u]).run P w = .ok v' w') (h : wpList P ops Q rest (a.put o.dst v') w') : wpList P ops Q (o :: rest) a w := by
  refine wpList_plain hgd fun K hK => ?_
  unfold Oper.wp execOp
  simp only [ho, resolve, invoke, builtin, Sem.run_bind, Sem.run_pure, Result.andThen_ok, List.map_toArray, List.map_cons, List.map_nil, hs, hr]
  exact hK _ _ h
end
/-- A shorter row of one's own. -/
theorem own_short {w : World} {B e g n m cap : Nat} {xs : List Value} (h : w.ownsRow B e 2 (.slice (some ⟨g, 0, none⟩) n cap) n xs) (hm : m ≤ n) : w.ownsRow B e 2 (.slice (some ⟨g, 0, none⟩) m cap) m (xs.take (m * 2)) := by
  refine ⟨by rw [List.length_take, h.1]; omega, ?_⟩
  rcases h.2 with ⟨h, _⟩ | ⟨g', cap', cur, hq, hg, hgg, h1, h2, h3, h4⟩
  · cases h
  · simp only [Value.slice.injEq, Option.some.injEq, Addr.mk.injEq, and_true, true_and] at hq
    obtain ⟨rfl, rfl⟩ := hq
    refine .inr ⟨g, cap, cur, rfl, hg, hgg, by omega, h2, h3, ?_⟩
    rw [← h4, List.take_take, Nat.min_eq_left (by omega)]
theorem grown_setRow (w : World) (g : Nat) (cs : Array Value) : w.grownBy (w.setRow g cs) (some g) := by
  refine ⟨rfl, rfl, rfl, by simp [World.setRow], fun i _ hne => setRow_other w g i cs (fun e => hne (by rw [e]))⟩
theorem grown_two {w w1 w2 : World} {g : Nat} (h : w.grownBy w1 (some g)) (k : w1.grownBy w2 (some g)) : w.grownBy w2 (some g) :=
  ⟨k.os.trans h.os, k.tape.trans h.tape, k.output.trans h.output, Nat.le_trans h.size k.size, fun i hi hne => (k.block i (Nat.lt_of_lt_of_le hi h.size) hne).trans (h.block i hi hne)⟩
/-- What lies behind the row is cleared. -/
theorem own_clear {w : World} {B e g m cap : Nat} {xs zs : List Value} (h : w.ownsRow B e 2 (.slice (some ⟨g, 0, none⟩) m cap) m xs) (hz : zs.length = 2) (hc : m < cap) : ∃ cur : Array Value, w.heap[g]? = some (.cells cur e) ∧ m * 2 + zs.length ≤ cur.toList.length ∧ (w.setRow g (cur.toList.take (m * 2) ++ zs ++ cur.toList.drop (m * 2 + zs.length)).toArray).ownsRow B e 2 (.slice (some ⟨g, 0, none⟩) m cap) m xs := by
  rcases h.2 with ⟨h, _⟩ | ⟨g', cap', cur, hq, hg, hgg, h1, h2, h3, h4⟩
  · cases h
  · simp only [Value.slice.injEq, Option.some.injEq, Addr.mk.injEq, and_true, true_and] at hq
    obtain ⟨rfl, rfl⟩ := hq
    have hl : cur.toList.length = cap * 2 := by simpa using h3
    refine ⟨cur, hgg, by omega, h.1, .inr ⟨g, cap, _, rfl, hg, setRow_heap w _ cur _ _ (0, 0) hgg, h1, h2, ?_, ?_⟩⟩
    · simp
      omega
    · rw [List.append_assoc, List.take_append_of_le_length (by rw [List.length_take]; omega), List.take_take, Nat.min_self]
      exact h4
theorem zc_one : (Builtin.zeroCells (Value.agg #[.string ⟨#[]⟩, .slice none 0 0]).cells 1).toList = [Value.string ⟨#[]⟩, Value.slice none 0 0] := by
  simp only [Builtin.zeroCells, Value.cells]
  first
    | decide +kernel
    | (simp; done)
    | (apply List.ext_getElem
       · simp
       · intro i h1 h2
         have h3 : i < 2 := by simpa using h2
         rcases (show i = 0 ∨ i = 1 by omega) with rfl | rfl <;> simp)
def DelPost (B g n k : Nat) (xs : List Value) (w : World) (e : Ending) (w' : World) : Prop := e = .returned (.slice (some ⟨g, 0, none⟩) (n - 1) n) ∧ w'.ownsRow B 28 2 (.slice (some ⟨g, 0, none⟩) (n - 1) n) (n - 1) (xs.take (k * 2) ++ xs.drop ((k + 1) * 2)) ∧ w.grownBy w' (some g)
set_option maxRecDepth 100000 in
set_option maxHeartbeats 4000000 in
theorem del_any (B g m k : Nat) (jv : Int) (hjv : jv = ((k + 1 : Nat) : Int)) (xs : List Value) (w : World) (hown : w.ownsRow B 28 2 (.slice (some ⟨g, 0, none⟩) (m + 1) (m + 1)) (m + 1) xs) (hn : m ≤ 1000) (hk : k < m + 1) (h1x : ∀ u ∈ xs, u.oneCell' = true) : Calls Tryz.prog 35 #[.slice (some ⟨g, 0, none⟩) (m + 1) (m + 1), .int .i64 (k : Nat), .int .i64 jv] w (DelPost B g (m + 1) k xs w) := by
  subst hjv
  obtain ⟨i0, hI0, hz0, hz1, hz2⟩ := infoR
  have hxl : xs.length = (m + 1) * 2 := hown.1
  have hcs : ∀ j u, xs[j]? = some u → w.cell? ⟨g, j, none⟩ = some u := fun j u hj => by
    rw [hown.cellAt j (by have := (List.getElem?_eq_some_iff.1 hj).1; omega)]; exact hj
  have HPD : Hid (w.drew.ownsRow B 28 2 (.slice (some ⟨g, 0, none⟩) k (m + 1)) k (xs.take (k * 2))) := Lib.hid (own_short hown (Nat.le_of_lt hk))
  have HLN : Hid ((xs.drop ((k + 1) * 2)).length = (m - k) * 2) := Lib.hid (by rw [List.length_drop, hxl]; omega)
  have HON : Hid (∀ u ∈ xs.drop ((k + 1) * 2), u.oneCell' = true) := Lib.hid (fun u hu => h1x u (List.mem_of_mem_drop hu))
  obtain ⟨A, hA, hsrc⟩ : ∃ A : Addr, (if m = k then (some ⟨g, 0, none⟩ : Option Addr) else some ⟨g, (k + 1) * 2, none⟩) = some A ∧ Hid (∀ t u, (xs.drop ((k + 1) * 2))[t]? = some u → w.drew.cell? (A.add t) = some u) := by
    by_cases h : m = k
    · refine ⟨⟨g, 0, none⟩, by simp [h], Lib.hid (fun t u hu => ?_)⟩
      rw [List.getElem?_drop] at hu
      have := (List.getElem?_eq_some_iff.1 hu).1
      omega
    · refine ⟨⟨g, (k + 1) * 2, none⟩, by simp [h], Lib.hid (fun t u hu => ?_)⟩
      rw [List.getElem?_drop] at hu
      rw [Addr.add_lit]
      exact hcs _ _ hu
  have hic : k ≤ m + 1 := Nat.le_of_lt hk
  have hjc : k + 1 ≤ m + 1 := hk
  have hji : (k : Int) + 1 ≤ (m : Int) + 1 := by omega
  have hj0 : (0 : Int) ≤ (k : Int) + 1 := by omega
  have hki : (k : Int) ≤ (m : Int) + 1 := by omega
  have hmi : (m : Int) ≤ (m : Int) + 1 := by omega
  have e : k + (m - k) = m := by omega
  have hRV : ∀ w, (zeroValue 28).run Tryz.prog w = .ok (.agg #[.string ⟨#[]⟩, .slice none 0 0]) w := fun w => by unfold zeroValue typeInfo; simp [hI0, hz0]
  clear hown hcs hxl h1x
  go_enter Tryz.func35, Tryz.ntmps35
  go_wp2_with fail
  go_region_law (refine step_fits rfl (.tmp 22) (.tmp 25) 23 rfl B 28 i0 2 Tryz.underlying23 hI0 hz1 g k (m + 1) (xs.take (k * 2)) (by simp [Act.eval, Act.put]) HPD.out A (m - k) (m - k) (xs.drop ((k + 1) * 2)) (by simp [Act.eval, Act.put]) HLN.out hsrc.out HON.out (by omega) ?_; intro w6 ho6 hg6)
  rw [e] at ho6
  have HG : Hid (w.grownBy w6 (some g)) := Lib.hid ⟨hg6.os, hg6.tape, hg6.output, hg6.size, hg6.block⟩
  obtain ⟨zs, hzs⟩ : ∃ zs : List Value, zs = [Value.string ⟨#[]⟩, Value.slice none 0 0] := ⟨_, rfl⟩
  obtain ⟨cur, HC, HF, HO⟩ := own_clear (zs := zs) ho6 (by rw [hzs]; rfl) (Nat.lt_succ_self m)
  obtain ⟨W7, hW7⟩ : ∃ W, W = w6.setRow g (cur.toList.take (m * 2) ++ zs ++ cur.toList.drop (m * 2 + zs.length)).toArray := ⟨_, rfl⟩
  have hcl : ∀ ty, (Builtin.clear_ #[23] ty #[.slice (some ⟨g, m * 2, none⟩) 1 1]).run Tryz.prog w6 = .ok (.tuple #[]) W7 := fun ty => by
    rw [hW7]
    exact run_clear_at w6 23 28 ty (.agg #[.string ⟨#[]⟩, .slice none 0 0]) Tryz.underlying23 hRV g (m * 2) 1 1 cur.toList zs 28 (by decide) (zc_one.trans hzs.symm) HC HF (by intro u hu; rw [hzs] at hu; simp at hu; rcases hu with rfl | rfl <;> rfl)
  have HO7 : Hid (W7.ownsRow B 28 2 (.slice (some ⟨g, 0, none⟩) m (m + 1)) m (xs.take (k * 2) ++ xs.drop ((k + 1) * 2))) := Lib.hid (by rw [hW7]; exact HO)
  have HG7 : Hid (w.grownBy W7 (some g)) := Lib.hid (by rw [hW7]; exact grown_two HG.out (grown_setRow _ _ _))
  clear hW7 HC HF HO HG hRV hg6 ho6 hzs HPD HLN HON hsrc hA
  go_wp2_with fail
  go_ret
  exact ⟨rfl, HO7.out, HG7.out⟩
end Go.Proofs.YtfigebepeniikaaGreat
