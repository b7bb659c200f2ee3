import Derived.Test.YtfphejndbnmfeaaKC1
namespace Go.Proofs.Ytfphejndbnmfeaa
open Go.RowKit Go.Maps
/-- Definitions that stand somewhere. -/
def DV (w : World) (a : Option Addr) (n : Nat) (K : Nat → Int) (N : Nat → ByteArray) : Prop :=
  ∀ i, i < n → ∃ b off, a = some ⟨b, off, none⟩ ∧ b < w.heap.size ∧ (0 ≤ K i ∧ K i < 256) ∧ w.cell? ⟨b, off + i * 6, none⟩ = some (.int .u8 (K i)) ∧ w.cell? ⟨b, off + i * 6 + 1, none⟩ = some (.string (N i)) ∧
    (∃ a2 l2 c2, w.cell? ⟨b, off + i * 6 + 2, none⟩ = some (.slice a2 l2 c2)) ∧ (∃ a2 l2 c2, w.cell? ⟨b, off + i * 6 + 3, none⟩ = some (.slice a2 l2 c2)) ∧ (∃ a2 l2 c2, w.cell? ⟨b, off + i * 6 + 4, none⟩ = some (.slice a2 l2 c2)) ∧ (∃ a2 l2 c2, w.cell? ⟨b, off + i * 6 + 5, none⟩ = some (.slice a2 l2 c2))
theorem DV.below {w w' : World} {a : Option Addr} {n : Nat} {K : Nat → Int} {N : Nat → ByteArray} (h : DV w a n K N) (k : Below w.heap.size w w') : DV w' a n K N := fun i hi => by
  obtain ⟨b, off, e, hb, hk, c0, c1, ⟨p2, q2, r2, c2⟩, ⟨p3, q3, r3, c3⟩, ⟨p4, q4, r4, c4⟩, ⟨p5, q5, r5, c5⟩⟩ := h i hi
  have f : ∀ o, w'.cell? ⟨b, o, none⟩ = w.cell? ⟨b, o, none⟩ := fun o => k.cell (p := ⟨b, o, none⟩) hb
  exact ⟨b, off, e, Nat.lt_of_lt_of_le hb k.size, hk, by rw [f]; exact c0, by rw [f]; exact c1, ⟨p2, q2, r2, by rw [f]; exact c2⟩, ⟨p3, q3, r3, by rw [f]; exact c3⟩, ⟨p4, q4, r4, by rw [f]; exact c4⟩, ⟨p5, q5, r5, by rw [f]; exact c5⟩⟩
/-- What a kind of definition is as a class. -/
def clsK (k : Int) : Int := if k = 1 then 2 else if k = 2 then 3 else if k = 3 then 4 else 0
def isK (k : Int) : Bool := decide (k = 1) || (decide (k = 2) || decide (k = 3))
def clsF (K : Nat → Int) (N : Nat → ByteArray) (s : ByteArray) : Nat → Nat → Int × Int
  | 0, _ => (0, 0)
  | f + 1, i => if isK (K i) && ((N i).toList == s.toList) then (clsK (K i), (i : Nat)) else clsF K N s f (i + 1)
def cls (n : Nat) (K : Nat → Int) (N : Nat → ByteArray) (s : ByteArray) : Int × Int := if (scOf s).2 then (1, ((scOf s).1 : Nat)) else clsF K N s n 0
theorem law5 : Keyed Try.prog 5 := int_keyed Try.underlying5
theorem zero5 (w : World) : (zeroValue 5).run Try.prog w = .ok (.int .u8 0) w := by kernel_rfl
/-- The classes, as a map. -/
def Dm : DataW Nat := (((DataW.map []).put (.int .u8 1) (.lit (.int .u8 2))).put (.int .u8 2) (.lit (.int .u8 3))).put (.int .u8 3) (.lit (.int .u8 4))
theorem dm_eq : Dm = .map [(.int .u8 1, .lit (.int .u8 2)), (.int .u8 2, .lit (.int .u8 3)), (.int .u8 3, .lit (.int .u8 4))] := by
  unfold Dm
  rfl
theorem dm_has (k : Int) : Maps.has Dm (.int .u8 k) = isK k := by
  rw [dm_eq]
  by_cases h1 : k = 1
  · subst h1; rfl
  · by_cases h2 : k = 2
    · subst h2; rfl
    · by_cases h3 : k = 3
      · subst h3; rfl
      · simp [Maps.has, isK, Lit.sameKey, h1, h2, h3, Ne.symm h1, Ne.symm h2, Ne.symm h3]
theorem dm_at (k : Int) : Dm.atKey (.int .u8 k) (.lit (.int .u8 0)) = .lit (.int .u8 (clsK k)) := by
  rw [dm_eq]
  by_cases h1 : k = 1
  · subst h1; rfl
  · by_cases h2 : k = 2
    · subst h2; rfl
    · by_cases h3 : k = 3
      · subst h3; rfl
      · simp [DataW.atKey, clsK, Lit.sameKey, List.find?, h1, h2, h3, Ne.symm h1, Ne.symm h2, Ne.symm h3]
theorem wpList_insert_own {H : Type} {P : Program} (w : World) {ops : Array Oper} {rest : List Oper} {o : Oper} {a : Act} {Q : Exit → Act → World → Prop}
    (hg : o.guard = none) (m x v : Operand) (t : TypeId) (hop : o.op = Op.insert t m x v)
    (k e : TypeId) (K : Keyed P k) (ht : P.underlying t = some (.map k e)) (R : Value → Option (DataW H × List MemPlace)) (b n : Nat) (D : DataW H)
    (hm : a.eval m = .map (some b)) (hown : w.ownsMap P k R b n D) (hn : n < maxLen) (key val : Value) (kl : Lit) (hx : a.eval x = key) (hv : a.eval v = val) (hkey : keyOf P k key = some kl)
    (d : DataW H) (ps : List MemPlace) (hval : R val = some (d, ps))
    (hK : ∀ w', w'.ownsMap P k R b (n + 1) (D.put kl d) → w.grownBy w' (some b) → wpList P ops Q rest (a.put o.dst undef) w') :
    wpList P ops Q (o :: rest) a w := by
  refine wpList_plain hg fun K' hK' => ?_
  obtain ⟨w', hrun, r1, r2⟩ := hown.update K ht hn hkey hval
  unfold Oper.wp
  simp [execOp, hop, hm, hx, hv, hrun, Result.andThen]
  exact hK' _ _ (hK w' r1 r2)
theorem scan_le (s : ByteArray) : ∀ f k, (scan s f k).1 < k + f ∨ scan s f k = (0, false)
  | 0, _ => .inr rfl
  | f + 1, k => by
    unfold scan
    split
    · exact .inl (by simp)
    · rcases scan_le s f (k + 1) with h | h
      · exact .inl (by omega)
      · exact .inr h
theorem scOf_le (s : ByteArray) : (scOf s).1 ≤ 8 := by
  rcases scan_le s 8 1 with h | h
  · unfold scOf; omega
  · unfold scOf; rw [h]; decide
set_option maxRecDepth 20000 in
theorem class_any (a : Option Addr) (n c : Nat) (K : Nat → Int) (N : Nat → ByteArray) (s : ByteArray) (w : World) (hv : DV w a n K N) (hm : n ≤ maxLen) :
    Calls Try.prog 4 #[.slice a n c, .string s] w fun e w' => e = .returned (.tuple #[.int .u8 (cls n K N s).1, .int .i64 (cls n K N s).2]) ∧ Below w.heap.size w w' := by
  obtain ⟨R, hR⟩ : ∃ R, R = cls n K N s := ⟨_, rfl⟩
  rw [← hR]
  have HR := Lib.hid hR
  have HV := Lib.hid hv
  have HM := Lib.hid hm
  have hmm := @run_makeMap Try.prog
  clear hR hv hm
  go_enter Try.func4, Try.ntmps4
  go_wp2_with fail
  refine (of_any s _).mono ?_
  rintro e w1 ⟨rfl, b1⟩
  have HB1 := Lib.hid b1
  clear b1
  obtain ⟨q, hq⟩ : ∃ q, q = scOf s := ⟨_, rfl⟩
  have hq8 : q.1 ≤ 8 := by rw [hq]; exact scOf_le s
  rw [← hq]
  obtain ⟨x, y⟩ := q
  have HQ := Lib.hid hq
  clear hq
  dsimp only at hq8 ⊢
  have hx8 : (x : Int) ≤ 8 := by omega
  cases y with
  | true =>
    go_wp2_with fail
    go_ret2
    refine ⟨?_, HB1.out⟩
    rw [HR.out]
    unfold cls
    rw [← HQ.out]
    rfl
  | false =>
    have M0 := Lib.hid (World.ownsMap_made (H := Nat) w1 Try.prog 5 (plainElem Try.prog 5))
    go_wp2_with (first
      | (have _t := M0; refine wpList_insert_own _ rfl _ _ _ 44 rfl 5 5 law5 Try.underlying44 _ w1.heap.size 0 _ rfl M0.out (by decide) _ _ (.int .u8 1) rfl rfl (keyOf_int_mk Try.underlying5 rfl) _ [] (plainElem_int Try.underlying5 rfl) ?_; clear _t; clear M0; intro w2 own2 gr2; have M1 := Lib.hid own2; have G1 := Lib.hid gr2; clear own2 gr2)
      | (have _t := M1; refine wpList_insert_own _ rfl _ _ _ 44 rfl 5 5 law5 Try.underlying44 _ w1.heap.size 1 _ rfl M1.out (by decide) _ _ (.int .u8 2) rfl rfl (keyOf_int_mk Try.underlying5 rfl) _ [] (plainElem_int Try.underlying5 rfl) ?_; clear _t; clear M1; intro w3 own3 gr3; have M2 := Lib.hid own3; have G2 := Lib.hid gr3; clear own3 gr3)
      | (have _t := M2; refine wpList_insert_own _ rfl _ _ _ 44 rfl 5 5 law5 Try.underlying44 _ w1.heap.size 2 _ rfl M2.out (by decide) _ _ (.int .u8 3) rfl rfl (keyOf_int_mk Try.underlying5 rfl) _ [] (plainElem_int Try.underlying5 rfl) ?_; clear _t; clear M2; intro w4 own4 gr4; have M3 := Lib.hid own4; have G3 := Lib.hid gr4; clear own4 gr4))
    have b1 : Below w.heap.size w (w1.alloc (.map #[] 0)) := HB1.out.alloc HB1.out.size _
    have b2 := b1.grown G1.out b1.size (fun q hq => by cases hq; exact HB1.out.size)
    have b3 := b2.grown G2.out b2.size (fun q hq => by cases hq; exact HB1.out.size)
    have b4 := b3.grown G3.out b3.size (fun q hq => by cases hq; exact HB1.out.size)
    have B4 := Lib.hid b4
    have V4 := Lib.hid (HV.out.below b4)
    have D4 : Hid (w4.ownsMap Try.prog 5 (plainElem Try.prog 5) w1.heap.size 3 Dm) := Lib.hid M3.out
    have R4 : Hid (clsF K N s n 0 = R) := Lib.hid (by rw [HR.out]; unfold cls; rw [← HQ.out]; rfl)
    clear b1 b2 b3 b4 M3 G1 G2 G3 HQ
    obtain ⟨mb, hmb⟩ : ∃ mb, mb = w1.heap.size := ⟨_, rfl⟩
    rw [← hmb] at D4 ⊢
    clear hmb
    go_loopg [25] n (fun f v wr => ∃ i : Nat, v = .int .i64 (i : Nat) ∧ i ≤ n ∧ n - i ≤ f ∧ clsF K N s (n - i) i = R ∧ DV wr a n K N ∧ wr.ownsMap Try.prog 5 (plainElem Try.prog 5) mb 3 Dm ∧ Below w.heap.size w wr)
    case atStart => exact ⟨0, rfl, by omega, by omega, R4.out, V4.out, D4.out, B4.out⟩
    case round =>
      obtain ⟨i, rfl, hin, hf, hcl, hv, hd, hb⟩ := hrel
      have HVr := Lib.hid hv
      have HDr := Lib.hid hd
      have HBr := Lib.hid hb
      have HF := Lib.hid hf
      have HIN := Lib.hid hin
      by_cases hlt : i < n
      · rw [show n - i = (n - (i + 1)) + 1 by omega] at hcl
        simp only [clsF] at hcl
        obtain ⟨b, off, rfl, hbb, hkk, c0, c1, ⟨p2, q2, r2, c2⟩, ⟨p3, q3, r3, c3⟩, ⟨p4, q4, r4, c4⟩, ⟨p5, q5, r5, c5⟩⟩ := hv i hlt
        obtain ⟨k, hk⟩ : ∃ k, k = K i := ⟨_, rfl⟩
        obtain ⟨nm, hnm⟩ : ∃ k, k = N i := ⟨_, rfl⟩
        rw [← hk] at hkk c0 hcl
        rw [← hnm] at c1 hcl
        have hlt' : (i : Int) < (n : Int) := by omega
        have hnm' : n ≤ maxLen := HM.out
        unfold maxLen at hnm'
        have hbig : (i : Int) + 1 ≤ 9223372036854775807 := by omega
        have HK : Hid (keyOf Try.prog 5 (.int .u8 k) = some (.int .u8 k)) := Lib.hid (keyOf_int_mk Try.underlying5 (by have e1 : IntKind.u8.min = 0 := rfl; have e2 : IntKind.u8.max = 255 := rfl; simp [Lit.wf]; omega))
        have HC := Lib.hid hcl
        have HLT := Lib.hid hlt
        clear hf hin hcl hv hd hb hbb hkk hk hnm hnm' hlt
        cases hh : isK k with
        | false =>
          have HH := Lib.hid hh
          clear hh
          go_wp2_with (first
            | (at_lookup; refine wpList_lookup_own_ok_int _ rfl _ _ 44 rfl 5 5 .u8 law5 Try.underlying44 Try.underlying5 (zero5 _) mb 3 Dm rfl (HDr.out.alloc _) _ _ rfl HK.out ?_; intro z hat hwc; rw [dm_has, HH.out]; clear hat hwc))
          go_roundg (gk - 1)
          case measure => have := HF.out; have := HLT.out; omega
          case rel =>
            refine ⟨i + 1, by rw [show ((i + 1 : Nat) : Int) = (i : Int) + 1 by omega], by have := HLT.out; omega, by have := HF.out; omega, ?_, HVr.out.below ((Below.refl _ _).alloc (Nat.le_refl _) _), HDr.out.alloc _, HBr.out.alloc HBr.out.size _⟩
            have := HC.out
            rw [HH.out] at this
            exact this
        | true =>
          have HH := Lib.hid hh
          clear hh
          cases hq : nm.toList == s.toList with
          | false =>
            go_wp2_with (first
            | (at_lookup; refine wpList_lookup_own_ok_int _ rfl _ _ 44 rfl 5 5 .u8 law5 Try.underlying44 Try.underlying5 (zero5 _) mb 3 Dm rfl (HDr.out.alloc _) _ _ rfl HK.out ?_; intro z hat hwc; rw [dm_has, HH.out]; have HZ := Lib.hid hat; clear hat hwc))
            go_roundg (gk - 1)
            case measure => have := HF.out; have := HLT.out; omega
            case rel =>
              refine ⟨i + 1, by rw [show ((i + 1 : Nat) : Int) = (i : Int) + 1 by omega], by have := HLT.out; omega, by have := HF.out; omega, ?_, HVr.out.below ((Below.refl _ _).alloc (Nat.le_refl _) _), HDr.out.alloc _, HBr.out.alloc HBr.out.size _⟩
              have := HC.out
              rw [HH.out, hq] at this
              exact this
          | true =>
            go_wp2_with (first
            | (at_lookup; refine wpList_lookup_own_ok_int _ rfl _ _ 44 rfl 5 5 .u8 law5 Try.underlying44 Try.underlying5 (zero5 _) mb 3 Dm rfl (HDr.out.alloc _) _ _ rfl HK.out ?_; intro z hat hwc; rw [dm_has, HH.out]; have HZ := Lib.hid hat; clear hat hwc))
            go_ret2
            refine ⟨?_, HBr.out.alloc HBr.out.size _⟩
            have h1 := HC.out
            rw [HH.out, hq] at h1
            have h2 := HZ.out
            rw [dm_at] at h2
            simp only [DataW.lit.injEq, Lit.int.injEq, true_and] at h2
            rw [← h1, ← h2]
            rfl
      · have e9 : i = n := by omega
        subst e9
        have HC := Lib.hid hcl
        clear hf hin hcl hv hd hb hlt
        go_wp2_with fail
        go_ret2
        refine ⟨?_, HBr.out⟩
        rw [← HC.out, Nat.sub_self]
        rfl
end Go.Proofs.Ytfphejndbnmfeaa
