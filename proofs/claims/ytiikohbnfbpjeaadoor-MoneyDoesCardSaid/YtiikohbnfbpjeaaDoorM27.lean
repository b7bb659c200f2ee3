import Derived.Test.YtiikohbnfbpjeaaDoorM26
namespace Go.Proofs.YtiikohbnfbpjeaaDoor
open Go.RowKit
set_option maxRecDepth 20000 in
theorem rcomp_bad1 (m p n q : Int) (w : World) (h : may m p = false) :
    Calls Tryd.prog 21 #[.agg #[.int .i64 m, .int .i64 p], .agg #[.int .i64 n, .int .i64 q]] w fun e w' => e = .returned (.tuple #[.int .i64 0, .int .i64 140]) ∧ Below w.heap.size w w' := by
  have C1 := Lib.hid (fun W => rmay_any m p W)
  rw [h] at C1
  have P0 := Lib.hid (TwoM.new w m p n q)
  clear h
  go_enter Tryd.func21, Tryd.ntmps21
  go_wp2_with fail
  refine (C1.out _).mono ?_
  rintro e w1 ⟨rfl, b⟩
  have P1 := Lib.hid (P0.out.up b)
  clear b
  go_wp2_with fail
  go_ret2
  exact ⟨rfl, P1.out.2.2⟩
set_option maxRecDepth 20000 in
theorem rcomp_bad2 (m p n q : Int) (w : World) (h : may m p = true) (g : may n q = false) :
    Calls Tryd.prog 21 #[.agg #[.int .i64 m, .int .i64 p], .agg #[.int .i64 n, .int .i64 q]] w fun e w' => e = .returned (.tuple #[.int .i64 0, .int .i64 140]) ∧ Below w.heap.size w w' := by
  have C1 := Lib.hid (fun W => rmay_any m p W)
  rw [h] at C1
  have C2 := Lib.hid (fun W => rmay_any n q W)
  rw [g] at C2
  have P0 := Lib.hid (TwoM.new w m p n q)
  clear h g
  go_enter Tryd.func21, Tryd.ntmps21
  go_wp2_with fail
  refine (C1.out _).mono ?_
  rintro e w1 ⟨rfl, b⟩
  have P1 := Lib.hid (P0.out.up b)
  obtain ⟨⟨d0, d1, -⟩, ⟨d2, d3, -⟩, -⟩ := P1.out
  clear b
  go_wp2_with fail
  clear d0 d1 d2 d3
  refine (C2.out _).mono ?_
  rintro e w2 ⟨rfl, b⟩
  have P2 := Lib.hid (P1.out.up b)
  clear b
  go_wp2_with fail
  go_ret2
  exact ⟨rfl, P2.out.2.2⟩
set_option maxRecDepth 20000 in
theorem rcomp_ok (m p n q : Int) (w : World) (h : may m p = true) (g : may n q = true) (a1 : -9223372036854775808 ≤ m) (a2 : m < 9223372036854775808) (b1 : -9223372036854775808 ≤ n) (b2 : n < 9223372036854775808) :
    Calls Tryd.prog 21 #[.agg #[.int .i64 m, .int .i64 p], .agg #[.int .i64 n, .int .i64 q]] w fun e w' => e = .returned (.tuple #[.int .i64 (cmpI (vM m p) (vM n q)), .int .i64 0]) ∧ Below w.heap.size w w' := by
  have C1 := Lib.hid (fun W => rmay_any m p W)
  have C2 := Lib.hid (fun W => rmay_any n q W)
  have O1 := Lib.hid (fun W => order_any m p n q W h g a1 a2 b1 b2)
  rw [h] at C1
  rw [g] at C2
  obtain ⟨z, hz⟩ : ∃ z, z = cmpI (vM m p) (vM n q) := ⟨_, rfl⟩
  rw [← hz] at O1 ⊢
  have P0 := Lib.hid (TwoM.new w m p n q)
  clear h g a1 a2 b1 b2 hz
  go_enter Tryd.func21, Tryd.ntmps21
  go_wp2_with fail
  refine (C1.out _).mono ?_
  rintro e w1 ⟨rfl, b⟩
  have P1 := Lib.hid (P0.out.up b)
  obtain ⟨⟨d0, d1, -⟩, ⟨d2, d3, -⟩, -⟩ := P1.out
  clear b
  go_wp2_with fail
  clear d0 d1 d2 d3
  refine (C2.out _).mono ?_
  rintro e w2 ⟨rfl, b⟩
  have P2 := Lib.hid (P1.out.up b)
  obtain ⟨⟨d0, d1, -⟩, ⟨d2, d3, -⟩, -⟩ := P2.out
  clear b
  go_wp2_with fail
  clear d0 d1 d2 d3
  refine (O1.out _).mono ?_
  rintro e w3 ⟨rfl, b⟩
  have P3 := Lib.hid (P2.out.up b)
  clear b
  go_wp2_with fail
  go_ret2
  exact ⟨rfl, P3.out.2.2⟩
theorem rcompare_any (m p n q : Int) (w : World) (a1 : -9223372036854775808 ≤ m) (a2 : m < 9223372036854775808) (b1 : -9223372036854775808 ≤ n) (b2 : n < 9223372036854775808) :
    Calls Tryd.prog 21 #[.agg #[.int .i64 m, .int .i64 p], .agg #[.int .i64 n, .int .i64 q]] w fun e w' => e = .returned (.tuple #[.int .i64 (cmV m p n q), .int .i64 (cmE m p n q)]) ∧ Below w.heap.size w w' := by
  cases h : may m p with
  | false => obtain ⟨e1, e2⟩ := cm_no (m := m) (p := p) (n := n) (q := q) (by rw [h]; rfl); rw [e1, e2]; exact rcomp_bad1 m p n q w h
  | true =>
    cases g : may n q with
    | false => obtain ⟨e1, e2⟩ := cm_no (m := m) (p := p) (n := n) (q := q) (by rw [h, g]; rfl); rw [e1, e2]; exact rcomp_bad2 m p n q w h g
    | true => obtain ⟨e1, e2⟩ := cm_yes h g; rw [e1, e2]; exact rcomp_ok m p n q w h g a1 a2 b1 b2
/-- Noughts ahead of digits. -/
def padL (k : Nat) (d : List UInt8) : List UInt8 := List.replicate k 48 ++ d
theorem padL_more (k : Nat) (d : List UInt8) : (⟨#[48]⟩ : ByteArray) ++ ⟨(padL k d).toArray⟩ = ⟨(padL (k + 1) d).toArray⟩ := Go.WideShapes.bytes_inj (by unfold padL; rw [List.replicate_succ]; simp)
/-- The size of a text in a slot. -/
def szOf3 : Value → Nat
  | .string s => s.size
  | _ => 0
/-- Where the loop over noughts stands. -/
def TP (d : List UInt8) (p : Nat) (s3 : Value) : Prop := ∃ k : Nat, s3 = .string ⟨(padL k d).toArray⟩ ∧ k ≤ p + 1 - d.length
set_option maxRecDepth 20000 in
set_option maxHeartbeats 4000000 in
theorem rtell_any (m : Int) (p : Nat) (w : World) (hp : p ≤ 18) (h0 : -9223372036854775808 ≤ m) (h1 : m ≤ 9223372036854775807) :
    Calls Tryd.prog 41 #[.agg #[.int .i64 m, .int .i64 p]] w fun e w' => e = .returned (.string ⟨(tText m p).toArray⟩) ∧ Below w.heap.size w w' := by
  have HW := Lib.hid (fun W => rwrite_int m W h0 h1)
  obtain ⟨i1, i2⟩ := itoa_cut m
  have hlen : (Lib.itoa m).length ≤ 21 := Lib.itoa_length_le m h0 h1
  obtain ⟨D, hD⟩ : ∃ D, D = Lib.decDigits m.natAbs := ⟨_, rfl⟩
  have hdd := dec_digs m.natAbs
  rw [← hD] at hdd i1
  have hDl : D.length ≤ 21 := by
    rw [← i1]
    refine Nat.le_trans ?_ hlen
    unfold Lib.trimPrefix
    split
    · simp
    · exact Nat.le_refl _
  obtain ⟨x, hx⟩ : ∃ x : ByteArray, x = ⟨(Lib.itoa m).toArray⟩ := ⟨_, rfl⟩
  rw [← hx] at HW
  obtain ⟨d, hd⟩ : ∃ x : ByteArray, x = ⟨D.toArray⟩ := ⟨_, rfl⟩
  obtain ⟨b, hb⟩ : ∃ b, b = decide (m < 0) := ⟨_, rfl⟩
  have hxp : 0 < x.size := by
    rw [hx, mk_size]
    have h2 := List.length_pos_iff.2 hdd.2.2
    rw [← i1] at h2
    unfold Lib.trimPrefix at h2
    split at h2
    · simp at h2; omega
    · exact h2
  have HXB : Hid ((b = true → ((x[0] : UInt8).toNat : Int) = 45 ∧ x.extract 1 x.size = d) ∧ (b = false → x = d ∧ ((x[0] : UInt8).toNat : Int) ≠ 45)) := Lib.hid (by
    have hf := first_byte x hxp
    have hxl : x.data.toList = Lib.itoa m := by rw [hx]
    rw [hxl] at hf
    constructor
    · intro hbt
      have hm : m < 0 := by rw [hb] at hbt; exact of_decide_eq_true hbt
      have e : Lib.itoa m = 45 :: D := by rw [hD]; unfold Lib.itoa; rw [if_pos hm]
      rw [e] at hf
      simp only [List.head?_cons, Option.some.injEq] at hf
      refine ⟨by rw [← hf]; rfl, Go.WideShapes.bytes_inj ?_⟩
      have hsz : x.size - 1 = D.length := by rw [hx, mk_size, e]; simp
      rw [Lib.extract_data, hxl, e, hd, hsz]; simp
    · intro hbt
      have hm : ¬ m < 0 := by rw [hb] at hbt; exact of_decide_eq_false hbt
      have e : Lib.itoa m = D := by rw [hD]; unfold Lib.itoa; rw [if_neg hm]; congr 1; omega
      refine ⟨by rw [hx, hd, e], fun q => ?_⟩
      rw [e] at hf
      cases hc : D with
      | nil => exact hdd.2.2 hc
      | cons c r =>
        rw [hc] at hf
        simp only [List.head?_cons, Option.some.injEq] at hf
        subst hf
        have := hdd.1
        rw [hc] at this
        unfold digs at this
        rw [List.all_cons] at this
        simp only [Bool.and_eq_true] at this
        have := this.1
        unfold isD at this
        simp at this
        omega)
  have HTZ : Hid (tZ m p = padL (p + 1 - D.length) D) := Lib.hid (by unfold tZ padL; rw [hD])
  obtain ⟨z, hz⟩ : ∃ x : ByteArray, x = ⟨(tZ m p).toArray⟩ := ⟨_, rfl⟩
  have hzz : z.size = p + 1 - D.length + D.length := by rw [hz, mk_size, HTZ.out]; unfold padL; rw [List.length_append, List.length_replicate]
  have HZ := Lib.hid hz
  have HTEXT := Lib.hid (tText_mid m p)
  obtain ⟨sg, hsg⟩ : ∃ s : ByteArray, s = ⟨(sgL b).toArray⟩ := ⟨_, rfl⟩
  have HSG := Lib.hid hsg
  have hsgz : sg.size ≤ 1 := by rw [hsg, mk_size]; cases b <;> simp [sgL]
  have HB := Lib.hid hb
  have HR0 : Hid (p = 0 → sg ++ z = ⟨(tText m p).toArray⟩) := Lib.hid (fun h => by
    refine Go.WideShapes.bytes_inj ?_
    rw [HTEXT.out, ← HB.out, HSG.out, HZ.out]
    unfold tMid
    rw [if_pos h]; simp)
  have HR1 : Hid (p ≠ 0 → (sg ++ z.extract 0 (z.size - p) ++ ⟨#[46]⟩ ++ z.extract (z.size - p) z.size) = ⟨(tText m p).toArray⟩) := Lib.hid (fun h => by
    refine Go.WideShapes.bytes_inj ?_
    rw [HTEXT.out, ← HB.out, HSG.out]
    unfold tMid
    rw [if_neg h]
    have hzl : z.size = (tZ m p).length := by rw [hz, mk_size]
    have hzd : z.data.toList = tZ m p := by rw [hz]
    simp only [ByteArray.data_append, Array.toList_append, Lib.extract_data, hzd, hzl]
    unfold tA tB
    simp only [List.drop_zero, Nat.sub_zero]
    rw [List.take_of_length_le (l := List.drop ((tZ m p).length - p) (tZ m p)) (by rw [List.length_drop]; exact Nat.le_refl _)]
    simp)
  obtain ⟨res, hres⟩ : ∃ x : ByteArray, x = ⟨(tText m p).toArray⟩ := ⟨_, rfl⟩
  rw [← hres] at HR0 HR1 ⊢
  have P0 := Lib.hid (TX.new w m p)
  have HDD := Lib.hid hd
  have HZZ := Lib.hid hzz
  obtain ⟨L, hL⟩ : ∃ L, L = D.length := ⟨_, rfl⟩
  have HLL := Lib.hid hL
  have hL21 : L ≤ 21 := by omega
  clear h0 h1 i1 i2 hlen hdd hDl hx hd hb hz hzz hsg hres hL hD
  go_enter Tryd.func41, Tryd.ntmps41
  go_wp2_with fail
  refine (HW.out _).mono ?_
  rintro e w1 ⟨rfl, q⟩
  have P1 := Lib.hid (P0.out.up q)
  obtain ⟨⟨c0, c1, -⟩, -⟩ := P1.out
  clear q
  obtain ⟨v, hv⟩ : ∃ v : Int, (x[0].toNat : Int) = v := ⟨_, rfl⟩
  have iv : ∀ q : 0 < x.size, (x[0].toNat : Int) = v := fun _ => hv
  have HV := Lib.hid hv
  clear hv
  go_upto_if 10 with fail
  go_cut [3, 4] (fun s3 s4 wx => s3 = .string d ∧ s4 = .string sg ∧ TX w wx m p)
  case first =>
    cases b with
    | true =>
      obtain ⟨k1, k2⟩ := HXB.out.1 rfl
      have HK2 := Lib.hid k2
      obtain rfl : v = 45 := by rw [← HV.out]; exact k1
      have HS1 : Hid ((⟨#[45]⟩ : ByteArray) = sg) := Lib.hid (by rw [HSG.out]; rfl)
      have hle : (1 : Int) ≤ x.size := by omega
      have hle' : 1 ≤ x.size := by omega
      clear k1 k2
      go_wp2_with fail
      go_meet
      exact ⟨by rw [HK2.out], by rw [HS1.out], P1.out⟩
    | false =>
      obtain ⟨k1, k2⟩ := HXB.out.2 rfl
      have HK1 := Lib.hid k1
      have g45 : (v == 45) = false := beq_eq_false_iff_ne.2 (by rw [← HV.out]; exact k2)
      have HS1 : Hid ((⟨#[]⟩ : ByteArray) = sg) := Lib.hid (by rw [HSG.out]; rfl)
      clear k1 k2
      go_wp2_with fail
      go_meet
      exact ⟨by rw [HK1.out], by rw [HS1.out], P1.out⟩
  case rest =>
    obtain ⟨rfl, rfl, hx⟩ := hcut
    have P2 := Lib.hid hx
    clear hx c0 c1 iv
    obtain ⟨⟨c0, c1, -⟩, -⟩ := P2.out
    go_wp2_with fail
    go_loop [3] (fun s3 => TP D p s3) (fun s3 => p + 1 - szOf3 s3)
    case atStart => exact ⟨0, by rw [HDD.out]; rfl, Nat.zero_le _⟩
    case round =>
      obtain ⟨k, rfl, hk⟩ := hrel
      have hks : (⟨(padL k D).toArray⟩ : ByteArray).size = k + L := by rw [mk_size, HLL.out]; unfold padL; rw [List.length_append, List.length_replicate]
      have HPM := Lib.hid (padL_more k D)
      have HKK := Lib.hid hk
      obtain ⟨y, hy⟩ : ∃ y : ByteArray, y = ⟨(padL k D).toArray⟩ := ⟨_, rfl⟩
      rw [← hy] at hks HPM ⊢
      have HY := Lib.hid hy
      clear hy hk
      by_cases hlt : y.size ≤ p
      · have q0 : ¬ (9223372036854775807 < (⟨#[48]⟩ : ByteArray).size + y.size) := by rw [show (⟨#[48]⟩ : ByteArray).size = 1 from rfl]; omega
        have q1 : ¬ (9223372036854775807 < 1 + y.size) := by omega
        have hlt' : (y.size : Int) ≤ p := by omega
        have HKS := Lib.hid hks
        have HSZ : Hid (((⟨#[48]⟩ : ByteArray) ++ y).size = 1 + y.size) := Lib.hid (by rw [ByteArray.size_append]; rfl)
        clear hks
        go_wp2_with fail
        go_round
        case rel => exact ⟨k + 1, by rw [HPM.out], by have := HKS.out; have := HLL.out; omega⟩
        case measure =>
          simp only [szOf3]
          rw [HSZ.out]
          omega
      · have hyz : y = z := by
          have := HKK.out
          have := HLL.out
          have hke : k = p + 1 - D.length := by omega
          rw [HY.out, HZ.out, HTZ.out, hke]
        have g1 : decide ((y.size : Int) ≤ p) = false := decide_eq_false (by omega)
        have g2 : decide (y.size ≤ p) = false := decide_eq_false hlt
        have HKS := Lib.hid hks
        subst hyz
        clear hks
        by_cases hp0 : p = 0
        · have HF := Lib.hid (HR0.out hp0)
          have q0 : ¬ (9223372036854775807 < sg.size + y.size) := by have := HKS.out; have := HZZ.out; have := HLL.out; omega
          have gp : ((p : Int) == 0) = true := by simp [hp0]
          clear hlt hp0
          go_wp2_with fail
          go_ret
          exact ⟨by rw [HF.out]; try rfl, P2.out.2⟩
        · have HF := Lib.hid (HR1.out hp0)
          have gp : ((p : Int) == 0) = false := beq_eq_false_iff_ne.2 (by omega)
          obtain ⟨j, hj⟩ : ∃ j : Nat, (y.size : Int) - p = j := ⟨y.size - p, by omega⟩
          have hjj : y.size - p = j := by omega
          rw [hjj] at HF
          have hjz : j ≤ y.size := by omega
          have hjz' : (j : Int) ≤ y.size := by omega
          have hz100 : y.size ≤ 100 := by have := HZZ.out; have := HLL.out; omega
          have w1 : IntKind.i64.wrap ((y.size : Int) - p) = j := by rw [hj]; exact IntWalk.i64_in _ (by omega)
          clear hlt hp0 hj hjj
          go_wp2_with fail
          go_quiet (fail)
          go_wp2_with fail
          go_ret
          exact ⟨by rw [HF.out]; rfl, below_dr P2.out.2 _⟩
end Go.Proofs.YtiikohbnfbpjeaaDoor
