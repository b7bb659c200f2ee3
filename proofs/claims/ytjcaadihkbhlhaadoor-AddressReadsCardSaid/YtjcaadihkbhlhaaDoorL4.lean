import Derived.Test.YtjcaadihkbhlhaaDoorL2
namespace Go.Proofs.YtjcaadihkbhlhaaDoor
open Go.RowKit
set_option maxRecDepth 20000 in
set_option maxHeartbeats 2000000 in
theorem rparse_go011 (s sc R H T ho po pt qu : ByteArray) (a e j k q : Nat) (w : World) (hl : ¬ 2048 < s.size) (ha : a0R s = a) (ha3 : a + 3 ≤ s.size) (hx : s.extract a (a + 3) = ⟨#[58, 47, 47]⟩)
    (g0 : s.extract 0 a = sc) (g1 : s.extract (a + 3) s.size = R) (g2 : R.extract 0 e = H) (g3 : R.extract e R.size = T) (g4 : H.extract 0 k = ho) (g5 : H.extract (k + 1) H.size = po) (g6 : T.extract 0 q = pt) (g7 : T.extract (q + 1) T.size = qu) (he : fdN [47, 63] R.data.toList = e) (hj : fdN [64] H.data.toList = j) (hk : fdN [58] H.data.toList = k) (hqq : fdN [63] T.data.toList = q)
    (bR : R.size ≤ 2048) (bH : H.size ≤ 2048) (bT : T.size ≤ 2048)  (be : e ≤ R.size) (bj : j ≤ H.size) (bk : k ≤ H.size) (bq : q ≤ T.size)
    (cu : ¬ j < H.size) (cp : k < H.size) (cq : q < T.size) (bs : sc.size ≤ 1000000)  (bh : ho.size ≤ 1000000) (bp : po.size ≤ 1000000) (bpt : pt.size ≤ 1000000) (bqu : qu.size ≤ 1000000) :
    Calls Tryd.prog 11 #[.string s] w fun e w' => e = .returned (.tuple #[if mayP sc ⟨#[]⟩ ho po pt qu false true then adV sc ⟨#[]⟩ ho po pt qu false true else adZ, .int .i64 (numE (mayP sc ⟨#[]⟩ ho po pt qu false true))]) ∧ Below w.heap.size w w' := by
  have F1 := find_any s ⟨#[58]⟩ (by decide) (by omega)
  have F2 := find_any R ⟨#[47, 63]⟩ (by decide) (by omega)
  have F3 := find_any H ⟨#[64]⟩ (by decide) (by omega)
  have F4 := find_any H ⟨#[58]⟩ (by decide) (by omega)
  have F5 := find_any T ⟨#[63]⟩ (by decide) (by omega)
  rw [show fdN (⟨#[58]⟩ : ByteArray).data.toList s.data.toList = a from ha] at F1
  rw [show fdN (⟨#[47, 63]⟩ : ByteArray).data.toList R.data.toList = e from he] at F2
  rw [show fdN (⟨#[64]⟩ : ByteArray).data.toList H.data.toList = j from hj] at F3
  rw [show fdN (⟨#[58]⟩ : ByteArray).data.toList H.data.toList = k from hk] at F4
  rw [show fdN (⟨#[63]⟩ : ByteArray).data.toList T.data.toList = q from hqq] at F5
  replace F1 := Lib.hid F1
  replace F2 := Lib.hid F2
  replace F3 := Lib.hid F3
  replace F4 := Lib.hid F4
  replace F5 := Lib.hid F5
  have FM := Lib.hid (fun W => may_any sc ⟨#[]⟩ ho po pt qu false true bs (by decide) bh bp bpt bqu W)
  obtain ⟨o, ho1⟩ : ∃ o, o = mayP sc ⟨#[]⟩ ho po pt qu false true := ⟨_, rfl⟩
  rw [← ho1] at FM ⊢
  clear ho1
  have X0 := Lib.hid (RS.new w #[.string sc, .string ⟨#[]⟩, .string ⟨#[]⟩, .string ⟨#[]⟩, .string ⟨#[]⟩, .string ⟨#[]⟩, .bool false, .bool false])
  obtain ⟨ne, hne⟩ : ∃ x, x = numE o := ⟨_, rfl⟩
  rw [← hne]
  replace hne := Lib.hid hne
  have hxe : ((s.extract a (a + 3)).toList == [58, 47, 47]) = true := by rw [hx, ByteArray.toList_eq]; rfl
  clear hx
  have i1 : ¬ (2048 : Int) < (s.size : Int) := by omega
  have i2 : (a : Int) + 3 ≤ (s.size : Int) := by omega
  have i3 : (s.size : Int) ≤ 2048 := by omega
  have i4 : (e : Int) ≤ (R.size : Int) := by omega
  have i5 : (R.size : Int) ≤ 2048 := by omega
  have i6 : (H.size : Int) ≤ 2048 := by omega
  have i7 : (T.size : Int) ≤ 2048 := by omega
  have i8 : ¬ (j : Int) < (H.size : Int) := by omega
  have i9 : (k : Int) < (H.size : Int) := by omega
  have i10 : (q : Int) < (T.size : Int) := by omega
  have i11 : (k : Int) ≤ (H.size : Int) := by omega
  have i12 : (q : Int) ≤ (T.size : Int) := by omega
  have i13 : (j : Int) ≤ (H.size : Int) := by omega
  have i14 : (H.size : Int) ≤ 2048 := by omega
  have i15 : (a : Int) ≤ (s.size : Int) := by omega

  have i17 : (k : Int) + 1 ≤ (H.size : Int) := by omega
  have i18 : (q : Int) + 1 ≤ (T.size : Int) := by omega
  clear hl ha ha3 he hj hk hqq bR bH bT be bj bk bq cu cp cq bs bh bpt  bp bqu
  unfold adZ
  unfold adV at FM ⊢
  go_enter Tryd.func11, Tryd.ntmps11
  go_wp2_with fail
  with_reducible refine (F1.out _).mono ?_
  rintro e1 w1 ⟨rfl, rfl⟩
  go_wp2_with fail
  with_reducible refine (F2.out _).mono ?_
  rintro e1 w1 ⟨rfl, rfl⟩
  go_upto_region 7 with fail
  go_quiet (fail)
  obtain ⟨w5, hw5⟩ : ∃ x, x = ((w.alloc (.cells #[.string ⟨#[]⟩, .string ⟨#[]⟩, .string ⟨#[]⟩, .string ⟨#[]⟩, .string ⟨#[]⟩, .string ⟨#[]⟩, .bool false, .bool false] 24)).alloc (.cells #[.string sc, .string ⟨#[]⟩, .string ⟨#[]⟩, .string ⟨#[]⟩, .string ⟨#[]⟩, .string ⟨#[]⟩, .bool false, .bool false] 24)).drewN nq := ⟨_, rfl⟩
  have P1 : Hid (RS w.heap.size w w5 #[.string sc, .string ⟨#[]⟩, .string ⟨#[]⟩, .string ⟨#[]⟩, .string ⟨#[]⟩, .string ⟨#[]⟩, .bool false, .bool false]) := Lib.hid (by rw [hw5]; exact X0.out.up (below_dr (Below.refl _ _) nq))
  rw [← hw5]
  clear hw5 X0
  obtain ⟨c0, c1, c2, c3, c4, c5, c6, c7⟩ := P1.out.c
  obtain ⟨f0, f1, f2, f3, f4, f5, f6, f7⟩ := P1.out.fz
  go_wp2_with fail
  with_reducible refine (F3.out _).mono ?_
  rintro e1 w1 ⟨rfl, hq1⟩
  have hq2 := hq1.symm
  clear hq1
  subst hq2
  go_wp2_with fail
  with_reducible refine (F4.out _).mono ?_
  rintro e1 w1 ⟨rfl, hq1⟩
  have hq2 := hq1.symm
  clear hq1
  subst hq2
  go_wp2_with fail
  with_reducible refine (F5.out _).mono ?_
  rintro e1 w1 ⟨rfl, hq1⟩
  have hq2 := hq1.symm
  clear hq1
  subst hq2
  have P2 := (((((P1.out).put 2 (.string ho)).put 3 (.string po)).put 4 (.string pt)).put 7 (.bool true)).put 5 (.string qu)
  simp only [List.setIfInBounds_toArray, List.set_cons_zero, List.set_cons_succ] at P2
  replace P2 := Lib.hid P2
  go_wp2_with fail
  obtain ⟨w6, hw6⟩ : ∃ x, x = (((((w5.setCell ⟨w.heap.size + 1, 2, none⟩ (.string ho)).setCell ⟨w.heap.size + 1, 3, none⟩ (.string po)).setCell ⟨w.heap.size + 1, 4, none⟩ (.string pt)).setCell ⟨w.heap.size + 1, 7, none⟩ (.bool true)).setCell ⟨w.heap.size + 1, 5, none⟩ (.string qu)) := ⟨_, rfl⟩
  rw [← hw6] at P2 ⊢
  clear hw6 P1 c0 c1 c2 c3 c4 c5 c6 c7 f0 f1 f2 f3 f4 f5 f6 f7
  with_reducible refine (FM.out _).mono ?_
  rintro e1 w7 ⟨rfl, b7⟩
  have P3 := Lib.hid (P2.out.up b7)
  clear b7 P2
  obtain ⟨c0, c1, c2, c3, c4, c5, c6, c7⟩ := P3.out.c
  obtain ⟨⟨z0, z1, z2, z3, z4, z5, z6, z7⟩, ⟨y0, y1, y2, y3, y4, y5, y6, y7⟩⟩ := P3.out.z
  cases o with
  | true =>
    obtain rfl : ne = 0 := hne.out
    have E8 := P3.out.end8 (.string sc) (.string ⟨#[]⟩) (.string ho) (.string po) (.string pt) (.string qu) (.bool false) (.bool true)
    go_wp2_with fail
    exact retR rfl rfl E8.1 ⟨rfl, E8.2⟩
  | false =>
    obtain rfl : ne = 150 := hne.out
    have E8 := P3.out.end8 (.string ⟨#[]⟩) (.string ⟨#[]⟩) (.string ⟨#[]⟩) (.string ⟨#[]⟩) (.string ⟨#[]⟩) (.string ⟨#[]⟩) (.bool false) (.bool false)
    go_wp2_with fail
    exact retR rfl rfl E8.1 ⟨rfl, E8.2⟩
set_option maxRecDepth 20000 in
set_option maxHeartbeats 2000000 in
theorem rparse_go010 (s sc R H T ho po pt : ByteArray) (a e j k q : Nat) (w : World) (hl : ¬ 2048 < s.size) (ha : a0R s = a) (ha3 : a + 3 ≤ s.size) (hx : s.extract a (a + 3) = ⟨#[58, 47, 47]⟩)
    (g0 : s.extract 0 a = sc) (g1 : s.extract (a + 3) s.size = R) (g2 : R.extract 0 e = H) (g3 : R.extract e R.size = T) (g4 : H.extract 0 k = ho) (g5 : H.extract (k + 1) H.size = po) (g6 : T.extract 0 q = pt) (he : fdN [47, 63] R.data.toList = e) (hj : fdN [64] H.data.toList = j) (hk : fdN [58] H.data.toList = k) (hqq : fdN [63] T.data.toList = q)
    (bR : R.size ≤ 2048) (bH : H.size ≤ 2048) (bT : T.size ≤ 2048)  (be : e ≤ R.size) (bj : j ≤ H.size) (bk : k ≤ H.size) (bq : q ≤ T.size)
    (cu : ¬ j < H.size) (cp : k < H.size) (cq : ¬ q < T.size) (bs : sc.size ≤ 1000000)  (bh : ho.size ≤ 1000000) (bp : po.size ≤ 1000000) (bpt : pt.size ≤ 1000000)  :
    Calls Tryd.prog 11 #[.string s] w fun e w' => e = .returned (.tuple #[if mayP sc ⟨#[]⟩ ho po pt ⟨#[]⟩ false false then adV sc ⟨#[]⟩ ho po pt ⟨#[]⟩ false false else adZ, .int .i64 (numE (mayP sc ⟨#[]⟩ ho po pt ⟨#[]⟩ false false))]) ∧ Below w.heap.size w w' := by
  have F1 := find_any s ⟨#[58]⟩ (by decide) (by omega)
  have F2 := find_any R ⟨#[47, 63]⟩ (by decide) (by omega)
  have F3 := find_any H ⟨#[64]⟩ (by decide) (by omega)
  have F4 := find_any H ⟨#[58]⟩ (by decide) (by omega)
  have F5 := find_any T ⟨#[63]⟩ (by decide) (by omega)
  rw [show fdN (⟨#[58]⟩ : ByteArray).data.toList s.data.toList = a from ha] at F1
  rw [show fdN (⟨#[47, 63]⟩ : ByteArray).data.toList R.data.toList = e from he] at F2
  rw [show fdN (⟨#[64]⟩ : ByteArray).data.toList H.data.toList = j from hj] at F3
  rw [show fdN (⟨#[58]⟩ : ByteArray).data.toList H.data.toList = k from hk] at F4
  rw [show fdN (⟨#[63]⟩ : ByteArray).data.toList T.data.toList = q from hqq] at F5
  replace F1 := Lib.hid F1
  replace F2 := Lib.hid F2
  replace F3 := Lib.hid F3
  replace F4 := Lib.hid F4
  replace F5 := Lib.hid F5
  have FM := Lib.hid (fun W => may_any sc ⟨#[]⟩ ho po pt ⟨#[]⟩ false false bs (by decide) bh bp bpt (by decide) W)
  obtain ⟨o, ho1⟩ : ∃ o, o = mayP sc ⟨#[]⟩ ho po pt ⟨#[]⟩ false false := ⟨_, rfl⟩
  rw [← ho1] at FM ⊢
  clear ho1
  have X0 := Lib.hid (RS.new w #[.string sc, .string ⟨#[]⟩, .string ⟨#[]⟩, .string ⟨#[]⟩, .string ⟨#[]⟩, .string ⟨#[]⟩, .bool false, .bool false])
  obtain ⟨ne, hne⟩ : ∃ x, x = numE o := ⟨_, rfl⟩
  rw [← hne]
  replace hne := Lib.hid hne
  have hxe : ((s.extract a (a + 3)).toList == [58, 47, 47]) = true := by rw [hx, ByteArray.toList_eq]; rfl
  clear hx
  have i1 : ¬ (2048 : Int) < (s.size : Int) := by omega
  have i2 : (a : Int) + 3 ≤ (s.size : Int) := by omega
  have i3 : (s.size : Int) ≤ 2048 := by omega
  have i4 : (e : Int) ≤ (R.size : Int) := by omega
  have i5 : (R.size : Int) ≤ 2048 := by omega
  have i6 : (H.size : Int) ≤ 2048 := by omega
  have i7 : (T.size : Int) ≤ 2048 := by omega
  have i8 : ¬ (j : Int) < (H.size : Int) := by omega
  have i9 : (k : Int) < (H.size : Int) := by omega
  have i10 : ¬ (q : Int) < (T.size : Int) := by omega
  have i11 : (k : Int) ≤ (H.size : Int) := by omega
  have i12 : (q : Int) ≤ (T.size : Int) := by omega
  have i13 : (j : Int) ≤ (H.size : Int) := by omega
  have i14 : (H.size : Int) ≤ 2048 := by omega
  have i15 : (a : Int) ≤ (s.size : Int) := by omega

  have i17 : (k : Int) + 1 ≤ (H.size : Int) := by omega

  clear hl ha ha3 he hj hk hqq bR bH bT be bj bk bq cu cp cq bs bh bpt  bp 
  unfold adZ
  unfold adV at FM ⊢
  go_enter Tryd.func11, Tryd.ntmps11
  go_wp2_with fail
  with_reducible refine (F1.out _).mono ?_
  rintro e1 w1 ⟨rfl, rfl⟩
  go_wp2_with fail
  with_reducible refine (F2.out _).mono ?_
  rintro e1 w1 ⟨rfl, rfl⟩
  go_upto_region 7 with fail
  go_quiet (fail)
  obtain ⟨w5, hw5⟩ : ∃ x, x = ((w.alloc (.cells #[.string ⟨#[]⟩, .string ⟨#[]⟩, .string ⟨#[]⟩, .string ⟨#[]⟩, .string ⟨#[]⟩, .string ⟨#[]⟩, .bool false, .bool false] 24)).alloc (.cells #[.string sc, .string ⟨#[]⟩, .string ⟨#[]⟩, .string ⟨#[]⟩, .string ⟨#[]⟩, .string ⟨#[]⟩, .bool false, .bool false] 24)).drewN nq := ⟨_, rfl⟩
  have P1 : Hid (RS w.heap.size w w5 #[.string sc, .string ⟨#[]⟩, .string ⟨#[]⟩, .string ⟨#[]⟩, .string ⟨#[]⟩, .string ⟨#[]⟩, .bool false, .bool false]) := Lib.hid (by rw [hw5]; exact X0.out.up (below_dr (Below.refl _ _) nq))
  rw [← hw5]
  clear hw5 X0
  obtain ⟨c0, c1, c2, c3, c4, c5, c6, c7⟩ := P1.out.c
  obtain ⟨f0, f1, f2, f3, f4, f5, f6, f7⟩ := P1.out.fz
  go_wp2_with fail
  with_reducible refine (F3.out _).mono ?_
  rintro e1 w1 ⟨rfl, hq1⟩
  have hq2 := hq1.symm
  clear hq1
  subst hq2
  go_wp2_with fail
  with_reducible refine (F4.out _).mono ?_
  rintro e1 w1 ⟨rfl, hq1⟩
  have hq2 := hq1.symm
  clear hq1
  subst hq2
  go_wp2_with fail
  with_reducible refine (F5.out _).mono ?_
  rintro e1 w1 ⟨rfl, hq1⟩
  have hq2 := hq1.symm
  clear hq1
  subst hq2
  have P2 := (((P1.out).put 2 (.string ho)).put 3 (.string po)).put 4 (.string pt)
  simp only [List.setIfInBounds_toArray, List.set_cons_zero, List.set_cons_succ] at P2
  replace P2 := Lib.hid P2
  go_wp2_with fail
  obtain ⟨w6, hw6⟩ : ∃ x, x = (((w5.setCell ⟨w.heap.size + 1, 2, none⟩ (.string ho)).setCell ⟨w.heap.size + 1, 3, none⟩ (.string po)).setCell ⟨w.heap.size + 1, 4, none⟩ (.string pt)) := ⟨_, rfl⟩
  rw [← hw6] at P2 ⊢
  clear hw6 P1 c0 c1 c2 c3 c4 c5 c6 c7 f0 f1 f2 f3 f4 f5 f6 f7
  with_reducible refine (FM.out _).mono ?_
  rintro e1 w7 ⟨rfl, b7⟩
  have P3 := Lib.hid (P2.out.up b7)
  clear b7 P2
  obtain ⟨c0, c1, c2, c3, c4, c5, c6, c7⟩ := P3.out.c
  obtain ⟨⟨z0, z1, z2, z3, z4, z5, z6, z7⟩, ⟨y0, y1, y2, y3, y4, y5, y6, y7⟩⟩ := P3.out.z
  cases o with
  | true =>
    obtain rfl : ne = 0 := hne.out
    have E8 := P3.out.end8 (.string sc) (.string ⟨#[]⟩) (.string ho) (.string po) (.string pt) (.string ⟨#[]⟩) (.bool false) (.bool false)
    go_wp2_with fail
    exact retR rfl rfl E8.1 ⟨rfl, E8.2⟩
  | false =>
    obtain rfl : ne = 150 := hne.out
    have E8 := P3.out.end8 (.string ⟨#[]⟩) (.string ⟨#[]⟩) (.string ⟨#[]⟩) (.string ⟨#[]⟩) (.string ⟨#[]⟩) (.string ⟨#[]⟩) (.bool false) (.bool false)
    go_wp2_with fail
    exact retR rfl rfl E8.1 ⟨rfl, E8.2⟩
set_option maxRecDepth 20000 in
set_option maxHeartbeats 2000000 in
theorem rparse_go001 (s sc R H T ho pt qu : ByteArray) (a e j k q : Nat) (w : World) (hl : ¬ 2048 < s.size) (ha : a0R s = a) (ha3 : a + 3 ≤ s.size) (hx : s.extract a (a + 3) = ⟨#[58, 47, 47]⟩)
    (g0 : s.extract 0 a = sc) (g1 : s.extract (a + 3) s.size = R) (g2 : R.extract 0 e = H) (g3 : R.extract e R.size = T) (g4 : H.extract 0 k = ho) (g5 : T.extract 0 q = pt) (g6 : T.extract (q + 1) T.size = qu) (he : fdN [47, 63] R.data.toList = e) (hj : fdN [64] H.data.toList = j) (hk : fdN [58] H.data.toList = k) (hqq : fdN [63] T.data.toList = q)
    (bR : R.size ≤ 2048) (bH : H.size ≤ 2048) (bT : T.size ≤ 2048)  (be : e ≤ R.size) (bj : j ≤ H.size) (bk : k ≤ H.size) (bq : q ≤ T.size)
    (cu : ¬ j < H.size) (cp : ¬ k < H.size) (cq : q < T.size) (bs : sc.size ≤ 1000000)  (bh : ho.size ≤ 1000000)  (bpt : pt.size ≤ 1000000) (bqu : qu.size ≤ 1000000) :
    Calls Tryd.prog 11 #[.string s] w fun e w' => e = .returned (.tuple #[if mayP sc ⟨#[]⟩ ho ⟨#[]⟩ pt qu false true then adV sc ⟨#[]⟩ ho ⟨#[]⟩ pt qu false true else adZ, .int .i64 (numE (mayP sc ⟨#[]⟩ ho ⟨#[]⟩ pt qu false true))]) ∧ Below w.heap.size w w' := by
  have F1 := find_any s ⟨#[58]⟩ (by decide) (by omega)
  have F2 := find_any R ⟨#[47, 63]⟩ (by decide) (by omega)
  have F3 := find_any H ⟨#[64]⟩ (by decide) (by omega)
  have F4 := find_any H ⟨#[58]⟩ (by decide) (by omega)
  have F5 := find_any T ⟨#[63]⟩ (by decide) (by omega)
  rw [show fdN (⟨#[58]⟩ : ByteArray).data.toList s.data.toList = a from ha] at F1
  rw [show fdN (⟨#[47, 63]⟩ : ByteArray).data.toList R.data.toList = e from he] at F2
  rw [show fdN (⟨#[64]⟩ : ByteArray).data.toList H.data.toList = j from hj] at F3
  rw [show fdN (⟨#[58]⟩ : ByteArray).data.toList H.data.toList = k from hk] at F4
  rw [show fdN (⟨#[63]⟩ : ByteArray).data.toList T.data.toList = q from hqq] at F5
  replace F1 := Lib.hid F1
  replace F2 := Lib.hid F2
  replace F3 := Lib.hid F3
  replace F4 := Lib.hid F4
  replace F5 := Lib.hid F5
  have FM := Lib.hid (fun W => may_any sc ⟨#[]⟩ ho ⟨#[]⟩ pt qu false true bs (by decide) bh (by decide) bpt bqu W)
  obtain ⟨o, ho1⟩ : ∃ o, o = mayP sc ⟨#[]⟩ ho ⟨#[]⟩ pt qu false true := ⟨_, rfl⟩
  rw [← ho1] at FM ⊢
  clear ho1
  have X0 := Lib.hid (RS.new w #[.string sc, .string ⟨#[]⟩, .string ⟨#[]⟩, .string ⟨#[]⟩, .string ⟨#[]⟩, .string ⟨#[]⟩, .bool false, .bool false])
  obtain ⟨ne, hne⟩ : ∃ x, x = numE o := ⟨_, rfl⟩
  rw [← hne]
  replace hne := Lib.hid hne
  have hxe : ((s.extract a (a + 3)).toList == [58, 47, 47]) = true := by rw [hx, ByteArray.toList_eq]; rfl
  clear hx
  have i1 : ¬ (2048 : Int) < (s.size : Int) := by omega
  have i2 : (a : Int) + 3 ≤ (s.size : Int) := by omega
  have i3 : (s.size : Int) ≤ 2048 := by omega
  have i4 : (e : Int) ≤ (R.size : Int) := by omega
  have i5 : (R.size : Int) ≤ 2048 := by omega
  have i6 : (H.size : Int) ≤ 2048 := by omega
  have i7 : (T.size : Int) ≤ 2048 := by omega
  have i8 : ¬ (j : Int) < (H.size : Int) := by omega
  have i9 : ¬ (k : Int) < (H.size : Int) := by omega
  have i10 : (q : Int) < (T.size : Int) := by omega
  have i11 : (k : Int) ≤ (H.size : Int) := by omega
  have i12 : (q : Int) ≤ (T.size : Int) := by omega
  have i13 : (j : Int) ≤ (H.size : Int) := by omega
  have i14 : (H.size : Int) ≤ 2048 := by omega
  have i15 : (a : Int) ≤ (s.size : Int) := by omega


  have i18 : (q : Int) + 1 ≤ (T.size : Int) := by omega
  clear hl ha ha3 he hj hk hqq bR bH bT be bj bk bq cu cp cq bs bh bpt   bqu
  unfold adZ
  unfold adV at FM ⊢
  go_enter Tryd.func11, Tryd.ntmps11
  go_wp2_with fail
  with_reducible refine (F1.out _).mono ?_
  rintro e1 w1 ⟨rfl, rfl⟩
  go_wp2_with fail
  with_reducible refine (F2.out _).mono ?_
  rintro e1 w1 ⟨rfl, rfl⟩
  go_upto_region 7 with fail
  go_quiet (fail)
  obtain ⟨w5, hw5⟩ : ∃ x, x = ((w.alloc (.cells #[.string ⟨#[]⟩, .string ⟨#[]⟩, .string ⟨#[]⟩, .string ⟨#[]⟩, .string ⟨#[]⟩, .string ⟨#[]⟩, .bool false, .bool false] 24)).alloc (.cells #[.string sc, .string ⟨#[]⟩, .string ⟨#[]⟩, .string ⟨#[]⟩, .string ⟨#[]⟩, .string ⟨#[]⟩, .bool false, .bool false] 24)).drewN nq := ⟨_, rfl⟩
  have P1 : Hid (RS w.heap.size w w5 #[.string sc, .string ⟨#[]⟩, .string ⟨#[]⟩, .string ⟨#[]⟩, .string ⟨#[]⟩, .string ⟨#[]⟩, .bool false, .bool false]) := Lib.hid (by rw [hw5]; exact X0.out.up (below_dr (Below.refl _ _) nq))
  rw [← hw5]
  clear hw5 X0
  obtain ⟨c0, c1, c2, c3, c4, c5, c6, c7⟩ := P1.out.c
  obtain ⟨f0, f1, f2, f3, f4, f5, f6, f7⟩ := P1.out.fz
  go_wp2_with fail
  with_reducible refine (F3.out _).mono ?_
  rintro e1 w1 ⟨rfl, hq1⟩
  have hq2 := hq1.symm
  clear hq1
  subst hq2
  go_wp2_with fail
  with_reducible refine (F4.out _).mono ?_
  rintro e1 w1 ⟨rfl, hq1⟩
  have hq2 := hq1.symm
  clear hq1
  subst hq2
  go_wp2_with fail
  with_reducible refine (F5.out _).mono ?_
  rintro e1 w1 ⟨rfl, hq1⟩
  have hq2 := hq1.symm
  clear hq1
  subst hq2
  have P2 := ((((P1.out).put 2 (.string ho)).put 4 (.string pt)).put 7 (.bool true)).put 5 (.string qu)
  simp only [List.setIfInBounds_toArray, List.set_cons_zero, List.set_cons_succ] at P2
  replace P2 := Lib.hid P2
  go_wp2_with fail
  obtain ⟨w6, hw6⟩ : ∃ x, x = ((((w5.setCell ⟨w.heap.size + 1, 2, none⟩ (.string ho)).setCell ⟨w.heap.size + 1, 4, none⟩ (.string pt)).setCell ⟨w.heap.size + 1, 7, none⟩ (.bool true)).setCell ⟨w.heap.size + 1, 5, none⟩ (.string qu)) := ⟨_, rfl⟩
  rw [← hw6] at P2 ⊢
  clear hw6 P1 c0 c1 c2 c3 c4 c5 c6 c7 f0 f1 f2 f3 f4 f5 f6 f7
  with_reducible refine (FM.out _).mono ?_
  rintro e1 w7 ⟨rfl, b7⟩
  have P3 := Lib.hid (P2.out.up b7)
  clear b7 P2
  obtain ⟨c0, c1, c2, c3, c4, c5, c6, c7⟩ := P3.out.c
  obtain ⟨⟨z0, z1, z2, z3, z4, z5, z6, z7⟩, ⟨y0, y1, y2, y3, y4, y5, y6, y7⟩⟩ := P3.out.z
  cases o with
  | true =>
    obtain rfl : ne = 0 := hne.out
    have E8 := P3.out.end8 (.string sc) (.string ⟨#[]⟩) (.string ho) (.string ⟨#[]⟩) (.string pt) (.string qu) (.bool false) (.bool true)
    go_wp2_with fail
    exact retR rfl rfl E8.1 ⟨rfl, E8.2⟩
  | false =>
    obtain rfl : ne = 150 := hne.out
    have E8 := P3.out.end8 (.string ⟨#[]⟩) (.string ⟨#[]⟩) (.string ⟨#[]⟩) (.string ⟨#[]⟩) (.string ⟨#[]⟩) (.string ⟨#[]⟩) (.bool false) (.bool false)
    go_wp2_with fail
    exact retR rfl rfl E8.1 ⟨rfl, E8.2⟩
set_option maxRecDepth 20000 in
set_option maxHeartbeats 2000000 in
theorem rparse_go000 (s sc R H T ho pt : ByteArray) (a e j k q : Nat) (w : World) (hl : ¬ 2048 < s.size) (ha : a0R s = a) (ha3 : a + 3 ≤ s.size) (hx : s.extract a (a + 3) = ⟨#[58, 47, 47]⟩)
    (g0 : s.extract 0 a = sc) (g1 : s.extract (a + 3) s.size = R) (g2 : R.extract 0 e = H) (g3 : R.extract e R.size = T) (g4 : H.extract 0 k = ho) (g5 : T.extract 0 q = pt) (he : fdN [47, 63] R.data.toList = e) (hj : fdN [64] H.data.toList = j) (hk : fdN [58] H.data.toList = k) (hqq : fdN [63] T.data.toList = q)
    (bR : R.size ≤ 2048) (bH : H.size ≤ 2048) (bT : T.size ≤ 2048)  (be : e ≤ R.size) (bj : j ≤ H.size) (bk : k ≤ H.size) (bq : q ≤ T.size)
    (cu : ¬ j < H.size) (cp : ¬ k < H.size) (cq : ¬ q < T.size) (bs : sc.size ≤ 1000000)  (bh : ho.size ≤ 1000000)  (bpt : pt.size ≤ 1000000)  :
    Calls Tryd.prog 11 #[.string s] w fun e w' => e = .returned (.tuple #[if mayP sc ⟨#[]⟩ ho ⟨#[]⟩ pt ⟨#[]⟩ false false then adV sc ⟨#[]⟩ ho ⟨#[]⟩ pt ⟨#[]⟩ false false else adZ, .int .i64 (numE (mayP sc ⟨#[]⟩ ho ⟨#[]⟩ pt ⟨#[]⟩ false false))]) ∧ Below w.heap.size w w' := by
  have F1 := find_any s ⟨#[58]⟩ (by decide) (by omega)
  have F2 := find_any R ⟨#[47, 63]⟩ (by decide) (by omega)
  have F3 := find_any H ⟨#[64]⟩ (by decide) (by omega)
  have F4 := find_any H ⟨#[58]⟩ (by decide) (by omega)
  have F5 := find_any T ⟨#[63]⟩ (by decide) (by omega)
  rw [show fdN (⟨#[58]⟩ : ByteArray).data.toList s.data.toList = a from ha] at F1
  rw [show fdN (⟨#[47, 63]⟩ : ByteArray).data.toList R.data.toList = e from he] at F2
  rw [show fdN (⟨#[64]⟩ : ByteArray).data.toList H.data.toList = j from hj] at F3
  rw [show fdN (⟨#[58]⟩ : ByteArray).data.toList H.data.toList = k from hk] at F4
  rw [show fdN (⟨#[63]⟩ : ByteArray).data.toList T.data.toList = q from hqq] at F5
  replace F1 := Lib.hid F1
  replace F2 := Lib.hid F2
  replace F3 := Lib.hid F3
  replace F4 := Lib.hid F4
  replace F5 := Lib.hid F5
  have FM := Lib.hid (fun W => may_any sc ⟨#[]⟩ ho ⟨#[]⟩ pt ⟨#[]⟩ false false bs (by decide) bh (by decide) bpt (by decide) W)
  obtain ⟨o, ho1⟩ : ∃ o, o = mayP sc ⟨#[]⟩ ho ⟨#[]⟩ pt ⟨#[]⟩ false false := ⟨_, rfl⟩
  rw [← ho1] at FM ⊢
  clear ho1
  have X0 := Lib.hid (RS.new w #[.string sc, .string ⟨#[]⟩, .string ⟨#[]⟩, .string ⟨#[]⟩, .string ⟨#[]⟩, .string ⟨#[]⟩, .bool false, .bool false])
  obtain ⟨ne, hne⟩ : ∃ x, x = numE o := ⟨_, rfl⟩
  rw [← hne]
  replace hne := Lib.hid hne
  have hxe : ((s.extract a (a + 3)).toList == [58, 47, 47]) = true := by rw [hx, ByteArray.toList_eq]; rfl
  clear hx
  have i1 : ¬ (2048 : Int) < (s.size : Int) := by omega
  have i2 : (a : Int) + 3 ≤ (s.size : Int) := by omega
  have i3 : (s.size : Int) ≤ 2048 := by omega
  have i4 : (e : Int) ≤ (R.size : Int) := by omega
  have i5 : (R.size : Int) ≤ 2048 := by omega
  have i6 : (H.size : Int) ≤ 2048 := by omega
  have i7 : (T.size : Int) ≤ 2048 := by omega
  have i8 : ¬ (j : Int) < (H.size : Int) := by omega
  have i9 : ¬ (k : Int) < (H.size : Int) := by omega
  have i10 : ¬ (q : Int) < (T.size : Int) := by omega
  have i11 : (k : Int) ≤ (H.size : Int) := by omega
  have i12 : (q : Int) ≤ (T.size : Int) := by omega
  have i13 : (j : Int) ≤ (H.size : Int) := by omega
  have i14 : (H.size : Int) ≤ 2048 := by omega
  have i15 : (a : Int) ≤ (s.size : Int) := by omega



  clear hl ha ha3 he hj hk hqq bR bH bT be bj bk bq cu cp cq bs bh bpt   
  unfold adZ
  unfold adV at FM ⊢
  go_enter Tryd.func11, Tryd.ntmps11
  go_wp2_with fail
  with_reducible refine (F1.out _).mono ?_
  rintro e1 w1 ⟨rfl, rfl⟩
  go_wp2_with fail
  with_reducible refine (F2.out _).mono ?_
  rintro e1 w1 ⟨rfl, rfl⟩
  go_upto_region 7 with fail
  go_quiet (fail)
  obtain ⟨w5, hw5⟩ : ∃ x, x = ((w.alloc (.cells #[.string ⟨#[]⟩, .string ⟨#[]⟩, .string ⟨#[]⟩, .string ⟨#[]⟩, .string ⟨#[]⟩, .string ⟨#[]⟩, .bool false, .bool false] 24)).alloc (.cells #[.string sc, .string ⟨#[]⟩, .string ⟨#[]⟩, .string ⟨#[]⟩, .string ⟨#[]⟩, .string ⟨#[]⟩, .bool false, .bool false] 24)).drewN nq := ⟨_, rfl⟩
  have P1 : Hid (RS w.heap.size w w5 #[.string sc, .string ⟨#[]⟩, .string ⟨#[]⟩, .string ⟨#[]⟩, .string ⟨#[]⟩, .string ⟨#[]⟩, .bool false, .bool false]) := Lib.hid (by rw [hw5]; exact X0.out.up (below_dr (Below.refl _ _) nq))
  rw [← hw5]
  clear hw5 X0
  obtain ⟨c0, c1, c2, c3, c4, c5, c6, c7⟩ := P1.out.c
  obtain ⟨f0, f1, f2, f3, f4, f5, f6, f7⟩ := P1.out.fz
  go_wp2_with fail
  with_reducible refine (F3.out _).mono ?_
  rintro e1 w1 ⟨rfl, hq1⟩
  have hq2 := hq1.symm
  clear hq1
  subst hq2
  go_wp2_with fail
  with_reducible refine (F4.out _).mono ?_
  rintro e1 w1 ⟨rfl, hq1⟩
  have hq2 := hq1.symm
  clear hq1
  subst hq2
  go_wp2_with fail
  with_reducible refine (F5.out _).mono ?_
  rintro e1 w1 ⟨rfl, hq1⟩
  have hq2 := hq1.symm
  clear hq1
  subst hq2
  have P2 := ((P1.out).put 2 (.string ho)).put 4 (.string pt)
  simp only [List.setIfInBounds_toArray, List.set_cons_zero, List.set_cons_succ] at P2
  replace P2 := Lib.hid P2
  go_wp2_with fail
  obtain ⟨w6, hw6⟩ : ∃ x, x = ((w5.setCell ⟨w.heap.size + 1, 2, none⟩ (.string ho)).setCell ⟨w.heap.size + 1, 4, none⟩ (.string pt)) := ⟨_, rfl⟩
  rw [← hw6] at P2 ⊢
  clear hw6 P1 c0 c1 c2 c3 c4 c5 c6 c7 f0 f1 f2 f3 f4 f5 f6 f7
  with_reducible refine (FM.out _).mono ?_
  rintro e1 w7 ⟨rfl, b7⟩
  have P3 := Lib.hid (P2.out.up b7)
  clear b7 P2
  obtain ⟨c0, c1, c2, c3, c4, c5, c6, c7⟩ := P3.out.c
  obtain ⟨⟨z0, z1, z2, z3, z4, z5, z6, z7⟩, ⟨y0, y1, y2, y3, y4, y5, y6, y7⟩⟩ := P3.out.z
  cases o with
  | true =>
    obtain rfl : ne = 0 := hne.out
    have E8 := P3.out.end8 (.string sc) (.string ⟨#[]⟩) (.string ho) (.string ⟨#[]⟩) (.string pt) (.string ⟨#[]⟩) (.bool false) (.bool false)
    go_wp2_with fail
    exact retR rfl rfl E8.1 ⟨rfl, E8.2⟩
  | false =>
    obtain rfl : ne = 150 := hne.out
    have E8 := P3.out.end8 (.string ⟨#[]⟩) (.string ⟨#[]⟩) (.string ⟨#[]⟩) (.string ⟨#[]⟩) (.string ⟨#[]⟩) (.string ⟨#[]⟩) (.bool false) (.bool false)
    go_wp2_with fail
    exact retR rfl rfl E8.1 ⟨rfl, E8.2⟩
end Go.Proofs.YtjcaadihkbhlhaaDoor
