import Derived.Test.YtjcaadihkbhlhaaDoorL5
namespace Go.Proofs.YtjcaadihkbhlhaaDoor
open Go.RowKit
theorem ex_nil (x : ByteArray) (k : Nat) (h : x.size ≤ k) : x.extract k x.size = ⟨#[]⟩ := by
  apply ByteArray.ext
  apply Array.toList_inj.1
  rw [ex_data]
  have hl : x.data.toList.length = x.size := data_len x
  rw [List.drop_eq_nil_of_le (by rw [List.length_take]; omega)]
theorem ex_le (x : ByteArray) (a b : Nat) : (x.extract a b).size ≤ x.size := by
  rw [ByteArray.size_extract]; omega
theorem rparse_u1 (s R H T H2 : ByteArray) (a e j k q : Nat) (w : World) (hl : ¬ 2048 < s.size) (ha : a0R s = a) (ha3 : a + 3 ≤ s.size) (hx : s.extract a (a + 3) = ⟨#[58, 47, 47]⟩)
    (g1 : s.extract (a + 3) s.size = R) (g2 : R.extract 0 e = H) (g3 : R.extract e R.size = T) (g5 : H.extract (j + 1) H.size = H2) (he : fdN [47, 63] R.data.toList = e) (hj : fdN [64] H.data.toList = j) (hk : fdN [58] H2.data.toList = k) (hqq : fdN [63] T.data.toList = q)
    (bR : R.size ≤ 2048) (bH : H.size ≤ 2048) (bT : T.size ≤ 2048) (bH2 : H2.size ≤ 2048) (be : e ≤ R.size) (bj : j ≤ H.size) (bk : k ≤ H2.size) (bq : q ≤ T.size) (cu : j < H.size) :
    Calls Tryd.prog 11 #[.string s] w fun e w' => e = .returned (.tuple #[if mayP (s.extract 0 a) (H.extract 0 j) (H2.extract 0 k) (H2.extract (k + 1) H2.size) (T.extract 0 q) (T.extract (q + 1) T.size) true (decide (q < T.size)) then adV (s.extract 0 a) (H.extract 0 j) (H2.extract 0 k) (H2.extract (k + 1) H2.size) (T.extract 0 q) (T.extract (q + 1) T.size) true (decide (q < T.size)) else adZ, .int .i64 (numE (mayP (s.extract 0 a) (H.extract 0 j) (H2.extract 0 k) (H2.extract (k + 1) H2.size) (T.extract 0 q) (T.extract (q + 1) T.size) true (decide (q < T.size))))]) ∧ Below w.heap.size w w' := by
  have b0 := ex_le s 0 a
  have b1 := ex_le H 0 j
  have b2 := ex_le H2 0 k
  have b3 := ex_le H2 (k + 1) H2.size
  have b4 := ex_le T 0 q
  have b5 := ex_le T (q + 1) T.size
  by_cases cp : k < H2.size <;> by_cases cq : q < T.size
  · rw [decide_eq_true cq]
    exact rparse_go111 (w := w) (hl := hl) (ha := ha) (ha3 := ha3) (hx := hx) (g0 := rfl) (g1 := g1) (g2 := g2) (g3 := g3) (g4 := rfl) (g5 := g5) (g6 := rfl) (g7 := rfl) (g8 := rfl) (g9 := rfl) (he := he) (hj := hj) (hk := hk) (hqq := hqq) (bR := bR) (bH := bH) (bT := bT) (bH2 := bH2) (be := be) (bj := bj) (bk := bk) (bq := bq) (cu := cu) (cp := cp) (cq := cq) (bs := by omega) (bu := by omega) (bh := by omega) (bp := by omega) (bpt := by omega) (bqu := by omega)
  · rw [decide_eq_false cq, ex_nil T (q + 1) (by omega)]
    exact rparse_go110 (w := w) (hl := hl) (ha := ha) (ha3 := ha3) (hx := hx) (g0 := rfl) (g1 := g1) (g2 := g2) (g3 := g3) (g4 := rfl) (g5 := g5) (g6 := rfl) (g7 := rfl) (g8 := rfl) (he := he) (hj := hj) (hk := hk) (hqq := hqq) (bR := bR) (bH := bH) (bT := bT) (bH2 := bH2) (be := be) (bj := bj) (bk := bk) (bq := bq) (cu := cu) (cp := cp) (cq := cq) (bs := by omega) (bu := by omega) (bh := by omega) (bp := by omega) (bpt := by omega)
  · rw [decide_eq_true cq, ex_nil H2 (k + 1) (by omega)]
    exact rparse_go101 (w := w) (hl := hl) (ha := ha) (ha3 := ha3) (hx := hx) (g0 := rfl) (g1 := g1) (g2 := g2) (g3 := g3) (g4 := rfl) (g5 := g5) (g6 := rfl) (g7 := rfl) (g8 := rfl) (he := he) (hj := hj) (hk := hk) (hqq := hqq) (bR := bR) (bH := bH) (bT := bT) (bH2 := bH2) (be := be) (bj := bj) (bk := bk) (bq := bq) (cu := cu) (cp := cp) (cq := cq) (bs := by omega) (bu := by omega) (bh := by omega) (bpt := by omega) (bqu := by omega)
  · rw [decide_eq_false cq, ex_nil T (q + 1) (by omega), ex_nil H2 (k + 1) (by omega)]
    exact rparse_go100 (w := w) (hl := hl) (ha := ha) (ha3 := ha3) (hx := hx) (g0 := rfl) (g1 := g1) (g2 := g2) (g3 := g3) (g4 := rfl) (g5 := g5) (g6 := rfl) (g7 := rfl) (he := he) (hj := hj) (hk := hk) (hqq := hqq) (bR := bR) (bH := bH) (bT := bT) (bH2 := bH2) (be := be) (bj := bj) (bk := bk) (bq := bq) (cu := cu) (cp := cp) (cq := cq) (bs := by omega) (bu := by omega) (bh := by omega) (bpt := by omega)
theorem rparse_u0 (s R H T : ByteArray) (a e j k q : Nat) (w : World) (hl : ¬ 2048 < s.size) (ha : a0R s = a) (ha3 : a + 3 ≤ s.size) (hx : s.extract a (a + 3) = ⟨#[58, 47, 47]⟩)
    (g1 : s.extract (a + 3) s.size = R) (g2 : R.extract 0 e = H) (g3 : R.extract e R.size = T) (he : fdN [47, 63] R.data.toList = e) (hj : fdN [64] H.data.toList = j) (hk : fdN [58] H.data.toList = k) (hqq : fdN [63] T.data.toList = q)
    (bR : R.size ≤ 2048) (bH : H.size ≤ 2048) (bT : T.size ≤ 2048) (be : e ≤ R.size) (bj : j ≤ H.size) (bk : k ≤ H.size) (bq : q ≤ T.size) (cu : ¬ j < H.size) :
    Calls Tryd.prog 11 #[.string s] w fun e w' => e = .returned (.tuple #[if mayP (s.extract 0 a) ⟨#[]⟩ (H.extract 0 k) (H.extract (k + 1) H.size) (T.extract 0 q) (T.extract (q + 1) T.size) false (decide (q < T.size)) then adV (s.extract 0 a) ⟨#[]⟩ (H.extract 0 k) (H.extract (k + 1) H.size) (T.extract 0 q) (T.extract (q + 1) T.size) false (decide (q < T.size)) else adZ, .int .i64 (numE (mayP (s.extract 0 a) ⟨#[]⟩ (H.extract 0 k) (H.extract (k + 1) H.size) (T.extract 0 q) (T.extract (q + 1) T.size) false (decide (q < T.size))))]) ∧ Below w.heap.size w w' := by
  have b0 := ex_le s 0 a
  have b1 := ex_le H 0 j
  have b2 := ex_le H 0 k
  have b3 := ex_le H (k + 1) H.size
  have b4 := ex_le T 0 q
  have b5 := ex_le T (q + 1) T.size
  by_cases cp : k < H.size <;> by_cases cq : q < T.size
  · rw [decide_eq_true cq]
    exact rparse_go011 (w := w) (hl := hl) (ha := ha) (ha3 := ha3) (hx := hx) (g0 := rfl) (g1 := g1) (g2 := g2) (g3 := g3) (g4 := rfl) (g5 := rfl) (g6 := rfl) (g7 := rfl) (he := he) (hj := hj) (hk := hk) (hqq := hqq) (bR := bR) (bH := bH) (bT := bT) (be := be) (bj := bj) (bk := bk) (bq := bq) (cu := cu) (cp := cp) (cq := cq) (bs := by omega) (bh := by omega) (bp := by omega) (bpt := by omega) (bqu := by omega)
  · rw [decide_eq_false cq, ex_nil T (q + 1) (by omega)]
    exact rparse_go010 (w := w) (hl := hl) (ha := ha) (ha3 := ha3) (hx := hx) (g0 := rfl) (g1 := g1) (g2 := g2) (g3 := g3) (g4 := rfl) (g5 := rfl) (g6 := rfl) (he := he) (hj := hj) (hk := hk) (hqq := hqq) (bR := bR) (bH := bH) (bT := bT) (be := be) (bj := bj) (bk := bk) (bq := bq) (cu := cu) (cp := cp) (cq := cq) (bs := by omega) (bh := by omega) (bp := by omega) (bpt := by omega)
  · rw [decide_eq_true cq, ex_nil H (k + 1) (by omega)]
    exact rparse_go001 (w := w) (hl := hl) (ha := ha) (ha3 := ha3) (hx := hx) (g0 := rfl) (g1 := g1) (g2 := g2) (g3 := g3) (g4 := rfl) (g5 := rfl) (g6 := rfl) (he := he) (hj := hj) (hk := hk) (hqq := hqq) (bR := bR) (bH := bH) (bT := bT) (be := be) (bj := bj) (bk := bk) (bq := bq) (cu := cu) (cp := cp) (cq := cq) (bs := by omega) (bh := by omega) (bpt := by omega) (bqu := by omega)
  · rw [decide_eq_false cq, ex_nil T (q + 1) (by omega), ex_nil H (k + 1) (by omega)]
    exact rparse_go000 (w := w) (hl := hl) (ha := ha) (ha3 := ha3) (hx := hx) (g0 := rfl) (g1 := g1) (g2 := g2) (g3 := g3) (g4 := rfl) (g5 := rfl) (he := he) (hj := hj) (hk := hk) (hqq := hqq) (bR := bR) (bH := bH) (bT := bT) (be := be) (bj := bj) (bk := bk) (bq := bq) (cu := cu) (cp := cp) (cq := cq) (bs := by omega) (bh := by omega) (bpt := by omega)
theorem parts_yes (R : ByteArray) (e j : Nat) (he : fdN [47, 63] R.data.toList = e) (hj : fdN [64] (R.extract 0 e).data.toList = j) (cu : j < (R.extract 0 e).size) :
    huU R = true ∧ usU R = (R.extract 0 e).extract 0 j ∧ auA (r2U R) = (R.extract 0 e).extract (j + 1) (R.extract 0 e).size ∧ paA (r2U R) = R.extract e R.size := by
  obtain ⟨l, hl⟩ : ∃ l, l = R.data.toList := ⟨_, rfl⟩
  have hR : R = mk l := by rw [hl]; exact mk_eta R
  subst hR
  clear hl
  rw [mk_data] at he
  have hle := fdN_le [47, 63] l
  rw [he] at hle
  have s0 : (mk l).size = l.length := by rw [← data_len, mk_data]
  have s1 : ((mk l).extract 0 e).size = e := by rw [ByteArray.size_extract, s0]; omega
  rw [s1] at cu
  rw [mk_ex, mk_data, List.drop_zero, fdN_take [64] l e hle] at hj
  have hj2 : fdN [64] l = j := by omega
  have at1 : atU (mk l) = (j : Nat) := by
    unfold atU; rw [mk_data, byte_fd, hj2, if_pos (by omega)]
  have hu : huU (mk l) = true := by
    unfold huU
    rw [at1]
    have en1 : enU (mk l) = if e < l.length then (e : Int) else -1 := by unfold enU; rw [mk_data, any_fd, he]
    rw [en1]
    split
    · have h1 : decide ((0 : Int) ≤ (j : Int)) = true := decide_eq_true (by omega)
      have h2 : decide ((e : Int) < (j : Int)) = false := decide_eq_false (by omega)
      rw [h1, h2]; simp
    · have h1 : decide ((0 : Int) ≤ (j : Int)) = true := decide_eq_true (by omega)
      rw [h1]; simp
  have hr2 : r2U (mk l) = mk (l.drop (j + 1)) := by
    unfold r2U
    rw [if_pos hu, at1, Int.toNat_natCast, mk_ex, s0, List.take_length]
  have hen2 : enU (mk (l.drop (j + 1))) = if e < l.length then ((e - (j + 1) : Nat) : Int) else -1 := by
    unfold enU
    rw [mk_data, any_fd, fdN_drop _ l (j + 1) (by omega), he, List.length_drop]
    by_cases h : e < l.length
    · rw [if_pos h, if_pos (by omega)]
    · rw [if_neg h, if_neg (by omega)]
  have hau : auA (r2U (mk l)) = mk ((l.take e).drop (j + 1)) := by
    unfold auA
    rw [hr2, hen2]
    by_cases h : e < l.length
    · rw [if_pos h, if_neg (by omega), Int.toNat_natCast, mk_ex, List.drop_zero, List.drop_take]
    · rw [if_neg h, if_pos (by decide), List.take_of_length_le (by omega)]
  refine ⟨hu, ?_, ?_, ?_⟩
  · unfold usU
    rw [if_pos hu, at1, Int.toNat_natCast, mk_ex, mk_ex, mk_ex]
    simp only [List.drop_zero, List.take_take]
    rw [Nat.min_eq_left (by omega)]
  · rw [hau, s1, mk_ex, mk_ex, List.drop_zero, List.take_take, Nat.min_self]
  · unfold paA
    rw [hau, hr2]
    have s2 : (mk ((l.take e).drop (j + 1))).size = e - (j + 1) := by rw [← data_len, mk_data, List.length_drop, List.length_take]; omega
    rw [s2, mk_ex, mk_ex, s0]
    have s3 : (mk (l.drop (j + 1))).size = (l.drop (j + 1)).length := by rw [← data_len, mk_data]
    rw [s3, List.take_length, List.take_length, List.drop_drop]
    rw [show j + 1 + (e - (j + 1)) = e by omega]
theorem parts_no (R : ByteArray) (e j : Nat) (he : fdN [47, 63] R.data.toList = e) (hj : fdN [64] (R.extract 0 e).data.toList = j) (cu : ¬ j < (R.extract 0 e).size) :
    huU R = false ∧ usU R = ⟨#[]⟩ ∧ auA (r2U R) = R.extract 0 e ∧ paA (r2U R) = R.extract e R.size := by
  obtain ⟨l, hl⟩ : ∃ l, l = R.data.toList := ⟨_, rfl⟩
  have hR : R = mk l := by rw [hl]; exact mk_eta R
  subst hR
  clear hl
  rw [mk_data] at he
  have hle := fdN_le [47, 63] l
  rw [he] at hle
  have s0 : (mk l).size = l.length := by rw [← data_len, mk_data]
  have s1 : ((mk l).extract 0 e).size = e := by rw [ByteArray.size_extract, s0]; omega
  rw [s1] at cu
  rw [mk_ex, mk_data, List.drop_zero, fdN_take [64] l e hle] at hj
  have hj2 : e ≤ fdN [64] l := by omega
  have en1 : enU (mk l) = if e < l.length then (e : Int) else -1 := by unfold enU; rw [mk_data, any_fd, he]
  have hu : huU (mk l) = false := by
    unfold huU
    have at1 : atU (mk l) = if fdN [64] l < l.length then (fdN [64] l : Int) else -1 := by unfold atU; rw [mk_data, byte_fd]
    rw [at1, en1]
    by_cases h : fdN [64] l < l.length
    · have h64 := fdN_hit [64] l h
      have hM : ([47, 63] : List UInt8).contains (l[e]'(by omega)) = true := by
        have := fdN_hit [47, 63] l (by rw [he]; omega)
        simp only [he] at this
        exact this
      have hne : e ≠ fdN [64] l := fun q => by
        simp only [← q] at h64
        have e64 : l[e]'(by omega) = 64 := by simpa using h64
        rw [e64] at hM
        exact absurd hM (by decide)
      rw [if_pos h, if_pos (by omega)]
      have h1 : decide ((e : Int) < (fdN [64] l : Int)) = true := decide_eq_true (by omega)
      have h2 : decide ((0 : Int) ≤ (e : Int)) = true := decide_eq_true (by omega)
      rw [h1, h2]; simp
    · rw [if_neg h]; simp
  have hr2 : r2U (mk l) = mk l := by
    unfold r2U
    rw [if_neg (by rw [hu]; decide)]
  have hau : auA (r2U (mk l)) = mk (l.take e) := by
    unfold auA
    rw [hr2, en1]
    by_cases h : e < l.length
    · rw [if_pos h, if_neg (by omega), Int.toNat_natCast, mk_ex, List.drop_zero]
    · rw [if_neg h, if_pos (by decide), List.take_of_length_le (by omega)]
  refine ⟨hu, ?_, ?_, ?_⟩
  · unfold usU
    rw [if_neg (by rw [hu]; decide)]
  · rw [hau, mk_ex, List.drop_zero]
  · unfold paA
    rw [hau, hr2]
    have s2 : (mk (l.take e)).size = e := by rw [← data_len, mk_data, List.length_take]; omega
    rw [s2]
theorem cutB (x : ByteArray) (c : UInt8) (k : Nat) (hk : fdN [c] x.data.toList = k) : mk (Lib.cut x.data.toList [c]).1 = x.extract 0 k ∧ mk (Lib.cut x.data.toList [c]).2.1 = x.extract (k + 1) x.size ∧ (Lib.cut x.data.toList [c]).2.2 = decide (k < x.size) := by
  rw [cut_fd, hk]
  have hl : x.data.toList.length = x.size := data_len x
  refine ⟨?_, ?_, ?_⟩
  · apply ByteArray.ext
    apply Array.toList_inj.1
    rw [ex_data, List.drop_zero]
    rfl
  · apply ByteArray.ext
    apply Array.toList_inj.1
    rw [ex_data, ← hl, List.take_length]
    rfl
  · rw [hl]
theorem rparse_any (s : ByteArray) (w : World) (hs : s.size ≤ 1000000) : Calls Tryd.prog 11 #[.string s] w fun e w' => e = .returned (.tuple #[adP s, .int .i64 (numE (okP s))]) ∧ Below w.heap.size w w' := by
  by_cases hl : 2048 < s.size
  · have h := ok_not s (Or.inl hl)
    unfold adP
    rw [h]
    exact rparse_long s w hl hs
  by_cases ha : s.size < a0R s + 3
  · have h := ok_not s (Or.inr (Or.inl ha))
    unfold adP
    rw [h]
    exact rparse_short s w hl ha
  by_cases hx : s.extract (a0R s) (a0R s + 3) = ⟨#[58, 47, 47]⟩
  case neg =>
    have h := ok_not s (Or.inr (Or.inr hx))
    unfold adP
    rw [h]
    exact rparse_mark s w hl ha hx
  have ha3 : a0R s + 3 ≤ s.size := by omega
  have hix := ix_at s ha3 hx
  have eS : scS s = s.extract 0 (a0R s) := by unfold scS; rw [hix, Int.toNat_natCast]
  have eR : r1S s = s.extract (a0R s + 3) s.size := by unfold r1S; rw [hix, Int.toNat_natCast]
  have eO : okP s = mayS s := by
    unfold okP
    have h1 : decide (s.size ≤ 2048) = true := decide_eq_true (by omega)
    have h2 : decide (0 ≤ ixS s) = true := decide_eq_true (by rw [hix]; omega)
    rw [h1, h2]; simp
  unfold adP
  rw [eO]
  unfold mayS
  unfold ch cq
  rw [eS, eR]
  obtain ⟨R, hR⟩ : ∃ R, R = s.extract (a0R s + 3) s.size := ⟨_, rfl⟩
  have bR : R.size ≤ 2048 := by have := ex_le s (a0R s + 3) s.size; rw [← hR] at this; omega
  rw [← hR]
  obtain ⟨e, he⟩ : ∃ e, e = fdN [47, 63] R.data.toList := ⟨_, rfl⟩
  obtain ⟨H, hH⟩ : ∃ H, H = R.extract 0 e := ⟨_, rfl⟩
  obtain ⟨T, hT⟩ : ∃ T, T = R.extract e R.size := ⟨_, rfl⟩
  obtain ⟨j, hj⟩ : ∃ j, j = fdN [64] H.data.toList := ⟨_, rfl⟩
  obtain ⟨q, hq⟩ : ∃ q, q = fdN [63] T.data.toList := ⟨_, rfl⟩
  have bH : H.size ≤ 2048 := by have := ex_le R 0 e; rw [← hH] at this; omega
  have bT : T.size ≤ 2048 := by have := ex_le R e R.size; rw [← hT] at this; omega
  have be : e ≤ R.size := by rw [he, ← data_len]; exact fdN_le _ _
  have bj : j ≤ H.size := by rw [hj, ← data_len]; exact fdN_le _ _
  have bq : q ≤ T.size := by rw [hq, ← data_len]; exact fdN_le _ _
  by_cases cu : j < H.size
  · obtain ⟨p1, p2, p3, p4⟩ := parts_yes R e j he.symm (by rw [← hH]; exact hj.symm) (by rw [← hH]; exact cu)
    rw [← hH] at p2 p3
    rw [← hT] at p4
    obtain ⟨H2, hH2⟩ : ∃ H2, H2 = H.extract (j + 1) H.size := ⟨_, rfl⟩
    rw [← hH2] at p3
    have bH2 : H2.size ≤ 2048 := by have := ex_le H (j + 1) H.size; rw [← hH2] at this; omega
    obtain ⟨k, hk⟩ : ∃ k, k = fdN [58] H2.data.toList := ⟨_, rfl⟩
    have bk : k ≤ H2.size := by rw [hk, ← data_len]; exact fdN_le _ _
    obtain ⟨c1, c2, c3⟩ := cutB H2 58 k hk.symm
    obtain ⟨d1, d2, d3⟩ := cutB T 63 q hq.symm
    rw [p1, p2, p3, p4, c1, c2, d1, d2, d3]
    exact rparse_u1 (w := w) (hl := hl) (ha := rfl) (ha3 := ha3) (hx := hx) (g1 := hR.symm) (g2 := hH.symm) (g3 := hT.symm) (g5 := hH2.symm) (he := he.symm) (hj := hj.symm) (hk := hk.symm) (hqq := hq.symm) (bR := bR) (bH := bH) (bT := bT) (bH2 := bH2) (be := be) (bj := bj) (bk := bk) (bq := bq) (cu := cu)
  · obtain ⟨p1, p2, p3, p4⟩ := parts_no R e j he.symm (by rw [← hH]; exact hj.symm) (by rw [← hH]; exact cu)
    rw [← hH] at p3
    rw [← hT] at p4
    obtain ⟨k, hk⟩ : ∃ k, k = fdN [58] H.data.toList := ⟨_, rfl⟩
    have bk : k ≤ H.size := by rw [hk, ← data_len]; exact fdN_le _ _
    obtain ⟨c1, c2, c3⟩ := cutB H 58 k hk.symm
    obtain ⟨d1, d2, d3⟩ := cutB T 63 q hq.symm
    rw [p1, p2, p3, p4, c1, c2, d1, d2, d3]
    exact rparse_u0 (w := w) (hl := hl) (ha := rfl) (ha3 := ha3) (hx := hx) (g1 := hR.symm) (g2 := hH.symm) (g3 := hT.symm) (he := he.symm) (hj := hj.symm) (hk := hk.symm) (hqq := hq.symm) (bR := bR) (bH := bH) (bT := bT) (be := be) (bj := bj) (bk := bk) (bq := bq) (cu := cu)
end Go.Proofs.YtjcaadihkbhlhaaDoor
