import Derived.Test.YtjcaadihkbhlhaaDoorG8
import Derived.Test.YtjcaadihkbhlhaaDoorH6
namespace Go.Proofs.YtjcaadihkbhlhaaDoor
open Go.RowKit
theorem of_all (may : UInt8 → Bool) (P : UInt8 → Prop) (hm : ∀ b, may b = true → P b) (h37 : P 37) (hx : ∀ b, hexB b = true → P b) : ∀ (n : Nat) (l : List UInt8), l.length ≤ n → ofP may l = true → ∀ b ∈ l, P b
  | 0, l, hn, _ => by
    cases l with
    | nil => intro b hb; cases hb
    | cons _ _ => simp at hn
  | n + 1, [], _, _ => by intro b hb; cases hb
  | n + 1, x :: r, hn, h => by
    rw [ofP] at h
    cases hxx : may x with
    | true =>
      rw [hxx] at h
      intro b hb
      rcases List.mem_cons.1 hb with rfl | hb
      · exact hm _ hxx
      · exact of_all may P hm h37 hx n r (by simpa using hn) (by simpa using h) b hb
    | false =>
      rw [hxx] at h
      simp at h
      obtain ⟨he, hr⟩ := h
      match r, he, hr, hn with
      | a :: c :: r2, he, hr, hn =>
        unfold esc at he
        simp only [Bool.and_eq_true, beq_iff_eq] at he
        intro b hb
        simp only [List.mem_cons] at hb
        rcases hb with rfl | rfl | rfl | hb
        · rw [he.1]; exact h37
        · exact hx _ he.2.1
        · exact hx _ he.2.2
        · exact of_all may P hm h37 hx n r2 (by simp at hn ⊢; omega) (by simpa using hr) b hb
theorem of_no (m : List UInt8) (c : UInt8) (hc : mayB m c = false) (h37 : c ≠ 37) (hx : hexB c = false) (l : List UInt8) (h : ofP (mayB m) l = true) : c ∉ l := fun hin =>
  of_all (mayB m) (fun b => b ≠ c) (fun b hb e => by rw [e, hc] at hb; cases hb) (fun e => h37 e.symm) (fun b hb e => by rw [e, hx] at hb; cases hb) _ _ (Nat.le_refl _) h c hin rfl
theorem index_pre (x y : List UInt8) (h : (58 : UInt8) ∉ x) : Lib.index (x ++ 58 :: 47 :: 47 :: y) [58, 47, 47] = x.length := by
  refine Lib.index_first (by simp) ?_ ?_
  · unfold Lib.occAt
    rw [List.drop_left]
    rfl
  · intro j hj
    unfold Lib.occAt
    rw [List.drop_append_of_le_length (by omega)]
    have e : x.drop j = x[j] :: x.drop (j + 1) := List.drop_eq_getElem_cons hj
    rw [e]
    have hne : x[j] ≠ 58 := fun q => h (q ▸ List.getElem_mem hj)
    have : ((58 : UInt8) == x[j]) = false := by rw [beq_eq_false_iff_ne]; exact fun q => hne q.symm
    rw [List.cons_append]
    simp only [List.isPrefixOf, this, Bool.false_and]
theorem byte_pre (c : UInt8) (y : List UInt8) : ∀ x : List UInt8, c ∉ x → Lib.indexByte (x ++ c :: y) c = x.length
  | [], _ => by simp [Lib.indexByte]
  | b :: x, h => by
    have hb : (b == c) = false := by rw [beq_eq_false_iff_ne]; exact fun q => h (by simp [q])
    have ih := byte_pre c y x (fun q => h (by simp [q]))
    rw [List.cons_append]
    unfold Lib.indexByte
    rw [hb, ih]
    have : ((x.length : Int) == -1) = false := by rw [beq_eq_false_iff_ne]; omega
    simp [this]
theorem byte_none (c : UInt8) : ∀ x : List UInt8, c ∉ x → Lib.indexByte x c = -1
  | [], _ => rfl
  | b :: x, h => by
    have hb : (b == c) = false := by rw [beq_eq_false_iff_ne]; exact fun q => h (by simp [q])
    have ih := byte_none c x (fun q => h (by simp [q]))
    unfold Lib.indexByte
    rw [hb, ih]
    simp
theorem any_pre (m : List UInt8) (b : UInt8) (y : List UInt8) (hb : m.contains b = true) : ∀ x : List UInt8, (∀ e ∈ x, m.contains e = false) → Lib.indexAny (x ++ b :: y) m = x.length
  | [], _ => by simp only [List.nil_append, Lib.indexAny]; rw [if_pos hb]; rfl
  | a :: x, h => by
    have ha := h a (by simp)
    have ih := any_pre m b y hb x (fun e he => h e (by simp [he]))
    rw [List.cons_append]
    unfold Lib.indexAny
    rw [ha, ih]
    have : ((x.length : Int) == -1) = false := by rw [beq_eq_false_iff_ne]; omega
    simp [this]
theorem any_none (m : List UInt8) : ∀ x : List UInt8, (∀ e ∈ x, m.contains e = false) → Lib.indexAny x m = -1
  | [], _ => rfl
  | a :: x, h => by
    have ha := h a (by simp)
    have ih := any_none m x (fun e he => h e (by simp [he]))
    unfold Lib.indexAny
    rw [ha, ih]
    simp
theorem index1 (c : UInt8) : ∀ l : List UInt8, Lib.index l [c] = Lib.indexByte l c
  | [] => rfl
  | b :: l => by
    unfold Lib.index Lib.indexByte
    rw [index1 c l]
    have : ([c] : List UInt8).isPrefixOf (b :: l) = (b == c) := by simp [List.isPrefixOf]; exact Bool.beq_comm
    rw [this]
theorem cut_pre (c : UInt8) (x y : List UInt8) (h : c ∉ x) : Lib.cut (x ++ c :: y) [c] = (x, y, true) := by
  unfold Lib.cut
  rw [index1, byte_pre c y x h, if_pos (by omega)]
  have e : x ++ c :: y = (x ++ [c]) ++ y := by simp
  rw [Int.toNat_natCast, List.take_left]
  congr 2
  rw [e]
  have : x.length + [c].length = (x ++ [c]).length := by simp
  rw [this, List.drop_left]
theorem cut_none (c : UInt8) (x : List UInt8) (h : c ∉ x) : Lib.cut x [c] = (x, [], false) := by
  unfold Lib.cut
  rw [index1, byte_none c x h]
  rfl
theorem mk_data (l : List UInt8) : (mk l).data.toList = l := rfl
theorem mk_eta (s : ByteArray) : s = mk s.data.toList := by
  cases s with
  | mk d => rfl
theorem mk_ex (l : List UInt8) (a b : Nat) : (mk l).extract a b = mk ((l.take b).drop a) := by
  apply ByteArray.ext
  rw [ByteArray.data_extract]
  apply Array.toList_inj.1
  rw [Array.toList_extract]
  show List.extract l a b = (l.take b).drop a
  rw [List.extract_eq_take_drop, List.drop_take]
theorem mk_app (x y : List UInt8) : mk x ++ mk y = mk (x ++ y) := by
  apply ByteArray.ext
  rw [ByteArray.data_append]
  apply Array.toList_inj.1
  rw [Array.toList_append]
  rfl
def joinL (s u h p a q : List UInt8) (hu hq : Bool) : List UInt8 :=
  s ++ 58 :: 47 :: 47 :: ((if hu then u ++ [64] else []) ++ (h ++ ((if p = [] then [] else 58 :: p) ++ (a ++ (if hq then 63 :: q else [])))))
theorem joinT_list (s u h p a q : List UInt8) (hu hq : Bool) : joinT (mk s) (mk u) (mk h) (mk p) (mk a) (mk q) hu hq = mk (joinL s u h p a q hu hq) := by
  unfold joinT joinL
  rw [show (⟨#[58, 47, 47]⟩ : ByteArray) = mk [58, 47, 47] from rfl, show (⟨#[64]⟩ : ByteArray) = mk [64] from rfl, show (⟨#[58]⟩ : ByteArray) = mk [58] from rfl, show (⟨#[63]⟩ : ByteArray) = mk [63] from rfl]
  have hp : ((mk p).size = 0) = (p = []) := by
    rw [mk_size]; simp
  simp only [hp, mk_app]
  cases hu <;> cases hq <;> by_cases h0 : p = [] <;> simp [h0, mk_app]
theorem any_ge (m : List UInt8) (y : List UInt8) : ∀ x : List UInt8, (∀ e ∈ x, m.contains e = false) → Lib.indexAny (x ++ y) m = -1 ∨ (x.length : Int) ≤ Lib.indexAny (x ++ y) m
  | [], _ => by
    have := Lib.indexAny_ge m ([] ++ y)
    rcases (by omega : Lib.indexAny ([] ++ y) m = -1 ∨ 0 ≤ Lib.indexAny ([] ++ y) m) with h | h
    · exact .inl h
    · exact .inr (by simpa using h)
  | a :: x, h => by
    have ha := h a (by simp)
    have ih := any_ge m y x (fun e he => h e (by simp [he]))
    rw [List.cons_append]
    unfold Lib.indexAny
    rw [ha]
    rcases ih with ih | ih
    · left; rw [ih]; simp
    · right
      have : (Lib.indexAny (x ++ y) m == -1) = false := by rw [beq_eq_false_iff_ne]; omega
      rw [this]
      simp
      omega
theorem byte_ge (c b : UInt8) (y : List UInt8) (hb : b ≠ c) : ∀ x : List UInt8, c ∉ x → Lib.indexByte (x ++ b :: y) c = -1 ∨ (x.length : Int) < Lib.indexByte (x ++ b :: y) c
  | [], _ => by
    have h1 := Lib.indexByte_ge y c
    have hbc : (b == c) = false := by rw [beq_eq_false_iff_ne]; exact hb
    rw [List.nil_append]
    unfold Lib.indexByte
    rw [hbc]
    rcases (by omega : Lib.indexByte y c = -1 ∨ 0 ≤ Lib.indexByte y c) with h | h
    · left; rw [h]; simp
    · right
      have : (Lib.indexByte y c == -1) = false := by rw [beq_eq_false_iff_ne]; omega
      rw [this]
      simp; omega
  | a :: x, h => by
    have ha : (a == c) = false := by rw [beq_eq_false_iff_ne]; exact fun q => h (by simp [q])
    have ih := byte_ge c b y hb x (fun q => h (by simp [q]))
    rw [List.cons_append]
    unfold Lib.indexByte
    rw [ha]
    rcases ih with ih | ih
    · left; rw [ih]; simp
    · right
      have : (Lib.indexByte (x ++ b :: y) c == -1) = false := by rw [beq_eq_false_iff_ne]; omega
      rw [this]
      simp; omega
/-- What a list has none of. -/
def No (cs : List UInt8) (l : List UInt8) : Prop := ∀ e ∈ l, cs.contains e = false
theorem No.app {cs x y : List UInt8} (hx : No cs x) (hy : No cs y) : No cs (x ++ y) := fun e he => (List.mem_append.1 he).elim (hx e) (hy e)
theorem No.nil (cs : List UInt8) : No cs [] := fun e he => by cases he
theorem No.cons {cs x : List UInt8} {b : UInt8} (hb : cs.contains b = false) (hx : No cs x) : No cs (b :: x) := fun e he => by
  rcases List.mem_cons.1 he with rfl | he
  · exact hb
  · exact hx e he
theorem No.mem {cs x : List UInt8} (h : No cs x) {c : UInt8} (hc : cs.contains c = true) : c ∉ x := fun hin => by rw [h c hin] at hc; cases hc
theorem No.sub {cs ds x : List UInt8} (h : No cs x) (hs : ∀ e, ds.contains e = true → cs.contains e = true) : No ds x := fun e he => by
  cases q : ds.contains e with
  | false => rfl
  | true => rw [← hs e q, h e he]
def tailL (a q : List UInt8) (hq : Bool) : List UInt8 := a ++ (if hq then 63 :: q else [])
def headL (h p : List UInt8) : List UInt8 := h ++ (if p = [] then [] else 58 :: p)
theorem sc_join (x y : List UInt8) (h : (58 : UInt8) ∉ x) : ixS (mk (x ++ 58 :: 47 :: 47 :: y)) = x.length ∧ scS (mk (x ++ 58 :: 47 :: 47 :: y)) = mk x ∧ r1S (mk (x ++ 58 :: 47 :: 47 :: y)) = mk y := by
  have e : ixS (mk (x ++ 58 :: 47 :: 47 :: y)) = x.length := index_pre x y h
  refine ⟨e, ?_, ?_⟩
  · unfold scS
    rw [e, mk_ex, Int.toNat_natCast, List.take_left, List.drop_zero]
  · unfold r1S
    rw [e, mk_ex, Int.toNat_natCast, mk_size, List.take_length]
    have : x ++ 58 :: 47 :: 47 :: y = (x ++ [58, 47, 47]) ++ y := by simp
    rw [this]
    have l3 : x.length + 3 = (x ++ [58, 47, 47]).length := by simp
    rw [l3, List.drop_left]
theorem us_join (u R : List UInt8) (h : No [64, 47, 63] u) : huU (mk (u ++ 64 :: R)) = true ∧ usU (mk (u ++ 64 :: R)) = mk u ∧ r2U (mk (u ++ 64 :: R)) = mk R := by
  have ea : atU (mk (u ++ 64 :: R)) = u.length := byte_pre 64 R u (h.mem (by decide))
  have ee : enU (mk (u ++ 64 :: R)) = -1 ∨ (u.length : Int) ≤ enU (mk (u ++ 64 :: R)) := any_ge [47, 63] (64 :: R) u (h.sub (by simp))
  have eh : huU (mk (u ++ 64 :: R)) = true := by
    unfold huU
    rw [ea]
    have h0 : decide ((0 : Int) ≤ (u.length : Int)) = true := by simp
    rw [h0, Bool.true_and]
    rcases ee with ee | ee
    · rw [ee]; rfl
    · have : decide (enU (mk (u ++ 64 :: R)) < (u.length : Int)) = false := by simpa using ee
      rw [this, Bool.and_false]; rfl
  refine ⟨eh, ?_, ?_⟩
  · unfold usU
    rw [eh, if_pos rfl, ea, mk_ex, Int.toNat_natCast, List.take_left, List.drop_zero]
  · unfold r2U
    rw [eh, if_pos rfl, ea, mk_ex, Int.toNat_natCast, mk_size, List.take_length]
    have : u ++ 64 :: R = (u ++ [64]) ++ R := by simp
    rw [this]
    have l3 : u.length + 1 = (u ++ [64]).length := by simp
    rw [l3, List.drop_left]
theorem us_none (H B : List UInt8) (h : No [64, 47, 63] H) (hB : B = [] ∨ ∃ b B', B = b :: B' ∧ (b = 47 ∨ b = 63)) : huU (mk (H ++ B)) = false ∧ usU (mk (H ++ B)) = mk [] ∧ r2U (mk (H ++ B)) = mk (H ++ B) := by
  have eh : huU (mk (H ++ B)) = false := by
    unfold huU
    rcases hB with rfl | ⟨b, B', rfl, hb⟩
    · have ea : atU (mk (H ++ [])) = -1 := by
        unfold atU; rw [mk_data, List.append_nil]; exact byte_none 64 H (h.mem (by decide))
      rw [ea]; rfl
    · have ea : atU (mk (H ++ b :: B')) = -1 ∨ (H.length : Int) < atU (mk (H ++ b :: B')) := byte_ge 64 b B' (by rcases hb with rfl | rfl <;> decide) H (h.mem (by decide))
      have ee : enU (mk (H ++ b :: B')) = H.length := any_pre [47, 63] b B' (by rcases hb with rfl | rfl <;> decide) H (h.sub (by simp))
      rw [ee]
      rcases ea with ea | ea
      · rw [ea]; rfl
      · have h1 : decide ((H.length : Int) < atU (mk (H ++ b :: B'))) = true := by simpa using ea
        have h2 : decide ((0 : Int) ≤ (H.length : Int)) = true := by simp
        rw [h1, h2]; simp
  refine ⟨eh, ?_, ?_⟩
  · unfold usU; rw [eh]; rfl
  · unfold r2U; rw [eh]; rfl
theorem au_join (H B : List UInt8) (h : No [47, 63] H) (hB : B = [] ∨ ∃ b B', B = b :: B' ∧ (b = 47 ∨ b = 63)) : auA (mk (H ++ B)) = mk H ∧ paA (mk (H ++ B)) = mk B := by
  have ea : auA (mk (H ++ B)) = mk H := by
    unfold auA
    rcases hB with rfl | ⟨b, B', rfl, hb⟩
    · have ee : enU (mk (H ++ [])) = -1 := by
        unfold enU; rw [mk_data, List.append_nil]; exact any_none [47, 63] H h
      rw [ee, if_pos (by decide), List.append_nil]
    · have ee : enU (mk (H ++ b :: B')) = H.length := any_pre [47, 63] b B' (by rcases hb with rfl | rfl <;> decide) H h
      rw [ee, if_neg (by omega), mk_ex, Int.toNat_natCast, List.take_left, List.drop_zero]
  refine ⟨ea, ?_⟩
  unfold paA
  rw [ea, mk_ex, mk_size, mk_size, List.take_length, List.drop_left]
theorem tail_head (a q : List UInt8) (hq : Bool) (ha : slashB a = true) : tailL a q hq = [] ∨ ∃ b B', tailL a q hq = b :: B' ∧ (b = 47 ∨ b = 63) := by
  unfold tailL
  cases a with
  | cons b r =>
    right
    refine ⟨b, _, rfl, .inl ?_⟩
    unfold slashB at ha
    simpa using ha
  | nil =>
    cases hq with
    | true => exact .inr ⟨63, q, rfl, .inr rfl⟩
    | false => exact .inl rfl
theorem ch_join (h p : List UInt8) (hh : No [58] h) : Lib.cut (headL h p) [58] = (h, p, !decide (p = [])) := by
  unfold headL
  by_cases hp : p = []
  · subst hp; simp only [if_true, List.append_nil, decide_true, Bool.not_true]; exact cut_none 58 h (hh.mem (by decide))
  · rw [if_neg hp, cut_pre 58 h p (hh.mem (by decide))]; simp [hp]
theorem cq_join (a q : List UInt8) (hq : Bool) (ha : No [63] a) (hqq : (hq || q.isEmpty) = true) : Lib.cut (tailL a q hq) [63] = (a, q, hq) := by
  unfold tailL
  cases hq with
  | true => exact cut_pre 63 a q (ha.mem (by decide))
  | false =>
    have : q = [] := by simpa using hqq
    subst this
    simp only [Bool.false_eq_true, if_false, List.append_nil]
    exact cut_none 63 a (ha.mem (by decide))
theorem no_of (m cs : List UInt8) (hc : ∀ c ∈ cs, mayB m c = false ∧ c ≠ 37 ∧ hexB c = false) (l : List UInt8) (h : ofP (mayB m) l = true) : No cs l := by
  intro e he
  cases q : cs.contains e with
  | false => rfl
  | true =>
    have hin : e ∈ cs := by simpa using q
    exact absurd he (of_no m e (hc e hin).1 (hc e hin).2.1 (hc e hin).2.2 l h)
theorem no_scheme (l : List UInt8) (h : schemeP l = true) : No [58] l := by
  have hs : ∀ b, schemeB b = true → ([58] : List UInt8).contains b = false := fun b hb => by
    have := by256 (P := fun z => !schemeB z || !([58] : List UInt8).contains z) (by decide +kernel) b
    rw [hb] at this
    simpa using this
  match l, h with
  | x :: r, h =>
    unfold schemeP at h
    simp only [Bool.and_eq_true, List.all_eq_true] at h
    exact No.cons (hs _ (by unfold schemeB; rw [h.1]; rfl)) (fun e he => hs _ (h.2 e he))
theorem no_port (l : List UInt8) (h : l.all digitB = true) : No [58, 64, 47, 63] l := fun e he => by
  have := by256 (P := fun z => !digitB z || !([58, 64, 47, 63] : List UInt8).contains z) (by decide +kernel) e
  rw [List.all_eq_true.1 h e he] at this
  simpa using this
/-- What parts that may be have none of. -/
structure Fit (s u h p a q : List UInt8) (hu hq : Bool) : Prop where
  ns : No [58] s
  nu : No [64, 47, 63] u
  nh : No [58, 64, 47, 63] h
  np : No [58, 64, 47, 63] p
  na : No [63] a
  sl : slashB a = true
  uu : (hu || u.isEmpty) = true
  qq : (hq || q.isEmpty) = true
theorem fit_of {s u h p a q : List UInt8} {hu hq : Bool} (H : mayP (mk s) (mk u) (mk h) (mk p) (mk a) (mk q) hu hq = true) : Fit s u h p a q hu hq := by
  have hm := may_parts H
  unfold mayP ok1 ok2 at H
  simp only [Bool.and_eq_true] at H
  obtain ⟨⟨⟨⟨⟨⟨⟨h1, h2⟩, h3⟩, h4⟩, h5⟩, h6⟩, ⟨⟨g1, g2⟩, g3⟩⟩, _⟩ := H
  rw [ByteArray.toList_eq] at g2 g3
  exact ⟨no_scheme s h1, no_of [58] [64, 47, 63] (by decide +kernel) u h2, no_of [] [58, 64, 47, 63] (by decide +kernel) h h3, no_port p h4, no_of [58, 64, 47] [63] (by decide +kernel) a h5, g1, g2, g3⟩
/-- The parts of the text of parts. -/
theorem parts_join {s u h p a q : List UInt8} {hu hq : Bool} (F : Fit s u h p a q hu hq) :
    ixS (mk (joinL s u h p a q hu hq)) = s.length ∧ scS (mk (joinL s u h p a q hu hq)) = mk s ∧ usU (r1S (mk (joinL s u h p a q hu hq))) = mk u ∧ huU (r1S (mk (joinL s u h p a q hu hq))) = hu ∧
    ch (r2U (r1S (mk (joinL s u h p a q hu hq)))) = (h, p, !decide (p = [])) ∧ cq (r2U (r1S (mk (joinL s u h p a q hu hq)))) = (a, q, hq) := by
  have eJ : joinL s u h p a q hu hq = s ++ 58 :: 47 :: 47 :: ((if hu then u ++ [64] else []) ++ (headL h p ++ tailL a q hq)) := by
    unfold joinL headL tailL; simp
  obtain ⟨e1, e2, e3⟩ := sc_join s ((if hu then u ++ [64] else []) ++ (headL h p ++ tailL a q hq)) (F.ns.mem (by decide))
  rw [← eJ] at e1 e2 e3
  have hB := tail_head a q hq F.sl
  have hH : No [64, 47, 63] (headL h p) := by
    unfold headL
    refine No.app (F.nh.sub (by simp)) ?_
    split
    · exact No.nil _
    · exact No.cons (by decide) (F.np.sub (by simp))
  have e4 : huU (r1S (mk (joinL s u h p a q hu hq))) = hu ∧ usU (r1S (mk (joinL s u h p a q hu hq))) = mk u ∧ r2U (r1S (mk (joinL s u h p a q hu hq))) = mk (headL h p ++ tailL a q hq) := by
    rw [e3]
    cases hu with
    | true =>
      have := us_join u (headL h p ++ tailL a q hq) F.nu
      simpa using this
    | false =>
      have hu0 : u = [] := by have := F.uu; simpa using this
      have := us_none (headL h p) (tailL a q hq) hH hB
      rw [hu0]
      simpa using this
  obtain ⟨e5, e6⟩ := au_join (headL h p) (tailL a q hq) (hH.sub (by simp)) hB
  refine ⟨e1, e2, e4.2.1, e4.1, ?_, ?_⟩
  · unfold ch; rw [e4.2.2, e5]; exact ch_join h p (F.nh.sub (by simp))
  · unfold cq; rw [e4.2.2, e6]; exact cq_join a q hq F.na F.qq
theorem ok_join {s u h p a q : List UInt8} {hu hq : Bool} (H : mayP (mk s) (mk u) (mk h) (mk p) (mk a) (mk q) hu hq = true) :
    okP (mk (joinL s u h p a q hu hq)) = true ∧ adP (mk (joinL s u h p a q hu hq)) = adV (mk s) (mk u) (mk h) (mk p) (mk a) (mk q) hu hq := by
  obtain ⟨e1, e2, e3, e4, e5, e6⟩ := parts_join (fit_of H)
  have hm : mayS (mk (joinL s u h p a q hu hq)) = true := by
    unfold mayS
    rw [e2, e3, e4, e5, e6]
    exact H
  have hz : (mk (joinL s u h p a q hu hq)).size ≤ 2048 := by
    unfold mayP at H
    simp only [Bool.and_eq_true, decide_eq_true_eq] at H
    rw [← joinT_list]; exact H.2
  have ho : okP (mk (joinL s u h p a q hu hq)) = true := by
    unfold okP
    rw [hm, e1]
    simp only [Bool.and_true, Bool.and_eq_true, decide_eq_true_eq]
    exact ⟨hz, by omega⟩
  refine ⟨ho, ?_⟩
  unfold adP
  rw [ho, e2, e3, e4, e5, e6]
  rfl
/-- Parts' text tells them. -/
theorem back_parts (s u h p a q : ByteArray) (hu hq : Bool) (H : mayP s u h p a q hu hq = true) : okP (joinT s u h p a q hu hq) = true ∧ adP (joinT s u h p a q hu hq) = adV s u h p a q hu hq := by
  rw [mk_eta s, mk_eta u, mk_eta h, mk_eta p, mk_eta a, mk_eta q] at H ⊢
  rw [joinT_list]
  exact ok_join H
theorem byte_split (c : UInt8) : ∀ l : List UInt8, 0 ≤ Lib.indexByte l c → l = l.take (Lib.indexByte l c).toNat ++ c :: l.drop ((Lib.indexByte l c).toNat + 1)
  | [], h => by unfold Lib.indexByte at h; omega
  | b :: l, h => by
    by_cases hb : (b == c) = true
    · have e : Lib.indexByte (b :: l) c = 0 := by unfold Lib.indexByte; rw [hb]; rfl
      rw [e]
      have : b = c := by simpa using hb
      simp [this]
    · have hb' : (b == c) = false := by simpa using hb
      have h1 := Lib.indexByte_ge l c
      have e : Lib.indexByte (b :: l) c = if Lib.indexByte l c == -1 then -1 else Lib.indexByte l c + 1 := by
        conv => lhs; unfold Lib.indexByte
        rw [hb']; rfl
      rcases (by omega : Lib.indexByte l c = -1 ∨ 0 ≤ Lib.indexByte l c) with q | q
      · rw [q] at e; rw [e] at h; simp at h
      · have q2 : (Lib.indexByte l c == -1) = false := by rw [beq_eq_false_iff_ne]; omega
        rw [q2] at e
        simp only [Bool.false_eq_true, if_false] at e
        have ih := byte_split c l q
        rw [e]
        have t : (Lib.indexByte l c + 1).toNat = (Lib.indexByte l c).toNat + 1 := by omega
        rw [t, List.take_succ_cons, List.drop_succ_cons, List.cons_append]
        rw [← ih]
theorem cut_spec (c : UInt8) (l : List UInt8) : ((Lib.cut l [c]).2.2 = true ∧ l = (Lib.cut l [c]).1 ++ c :: (Lib.cut l [c]).2.1) ∨ ((Lib.cut l [c]).2.2 = false ∧ l = (Lib.cut l [c]).1 ∧ (Lib.cut l [c]).2.1 = []) := by
  unfold Lib.cut
  rw [index1]
  split
  · rename_i h
    exact .inl ⟨rfl, by simpa using byte_split c l h⟩
  · exact .inr ⟨rfl, rfl, rfl⟩
theorem sc_split (s : ByteArray) (h : 0 ≤ ixS s) : s.data.toList = (scS s).data.toList ++ 58 :: 47 :: 47 :: (r1S s).data.toList := by
  obtain ⟨l, hl⟩ : ∃ l, l = s.data.toList := ⟨_, rfl⟩
  have hs : s = mk l := by rw [hl]; exact mk_eta s
  subst hs
  clear hl
  have hr := ixS_room _ h
  unfold ixS at h hr
  rw [mk_data] at h hr
  rcases Lib.index_spec l [58, 47, 47] with ⟨q, _⟩ | ⟨i, q, hi, ho, _⟩
  · rw [q] at h; omega
  · unfold scS r1S ixS
    rw [mk_data, q, Int.toNat_natCast, mk_ex, mk_ex, mk_size, mk_data, mk_data, List.take_length, List.drop_zero]
    unfold Lib.occAt at ho
    have hp := List.isPrefixOf_iff_prefix.1 ho
    obtain ⟨t, ht⟩ := hp
    have e3 : l.drop (i + 3) = t := by
      rw [← List.drop_drop, ← ht]; rfl
    rw [e3]
    have : l = l.take i ++ l.drop i := (List.take_append_drop i l).symm
    rw [← ht] at this
    simpa using this
theorem us_split (R : ByteArray) : R.data.toList = (if huU R then (usU R).data.toList ++ [64] else []) ++ (r2U R).data.toList := by
  obtain ⟨l, hl⟩ : ∃ l, l = R.data.toList := ⟨_, rfl⟩
  have hs : R = mk l := by rw [hl]; exact mk_eta R
  subst hs
  clear hl
  cases h : huU (mk l) with
  | false =>
    unfold r2U
    rw [h]
    simp
  | true =>
    have h0 : 0 ≤ atU (mk l) := by
      unfold huU at h
      simp only [Bool.and_eq_true, decide_eq_true_eq] at h
      exact h.1
    unfold usU r2U
    simp only [h, if_true]
    rw [mk_ex, mk_ex, mk_size, mk_data, mk_data, mk_data, List.take_length, List.drop_zero]
    have := byte_split 64 l h0
    simpa [atU, mk_data] using this
theorem au_split (R : ByteArray) : R.data.toList = (auA R).data.toList ++ (paA R).data.toList := by
  obtain ⟨l, hl⟩ : ∃ l, l = R.data.toList := ⟨_, rfl⟩
  have hs : R = mk l := by rw [hl]; exact mk_eta R
  subst hs
  clear hl
  unfold paA auA
  split
  · rw [mk_ex, mk_size, List.take_length, mk_data, mk_data, List.drop_length, List.append_nil]
  · rename_i h
    have hr := enU_room (mk l) (by omega)
    rw [mk_size] at hr
    rw [mk_ex, mk_ex, mk_size, mk_size, mk_data, mk_data, mk_data, List.drop_zero, List.take_length, List.length_take, Nat.min_eq_left hr, List.take_append_drop]
def prtS (s : ByteArray) : ByteArray := mk (ch (r2U (r1S s))).2.1
def txtS (s : ByteArray) : ByteArray := joinT (scS s) (usU (r1S s)) (mk (ch (r2U (r1S s))).1) (mk (ch (r2U (r1S s))).2.1) (mk (cq (r2U (r1S s))).1) (mk (cq (r2U (r1S s))).2.1) (huU (r1S s)) (cq (r2U (r1S s))).2.2
theorem glue (l sc us r1 r2 au pa ho po pt qu : List UInt8) (hu f1 hq : Bool) (e1 : l = sc ++ 58 :: 47 :: 47 :: r1) (e2 : r1 = (if hu then us ++ [64] else []) ++ r2) (e3 : r2 = au ++ pa)
    (c1 : f1 = true ∧ au = ho ++ 58 :: po ∨ f1 = false ∧ au = ho ∧ po = []) (c2 : hq = true ∧ pa = pt ++ 63 :: qu ∨ hq = false ∧ pa = pt ∧ qu = []) :
    joinL sc us ho po pt qu hu hq = l ∨ (po = [] ∧ (joinL sc us ho po pt qu hu hq).length + 1 = l.length) := by
  have eq : pa = pt ++ (if hq then 63 :: qu else []) := by
    rcases c2 with ⟨q, e⟩ | ⟨q, e, _⟩
    · rw [q, e]; rfl
    · rw [q, e]; simp
  rcases c1 with ⟨_, e⟩ | ⟨_, e, ep⟩
  · by_cases hp : po = []
    · right
      subst hp
      refine ⟨rfl, ?_⟩
      rw [e1, e2, e3, e, eq]
      unfold joinL
      simp only [List.length_append, List.length_cons, if_true, List.length_nil]
      omega
    · left
      rw [e1, e2, e3, e, eq]
      unfold joinL
      simp [hp]
  · left
    rw [e1, e2, e3, e, eq]
    unfold joinL
    simp [ep]
/-- What a text tells has that text, but for an empty port's colon. -/
theorem back_text (s : ByteArray) (h : 0 ≤ ixS s) : txtS s = s ∨ (prtS s = mk [] ∧ (txtS s).size + 1 = s.size) := by
  have c1 := cut_spec 58 (auA (r2U (r1S s))).data.toList
  have c2 := cut_spec 63 (paA (r2U (r1S s))).data.toList
  have e5 : Lib.cut (auA (r2U (r1S s))).data.toList [58] = ch (r2U (r1S s)) := rfl
  have e6 : Lib.cut (paA (r2U (r1S s))).data.toList [63] = cq (r2U (r1S s)) := rfl
  rw [e5] at c1
  rw [e6] at c2
  have et : txtS s = mk (joinL (scS s).data.toList (usU (r1S s)).data.toList (ch (r2U (r1S s))).1 (ch (r2U (r1S s))).2.1 (cq (r2U (r1S s))).1 (cq (r2U (r1S s))).2.1 (huU (r1S s)) (cq (r2U (r1S s))).2.2) := by
    unfold txtS
    rw [← joinT_list, ← mk_eta, ← mk_eta]
  rcases glue _ _ _ _ _ _ _ _ _ _ _ _ _ _ (sc_split s h) (us_split (r1S s)) (au_split (r2U (r1S s))) c1 c2 with g | ⟨g1, g2⟩
  · left
    rw [et]
    rw [g, ← mk_eta]
  · right
    refine ⟨by unfold prtS; rw [g1], ?_⟩
    rw [et, mk_size, ← data_len]
    exact g2
end Go.Proofs.YtjcaadihkbhlhaaDoor
