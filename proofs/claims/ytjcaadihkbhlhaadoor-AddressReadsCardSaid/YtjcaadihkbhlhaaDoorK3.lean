import Derived.Test.YtjcaadihkbhlhaaDoorK1
import Derived.Test.YtjcaadihkbhlhaaDoorK2
import Derived.Test.YtjcaadihkbhlhaaDoorJ5
namespace Go.Proofs.YtjcaadihkbhlhaaDoor
open Go.RowKit
theorem parts_T {s u h p a q : ByteArray} {hu hq : Bool} (H : mayP s u h p a q hu hq = true) : scS (joinT s u h p a q hu hq) = s ∧ usU (r1S (joinT s u h p a q hu hq)) = u ∧ huU (r1S (joinT s u h p a q hu hq)) = hu ∧ mk (ch (r2U (r1S (joinT s u h p a q hu hq)))).1 = h ∧ mk (ch (r2U (r1S (joinT s u h p a q hu hq)))).2.1 = p ∧ mk (cq (r2U (r1S (joinT s u h p a q hu hq)))).1 = a ∧ mk (cq (r2U (r1S (joinT s u h p a q hu hq)))).2.1 = q ∧ (cq (r2U (r1S (joinT s u h p a q hu hq)))).2.2 = hq := by
  have e : joinT s u h p a q hu hq = mk (joinL s.data.toList u.data.toList h.data.toList p.data.toList a.data.toList q.data.toList hu hq) := by
    rw [← joinT_list, ← mk_eta, ← mk_eta, ← mk_eta, ← mk_eta, ← mk_eta, ← mk_eta]
  have F := fit_of (s := s.data.toList) (u := u.data.toList) (h := h.data.toList) (p := p.data.toList) (a := a.data.toList) (q := q.data.toList) (hu := hu) (hq := hq) (by rw [← mk_eta, ← mk_eta, ← mk_eta, ← mk_eta, ← mk_eta, ← mk_eta]; exact H)
  obtain ⟨_, e2, e3, e4, e5, e6⟩ := parts_join F
  rw [← e] at e2 e3 e4 e5 e6
  rw [e2, e3, e4, e5, e6]
  exact ⟨(mk_eta s).symm, (mk_eta u).symm, rfl, (mk_eta h).symm, (mk_eta p).symm, (mk_eta a).symm, (mk_eta q).symm, rfl⟩
theorem can_join {s u h p a q : ByteArray} {hu hq : Bool} (H : mayP s u h p a q hu hq = true) : canS (joinT s u h p a q hu hq) = joinT (lowS s) (stS id u) (stS Lib.lowerB h) p (stS id a) (stS id q) hu hq := by
  obtain ⟨e1, e2, e3, e4, e5, e6, e7, e8⟩ := parts_T H
  unfold canS
  rw [e1, e2, e3, e4, e5, e6, e7, e8]
def turnS (x : ByteArray) : ByteArray := ⟨(x.data.toList.map tnB).toArray⟩
theorem turn_size (x : ByteArray) : (turnS x).size = x.size := by
  show (mk (x.data.toList.map tnB)).size = x.size
  rw [mk_size, List.length_map, data_len]
theorem turn_low (x : ByteArray) : lowS (turnS x) = lowS x := by
  unfold lowS Lib.toLowerA turnS
  show mk (((x.data.toList.map tnB)).map Lib.lowerB) = _
  rw [List.map_map]
  congr 1
  apply List.map_congr_left
  intro b _
  have := by256 (P := fun z => Lib.lowerB (tnB z) == Lib.lowerB z) (by decide +kernel) b
  simpa using this
theorem turn_scheme (x : ByteArray) (h : schemeP x.data.toList = true) : schemeP (turnS x).data.toList = true := by
  have h1 : ∀ b, letterB b = true → letterB (tnB b) = true := fun b hb => by
    have := by256 (P := fun z => !letterB z || letterB (tnB z)) (by decide +kernel) b
    rw [hb] at this; simpa using this
  have h2 : ∀ b, schemeB b = true → schemeB (tnB b) = true := fun b hb => by
    have := by256 (P := fun z => !schemeB z || schemeB (tnB z)) (by decide +kernel) b
    rw [hb] at this; simpa using this
  show schemeP (x.data.toList.map tnB) = true
  match hl : x.data.toList, h with
  | b :: r, h =>
    unfold schemeP at h
    simp only [Bool.and_eq_true, List.all_eq_true] at h
    show (letterB (tnB b) && (r.map tnB).all schemeB) = true
    rw [h1 b h.1, Bool.true_and, List.all_eq_true]
    intro e he
    obtain ⟨z, hz, rfl⟩ := List.mem_map.1 he
    exact h2 z (h.2 z hz)
theorem turn_may {s u h p a q : ByteArray} {hu hq : Bool} (H : mayP s u h p a q hu hq = true) : mayP (turnS s) u h p a q hu hq = true := by
  unfold mayP ok1 at H ⊢
  rw [join_len] at H ⊢
  rw [turn_size]
  simp only [Bool.and_eq_true] at H ⊢
  exact ⟨⟨⟨⟨⟨⟨⟨turn_scheme s H.1.1.1.1.1.1.1, H.1.1.1.1.1.1.2⟩, H.1.1.1.1.1.2⟩, H.1.1.1.1.2⟩, H.1.1.1.2⟩, H.1.1.2⟩, H.1.2⟩, H.2⟩
theorem scheme_pos (x : ByteArray) (h : schemeP x.data.toList = true) : 1 ≤ x.size := by
  rw [← data_len]
  match hl : x.data.toList, h with
  | b :: r, _ => simp
/-- What AddressOne leans on. -/
structure One (s : ByteArray) (x1 x2 x3 x4 x5 x6 : ByteArray) (y1 y2 : Bool) (c z1 z2 z3 z5 z6 J : ByteArray) : Prop where
  ad : adP s = adV x1 x2 x3 x4 x5 x6 y1 y2
  can : canS s = c
  okc : okP c = true
  adc : adP c = adV z1 z2 z3 x4 z5 z6 y1 y2
  canc : canS c = c
  size : c.size ≤ s.size
  pos : 1 ≤ x1.size
  x1z : x1.size ≤ 2048
  may : mayP (turnS x1) x2 x3 x4 x5 x6 y1 y2 = true
  sz : x2.size ≤ 2048 ∧ x3.size ≤ 2048 ∧ x4.size ≤ 2048 ∧ x5.size ≤ 2048 ∧ x6.size ≤ 2048
  jj : joinT (turnS x1) x2 x3 x4 x5 x6 y1 y2 = J
  okJ : okP J = true
  canJ : canS J = c
theorem one_core (s x1 x2 x3 x4 x5 x6 : ByteArray) (y1 y2 : Bool) (had : adP s = adV x1 x2 x3 x4 x5 x6 y1 y2) (hcan : canS s = joinT (lowS x1) (stS id x2) (stS Lib.lowerB x3) x4 (stS id x5) (stS id x6) y1 y2) (htx : (joinT x1 x2 x3 x4 x5 x6 y1 y2).size ≤ s.size) (H : mayP x1 x2 x3 x4 x5 x6 y1 y2 = true)
    (q1 : x1.size ≤ 2048) (q2 : x2.size ≤ 2048) (q3 : x3.size ≤ 2048) (q4 : x4.size ≤ 2048) (q5 : x5.size ≤ 2048) (q6 : x6.size ≤ 2048) : ∃ c z1 z2 z3 z5 z6 J, One s x1 x2 x3 x4 x5 x6 y1 y2 c z1 z2 z3 z5 z6 J := by
  obtain ⟨hm, hz⟩ := can_may H
  obtain ⟨g1, g2, g3, g5, g6⟩ := can_again H
  have bc := back_parts _ _ _ _ _ _ _ _ hm
  have tm := turn_may H
  have bJ := back_parts _ _ _ _ _ _ _ _ tm
  have cc := can_join hm
  rw [g1, g2, g3, g5, g6] at cc
  have cJ := can_join tm
  rw [turn_low] at cJ
  refine ⟨joinT (lowS x1) (stS id x2) (stS Lib.lowerB x3) x4 (stS id x5) (stS id x6) y1 y2, lowS x1, stS id x2, stS Lib.lowerB x3, stS id x5, stS id x6, joinT (turnS x1) x2 x3 x4 x5 x6 y1 y2, ?_⟩
  exact ⟨had, hcan, bc.1, bc.2, cc, Nat.le_trans hz htx, scheme_pos x1 (may_parts H).1, by omega, tm, ⟨by omega, by omega, by omega, by omega, by omega⟩, rfl, bJ.1, cJ⟩
theorem one_facts (s : ByteArray) (ho : okP s = true) : ∃ x1 x2 x3 x4 x5 x6 y1 y2 c z1 z2 z3 z5 z6 J, One s x1 x2 x3 x4 x5 x6 y1 y2 c z1 z2 z3 z5 z6 J := by
  obtain ⟨hi, H⟩ := ok_ix s ho
  obtain ⟨q1, q2, q3, q4, q5, q6⟩ := ok_sizes s ho
  have htx : (txtS s).size ≤ s.size := by
    rcases back_text s hi with e | ⟨_, e⟩
    · rw [e]; exact Nat.le_refl _
    · omega
  have had : adP s = adV (scS s) (usU (r1S s)) (mk (ch (r2U (r1S s))).1) (mk (ch (r2U (r1S s))).2.1) (mk (cq (r2U (r1S s))).1) (mk (cq (r2U (r1S s))).2.1) (huU (r1S s)) (cq (r2U (r1S s))).2.2 := by unfold adP; rw [ho]; rfl
  unfold txtS at htx
  unfold mayS at H
  obtain ⟨c, z1, z2, z3, z5, z6, J, h⟩ := one_core s _ _ _ _ _ _ _ _ had (by unfold canS; rfl) htx H q1 q2 q3 q4 q5 q6
  exact ⟨_, _, _, _, _, _, _, _, c, z1, z2, z3, z5, z6, J, h⟩
theorem canon_ok (t c : ByteArray) (ho : okP t = true) (hc : canS t = c) (w : World) (hm : ML w) : Calls Tryd.prog 12 #[.string t] w fun e w' => e = .returned (.tuple #[.string c, .int .i64 0]) ∧ Below w.heap.size w w' := by
  obtain ⟨m, hm⟩ := hm
  have K := canon_yes t m w hm ho
  rw [hc] at K
  exact K
theorem canon_not (t : ByteArray) (ho : okP t = false) (w : World) (hm : ML w) : Calls Tryd.prog 12 #[.string t] w fun e w' => e = .returned (.tuple #[.string ⟨#[]⟩, .int .i64 150]) ∧ Below w.heap.size w w' := by
  obtain ⟨m, hm⟩ := hm
  exact canon_no t m w hm ho
end Go.Proofs.YtjcaadihkbhlhaaDoor
