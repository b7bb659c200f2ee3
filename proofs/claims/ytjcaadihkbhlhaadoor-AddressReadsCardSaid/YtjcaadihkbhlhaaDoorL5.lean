import Derived.Test.YtjcaadihkbhlhaaDoorL3
import Derived.Test.YtjcaadihkbhlhaaDoorL4
import Derived.Test.YtjcaadihkbhlhaaDoorJ5
namespace Go.Proofs.YtjcaadihkbhlhaaDoor
open Go.RowKit
theorem ex_data (s : ByteArray) (a b : Nat) : (s.extract a b).data.toList = (s.data.toList.take b).drop a := by
  obtain ⟨l, hl⟩ : ∃ l, l = s.data.toList := ⟨_, rfl⟩
  have hs : s = mk l := by rw [hl]; exact mk_eta s
  rw [hs, mk_ex, mk_data, mk_data]
theorem scheme_no58 (x : ByteArray) (h : (58 : UInt8) ∈ x.data.toList) : schemeP x.data.toList = false := by
  cases q : schemeP x.data.toList with
  | false => rfl
  | true => exact absurd h ((no_scheme _ q).mem (by decide))
/-- The mark stands at the first colon. -/
theorem ix_at (s : ByteArray) (h3 : a0R s + 3 ≤ s.size) (hx : s.extract (a0R s) (a0R s + 3) = ⟨#[58, 47, 47]⟩) : ixS s = (a0R s : Nat) := by
  unfold ixS
  have e : (s.data.toList.take (a0R s + 3)).drop (a0R s) = [58, 47, 47] := by rw [← ex_data, hx]
  have hl : s.data.toList.length = s.size := data_len s
  refine Lib.index_first (by omega) ?_ ?_
  · unfold Lib.occAt
    rw [List.isPrefixOf_iff_prefix]
    refine ⟨s.data.toList.drop (a0R s + 3), ?_⟩
    rw [← e, List.drop_take, show a0R s + 3 - a0R s = 3 by omega]
    have := List.take_append_drop 3 (s.data.toList.drop (a0R s))
    rw [List.drop_drop] at this
    exact this
  · intro j hj
    unfold Lib.occAt
    have hjl : j < s.data.toList.length := by omega
    rw [List.drop_eq_getElem_cons hjl]
    have hb := fdN_before [58] s.data.toList j hj hjl
    have hne : ((58 : UInt8) == s.data.toList[j]) = false := by
      rw [beq_eq_false_iff_ne]
      intro q
      rw [← q] at hb
      exact absurd hb (by decide)
    simp only [List.isPrefixOf, hne, Bool.false_and]
/-- Elsewhere no parts that may be. -/
theorem ok_not (s : ByteArray) (h : 2048 < s.size ∨ s.size < a0R s + 3 ∨ s.extract (a0R s) (a0R s + 3) ≠ ⟨#[58, 47, 47]⟩) : okP s = false := by
  cases q : okP s with
  | false => rfl
  | true =>
    exfalso
    obtain ⟨hi, hm⟩ := ok_ix s q
    have hz : s.size ≤ 2048 := by
      unfold okP at q
      simp only [Bool.and_eq_true, decide_eq_true_eq] at q
      exact q.1.1
    have hsc : schemeP (scS s).data.toList = true := (may_parts hm).1
    have hroom := ixS_room s hi
    have hsp := sc_split s hi
    have hno := (no_scheme _ hsc).mem (c := 58) (by decide)
    have hfd : a0R s = (scS s).data.toList.length := by
      unfold a0R
      rw [hsp]
      have h1 := fdN_at [58] ((scS s).data.toList ++ 58 :: 47 :: 47 :: (r1S s).data.toList) (scS s).data.toList.length (by simp) (fun j hj => by
        rw [List.getElem_append_left hj]
        cases q : ([58] : List UInt8).contains (scS s).data.toList[j] with
        | false => rfl
        | true =>
          have : (scS s).data.toList[j] = 58 := by simpa using q
          exact absurd (this ▸ List.getElem_mem hj) hno)
      have h2 : ¬ (scS s).data.toList.length < fdN [58] ((scS s).data.toList ++ 58 :: 47 :: 47 :: (r1S s).data.toList) := fun hlt => by
        have := fdN_before [58] _ _ hlt (by simp)
        simp at this
      omega
    have hlen := congrArg List.length hsp
    rw [data_len] at hlen
    simp only [List.length_append, List.length_cons] at hlen
    rcases h with h | h | h
    · omega
    · omega
    · apply h
      apply ByteArray.ext
      apply Array.toList_inj.1
      rw [ex_data, hfd, hsp]
      have : (scS s).data.toList ++ 58 :: 47 :: 47 :: (r1S s).data.toList = ((scS s).data.toList ++ [58, 47, 47]) ++ (r1S s).data.toList := by simp
      rw [this, List.take_left' (by simp), List.drop_left]
end Go.Proofs.YtjcaadihkbhlhaaDoor
