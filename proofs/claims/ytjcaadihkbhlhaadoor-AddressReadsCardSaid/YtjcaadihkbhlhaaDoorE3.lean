import Derived.Test.YtjcaadihkbhlhaaDoorE21
import Derived.Test.YtjcaadihkbhlhaaDoorE22
import Derived.Test.YtjcaadihkbhlhaaDoorE23
import Derived.Test.YtjcaadihkbhlhaaDoorE24
import Derived.Test.YtjcaadihkbhlhaaDoorE25
import Derived.Test.YtjcaadihkbhlhaaDoorE26
import Derived.Test.YtjcaadihkbhlhaaDoorE27
namespace Go.Proofs.YtjcaadihkbhlhaaDoor
open Go.RowKit
set_option maxRecDepth 20000 in
theorem check_bad (s u h p a q : ByteArray) (hu hq : Bool) (w : World) (kb : badB u q hu hq = true) :
    Calls Tryd.prog 20 #[adV s u h p a q hu hq] w fun e w' => e = .returned (.int .i64 (numE false)) ∧ Below w.heap.size w w' := by
  have HB : Hid (badB u q hu hq = ((!hu && !u.toList.isEmpty) || (!hq && !q.toList.isEmpty))) := Lib.hid rfl
  rw [kb] at HB
  clear kb
  obtain ⟨ue, hue⟩ : ∃ x, x = u.toList.isEmpty := ⟨_, rfl⟩
  obtain ⟨qe, hqe⟩ : ∃ x, x = q.toList.isEmpty := ⟨_, rfl⟩
  rw [← hue, ← hqe] at HB
  replace hue := hue.symm
  replace hqe := hqe.symm
  unfold adV
  have P0 := Lib.hid (AB.new w s u h p a q hu hq)
  go_enter Tryd.func20, Tryd.ntmps20
  go_upto_region 1 with fail
  obtain ⟨w0, hw0⟩ : ∃ w0, w0 = w.alloc (.cells #[.string s, .string u, .string h, .string p, .string a, .string q, .bool hu, .bool hq] 24) := ⟨_, rfl⟩
  rw [← hw0] at P0 ⊢
  clear hw0
  have hP0 := P0.out
  unfold AB at hP0
  obtain ⟨c0, c1, c2, c3, c4, c5, c6, c7, hsz, hbl⟩ := hP0
  go_cut [21] (fun v wx => v = .bool true ∧ w0 = wx)
  case first =>
    as_aux_lemma =>
      cases hu <;> cases ue <;> cases hq <;> cases qe
      all_goals
        go_wp2_with fail
        go_meet
        first | (exfalso; exact absurd HB.out (by decide)) | exact ⟨rfl, rfl⟩
  case rest =>
    obtain ⟨rfl, rfl⟩ := hcut
    go_wp2_with fail
    go_ret
    exact ⟨rint rfl, P0.out.2.2.2.2.2.2.2.2.2⟩
theorem check_any (s u h p a q : ByteArray) (hu hq : Bool) (hs : s.size ≤ 1000000) (hu1 : u.size ≤ 1000000) (hh : h.size ≤ 1000000) (hp : p.size ≤ 1000000) (ha : a.size ≤ 1000000) (hq1 : q.size ≤ 1000000) (w : World) :
    Calls Tryd.prog 20 #[adV s u h p a q hu hq] w fun e w' => e = .returned (.int .i64 (numE (mayP s u h p a q hu hq))) ∧ Below w.heap.size w w' := by
  rw [may_code]
  by_cases kb : badB u q hu hq = true
  · rw [kb]; exact check_bad s u h p a q hu hq w kb
  · replace kb : badB u q hu hq = false := by simpa using kb
    rw [kb]
    unfold six
    rcases Bool.eq_false_or_eq_true (schemeP s.data.toList) with k1 | k1
    · rcases Bool.eq_false_or_eq_true (ofP (mayB [58]) u.data.toList) with k2 | k2
      · rcases Bool.eq_false_or_eq_true (ofP (mayB []) h.data.toList) with k3 | k3
        · rcases Bool.eq_false_or_eq_true (p.data.toList.all digitB) with k4 | k4
          · rcases Bool.eq_false_or_eq_true (pathP a.data.toList) with k5 | k5
            · rcases Bool.eq_false_or_eq_true (ofP (mayB [58, 64, 47, 63]) q.data.toList) with k6 | k6
              · rw [k1, k2, k3, k4, k5, k6]; exact check_way7 s u h p a q hu hq hs hu1 hh hp ha hq1 w kb k1 k2 k3 k4 k5 k6
              · rw [k1, k2, k3, k4, k5, k6]
                exact (check_way6 s u h p a q hu hq hs hu1 hh hp ha hq1 w kb k1 k2 k3 k4 k5 k6)
            · rw [k1, k2, k3, k4, k5]
              exact (check_way5 s u h p a q hu hq hs hu1 hh hp ha hq1 w kb k1 k2 k3 k4 k5)
          · rw [k1, k2, k3, k4]
            exact (check_way4 s u h p a q hu hq hs hu1 hh hp ha hq1 w kb k1 k2 k3 k4)
        · rw [k1, k2, k3]
          exact (check_way3 s u h p a q hu hq hs hu1 hh hp ha hq1 w kb k1 k2 k3)
      · rw [k1, k2]
        exact (check_way2 s u h p a q hu hq hs hu1 hh hp ha hq1 w kb k1 k2)
    · rw [k1]
      exact (check_way1 s u h p a q hu hq hs hu1 hh hp ha hq1 w kb k1)
end Go.Proofs.YtjcaadihkbhlhaaDoor
