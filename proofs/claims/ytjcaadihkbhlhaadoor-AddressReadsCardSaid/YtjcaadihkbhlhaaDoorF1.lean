import Derived.Test.YtjcaadihkbhlhaaDoorE3
namespace Go.Proofs.YtjcaadihkbhlhaaDoor
open Go.RowKit
set_option maxRecDepth 20000 in
set_option maxHeartbeats 2000000 in
theorem text_any (s u h p a q : ByteArray) (hu hq : Bool) (hs : s.size ≤ 1000000) (hu1 : u.size ≤ 1000000) (hh : h.size ≤ 1000000) (hp : p.size ≤ 1000000) (ha : a.size ≤ 1000000) (hq1 : q.size ≤ 1000000) (w : World) :
    Calls Tryd.prog 14 #[adV s u h p a q hu hq] w fun e w' => e = .returned (.tuple #[.string (textE (mayP s u h p a q hu hq) (joinT s u h p a q hu hq)), .int .i64 (numE (mayP s u h p a q hu hq))]) ∧ Below w.heap.size w w' := by
  have CM := Lib.hid (fun W => check_any s u h p a q hu hq hs hu1 hh hp ha hq1 W)
  have CT := Lib.hid (fun W => join_any s u h p a q hu hq hs hu1 hh hp ha hq1 W)
  have P0 := Lib.hid (AB.new w s u h p a q hu hq)
  obtain ⟨o, ho⟩ : ∃ j, j = mayP s u h p a q hu hq := ⟨_, rfl⟩
  obtain ⟨J, hJ⟩ : ∃ j, j = joinT s u h p a q hu hq := ⟨_, rfl⟩
  rw [← ho] at CM ⊢
  rw [← hJ] at CT ⊢
  clear ho hJ hs hu1 hh hp ha hq1
  unfold adV at CM CT ⊢
  cases o with
  | true =>
    have en : numE true = 0 := rfl
    have et : textE true J = J := rfl
    rw [en] at CM ⊢
    rw [et]
    clear en et
    go_enter Tryd.func14, Tryd.ntmps14
    go_wp2_with fail
    refine (CM.out _).mono ?_
    rintro e w1 ⟨rfl, b1⟩
    have P1 := Lib.hid (P0.out.up b1)
    clear b1
    have hP1 := P1.out
    unfold AB at hP1
    obtain ⟨c0, c1, c2, c3, c4, c5, c6, c7, hsz, hbl⟩ := hP1
    go_wp2_with fail
    refine (CT.out _).mono ?_
    rintro e w2 ⟨rfl, b2⟩
    have P2 := Lib.hid (P1.out.up b2)
    clear b2 c0 c1 c2 c3 c4 c5 c6 c7 hsz hbl
    go_wp2_with fail
    go_ret2
    exact ⟨rfl, P2.out.2.2.2.2.2.2.2.2.2⟩
  
  | false =>
    have en : numE false = 150 := rfl
    have et : textE false J = ⟨#[]⟩ := rfl
    rw [en] at CM ⊢
    rw [et]
    clear en et
    go_enter Tryd.func14, Tryd.ntmps14
    go_wp2_with fail
    refine (CM.out _).mono ?_
    rintro e w1 ⟨rfl, b1⟩
    have P1 := Lib.hid (P0.out.up b1)
    clear b1
    go_wp2_with fail
    go_ret2
    exact ⟨rfl, P1.out.2.2.2.2.2.2.2.2.2⟩
end Go.Proofs.YtjcaadihkbhlhaaDoor
