import Derived.Test.YtjcaadihkbhlhaaDoorA7
import Derived.Laws.AppendOwn
import Derived.Laws.OwnMore
import Derived.OwnWalk
import Derived.ArgAppend
namespace Go.Proofs.YtjcaadihkbhlhaaDoor
open Go.RowKit
theorem info_text : ∃ i, Tryd.prog.info? 9 = some i ∧ i.zero = some (.string ⟨#[]⟩) ∧ i.size = 1 ∧ i.bytes = 16 := info_parts (by kernel_rfl)
theorem own_texts {w : World} {B : Nat} {v : Value} {xs : List ByteArray} (h : w.ownsRow B 9 1 v xs.length (xs.map Value.string)) (h0 : 0 < xs.length) :
    ∃ b cap, v = .slice (some ⟨b, 0, none⟩) xs.length cap ∧ xs.length ≤ cap ∧ B ≤ b ∧ b < w.heap.size ∧ ∀ j x, xs[j]? = some x → w.cell? ⟨b, 0 + j, none⟩ = some (.string x) := by
  rcases h.2 with ⟨rfl, hn⟩ | ⟨g, cap, cur, rfl, hg, hgg, h1, h2, h3, h4⟩
  · omega
  · refine ⟨g, cap, rfl, h1, hg, (Array.getElem?_eq_some_iff.1 hgg).1, fun k x hk => ?_⟩
    have hkl : k < xs.length := (List.getElem?_eq_some_iff.1 hk).1
    rw [Nat.zero_add]
    simp only [World.cell?, hgg]
    have e : cur.toList[k]? = (cur.toList.take (xs.length * 1))[k]? := by rw [List.getElem?_take_of_lt (by omega)]
    have e2 : cur[k]? = cur.toList[k]? := by simp
    have e3 : cur[k]? = some (.string x) := by
      rw [e2, e, h4, List.getElem?_map, hk]; rfl
    simpa using e3
theorem text_one {xs : List ByteArray} : ∀ u ∈ xs.map Value.string, u.oneCell' = true := by
  intro u hu
  obtain ⟨x, _, rfl⟩ := List.mem_map.1 hu
  rfl
theorem text_news {w : World} {b o : Nat} {xs : List ByteArray} (h : ∀ j x, xs[j]? = some x → w.cell? ⟨b, o + j, none⟩ = some (.string x)) : ∀ j u, (xs.map Value.string)[j]? = some u → w.cell? ((⟨b, o, none⟩ : Addr).add j) = some u := by
  intro j u hj
  rw [List.getElem?_map] at hj
  cases hx : xs[j]? with
  | none => rw [hx] at hj; cases hj
  | some x =>
    rw [hx] at hj
    obtain rfl := Option.some.inj hj
    rw [Addr.add_lit]; exact h j x hx
def base4 : List ByteArray := [⟨#[97, 98, 99, 100, 101, 102, 103, 104, 105, 106, 107, 108, 109, 110, 111, 112, 113, 114, 115, 116, 117, 118, 119, 120, 121, 122]⟩, ⟨#[65, 66, 67, 68, 69, 70, 71, 72, 73, 74, 75, 76, 77, 78, 79, 80, 81, 82, 83, 84, 85, 86, 87, 88, 89, 90]⟩, ⟨#[48, 49, 50, 51, 52, 53, 54, 55, 56, 57]⟩, ⟨#[45, 46, 95, 126]⟩]
theorem flat_app (xs ys : List ByteArray) : flat (xs ++ ys) = flat xs ++ flat ys := by unfold flat; simp
theorem flat_base4 : flat base4 = smallL ++ greatL ++ numL ++ [45, 46, 95, 126] := by rfl
theorem base_cells (w : World) : ∀ j x, base4[j]? = some x → (w.alloc (.cells #[.string ⟨#[97, 98, 99, 100, 101, 102, 103, 104, 105, 106, 107, 108, 109, 110, 111, 112, 113, 114, 115, 116, 117, 118, 119, 120, 121, 122]⟩, .string ⟨#[65, 66, 67, 68, 69, 70, 71, 72, 73, 74, 75, 76, 77, 78, 79, 80, 81, 82, 83, 84, 85, 86, 87, 88, 89, 90]⟩, .string ⟨#[48, 49, 50, 51, 52, 53, 54, 55, 56, 57]⟩, .string ⟨#[45, 46, 95, 126]⟩] 9)).cell? ⟨w.heap.size, 0 + j, none⟩ = some (.string x) := by
  intro j x hj
  rw [World.cell?_alloc_mark, Nat.zero_add]
  match j, hj with
  | 0, h => obtain rfl := Option.some.inj h; rfl
  | 1, h => obtain rfl := Option.some.inj h; rfl
  | 2, h => obtain rfl := Option.some.inj h; rfl
  | 3, h => obtain rfl := Option.some.inj h; rfl
set_option maxRecDepth 20000 in
set_option maxHeartbeats 1000000 in
theorem unr_view (xs : List ByteArray) (b o cap : Nat) (w : World) (h0 : 0 < xs.length) (hcap : xs.length ≤ cap) (hb : b < w.heap.size) (hx : ∀ j x, xs[j]? = some x → w.cell? ⟨b, o + j, none⟩ = some (.string x)) (hl : xs.length ≤ 100) (hs : ∀ x ∈ xs, x.size ≤ 1000000) :
    Calls Tryd.prog 46 #[.slice (some ⟨b, o, none⟩) xs.length cap] w fun e w' => e = .returned (setV (flat (base4 ++ xs))) ∧ Below w.heap.size w w' := by
  obtain ⟨L, hL⟩ : ∃ L, L = flat (base4 ++ xs) := ⟨_, rfl⟩
  rw [← hL]
  have HLL := Lib.hid hL
  clear hL
  obtain ⟨i0, hi, hz0, hz1, hz2⟩ := info_text
  have HI := Lib.hid hi
  have HZ0 := Lib.hid hz0
  have HZ1 := Lib.hid hz1
  have HZ2 := Lib.hid hz2
  have HX := Lib.hid (fun W (hW : Below w.heap.size w W) j x (h : xs[j]? = some x) => (hW.cell (p := ⟨b, o + j, none⟩) hb).trans (hx j x h))
  have HS := Lib.hid hs
  clear hx hs hi hz0 hz1 hz2
  have zz : (w.alloc (.cells #[.int .u64 0, .int .u64 0, .int .u64 0, .int .u64 0] 60)).heap.size = w.heap.size + 1 := by simp
  have hbc := base_cells (w.alloc (.cells #[.int .u64 0, .int .u64 0, .int .u64 0, .int .u64 0] 60))
  rw [zz] at hbc
  have HB := Lib.hid hbc
  have hsb := SBox.new w []
  rw [set_nil] at hsb
  have B1 : Hid (Below w.heap.size w (w.alloc (.cells #[.int .u64 0, .int .u64 0, .int .u64 0, .int .u64 0] 60))) := Lib.hid ((Below.refl _ w).alloc (Nat.le_refl _) _)
  have B2 : Hid (Below w.heap.size w ((w.alloc (.cells #[.int .u64 0, .int .u64 0, .int .u64 0, .int .u64 0] 60)).alloc (.cells #[.string ⟨#[97, 98, 99, 100, 101, 102, 103, 104, 105, 106, 107, 108, 109, 110, 111, 112, 113, 114, 115, 116, 117, 118, 119, 120, 121, 122]⟩, .string ⟨#[65, 66, 67, 68, 69, 70, 71, 72, 73, 74, 75, 76, 77, 78, 79, 80, 81, 82, 83, 84, 85, 86, 87, 88, 89, 90]⟩, .string ⟨#[48, 49, 50, 51, 52, 53, 54, 55, 56, 57]⟩, .string ⟨#[45, 46, 95, 126]⟩] 9))) := Lib.hid (B1.out.alloc (by simp) _)
  have SB : Hid (SBox ((w.alloc (.cells #[.int .u64 0, .int .u64 0, .int .u64 0, .int .u64 0] 60)).alloc (.cells #[.string ⟨#[97, 98, 99, 100, 101, 102, 103, 104, 105, 106, 107, 108, 109, 110, 111, 112, 113, 114, 115, 116, 117, 118, 119, 120, 121, 122]⟩, .string ⟨#[65, 66, 67, 68, 69, 70, 71, 72, 73, 74, 75, 76, 77, 78, 79, 80, 81, 82, 83, 84, 85, 86, 87, 88, 89, 90]⟩, .string ⟨#[48, 49, 50, 51, 52, 53, 54, 55, 56, 57]⟩, .string ⟨#[45, 46, 95, 126]⟩] 9)) w.heap.size []) := Lib.hid (hsb.up ((Below.refl _ _).alloc (Nat.le_refl _) _))
  clear zz hbc hsb
  go_enter Tryd.func46, Tryd.ntmps46
  go_wp2_with (first | (at_builtin; refine wpList_append_grows _ rfl _ _ 80 rfl 9 i0 _ 1 16 Tryd.underlying80 HI.out HZ0.out HZ1.out HZ2.out rfl (by decide) _ 4 4 (base4.map Value.string) rfl (by intro h; cases h) (by rfl) (fun bb hbb => by obtain rfl := Option.some.inj hbb; exact text_news HB.out) ⟨b, o, none⟩ xs.length cap (xs.map Value.string) rfl (by simp) (text_news (fun j x h => HX.out _ B2.out j x h)) text_one (by omega) (by unfold maxLen; omega) (by omega) ?_))
  rw [← List.map_append]
  intro v' w3 hown hgrow
  have hsize : (4 + xs.length) = (base4 ++ xs).length := by simp [base4]; omega
  rw [hsize] at hown
  obtain ⟨b', cap', rfl, hcap', hb1, hb2, hcells⟩ := own_texts hown (by simp [base4])
  have B3 : Hid (Below w.heap.size w w3) := Lib.hid (B2.out.grown hgrow (by simp; omega) (by intro k hk; cases hk))
  have SB3 : Hid (SBox w3 w.heap.size []) := Lib.hid (SB.out.up ((Below.refl _ _).grown hgrow (Nat.le_refl _) (by intro k hk; cases hk)))
  have M := Lib.hid (marks_view (base4 ++ xs) b' 0 cap' w3 (by simp [base4]) hcap' hb2 hcells (by simp [base4]; omega) (by
    intro x hx
    rcases List.mem_append.1 hx with h | h
    · have : ∀ y ∈ base4, y.size ≤ 1000000 := by decide
      exact this x h
    · exact HS.out x h))
  clear hgrow hown hcells hb1 hb2 hcap' hsize
  rw [List.length_append] at M
  rw [← HLL.out] at M
  unfold setV setC at M
  go_wp2_with fail
  refine M.out.mono ?_
  rintro e w4 ⟨rfl, b4⟩
  have B4 := Lib.hid (B3.out.trans (b4.mono B3.out.size))
  have SB4 := Lib.hid (SB3.out.up b4)
  have c0 := SB4.out.1 0 (by decide)
  have c1 := SB4.out.1 1 (by decide)
  have c2 := SB4.out.1 2 (by decide)
  have c3 := SB4.out.1 3 (by decide)
  clear b4
  obtain ⟨c0, f0⟩ := c0
  obtain ⟨c1, f1⟩ := c1
  obtain ⟨c2, f2⟩ := c2
  obtain ⟨c3, f3⟩ := c3
  go_wp2_with fail
  have hfin := set_cells SB4.out L
  exact ret_set (N := w.heap.size) (L := L) Tryd.results46 (by rfl) hfin ⟨rfl, below_cells w.heap.size (Nat.le_refl _) (setL L) 0 _ B4.out⟩
end Go.Proofs.YtjcaadihkbhlhaaDoor
