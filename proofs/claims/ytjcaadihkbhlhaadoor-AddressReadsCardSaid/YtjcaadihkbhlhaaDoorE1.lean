import Derived.Test.YtjcaadihkbhlhaaDoorDN
import Derived.Test.YtjcaadihkbhlhaaDoorBB
namespace Go.Proofs.YtjcaadihkbhlhaaDoor
open Go.RowKit
def badB (u q : ByteArray) (hu hq : Bool) : Bool := (!hu && !u.toList.isEmpty) || (!hq && !q.toList.isEmpty)
def six (s u h p a q : ByteArray) : Bool := schemeP s.data.toList && ofP (mayB [58]) u.data.toList && ofP (mayB []) h.data.toList && p.data.toList.all digitB && pathP a.data.toList && ofP (mayB [58, 64, 47, 63]) q.data.toList
theorem may_code (s u h p a q : ByteArray) (hu hq : Bool) : mayP s u h p a q hu hq = (!badB u q hu hq && six s u h p a q && decide ((joinT s u h p a q hu hq).size ≤ 2048)) := by
  unfold mayP ok1 ok2 six badB
  rw [path_slash]
  generalize schemeP s.data.toList = g1
  generalize ofP (mayB [58]) u.data.toList = g2
  generalize ofP (mayB []) h.data.toList = g3
  generalize p.data.toList.all digitB = g4
  generalize ofP (mayB [58, 64, 47]) a.data.toList = g5
  generalize slashB a.data.toList = g7
  generalize ofP (mayB [58, 64, 47, 63]) q.data.toList = g6
  generalize u.toList.isEmpty = ue
  generalize q.toList.isEmpty = qe
  generalize decide ((joinT s u h p a q hu hq).size ≤ 2048) = d
  revert g1 g2 g3 g4 g5 g6 g7 ue qe d hu hq
  decide
theorem num1_set (b : UInt8) : (flat [⟨#[48, 49, 50, 51, 52, 53, 54, 55, 56, 57]⟩]).contains b = digitB b := num_set b
theorem AB.al {w W : World} {s u h p a q : ByteArray} {hu hq : Bool} (H : AB w s u h p a q hu hq W) (o : Obj) : AB w s u h p a q hu hq (W.alloc o) := H.up ((Below.refl _ W).alloc (Nat.le_refl _) o)
set_option maxRecDepth 20000 in
set_option maxHeartbeats 1000000 in
theorem six_contracts (s u h p a q : ByteArray) (hu hq : Bool) (hs : s.size ≤ 1000000) (hu1 : u.size ≤ 1000000) (hh : h.size ≤ 1000000) (hp : p.size ≤ 1000000) (ha : a.size ≤ 1000000) (hq1 : q.size ≤ 1000000) (w : World) : ∃ x0 x1 x2 x3 y0 y1 y2 y3 z0 z1 z2 z3 n0 n1 n2 n3 : Int,
    (∀ W, AB w s u h p a q hu hq W → Calls Tryd.prog 35 #[.string s] W fun e w' => e = .returned (.bool (schemeP s.data.toList)) ∧ AB w s u h p a q hu hq w') ∧
    (∀ W' v V, ((v = .slice none 0 0 ∧ AB w s u h p a q hu hq W' ∧ V = (.agg #[.int .u64 y0, .int .u64 y1, .int .u64 y2, .int .u64 y3])) ∨ ∃ W C, AB w s u h p a q hu hq W ∧ v = .slice (some ⟨W.heap.size, 0, none⟩) 1 1 ∧ (W' = W.alloc (.cells C 9) ∨ W' = (W.alloc (.cells C 9)).drew) ∧ ((C = #[.string ⟨#[58]⟩] ∧ V = (.agg #[.int .u64 x0, .int .u64 x1, .int .u64 x2, .int .u64 x3])) ∨ (C = #[.string ⟨#[58, 64, 47, 63]⟩] ∧ V = (.agg #[.int .u64 z0, .int .u64 z1, .int .u64 z2, .int .u64 z3])))) →
      Calls Tryd.prog 37 #[v] W' fun e w' => e = .returned V ∧ AB w s u h p a q hu hq w') ∧
    (∀ W t V g, AB w s u h p a q hu hq W → ((t = u ∧ V = (.agg #[.int .u64 x0, .int .u64 x1, .int .u64 x2, .int .u64 x3]) ∧ g = ofP (mayB [58]) u.data.toList) ∨ (t = h ∧ V = (.agg #[.int .u64 y0, .int .u64 y1, .int .u64 y2, .int .u64 y3]) ∧ g = ofP (mayB []) h.data.toList) ∨ (t = q ∧ V = (.agg #[.int .u64 z0, .int .u64 z1, .int .u64 z2, .int .u64 z3]) ∧ g = ofP (mayB [58, 64, 47, 63]) q.data.toList)) →
      Calls Tryd.prog 36 #[.string t, V] W fun e w' => e = .returned (.bool g) ∧ AB w s u h p a q hu hq w') ∧
    (∀ W' W, AB w s u h p a q hu hq W → (W' = W.alloc (.cells #[.string ⟨#[48, 49, 50, 51, 52, 53, 54, 55, 56, 57]⟩] 9) ∨ W' = (W.alloc (.cells #[.string ⟨#[48, 49, 50, 51, 52, 53, 54, 55, 56, 57]⟩] 9)).drew) →
      Calls Tryd.prog 39 #[.slice (some ⟨W.heap.size, 0, none⟩) 1 1] W' fun e w' => e = .returned (.agg #[.int .u64 n0, .int .u64 n1, .int .u64 n2, .int .u64 n3]) ∧ AB w s u h p a q hu hq w') ∧
    (∀ W, AB w s u h p a q hu hq W → Calls Tryd.prog 38 #[.string p, (.agg #[.int .u64 n0, .int .u64 n1, .int .u64 n2, .int .u64 n3])] W fun e w' => e = .returned (.bool (p.data.toList.all digitB)) ∧ AB w s u h p a q hu hq w') ∧
    (∀ W, AB w s u h p a q hu hq W → Calls Tryd.prog 40 #[.string a] W fun e w' => e = .returned (.bool (pathP a.data.toList)) ∧ AB w s u h p a q hu hq w') := by
  refine ⟨((wd (flat (base4 ++ (base1 ++ [⟨#[58]⟩]))) 0 : Nat) : Int), ((wd (flat (base4 ++ (base1 ++ [⟨#[58]⟩]))) 1 : Nat) : Int), ((wd (flat (base4 ++ (base1 ++ [⟨#[58]⟩]))) 2 : Nat) : Int), ((wd (flat (base4 ++ (base1 ++ [⟨#[58]⟩]))) 3 : Nat) : Int), ((wd (flat (base4 ++ base1)) 0 : Nat) : Int), ((wd (flat (base4 ++ base1)) 1 : Nat) : Int), ((wd (flat (base4 ++ base1)) 2 : Nat) : Int), ((wd (flat (base4 ++ base1)) 3 : Nat) : Int), ((wd (flat (base4 ++ (base1 ++ [⟨#[58, 64, 47, 63]⟩]))) 0 : Nat) : Int), ((wd (flat (base4 ++ (base1 ++ [⟨#[58, 64, 47, 63]⟩]))) 1 : Nat) : Int), ((wd (flat (base4 ++ (base1 ++ [⟨#[58, 64, 47, 63]⟩]))) 2 : Nat) : Int), ((wd (flat (base4 ++ (base1 ++ [⟨#[58, 64, 47, 63]⟩]))) 3 : Nat) : Int), ((wd (flat [⟨#[48, 49, 50, 51, 52, 53, 54, 55, 56, 57]⟩]) 0 : Nat) : Int), ((wd (flat [⟨#[48, 49, 50, 51, 52, 53, 54, 55, 56, 57]⟩]) 1 : Nat) : Int), ((wd (flat [⟨#[48, 49, 50, 51, 52, 53, 54, 55, 56, 57]⟩]) 2 : Nat) : Int), ((wd (flat [⟨#[48, 49, 50, 51, 52, 53, 54, 55, 56, 57]⟩]) 3 : Nat) : Int), ?_, ?_, ?_, ?_, ?_, ?_⟩
  · exact fun W H => (isScheme_any s hs W).mono fun e w' z => ⟨z.1, H.up z.2⟩
  · intro W' v V hv
    rcases hv with ⟨rfl, H, rfl⟩ | ⟨W, C, H, rfl, e, hV⟩
    · (have M := del_nil W'; unfold setV setC at M; exact M.mono fun e w' z => ⟨z.1, H.up z.2⟩)
    · have e : W' = W.alloc (.cells C 9) ∨ W' = W.drew.alloc (.cells C 9) := e
      have HD : AB w s u h p a q hu hq W.drew := H.up (Below.refl _ _).drew
      rcases hV with ⟨rfl, rfl⟩ | ⟨rfl, rfl⟩
      · rcases e with rfl | rfl
        · (have M := del_lit _ [⟨#[58]⟩] rfl (by decide) (by decide) (by decide) W; unfold setV setC at M; exact M.mono fun e w' z => ⟨z.1, H.up z.2⟩)
        · (have M := del_lit _ [⟨#[58]⟩] rfl (by decide) (by decide) (by decide) W.drew; unfold setV setC at M; exact M.mono fun e w' z => ⟨z.1, HD.up z.2⟩)
      · rcases e with rfl | rfl
        · (have M := del_lit _ [⟨#[58, 64, 47, 63]⟩] rfl (by decide) (by decide) (by decide) W; unfold setV setC at M; exact M.mono fun e w' z => ⟨z.1, H.up z.2⟩)
        · (have M := del_lit _ [⟨#[58, 64, 47, 63]⟩] rfl (by decide) (by decide) (by decide) W.drew; unfold setV setC at M; exact M.mono fun e w' z => ⟨z.1, HD.up z.2⟩)
  · intro W t V g H q
    rcases q with ⟨rfl, rfl, rfl⟩ | ⟨rfl, rfl, rfl⟩ | ⟨rfl, rfl, rfl⟩
    · (have M := isOf_any _ (flat (base4 ++ (base1 ++ [⟨#[58]⟩]))) (mayB [58]) (del_set ⟨#[58]⟩) (by assumption) W; unfold setV setC at M; exact M.mono fun e w' z => ⟨z.1, H.up z.2⟩)
    · (have M := isOf_any _ (flat (base4 ++ base1)) (mayB []) del_set0 (by assumption) W; unfold setV setC at M; exact M.mono fun e w' z => ⟨z.1, H.up z.2⟩)
    · (have M := isOf_any _ (flat (base4 ++ (base1 ++ [⟨#[58, 64, 47, 63]⟩]))) (mayB [58, 64, 47, 63]) (del_set ⟨#[58, 64, 47, 63]⟩) (by assumption) W; unfold setV setC at M; exact M.mono fun e w' z => ⟨z.1, H.up z.2⟩)
  · intro W' W H e
    have e : W' = W.alloc (.cells #[.string ⟨#[48, 49, 50, 51, 52, 53, 54, 55, 56, 57]⟩] 9) ∨ W' = W.drew.alloc (.cells #[.string ⟨#[48, 49, 50, 51, 52, 53, 54, 55, 56, 57]⟩] 9) := e
    have HD : AB w s u h p a q hu hq W.drew := H.up (Below.refl _ _).drew
    rcases e with rfl | rfl
    · (have M := marks_lit _ [⟨#[48, 49, 50, 51, 52, 53, 54, 55, 56, 57]⟩] rfl (by decide) (by decide) (by decide) W; unfold setV setC at M; exact M.mono fun e w' z => ⟨z.1, H.up z.2⟩)
    · (have M := marks_lit _ [⟨#[48, 49, 50, 51, 52, 53, 54, 55, 56, 57]⟩] rfl (by decide) (by decide) (by decide) W.drew; unfold setV setC at M; exact M.mono fun e w' z => ⟨z.1, HD.up z.2⟩)
  · exact fun W H => (isPlain_any p (flat [⟨#[48, 49, 50, 51, 52, 53, 54, 55, 56, 57]⟩]) digitB num1_set hp W).mono fun e w' z => ⟨z.1, H.up z.2⟩
  · exact fun W H => (isPath_any a ha W).mono fun e w' z => ⟨z.1, H.up z.2⟩
end Go.Proofs.YtjcaadihkbhlhaaDoor
