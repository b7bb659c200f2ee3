import Derived.Test.YtjcaadihkbhlhaaDoorG5
import Derived.Laws.ResultCell
namespace Go.Proofs.YtjcaadihkbhlhaaDoor
open Go.RowKit
def huU (R : ByteArray) : Bool := decide (0 ≤ atU R) && !(decide (0 ≤ enU R) && decide (enU R < atU R))
def usU (R : ByteArray) : ByteArray := if huU R then R.extract 0 (atU R).toNat else ⟨#[]⟩
def r2U (R : ByteArray) : ByteArray := if huU R then R.extract ((atU R).toNat + 1) R.size else R
theorem atU_room (R : ByteArray) (h : 0 ≤ atU R) : (atU R).toNat + 1 ≤ R.size := by
  unfold atU at h ⊢
  have e : ∀ l : List UInt8, Lib.indexByte l 64 = Lib.index l [64] := by
    intro l
    induction l with
    | nil => rfl
    | cons b l ih =>
      unfold Lib.indexByte Lib.index
      rw [ih]
      have : ([64] : List UInt8).isPrefixOf (b :: l) = (b == 64) := by simp [List.isPrefixOf]; exact Bool.beq_comm
      rw [this]
  rw [e] at h ⊢
  have := Lib.index_room R.data.toList [64] h
  simp at this
  have hz : R.data.size = R.size := rfl
  omega
theorem cutB_any (k : Nat) (R : ByteArray) (W : World) (hR : VB W k #[.string R] 9) (hs : R.size < 4294967281) :
    Calls Tryd.prog 16 #[.string ⟨#[64]⟩, .string ⟨#[47, 63]⟩, .pointer (some ⟨k, 0, none⟩)] W fun e w' => e = .returned (.tuple #[.string (usU R), .bool (huU R)]) ∧ VB w' k #[.string (r2U R)] 9 ∧ Below k W w' := by
  have hg : -1 ≤ enU R := Lib.indexAny_ge _ _
  unfold usU r2U huU
  by_cases h1 : 0 ≤ atU R
  · have hr := atU_room R h1
    have ha : atU R = ((atU R).toNat : Nat) := by omega
    by_cases h2 : 0 ≤ enU R
    · by_cases h3 : enU R < atU R
      · simp only [h1, h2, h3, decide_true, Bool.and_true, Bool.not_true, Bool.and_false, Bool.false_eq_true, if_false]
        exact cutB_no2 k R W hR hs h1 h2 h3
      · simp only [h1, h2, h3, decide_true, decide_false, Bool.and_true, Bool.and_false, Bool.not_false, if_true]
        exact cutB_yes2 k R W hR hs _ ha hr h2 h3
    · simp only [h1, h2, decide_true, decide_false, Bool.false_and, Bool.and_true, Bool.not_false, if_true]
      exact cutB_yes1 k R W hR hs _ ha hr (by omega)
  · simp only [h1, decide_false, Bool.false_and, Bool.false_eq_true, if_false]
    exact cutB_no1 k R W hR hs (by omega) hg
def scS (s : ByteArray) : ByteArray := s.extract 0 (ixS s).toNat
def r1S (s : ByteArray) : ByteArray := s.extract ((ixS s).toNat + 3) s.size
def auA (R : ByteArray) : ByteArray := if enU R < 0 then R else R.extract 0 (enU R).toNat
def paA (R : ByteArray) : ByteArray := R.extract (auA R).size R.size
def mk (l : List UInt8) : ByteArray := ⟨l.toArray⟩
def cq (R : ByteArray) := Lib.cut (paA R).data.toList [63]
def ch (R : ByteArray) := Lib.cut (auA R).data.toList [58]
def mayS (s : ByteArray) : Bool := mayP (scS s) (usU (r1S s)) (mk (ch (r2U (r1S s))).1) (mk (ch (r2U (r1S s))).2.1) (mk (cq (r2U (r1S s))).1) (mk (cq (r2U (r1S s))).2.1) (huU (r1S s)) (cq (r2U (r1S s))).2.2
def okP (s : ByteArray) : Bool := decide (s.size ≤ 2048) && decide (0 ≤ ixS s) && mayS s
def adZ : Value := adV ⟨#[]⟩ ⟨#[]⟩ ⟨#[]⟩ ⟨#[]⟩ ⟨#[]⟩ ⟨#[]⟩ false false
def adP (s : ByteArray) : Value := if okP s then adV (scS s) (usU (r1S s)) (mk (ch (r2U (r1S s))).1) (mk (ch (r2U (r1S s))).2.1) (mk (cq (r2U (r1S s))).1) (mk (cq (r2U (r1S s))).2.1) (huU (r1S s)) (cq (r2U (r1S s))).2.2 else adZ
theorem load_adr {w : World} {b : Nat} {s u h p a q : ByteArray} {hu hq : Bool} (H : VB w b #[.string s, .string u, .string h, .string p, .string a, .string q, .bool hu, .bool hq] 24) : (loadVar 24 ⟨b, 0, none⟩).run Tryd.prog w = .ok (adV s u h p a q hu hq) w := by
  have c0 : w.cell? ⟨b, 0, none⟩ = _ := H.cell 0
  have c1 : w.cell? ⟨b, 1, none⟩ = _ := H.cell 1
  have c2 : w.cell? ⟨b, 2, none⟩ = _ := H.cell 2
  have c3 : w.cell? ⟨b, 3, none⟩ = _ := H.cell 3
  have c4 : w.cell? ⟨b, 4, none⟩ = _ := H.cell 4
  have c5 : w.cell? ⟨b, 5, none⟩ = _ := H.cell 5
  have c6 : w.cell? ⟨b, 6, none⟩ = _ := H.cell 6
  have c7 : w.cell? ⟨b, 7, none⟩ = _ := H.cell 7
  unfold adV
  simp [loadVar, go_sem, c0, c1, c2, c3, c4, c5, c6, c7]
theorem retP {Q : Ending → World → Prop} {tmps : Array Value} {w : World} {N : Nat} {s u h p a q : ByteArray} {hu hq : Bool} {c : Int} (h2 : tmps.getD 2 undef = .pointer (some ⟨N, 0, none⟩)) (h3 : tmps.getD 3 undef = .int .i64 c)
    (H : VB w N #[.string s, .string u, .string h, .string p, .string a, .string q, .bool hu, .bool hq] 24)
    (hQ : Q (.returned (.tuple #[adV s u h p a q hu hq, .int .i64 c])) w) : bodyPost Tryd.prog Tryd.f10 Q .ret ⟨tmps, []⟩ w := by
  refine bodyPost_ret (v := .tuple #[adV s u h p a q hu hq, .int .i64 c]) ?_ rfl hQ
  rw [results_cell_tmp (p := 2) (u := 3) (ty := 24) Tryd.results10, h2, h3]
  simp [asAddr, Result.andThen, load_adr H]
set_option maxRecDepth 20000 in
set_option maxHeartbeats 1000000 in
theorem parse_long (s : ByteArray) (w : World) (hl : 2048 < s.size) :
    Calls Tryd.prog 10 #[.string s] w fun e w' => e = .returned (.tuple #[adZ, .int .i64 150]) ∧ Below w.heap.size w w' := by
  have h1 : (2048 : Int) < (s.size : Int) := by omega
  clear hl
  have X0 := Lib.hid (VB.new w #[.string ⟨#[]⟩, .string ⟨#[]⟩, .string ⟨#[]⟩, .string ⟨#[]⟩, .string ⟨#[]⟩, .string ⟨#[]⟩, .bool false, .bool false] 24)
  unfold adZ
  go_enter Tryd.func10, Tryd.ntmps10
  go_wp2_with fail
  go_outline
  exact retP rfl rfl X0.out ⟨rfl, (Below.refl _ _).alloc (Nat.le_refl _) _⟩
end Go.Proofs.YtjcaadihkbhlhaaDoor
