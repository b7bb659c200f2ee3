import Derived.Test.YtmkkckhfdafjnaaGreatDoorQ7
import Derived.RegionDies
/- Layer 18: the reader of literals in memory. -/
namespace Go.Proofs.YtmkkckhfdafjnaaGreatDoor.Li
open Go.RowKit Go.Maps
/-- The tokens lie below the reader. -/
def TkP (w : World) (p : Nat) (s : LTok) : Prop := (∀ i, i < s.n → ∃ b off, s.a = some ⟨b, off, none⟩ ∧ b < p ∧ w.cell? ⟨b, off + i * 3, none⟩ = some (.int .u8 (s.g i).k) ∧ w.cell? ⟨b, off + i * 3 + 1, none⟩ = some (.string (s.g i).s) ∧ w.cell? ⟨b, off + i * 3 + 2, none⟩ = some (.int .i64 (s.g i).a)) ∧ s.n ≤ 100000 ∧ ∀ i, i < s.n → (s.g i).s.size ≤ 1000000
theorem TkP.kept {w w' : World} {p : Nat} {s : LTok} (h : TkP w p s) (k : ∀ j, j < p → w'.heap[j]? = w.heap[j]?) : TkP w' p s := by
  refine ⟨fun i hi => ?_, h.2⟩
  obtain ⟨b, off, e, h0, h1, h2, h3⟩ := h.1 i hi
  have c : ∀ o, w'.cell? ⟨b, o, none⟩ = w.cell? ⟨b, o, none⟩ := fun o => World.cell?_of_block (k b h0)
  exact ⟨b, off, e, h0, by rw [c]; exact h1, by rw [c]; exact h2, by rw [c]; exact h3⟩
theorem TkP.at_ {w : World} {p : Nat} {s : LTok} (h : TkP w p s) {i : Nat} (hi : i < s.n) : ∃ b off, s.a = some ⟨b, off, none⟩ ∧ b < p ∧ w.cell? ⟨b, off + i * 3, none⟩ = some (.int .u8 (s.g i).k) ∧ w.cell? ⟨b, off + i * 3 + 1, none⟩ = some (.string (s.g i).s) ∧ w.cell? ⟨b, off + i * 3 + 2, none⟩ = some (.int .i64 (s.g i).a) := h.1 i hi
/-- A reader: its box, and its row. -/
structure RdB (w : World) (p : Nat) (s : LTok) (i op : Nat) (v : Value) (L : List CR) : Prop where
  box : w.heap[p]? = some (.cells #[.slice s.a s.n s.c, .int .i64 i, .bool s.fx, .int .i64 op, v] 119)
  tok : TkP w p s
  row : w.ownsRow (p + 1) 46 5 v L.length (rw5 L)
theorem RdB.lt {w : World} {p : Nat} {s : LTok} {i op : Nat} {v : Value} {L : List CR} (h : RdB w p s i op v L) : p < w.heap.size := (Array.getElem?_eq_some_iff.1 h.box).1
theorem RdB.c0 {w : World} {p : Nat} {s : LTok} {i op : Nat} {v : Value} {L : List CR} (h : RdB w p s i op v L) : w.cell? ⟨p, 0, none⟩ = some (.slice s.a s.n s.c) := by simp [World.cell?, h.box]
theorem RdB.c1 {w : World} {p : Nat} {s : LTok} {i op : Nat} {v : Value} {L : List CR} (h : RdB w p s i op v L) : w.cell? ⟨p, 1, none⟩ = some (.int .i64 i) := by simp [World.cell?, h.box]
theorem RdB.c3 {w : World} {p : Nat} {s : LTok} {i op : Nat} {v : Value} {L : List CR} (h : RdB w p s i op v L) : w.cell? ⟨p, 3, none⟩ = some (.int .i64 op) := by simp [World.cell?, h.box]
theorem RdB.c4 {w : World} {p : Nat} {s : LTok} {i op : Nat} {v : Value} {L : List CR} (h : RdB w p s i op v L) : w.cell? ⟨p, 4, none⟩ = some v := by simp [World.cell?, h.box]
theorem RdB.c2 {w : World} {p : Nat} {s : LTok} {i op : Nat} {v : Value} {L : List CR} (h : RdB w p s i op v L) : w.cell? ⟨p, 2, none⟩ = some (.bool s.fx) := by simp [World.cell?, h.box]
theorem RdB.z {w : World} {p : Nat} {s : LTok} {i op : Nat} {v : Value} {L : List CR} (h : RdB w p s i op v L) (o : Nat) : w.frozen? ⟨p, o, none⟩ = false := by simp [World.frozen?, h.box]
theorem RdB.far {w : World} {p : Nat} {s : LTok} {i op : Nat} {v : Value} {L : List CR} (h : RdB w p s i op v L) : ∀ k, v.ownBlock = some k → p + 1 ≤ k := fun k hk => (h.row.lt k hk).1
/-- The reader goes to a place. -/
theorem RdB.at_ {w : World} {p : Nat} {s : LTok} {i op : Nat} {v : Value} {L : List CR} (h : RdB w p s i op v L) (j : Nat) (x : Int) (hx : x = (j : Nat)) : RdB (w.setCell ⟨p, 1, none⟩ (.int .i64 x)) p s j op v L ∧ Fr p v v w (w.setCell ⟨p, 1, none⟩ (.int .i64 x)) := by
  subst hx
  have hk : ∀ k, k ≠ p → (w.setCell ⟨p, 1, none⟩ (.int .i64 j)).heap[k]? = w.heap[k]? := fun k hk => Below.heap_setCell w ⟨p, 1, none⟩ _ k hk
  refine ⟨⟨?_, h.tok.kept (fun k hlt => hk k (by omega)), own_move h.row (fun j hj => hk j (by have := h.far j hj; omega))⟩, ⟨rfl, rfl, rfl, by simp, fun k _ h1 _ => hk k h1, fun _ e => .inl e⟩⟩
  simp [World.setCell, Array.getElem?_modify, h.box]
theorem RdB.open_ {w : World} {p : Nat} {s : LTok} {i op : Nat} {v : Value} {L : List CR} (h : RdB w p s i op v L) (j : Nat) (x : Int) (hx : x = (j : Nat)) : RdB (w.setCell ⟨p, 3, none⟩ (.int .i64 x)) p s i j v L ∧ Fr p v v w (w.setCell ⟨p, 3, none⟩ (.int .i64 x)) := by
  subst hx
  have hk : ∀ k, k ≠ p → (w.setCell ⟨p, 3, none⟩ (.int .i64 j)).heap[k]? = w.heap[k]? := fun k hk => Below.heap_setCell w ⟨p, 3, none⟩ _ k hk
  refine ⟨⟨?_, h.tok.kept (fun k hlt => hk k (by omega)), own_move h.row (fun j hj => hk j (by have := h.far j hj; omega))⟩, ⟨rfl, rfl, rfl, by simp, fun k _ h1 _ => hk k h1, fun _ e => .inl e⟩⟩
  simp [World.setCell, Array.getElem?_modify, h.box]
/-- What lies above, and is made, leaves a reader as it was. -/
theorem RdB.below {w w' : World} {p : Nat} {s : LTok} {i op : Nat} {v : Value} {L : List CR} (h : RdB w p s i op v L) (b : Below w.heap.size w w') : RdB w' p s i op v L ∧ Fr p v v w w' := by
  have hk : ∀ k, k < w.heap.size → w'.heap[k]? = w.heap[k]? := fun k hk => b.block k hk
  exact ⟨⟨by rw [hk p h.lt]; exact h.box, h.tok.kept (fun k hlt => hk k (by have := h.lt; omega)), own_move h.row (fun j hj => hk j (h.row.lt j hj).2)⟩, ⟨b.os, b.tape, b.output, b.size, fun k h1 _ _ => hk k h1, fun _ e => .inl e⟩⟩
theorem RdB.dr {w w' : World} {p : Nat} {s : LTok} {i op : Nat} {v : Value} {L : List CR} (h : RdB w p s i op v L) (d : Dr w w') : RdB w' p s i op v L ∧ Fr p v v w w' := h.below (d.below _)
/-- An error that is thrown, at a token. -/
def thr (a : Nat) (e : Int) : Ending := .panicked [{ v := .iface 115 (.agg #[.int .i64 e, .int .i64 a]), recovered := false }]
/-- Cells are told, and a place, or an error thrown. -/
def OutP (p : Nat) (s : LTok) (op : Nat) (v : Value) (w : World) (x : LR Out) (e : Ending) (w' : World) : Prop := match x with
  | .ok (j, M) => e = .returned (.tuple #[]) ∧ ∃ v', RdB w' p s j op v' M ∧ Fr p v v' w w'
  | .bad a m => e = thr a m ∧ Below p w w'
end Go.Proofs.YtmkkckhfdafjnaaGreatDoor.Li
/- Layer 18: the reader's row of cells. -/
namespace Go.Proofs.YtmkkckhfdafjnaaGreatDoor.Li
open Go.RowKit Go.Maps
/-- The reader's row: where it lies. -/
theorem RdB.addr {w : World} {p : Nat} {s : LTok} {i op : Nat} {v : Value} {L : List CR} (h : RdB w p s i op v L) (h0 : 0 < L.length) : ∃ q cap, v = .slice (some ⟨q, 0, none⟩) L.length cap ∧ p < q ∧ q < w.heap.size := by
  obtain ⟨q, cap, e, h1, h2⟩ := own_addr h.row h0
  exact ⟨q, cap, e, by omega, h2⟩
theorem RdB.cellz {w : World} {p q cap : Nat} {s : LTok} {i op : Nat} {L : List CR} (h : RdB w p s i op (.slice (some ⟨q, 0, none⟩) L.length cap) L) (o : Nat) : w.frozen? ⟨q, o, none⟩ = false := by
  rcases h.row.2 with ⟨h', _⟩ | ⟨g', cap', cur, h', hb, hg, h1, h2, h3, h4⟩
  · simp at h'
  · simp only [Value.slice.injEq, Option.some.injEq, Addr.mk.injEq, and_true, true_and] at h'
    obtain ⟨rfl, rfl⟩ := h'
    simp [World.frozen?, hg]
theorem RdB.cells {w : World} {p q cap : Nat} {s : LTok} {i op : Nat} {L : List CR} (h : RdB w p s i op (.slice (some ⟨q, 0, none⟩) L.length cap) L) {k : Nat} (hk : k < L.length) : w.cell? ⟨q, k * 5, none⟩ = some (.int .u8 (gl L k).k) ∧ w.cell? ⟨q, k * 5 + 1, none⟩ = some (.string (gl L k).nm) ∧ w.cell? ⟨q, k * 5 + 2, none⟩ = some (.string (gl L k).tx) ∧ w.cell? ⟨q, k * 5 + 3, none⟩ = some (.int .i64 (gl L k).n) ∧ w.cell? ⟨q, k * 5 + 4, none⟩ = some (.int .i64 (gl L k).m) := by
  obtain ⟨a0, a1, a2, a3, a4⟩ := rw5_at L k hk
  refine ⟨?_, ?_, ?_, ?_, ?_⟩
  · rw [h.row.cellAt _ (by omega)]; exact a0
  · rw [h.row.cellAt _ (by omega)]; exact a1
  · rw [h.row.cellAt _ (by omega)]; exact a2
  · rw [h.row.cellAt _ (by omega)]; exact a3
  · rw [h.row.cellAt _ (by omega)]; exact a4
/-- A field of a cell is set. -/
theorem RdB.setF {w : World} {p q cap : Nat} {s : LTok} {i op : Nat} {L : List CR} (h : RdB w p s i op (.slice (some ⟨q, 0, none⟩) L.length cap) L) (hpq : p < q) {k : Nat} (hk : k < L.length) (f : Nat) (hf : f < 5) (x : Value) (c' : CR) (hx : (cellL (gl L k)).set f x = cellL c') :
    RdB (w.setCell ⟨q, k * 5 + f, none⟩ x) p s i op (.slice (some ⟨q, 0, none⟩) (L.set k c').length cap) (L.set k c') ∧ Fr p (.slice (some ⟨q, 0, none⟩) L.length cap) (.slice (some ⟨q, 0, none⟩) (L.set k c').length cap) w (w.setCell ⟨q, k * 5 + f, none⟩ x) := by
  have hkk : ∀ j, j ≠ q → (w.setCell ⟨q, k * 5 + f, none⟩ x).heap[j]? = w.heap[j]? := fun j hj => Below.heap_setCell w ⟨q, k * 5 + f, none⟩ _ j hj
  refine ⟨⟨by rw [hkk p (by omega), List.length_set]; exact h.box, h.tok.kept (fun j hj => hkk j (by omega)), ?_⟩, ⟨rfl, rfl, rfl, by simp, fun j _ _ h3 => hkk j (fun e => h3 (by simp [Value.ownBlock, e])), fun j e => .inl (by simpa [Value.ownBlock] using e)⟩⟩
  rw [List.length_set]
  refine ⟨by rw [rw5_len, List.length_set], ?_⟩
  rcases h.row.2 with ⟨h', _⟩ | ⟨g', cap', cur, h', hb, hg, h1, h2, h3, h4⟩
  · simp at h'
  · simp only [Value.slice.injEq, Option.some.injEq, Addr.mk.injEq, and_true, true_and] at h'
    obtain ⟨rfl, rfl⟩ := h'
    refine .inr ⟨q, cap, cur.setIfInBounds (k * 5 + f) x, rfl, hb, ?_, h1, h2, by simpa using h3, ?_⟩
    · simp [World.setCell, Array.getElem?_modify, hg]
    · rw [Array.toList_setIfInBounds, List.take_set, h4]
      exact rw5_setF f x L k c' hk hf hx
theorem RdB.slice {w : World} {p i op : Nat} {s : LTok} {v : Value} {L : List CR} (h : RdB w p s i op v L) : ∃ ad cap, v = .slice ad L.length cap := by
  rcases h.row.2 with ⟨rfl, h0⟩ | ⟨g, cap, cur, rfl, _⟩
  · exact ⟨none, 0, by rw [h0]⟩
  · exact ⟨_, _, rfl⟩
theorem RdB.push {w w' : World} {p i op : Nat} {s : LTok} {v v' : Value} {L : List CR} (h : RdB w p s i op v L) (c : CR) (o : w'.ownsRow (p + 1) 46 5 v' (L.length + 1) (rw5 L ++ cellL c)) (os : w'.os = w.os) (tape : w'.tape = w.tape) (out : w'.output = w.output) (sz : w.heap.size ≤ w'.heap.size) (kp : ∀ k, k < w.heap.size → v.ownBlock ≠ some k → w'.heap[k]? = w.heap[k]?) (ha : v'.ownBlock = v.ownBlock ∨ ∃ k, v'.ownBlock = some k ∧ w.heap.size ≤ k) :
    w'.cell? ⟨p, 4, none⟩ = some v ∧ w'.frozen? ⟨p, 4, none⟩ = false ∧ RdB (w'.setCell ⟨p, 4, none⟩ v') p s i op v' (L ++ [c]) ∧ Fr p v v' w (w'.setCell ⟨p, 4, none⟩ v') := by
  have hb : w'.heap[p]? = some (.cells #[.slice s.a s.n s.c, .int .i64 i, .bool s.fx, .int .i64 op, v] 119) := by
    rw [kp p h.lt (fun e => by have := h.far p e; omega)]
    exact h.box
  have hk : ∀ k, k ≠ p → (w'.setCell ⟨p, 4, none⟩ v').heap[k]? = w'.heap[k]? := fun k hk => Below.heap_setCell w' ⟨p, 4, none⟩ _ k hk
  refine ⟨by simp [World.cell?, hb], by simp [World.frozen?, hb], ⟨by simp [World.setCell, Array.getElem?_modify, hb], h.tok.kept (fun j hj => (hk j (by omega)).trans (kp j (by have := h.lt; omega) (fun e => by have := h.far j e; omega))), ?_⟩, ⟨os, tape, out, by simpa using sz, fun k h1 h2 h3 => by rw [hk k h2]; exact kp k h1 h3, fun k e => ?_⟩⟩
  · have o2 := own_move (w' := w'.setCell ⟨p, 4, none⟩ v') o (fun j hj => hk j (by have := (o.lt j hj).1; omega))
    rw [List.length_append, rw5_app]
    exact o2
  · rcases ha with ha | ⟨g, h1, h2⟩
    · exact .inl (ha ▸ e)
    · rw [h1] at e
      cases e
      exact .inr h2
theorem RdB.veq {w : World} {p i i' op op' : Nat} {s : LTok} {v v' : Value} {L L' : List CR} (h : RdB w p s i op v L) (k : RdB w p s i' op' v' L') : v = v' := by
  have e := h.box.symm.trans k.box
  simp only [Option.some.injEq, Obj.cells.injEq, Array.mk.injEq, List.cons.injEq, and_true] at e
  exact e.2.2.2.2
theorem RdB.same {w w' : World} {p i op : Nat} {s : LTok} {v : Value} {L : List CR} (h : RdB w p s i op v L) (hp : w'.heap[p]? = w.heap[p]?) (ht : ∀ j, j < p → w'.heap[j]? = w.heap[j]?) (hv : ∀ j, v.ownBlock = some j → w'.heap[j]? = w.heap[j]?) : RdB w' p s i op v L := ⟨hp.trans h.box, h.tok.kept ht, own_move h.row hv⟩
end Go.Proofs.YtmkkckhfdafjnaaGreatDoor.Li
/- Layer 18: peek, isMark, skip, take, isName, name. -/
namespace Go.Proofs.YtmkkckhfdafjnaaGreatDoor.Li
open Go.RowKit Go.Maps
theorem tkA_small {w : World} {p : Nat} {s : LTok} (h : TkP w p s) (i : Nat) : (tkA s i).s.size ≤ 1000000 := by
  by_cases k : i < s.n
  · rw [tkA_in k]; exact h.2.2 i k
  · rw [tkA_out (by omega)]; decide
set_option maxRecDepth 20000 in
theorem peek_any {p i op : Nat} {s : LTok} {v : Value} {L : List CR} (w : World) (h : RdB w p s i op v L) (hi : i ≤ 2000000) : Calls Tryz.prog 75 #[.pointer (some ⟨p, 0, none⟩)] w fun e w' => e = .returned (.agg #[.int .u8 (tkA s i).k, .string (tkA s i).s, .int .i64 (tkA s i).a]) ∧ Below w.heap.size w w' := by
  have hb0 := below_box w (.cells #[.int .u8 0, .string ⟨#[]⟩, .int .i64 0] 59)
  have hlt0 := h.lt
  have c0 := (h.below hb0).1.c0
  have c1 := (h.below hb0).1.c1
  have hT := (h.below hb0).1.tok
  have HB0 := Lib.hid hb0
  clear h hb0
  obtain ⟨a, n, c, g, fx⟩ := s
  dsimp only at c0 hT
  have hn : (n : Int) ≤ 100000 := by have := hT.2.1; dsimp only at this; omega
  by_cases hlt : i < n
  · obtain ⟨b, off, rfl, hb, d0, d1, d2⟩ := hT.at_ hlt
    dsimp only at d0 d1 d2 c0
    rw [tkA_in (s := ⟨some ⟨b, off, none⟩, n, c, g, fx⟩) hlt]
    dsimp only
    have hii : (i : Int) < n := by omega
    have hi0 : (0 : Int) ≤ i := by omega
    clear hT
    go_enter Tryz.func75, Tryz.ntmps75
    go_wp2_with fail
    go_quiet (fail)
    go_wp2_with fail
    go_region
    all_goals
      go_wp2_with fail
      exact ret_mk Tryz.results75 rfl (set3_heap (heap_alloc_new _ _)) rfl ⟨rfl, (below_drewN HB0.out _).trans (set3_below (Nat.le_refl _))⟩
  · rw [tkA_out (s := ⟨a, n, c, g, fx⟩) (by dsimp only; omega)]
    have hii : ¬ (i : Int) < n := by omega
    clear hT
    go_enter Tryz.func75, Tryz.ntmps75
    go_wp2_with fail
    go_quiet (fail)
    go_wp2_with fail
    exact ret_mk Tryz.results75 rfl (set3_heap (heap_alloc_new _ _)) rfl ⟨rfl, (below_drewN HB0.out _).trans (set3_below (Nat.le_refl _))⟩
theorem tl_no {a b : ByteArray} (h : ¬ a = b) : (a.toList == b.toList) = false := by
  cases e : (a.toList == b.toList) with
  | false => rfl
  | true => exact absurd (by rw [Lib.toList_data, Lib.toList_data] at e; have := eq_of_beq e; cases a; cases b; simp at this; rw [this]) h
set_option maxRecDepth 20000 in
theorem isMark_any {p i op : Nat} {s : LTok} {v : Value} {L : List CR} (x : ByteArray) (w : World) (h : RdB w p s i op v L) (hi : i ≤ 2000000) : Calls Tryz.prog 55 #[.pointer (some ⟨p, 0, none⟩), .string x] w fun e w' => e = .returned (.bool (isMk (tkA s i) x)) ∧ Below w.heap.size w w' := by
  have HP := Lib.hid (peek_any w h hi)
  clear h
  obtain ⟨t, ht⟩ : ∃ t, t = tkA s i := ⟨_, rfl⟩
  rw [← ht] at HP ⊢
  clear ht
  obtain ⟨k, b, a⟩ := t
  unfold isMk
  dsimp only at HP ⊢
  by_cases hk : k = 4
  · subst hk
    by_cases hb : b = x
    · subst hb
      go_enter Tryz.func55, Tryz.ntmps55
      go_wp2_with fail
      refine HP.out.mono ?_
      rintro e w1 ⟨rfl, d⟩
      have D := Lib.hid d
      clear d
      go_wp2_with fail
      go_ret
      exact ⟨by simp, D.out.alloc D.out.size _⟩
    · have q := tl_no hb
      go_enter Tryz.func55, Tryz.ntmps55
      go_wp2_with fail
      refine HP.out.mono ?_
      rintro e w1 ⟨rfl, d⟩
      have D := Lib.hid d
      clear d
      go_wp2_with fail
      go_ret
      exact ⟨by simp [hb], D.out.alloc D.out.size _⟩
  · have q : (k == 4) = false := beq_eq_false_iff_ne.2 hk
    go_enter Tryz.func55, Tryz.ntmps55
    go_wp2_with fail
    refine HP.out.mono ?_
    rintro e w1 ⟨rfl, d⟩
    have D := Lib.hid d
    clear d
    go_wp2_with fail
    go_ret
    exact ⟨by simp [hk], D.out.alloc D.out.size _⟩
set_option maxRecDepth 20000 in
theorem skip_yes {p i op : Nat} {s : LTok} {v : Value} {L : List CR} {x : ByteArray} (w : World) (h : RdB w p s i op v L) (hi : i ≤ 1999999) (hm : isMk (tkA s i) x = true) : Calls Tryz.prog 60 #[.pointer (some ⟨p, 0, none⟩), .string x] w fun e w' => e = .returned (.bool true) ∧ RdB w' p s (i + 1) op v L ∧ Fr p v v w w' := by
  have HM := Lib.hid (isMark_any x w h (by omega))
  rw [hm] at HM
  have H := Lib.hid h
  clear h hm
  have hi2 : (i : Int) ≤ 1999999 := by omega
  go_enter Tryz.func60, Tryz.ntmps60
  go_wp2_with fail
  refine HM.out.mono ?_
  rintro e w1 ⟨rfl, d⟩
  have R1 := Lib.hid (H.out.below d)
  have c1 := R1.out.1.c1
  have z1 := R1.out.1.z 1
  have RN := Lib.hid (R1.out.1.at_ (i + 1) ((i : Int) + 1) (by omega))
  clear d
  go_wp2_with fail
  go_ret
  exact ⟨rfl, RN.out.1, R1.out.2.trans RN.out.2⟩
set_option maxRecDepth 20000 in
theorem skip_no {p i op : Nat} {s : LTok} {v : Value} {L : List CR} {x : ByteArray} (w : World) (h : RdB w p s i op v L) (hi : i ≤ 1999999) (hm : isMk (tkA s i) x = false) : Calls Tryz.prog 60 #[.pointer (some ⟨p, 0, none⟩), .string x] w fun e w' => e = .returned (.bool false) ∧ Below w.heap.size w w' := by
  have HM := Lib.hid (isMark_any x w h (by omega))
  rw [hm] at HM
  clear h hm
  go_enter Tryz.func60, Tryz.ntmps60
  go_wp2_with fail
  refine HM.out.mono ?_
  rintro e w1 ⟨rfl, d⟩
  have D := Lib.hid d
  clear d
  go_wp2_with fail
  go_ret
  exact ⟨rfl, D.out⟩
set_option maxRecDepth 20000 in
theorem fail_any {p i op : Nat} {s : LTok} {v : Value} {L : List CR} (m : Int) (w : World) (h : RdB w p s i op v L) : Calls Tryz.prog 53 #[.pointer (some ⟨p, 0, none⟩), .int .i64 m] w fun e w' => e = thr i m ∧ Below w.heap.size w w' := by
  have c1 := h.c1
  clear h
  go_enter Tryz.func53, Tryz.ntmps53
  go_wp2_with fail
  (try go_quiet (fail))
  (try go_wp2_with fail)
  simp only [bodyPost]
  exact ⟨trivial, rfl, Below.refl _ _⟩
set_option maxRecDepth 20000 in
theorem take_ok {p i op : Nat} {s : LTok} {v : Value} {L : List CR} {x : ByteArray} (w : World) (h : RdB w p s i op v L) (hi : i ≤ 1999999) (hm : isMk (tkA s i) x = true) : Calls Tryz.prog 56 #[.pointer (some ⟨p, 0, none⟩), .string x] w fun e w' => e = .returned (.tuple #[]) ∧ RdB w' p s (i + 1) op v L ∧ Fr p v v w w' := by
  have HM := Lib.hid (skip_yes w h hi hm)
  clear h hm
  go_enter Tryz.func56, Tryz.ntmps56
  go_wp2_with fail
  refine HM.out.mono ?_
  rintro e w1 ⟨rfl, r1, f1⟩
  have R1 := Lib.hid (And.intro r1 f1)
  clear r1 f1
  go_wp2_with fail
  go_end0
  exact ⟨rfl, R1.out⟩
set_option maxRecDepth 20000 in
theorem take_bad {p i op : Nat} {s : LTok} {v : Value} {L : List CR} {x : ByteArray} (w : World) (h : RdB w p s i op v L) (hi : i ≤ 1999999) (hm : isMk (tkA s i) x = false) : Calls Tryz.prog 56 #[.pointer (some ⟨p, 0, none⟩), .string x] w fun e w' => e = thr i 180 ∧ Below w.heap.size w w' := by
  have HM := Lib.hid (skip_no w h hi hm)
  have HF := Lib.hid (fun W (d : Below w.heap.size w W) => fail_any 180 W (h.below d).1)
  clear h hm
  go_enter Tryz.func56, Tryz.ntmps56
  go_wp2_with fail
  refine HM.out.mono ?_
  rintro e w1 ⟨rfl, d⟩
  have D := Lib.hid d
  clear d
  go_wp2_with fail
  refine (HF.out _ D.out).mono ?_
  rintro e w2 ⟨he, d⟩
  unfold thr at he
  subst he
  (try go_wp2_with fail)
  simp only [bodyPost]
  exact ⟨trivial, rfl, D.out.trans (d.mono D.out.size)⟩
set_option maxRecDepth 20000 in
theorem isName_any {p i op : Nat} {s : LTok} {v : Value} {L : List CR} (w : World) (h : RdB w p s i op v L) (hi : i ≤ 2000000) : Calls Tryz.prog 78 #[.pointer (some ⟨p, 0, none⟩)] w fun e w' => e = .returned (.bool (isNm (tkA s i))) ∧ Below w.heap.size w w' := by
  have HP := Lib.hid (peek_any w h hi)
  have hz := tkA_small h.tok i
  clear h
  obtain ⟨t, ht⟩ : ∃ t, t = tkA s i := ⟨_, rfl⟩
  rw [← ht] at HP hz ⊢
  clear ht
  obtain ⟨k, b, a⟩ := t
  unfold isNm
  dsimp only at HP hz ⊢
  have HN := Lib.hid (fun W => lname_any b W hz)
  by_cases hk : k = 1
  · subst hk
    go_enter Tryz.func78, Tryz.ntmps78
    go_wp2_with fail
    refine HP.out.mono ?_
    rintro e w1 ⟨rfl, d⟩
    have D := Lib.hid d
    clear d
    go_wp2_with (go_at_call 43; refine (HN.out _).mono ?_; rintro e w2 ⟨rfl, rfl⟩)
    go_ret
    exact ⟨by simp, D.out.alloc D.out.size _⟩
  · have q : (k == 1) = false := beq_eq_false_iff_ne.2 hk
    go_enter Tryz.func78, Tryz.ntmps78
    go_wp2_with fail
    refine HP.out.mono ?_
    rintro e w1 ⟨rfl, d⟩
    have D := Lib.hid d
    clear d
    go_wp2_with fail
    go_ret
    exact ⟨by simp [hk], D.out.alloc D.out.size _⟩
set_option maxRecDepth 20000 in
theorem name_no {p i op : Nat} {s : LTok} {v : Value} {L : List CR} (w : World) (h : RdB w p s i op v L) (hi : i ≤ 1999999) (hm : isNm (tkA s i) = false) : Calls Tryz.prog 58 #[.pointer (some ⟨p, 0, none⟩)] w fun e w' => e = thr i 180 ∧ Below w.heap.size w w' := by
  have HM := Lib.hid (isName_any w h (by omega))
  have HF := Lib.hid (fun W (d : Below w.heap.size w W) => fail_any 180 W (h.below d).1)
  rw [hm] at HM
  clear h hm
  go_enter Tryz.func58, Tryz.ntmps58
  go_wp2_with fail
  refine HM.out.mono ?_
  rintro e w1 ⟨rfl, d⟩
  have D := Lib.hid d
  clear d
  go_wp2_with fail
  refine (HF.out _ D.out).mono ?_
  rintro e w2 ⟨he, d⟩
  unfold thr at he
  subst he
  (try go_wp2_with fail)
  simp only [bodyPost]
  exact ⟨trivial, rfl, D.out.trans (d.mono D.out.size)⟩
set_option maxRecDepth 20000 in
theorem name_yes {p i op : Nat} {s : LTok} {v : Value} {L : List CR} (w : World) (h : RdB w p s i op v L) (hi : i ≤ 1999999) (hm : isNm (tkA s i) = true) : Calls Tryz.prog 58 #[.pointer (some ⟨p, 0, none⟩)] w fun e w' => e = .returned (.string (tkA s i).s) ∧ RdB w' p s (i + 1) op v L ∧ Fr p v v w w' := by
  have HM := Lib.hid (isName_any w h (by omega))
  have hin := isNm_in hm
  rw [hm] at HM
  have H := Lib.hid h
  clear h hm
  rw [tkA_in hin]
  have hi2 : (i : Int) ≤ 1999999 := by omega
  have hi0 : (0 : Int) ≤ i := by omega
  have hii : (i : Int) < s.n := by omega
  go_enter Tryz.func58, Tryz.ntmps58
  go_wp2_with fail
  refine HM.out.mono ?_
  rintro e w1 ⟨rfl, d⟩
  have R1 := Lib.hid (H.out.below d)
  have c1 := R1.out.1.c1
  have z1 := R1.out.1.z 1
  have RN := Lib.hid (R1.out.1.at_ (i + 1) ((i : Int) + 1) (by omega))
  obtain ⟨W2, hW2⟩ : ∃ W2, W2 = w1.setCell ⟨p, 1, none⟩ (.int .i64 ((i : Int) + 1)) := ⟨_, rfl⟩
  rw [← hW2] at RN
  have c0' := RN.out.1.c0
  have c1' : W2.cell? ⟨p, 1, none⟩ = some (.int .i64 ((i : Int) + 1)) := by rw [RN.out.1.c1]; simp
  obtain ⟨b, off, ha, hb, d0, d1, d2⟩ := RN.out.1.tok.at_ hin
  rw [ha] at c0'
  have HW2 := Lib.hid hW2
  clear d hW2
  go_wp2_with fail
  rw [← HW2.out]
  go_quiet (fail)
  go_wp2_with fail
  go_ret
  have R3 := RN.out.1.dr (w' := W2.drewN nq) ⟨rfl, rfl, rfl, rfl⟩
  exact ⟨rfl, R3.1, R1.out.2.trans (RN.out.2.trans R3.2)⟩
end Go.Proofs.YtmkkckhfdafjnaaGreatDoor.Li
/- Layer 18: named, head. -/
namespace Go.Proofs.YtmkkckhfdafjnaaGreatDoor.Li
open Go.RowKit Go.Maps
def clV (c : CR) : Value := .agg #[.int .u8 c.k, .string c.nm, .string c.tx, .int .i64 c.n, .int .i64 c.m]
theorem ret_cl {R : Ending → World → Prop} {fn : Func} {tmps : Array Value} {w : World} {g k : Nat} {cs : Array Value} (hr : fn.results = #[.cell k 46]) (h2 : tmps.getD k undef = .pointer (some ⟨g, 0, none⟩)) (hg : w.heap[g]? = some (.cells cs 46)) (hs : cs.size = 5)
    (hR : R (.returned (.agg cs)) w) : bodyPost Tryz.prog fn R .ret ⟨tmps, []⟩ w := by
  obtain ⟨i0, hin, hz0, hz1, hz2⟩ := infoC
  refine bodyPost_ret (v := .agg cs) ?_ rfl hR
  exact results_cell_row hr tmps w g 46 cs (0, 0) _ h2 hg Tryz.underlying46 rfl (by rw [hin]; simp [hz1, hs])
def sets5 (w : World) (N : Nat) (p q r s t : Value) : World := ((((w.setCell ⟨N, 0, none⟩ p).setCell ⟨N, 1, none⟩ q).setCell ⟨N, 2, none⟩ r).setCell ⟨N, 3, none⟩ s).setCell ⟨N, 4, none⟩ t
theorem set5_heap {w2 : World} {N : Nat} {x y z u v p q r s t : Value} (hg : w2.heap[N]? = some (.cells #[x, y, z, u, v] 46)) : (sets5 w2 N p q r s t).heap[N]? = some (.cells #[p, q, r, s, t] 46) := by
  have h3 : (((w2.setCell ⟨N, 0, none⟩ p).setCell ⟨N, 1, none⟩ q).setCell ⟨N, 2, none⟩ r).heap[N]? = some (.cells #[p, q, r, u, v] 46) := by
    simp [World.setCell, Array.getElem?_modify, hg]
  unfold sets5
  obtain ⟨w3, hw3⟩ : ∃ w3, w3 = ((w2.setCell ⟨N, 0, none⟩ p).setCell ⟨N, 1, none⟩ q).setCell ⟨N, 2, none⟩ r := ⟨_, rfl⟩
  rw [← hw3] at h3 ⊢
  clear hw3 hg
  simp [World.setCell, Array.getElem?_modify, h3]
theorem set5_below {w2 : World} {N B : Nat} {p q r s t : Value} (h : B ≤ N) : Below B w2 (sets5 w2 N p q r s t) := by
  unfold sets5
  exact (((((Below.refl _ _).setCell (by exact h) _).setCell (by exact h) _).setCell (by exact h) _).setCell (by exact h) _).setCell (by exact h) _
theorem cl_cells {w2 : World} {N : Nat} {x y z u v : Value} (hg : w2.heap[N]? = some (.cells #[x, y, z, u, v] 46)) : w2.cell? ⟨N, 0, none⟩ = some x ∧ w2.cell? ⟨N, 1, none⟩ = some y ∧ w2.cell? ⟨N, 2, none⟩ = some z ∧ w2.cell? ⟨N, 3, none⟩ = some u ∧ w2.cell? ⟨N, 4, none⟩ = some v ∧ ∀ o, w2.frozen? ⟨N, o, none⟩ = false := by
  refine ⟨?_, ?_, ?_, ?_, ?_, fun o => ?_⟩
  · unfold World.cell?; dsimp only; rw [hg]; rfl
  · unfold World.cell?; dsimp only; rw [hg]; rfl
  · unfold World.cell?; dsimp only; rw [hg]; rfl
  · unfold World.cell?; dsimp only; rw [hg]; rfl
  · unfold World.cell?; dsimp only; rw [hg]; rfl
  · simp [World.frozen?, hg]
set_option maxRecDepth 20000 in
set_option maxHeartbeats 2000000 in
theorem named_any (x : ByteArray) (w : World) : Calls Tryz.prog 65 #[.string x] w fun e w' => e = .returned (clV (namedL x)) ∧ Below w.heap.size w w' := by
  by_cases h0 : x = tNull
  · have e : namedL x = ⟨0, ⟨#[]⟩, ⟨#[]⟩, 0, 0⟩ := by unfold namedL; rw [if_pos h0]
    rw [e]
    clear e 
    subst h0
    unfold tNull
    go_enter Tryz.func65, Tryz.ntmps65
    go_wp2_with fail
    exact ret_cl Tryz.results65 rfl (heap_alloc_new _ _) rfl ⟨rfl, (Below.refl _ _).alloc (Nat.le_refl _) _⟩
  by_cases h1 : x = tFalse
  · have e : namedL x = ⟨1, ⟨#[]⟩, ⟨#[]⟩, 0, 0⟩ := by unfold namedL; rw [if_neg h0]; rw [if_pos h1]
    rw [e]
    clear e h0
    subst h1
    unfold tFalse
    go_enter Tryz.func65, Tryz.ntmps65
    go_wp2_with fail
    exact ret_cl Tryz.results65 rfl (heap_alloc_new _ _) rfl ⟨rfl, (Below.refl _ _).alloc (Nat.le_refl _) _⟩
  by_cases h2 : x = tTrue
  · have e : namedL x = ⟨1, ⟨#[]⟩, ⟨#[]⟩, 1, 0⟩ := by unfold namedL; rw [if_neg h0]; rw [if_neg h1]; rw [if_pos h2]
    rw [e]
    clear e h0 h1
    subst h2
    unfold tTrue
    go_enter Tryz.func65, Tryz.ntmps65
    go_wp2_with fail
    exact ret_cl Tryz.results65 rfl (heap_alloc_new _ _) rfl ⟨rfl, (Below.refl _ _).alloc (Nat.le_refl _) _⟩
  have e : namedL x = ⟨4, ⟨#[]⟩, x, 0, 0⟩ := by unfold namedL; rw [if_neg h0, if_neg h1, if_neg h2]
  rw [e]
  have q0 : (x.toList == [110, 117, 108, 108]) = false := by
    have q := tl_no h0
    rwa [show tNull.toList = [110, 117, 108, 108] by rw [Lib.toList_data]; rfl] at q
  have q1 : (x.toList == [102, 97, 108, 115, 101]) = false := by
    have q := tl_no h1
    rwa [show tFalse.toList = [102, 97, 108, 115, 101] by rw [Lib.toList_data]; rfl] at q
  have q2 : (x.toList == [116, 114, 117, 101]) = false := by
    have q := tl_no h2
    rwa [show tTrue.toList = [116, 114, 117, 101] by rw [Lib.toList_data]; rfl] at q
  clear e h0 h1 h2
  go_enter Tryz.func65, Tryz.ntmps65
  go_wp2_with fail
  exact ret_cl Tryz.results65 rfl (heap_alloc_new _ _) rfl ⟨rfl, (Below.refl _ _).alloc (Nat.le_refl _) _⟩
end Go.Proofs.YtmkkckhfdafjnaaGreatDoor.Li
/- Layer 18: head. -/
namespace Go.Proofs.YtmkkckhfdafjnaaGreatDoor.Li
open Go.RowKit Go.Maps
/-- A cell is told, or an error thrown. -/
def HdP (x : LR CR) (e : Ending) : Prop := match x with
  | .ok c => e = .returned (clV c)
  | .bad a m => e = thr a m
set_option maxRecDepth 20000 in
set_option maxHeartbeats 8000000 in
theorem head_any {p i op : Nat} {s : LTok} {v : Value} {L : List CR} (w : World) (h : RdB w p s i op v L) (l : Nm.Lim w) (hi : i ≤ 1999999) : Calls Tryz.prog 79 #[.pointer (some ⟨p, 0, none⟩)] w fun e w' => HdP (hdL s i) e ∧ Below w.heap.size w w' := by
  have HP := Lib.hid (fun W (k : Below w.heap.size w W) => peek_any W (h.below k).1 (by omega))
  have HM := Lib.hid (fun x W (k : Below w.heap.size w W) => isMark_any x W (h.below k).1 (by omega))
  have HF := Lib.hid (fun m W (k : Below w.heap.size w W) => fail_any m W (h.below k).1)
  have HX := Lib.hid (fun W (k : Below w.heap.size w W) => (h.below k).1.c2)
  have hz := tkA_small h.tok i
  have HL := Lib.hid (fun W (k : Below w.heap.size w W) => lim_up l k)
  clear h l
  obtain ⟨Z, hZ⟩ : ∃ Z, Z = hdL s i := ⟨_, rfl⟩
  rw [← hZ]
  unfold hdL at hZ
  obtain ⟨t, ht⟩ : ∃ t, t = tkA s i := ⟨_, rfl⟩
  rw [← ht] at HP HM hZ hz
  clear ht
  obtain ⟨k, b, a⟩ := t
  dsimp only at HP HM hZ hz
  have HK := Lib.hid (fun W (kk : Below w.heap.size w W) => lcheck_any ⟨k, b, a⟩ W (HL.out W kk) hz)
  have HRD := Lib.hid (fun W (kk : Below w.heap.size w W) => Nm.read_rest b W (HL.out W kk) (by unfold maxLen; omega))
  obtain ⟨ck, hck⟩ : ∃ ck, ck = okT ⟨k, b, a⟩ := ⟨_, rfl⟩
  rw [← hck] at HK hZ
  obtain ⟨fx, hfx⟩ : ∃ fx, fx = s.fx := ⟨_, rfl⟩
  rw [← hfx] at HX hZ
  have hk04 : ck = true → k = 0 ∨ k = 1 ∨ k = 2 ∨ k = 3 ∨ k = 4 := by
    intro e
    rw [hck] at e
    unfold okT at e
    dsimp only at e
    by_cases k0 : k = 0
    · exact .inl k0
    by_cases k1 : k = 1
    · exact .inr (.inl k1)
    by_cases k2 : k = 2
    · exact .inr (.inr (.inl k2))
    by_cases k3 : k = 3
    · exact .inr (.inr (.inr (.inl k3)))
    by_cases k4 : k = 4
    · exact .inr (.inr (.inr (.inr k4)))
    rw [if_neg k0, if_neg k1, if_neg k2, if_neg k3, if_neg k4] at e
    cases e
  clear hck hfx hz HL
  by_cases hA : ck = false ∧ k ≠ 2
  · have HZ : Hid (Z = .bad i 180) := Lib.hid (by rw [hZ, if_pos hA])
    obtain ⟨rfl, hA2⟩ := hA
    have q2 : (k != 2) = true := by simpa using hA2
    clear hZ hk04 hA2
    go_enter Tryz.func79, Tryz.ntmps79
    go_wp2_with fail
    refine (HP.out _ (below_box w _)).mono ?_
    rintro e w1 ⟨rfl, b1⟩
    have B1 := Lib.hid (below_boxed b1)
    have HG : Hid (∀ W, Below w1.heap.size w1 W → W.heap[w.heap.size]? = some (.cells #[.int .u8 0, .string ⟨#[]⟩, .string ⟨#[]⟩, .int .i64 0, .int .i64 0] 46)) := Lib.hid (fun W kk => by
      have hlt : w.heap.size < w1.heap.size := by have := b1.size; simp at this; omega
      rw [kk.block _ hlt, b1.block _ (by simp)]
      exact heap_alloc_new _ _)
    clear b1
    go_wp2_with fail
    refine (HK.out _ (B1.out.trans ((below_box w1 _).mono B1.out.size))).mono ?_
    rintro e w2 ⟨rfl, b2⟩
    have B2 := Lib.hid (below_boxed b2)
    have hT2 := (b2.block _ (show w1.heap.size < _ by simp)).trans (heap_alloc_new _ _)
    obtain ⟨d0, d1, d2, _⟩ := tok_cells hT2
    clear hT2
    have W2 := Lib.hid (B1.out.trans (B2.out.mono B1.out.size))
    clear b2
    go_wp2_with fail
    refine (HF.out 180 _ W2.out).mono ?_
    rintro e w9 ⟨he, b9⟩
    unfold thr at he
    subst he
    (try go_wp2_with fail)
    simp only [bodyPost]
    exact ⟨trivial, by rw [HZ.out]; rfl, W2.out.trans (b9.mono W2.out.size)⟩
  rw [if_neg hA] at hZ
  have hk : k = 0 ∨ k = 1 ∨ k = 2 ∨ k = 3 ∨ k = 4 := by
    cases ck with
    | true => exact hk04 rfl
    | false =>
      by_cases k2 : k = 2
      · exact .inr (.inr (.inl k2))
      · exact absurd ⟨rfl, k2⟩ hA
  have hc2 : k ≠ 2 → ck = true := by
    intro e
    cases ck with
    | true => rfl
    | false => exact absurd ⟨rfl, e⟩ hA
  clear hA hk04
  by_cases k1 : k = 1
  · subst k1
    obtain rfl := hc2 (by decide)
    have HZ : Hid (Z = .ok (namedL b)) := Lib.hid (by rw [hZ, if_pos rfl])
    clear hZ hk hc2
    go_enter Tryz.func79, Tryz.ntmps79
    go_wp2_with fail
    refine (HP.out _ (below_box w _)).mono ?_
    rintro e w1 ⟨rfl, b1⟩
    have B1 := Lib.hid (below_boxed b1)
    have HG : Hid (∀ W, Below w1.heap.size w1 W → W.heap[w.heap.size]? = some (.cells #[.int .u8 0, .string ⟨#[]⟩, .string ⟨#[]⟩, .int .i64 0, .int .i64 0] 46)) := Lib.hid (fun W kk => by
      have hlt : w.heap.size < w1.heap.size := by have := b1.size; simp at this; omega
      rw [kk.block _ hlt, b1.block _ (by simp)]
      exact heap_alloc_new _ _)
    clear b1
    go_wp2_with fail
    refine (HK.out _ (B1.out.trans ((below_box w1 _).mono B1.out.size))).mono ?_
    rintro e w2 ⟨rfl, b2⟩
    have B2 := Lib.hid (below_boxed b2)
    have hT2 := (b2.block _ (show w1.heap.size < _ by simp)).trans (heap_alloc_new _ _)
    obtain ⟨d0, d1, d2, _⟩ := tok_cells hT2
    clear hT2
    have W2 := Lib.hid (B1.out.trans (B2.out.mono B1.out.size))
    clear b2
    obtain ⟨nl, hnl⟩ : ∃ nl, nl = namedL b := ⟨_, rfl⟩
    have HNL := Lib.hid (named_any b)
    rw [← hnl] at HNL HZ
    clear hnl
    go_wp2_with fail
    refine (HNL.out _).mono ?_
    rintro e w3 ⟨rfl, b3⟩
    have B3 := Lib.hid (B2.out.trans (b3.mono B2.out.size))
    have W3 := Lib.hid (B1.out.trans (B3.out.mono B1.out.size))
    clear b3
    unfold clV
    obtain ⟨c0, c1, c2, c3, c4, cz⟩ := cl_cells (HG.out _ B3.out)
    have z0 := cz 0
    have z1 := cz 1
    have z2 := cz 2
    have z3 := cz 3
    have z4 := cz 4
    go_wp2_with fail
    exact ret_cl Tryz.results79 rfl (set5_heap (HG.out _ B3.out)) rfl ⟨by rw [HZ.out]; rfl, W3.out.trans (set5_below (Nat.le_refl _))⟩
  rw [if_neg k1] at hZ
  by_cases k2 : k = 2
  · subst k2
    rw [if_pos rfl] at hZ
    clear hc2 hk k1
    obtain ⟨E, hE⟩ : ∃ E, E = Nm.rdE b := ⟨_, rfl⟩
    obtain ⟨V, hV⟩ : ∃ V, V = Nm.rdV b := ⟨_, rfl⟩
    rw [← hE, ← hV] at HRD hZ
    clear hE hV
    by_cases hE0 : E = 0
    · subst hE0
      have HZ : Hid (Z = .ok ⟨2, ⟨#[]⟩, ⟨#[]⟩, V, 0⟩) := Lib.hid (by rw [hZ, if_pos rfl])
      clear hZ
      cases ck
      all_goals
        go_enter Tryz.func79, Tryz.ntmps79
        go_wp2_with fail
        refine (HP.out _ (below_box w _)).mono ?_
        rintro e w1 ⟨rfl, b1⟩
        have B1 := Lib.hid (below_boxed b1)
        have HG : Hid (∀ W, Below w1.heap.size w1 W → W.heap[w.heap.size]? = some (.cells #[.int .u8 0, .string ⟨#[]⟩, .string ⟨#[]⟩, .int .i64 0, .int .i64 0] 46)) := Lib.hid (fun W kk => by
          have hlt : w.heap.size < w1.heap.size := by have := b1.size; simp at this; omega
          rw [kk.block _ hlt, b1.block _ (by simp)]
          exact heap_alloc_new _ _)
        clear b1
        go_wp2_with fail
        refine (HK.out _ (B1.out.trans ((below_box w1 _).mono B1.out.size))).mono ?_
        rintro e w2 ⟨rfl, b2⟩
        have B2 := Lib.hid (below_boxed b2)
        have hT2 := (b2.block _ (show w1.heap.size < _ by simp)).trans (heap_alloc_new _ _)
        obtain ⟨d0, d1, d2, _⟩ := tok_cells hT2
        clear hT2
        have W2 := Lib.hid (B1.out.trans (B2.out.mono B1.out.size))
        clear b2
        go_wp2_with fail
        refine (HRD.out _ W2.out).mono ?_
        rintro e w3 ⟨rfl, b3⟩
        have B3 := Lib.hid (B2.out.trans (b3.mono B2.out.size))
        have W3 := Lib.hid (B1.out.trans (B3.out.mono B1.out.size))
        clear b3
        obtain ⟨c0, c1, c2, c3, c4, cz⟩ := cl_cells (HG.out _ B3.out)
        have z0 := cz 0
        have z1 := cz 1
        have z2 := cz 2
        have z3 := cz 3
        have z4 := cz 4
        go_wp2_with fail
        exact ret_cl Tryz.results79 rfl (set5_heap (HG.out _ B3.out)) rfl ⟨by rw [HZ.out]; rfl, W3.out.trans (set5_below (Nat.le_refl _))⟩
    · have HZ : Hid (Z = .bad i 41) := Lib.hid (by rw [hZ, if_neg hE0])
      have qE : (E != 0) = true := by simpa using hE0
      clear hZ hE0
      cases ck
      all_goals
        go_enter Tryz.func79, Tryz.ntmps79
        go_wp2_with fail
        refine (HP.out _ (below_box w _)).mono ?_
        rintro e w1 ⟨rfl, b1⟩
        have B1 := Lib.hid (below_boxed b1)
        have HG : Hid (∀ W, Below w1.heap.size w1 W → W.heap[w.heap.size]? = some (.cells #[.int .u8 0, .string ⟨#[]⟩, .string ⟨#[]⟩, .int .i64 0, .int .i64 0] 46)) := Lib.hid (fun W kk => by
          have hlt : w.heap.size < w1.heap.size := by have := b1.size; simp at this; omega
          rw [kk.block _ hlt, b1.block _ (by simp)]
          exact heap_alloc_new _ _)
        clear b1
        go_wp2_with fail
        refine (HK.out _ (B1.out.trans ((below_box w1 _).mono B1.out.size))).mono ?_
        rintro e w2 ⟨rfl, b2⟩
        have B2 := Lib.hid (below_boxed b2)
        have hT2 := (b2.block _ (show w1.heap.size < _ by simp)).trans (heap_alloc_new _ _)
        obtain ⟨d0, d1, d2, _⟩ := tok_cells hT2
        clear hT2
        have W2 := Lib.hid (B1.out.trans (B2.out.mono B1.out.size))
        clear b2
        go_wp2_with fail
        refine (HRD.out _ W2.out).mono ?_
        rintro e w3 ⟨rfl, b3⟩
        have B3 := Lib.hid (B2.out.trans (b3.mono B2.out.size))
        have W3 := Lib.hid (B1.out.trans (B3.out.mono B1.out.size))
        clear b3
        go_wp2_with fail
        refine (HF.out 41 _ W3.out).mono ?_
        rintro e w9 ⟨he, b9⟩
        unfold thr at he
        subst he
        (try go_wp2_with fail)
        simp only [bodyPost]
        exact ⟨trivial, by rw [HZ.out]; rfl, W3.out.trans (b9.mono W3.out.size)⟩
  rw [if_neg k2] at hZ
  obtain rfl := hc2 k2
  by_cases k3 : k = 3
  · subst k3
    have HZ : Hid (Z = .ok ⟨3, ⟨#[]⟩, b, 0, 0⟩) := Lib.hid (by rw [hZ, if_pos rfl])
    clear hZ hk hc2 k1 k2
    go_enter Tryz.func79, Tryz.ntmps79
    go_wp2_with fail
    refine (HP.out _ (below_box w _)).mono ?_
    rintro e w1 ⟨rfl, b1⟩
    have B1 := Lib.hid (below_boxed b1)
    have HG : Hid (∀ W, Below w1.heap.size w1 W → W.heap[w.heap.size]? = some (.cells #[.int .u8 0, .string ⟨#[]⟩, .string ⟨#[]⟩, .int .i64 0, .int .i64 0] 46)) := Lib.hid (fun W kk => by
      have hlt : w.heap.size < w1.heap.size := by have := b1.size; simp at this; omega
      rw [kk.block _ hlt, b1.block _ (by simp)]
      exact heap_alloc_new _ _)
    clear b1
    go_wp2_with fail
    refine (HK.out _ (B1.out.trans ((below_box w1 _).mono B1.out.size))).mono ?_
    rintro e w2 ⟨rfl, b2⟩
    have B2 := Lib.hid (below_boxed b2)
    have hT2 := (b2.block _ (show w1.heap.size < _ by simp)).trans (heap_alloc_new _ _)
    obtain ⟨d0, d1, d2, _⟩ := tok_cells hT2
    clear hT2
    have W2 := Lib.hid (B1.out.trans (B2.out.mono B1.out.size))
    clear b2
    obtain ⟨c0, c1, c2, c3, c4, cz⟩ := cl_cells (HG.out _ B2.out)
    have z0 := cz 0
    have z1 := cz 1
    have z2 := cz 2
    have z3 := cz 3
    have z4 := cz 4
    go_wp2_with fail
    exact ret_cl Tryz.results79 rfl (set5_heap (HG.out _ B2.out)) rfl ⟨by rw [HZ.out]; rfl, W2.out.trans (set5_below (Nat.le_refl _))⟩
  rw [if_neg k3] at hZ
  have q1 : (k == 1) = false := beq_eq_false_iff_ne.2 k1
  have q2 : (k == 2) = false := beq_eq_false_iff_ne.2 k2
  have q3 : (k == 3) = false := beq_eq_false_iff_ne.2 k3
  have HM1 := Lib.hid (HM.out mDollar)
  have HM2 := Lib.hid (HM.out mLB)
  have HM3 := Lib.hid (HM.out mLC)
  obtain ⟨m1, hm1⟩ : ∃ m1, m1 = isMk ⟨k, b, a⟩ mDollar := ⟨_, rfl⟩
  obtain ⟨m2, hm2⟩ : ∃ m2, m2 = isMk ⟨k, b, a⟩ mLB := ⟨_, rfl⟩
  obtain ⟨m3, hm3⟩ : ∃ m3, m3 = isMk ⟨k, b, a⟩ mLC := ⟨_, rfl⟩
  rw [← hm1] at HM1 hZ
  rw [← hm2] at HM2 hZ
  rw [← hm3] at HM3 hZ
  clear hm1 hm2 hm3 HM k1 k2 k3 hc2 hk
  unfold mDollar at HM1
  unfold mLB at HM2
  unfold mLC at HM3
  cases m1 with
  | true =>
    cases fx with
    | false =>
      have HZ : Hid (Z = .ok ⟨5, ⟨#[]⟩, ⟨#[]⟩, 0, 0⟩) := Lib.hid (by rw [hZ, if_pos ⟨rfl, rfl⟩])
      clear hZ
      go_enter Tryz.func79, Tryz.ntmps79
      go_wp2_with fail
      refine (HP.out _ (below_box w _)).mono ?_
      rintro e w1 ⟨rfl, b1⟩
      have B1 := Lib.hid (below_boxed b1)
      have HG : Hid (∀ W, Below w1.heap.size w1 W → W.heap[w.heap.size]? = some (.cells #[.int .u8 0, .string ⟨#[]⟩, .string ⟨#[]⟩, .int .i64 0, .int .i64 0] 46)) := Lib.hid (fun W kk => by
        have hlt : w.heap.size < w1.heap.size := by have := b1.size; simp at this; omega
        rw [kk.block _ hlt, b1.block _ (by simp)]
        exact heap_alloc_new _ _)
      clear b1
      go_wp2_with fail
      refine (HK.out _ (B1.out.trans ((below_box w1 _).mono B1.out.size))).mono ?_
      rintro e w2 ⟨rfl, b2⟩
      have B2 := Lib.hid (below_boxed b2)
      have hT2 := (b2.block _ (show w1.heap.size < _ by simp)).trans (heap_alloc_new _ _)
      obtain ⟨d0, d1, d2, _⟩ := tok_cells hT2
      clear hT2
      have W2 := Lib.hid (B1.out.trans (B2.out.mono B1.out.size))
      clear b2
      go_wp2_with fail
      refine (HM1.out _ W2.out).mono ?_
      rintro e w3 ⟨rfl, b3⟩
      have B3 := Lib.hid (B2.out.trans (b3.mono B2.out.size))
      have W3 := Lib.hid (B1.out.trans (B3.out.mono B1.out.size))
      clear b3
      have cx := HX.out _ W3.out
      obtain ⟨c0, c1, c2, c3, c4, cz⟩ := cl_cells (HG.out _ B3.out)
      have z0 := cz 0
      have z1 := cz 1
      have z2 := cz 2
      have z3 := cz 3
      have z4 := cz 4
      go_wp2_with fail
      exact ret_cl Tryz.results79 rfl (set5_heap (HG.out _ B3.out)) rfl ⟨by rw [HZ.out]; rfl, W3.out.trans (set5_below (Nat.le_refl _))⟩
    | true =>
      cases m2 with
      | true =>
        have HZ : Hid (Z = .ok ⟨6, ⟨#[]⟩, ⟨#[]⟩, 0, 0⟩) := Lib.hid (by rw [hZ, if_neg (fun e => absurd e.2 (by decide)), if_pos rfl])
        clear hZ
        go_enter Tryz.func79, Tryz.ntmps79
        go_wp2_with fail
        refine (HP.out _ (below_box w _)).mono ?_
        rintro e w1 ⟨rfl, b1⟩
        have B1 := Lib.hid (below_boxed b1)
        have HG : Hid (∀ W, Below w1.heap.size w1 W → W.heap[w.heap.size]? = some (.cells #[.int .u8 0, .string ⟨#[]⟩, .string ⟨#[]⟩, .int .i64 0, .int .i64 0] 46)) := Lib.hid (fun W kk => by
          have hlt : w.heap.size < w1.heap.size := by have := b1.size; simp at this; omega
          rw [kk.block _ hlt, b1.block _ (by simp)]
          exact heap_alloc_new _ _)
        clear b1
        go_wp2_with fail
        refine (HK.out _ (B1.out.trans ((below_box w1 _).mono B1.out.size))).mono ?_
        rintro e w2 ⟨rfl, b2⟩
        have B2 := Lib.hid (below_boxed b2)
        have hT2 := (b2.block _ (show w1.heap.size < _ by simp)).trans (heap_alloc_new _ _)
        obtain ⟨d0, d1, d2, _⟩ := tok_cells hT2
        clear hT2
        have W2 := Lib.hid (B1.out.trans (B2.out.mono B1.out.size))
        clear b2
        go_wp2_with fail
        refine (HM1.out _ W2.out).mono ?_
        rintro e w3 ⟨rfl, b3⟩
        have B3 := Lib.hid (B2.out.trans (b3.mono B2.out.size))
        have W3 := Lib.hid (B1.out.trans (B3.out.mono B1.out.size))
        clear b3
        have cx := HX.out _ W3.out
        go_wp2_with fail
        refine (HM2.out _ W3.out).mono ?_
        rintro e w4 ⟨rfl, b4⟩
        have B4 := Lib.hid (B3.out.trans (b4.mono B3.out.size))
        have W4 := Lib.hid (B1.out.trans (B4.out.mono B1.out.size))
        clear b4
        obtain ⟨c0, c1, c2, c3, c4, cz⟩ := cl_cells (HG.out _ B4.out)
        have z0 := cz 0
        have z1 := cz 1
        have z2 := cz 2
        have z3 := cz 3
        have z4 := cz 4
        go_wp2_with fail
        exact ret_cl Tryz.results79 rfl (set5_heap (HG.out _ B4.out)) rfl ⟨by rw [HZ.out]; rfl, W4.out.trans (set5_below (Nat.le_refl _))⟩
      | false =>
        cases m3 with
        | true =>
          have HZ : Hid (Z = .ok ⟨7, ⟨#[]⟩, ⟨#[]⟩, 0, 0⟩) := Lib.hid (by rw [hZ, if_neg (fun e => absurd e.2 (by decide)), if_neg (by decide), if_pos rfl])
          clear hZ
          go_enter Tryz.func79, Tryz.ntmps79
          go_wp2_with fail
          refine (HP.out _ (below_box w _)).mono ?_
          rintro e w1 ⟨rfl, b1⟩
          have B1 := Lib.hid (below_boxed b1)
          have HG : Hid (∀ W, Below w1.heap.size w1 W → W.heap[w.heap.size]? = some (.cells #[.int .u8 0, .string ⟨#[]⟩, .string ⟨#[]⟩, .int .i64 0, .int .i64 0] 46)) := Lib.hid (fun W kk => by
            have hlt : w.heap.size < w1.heap.size := by have := b1.size; simp at this; omega
            rw [kk.block _ hlt, b1.block _ (by simp)]
            exact heap_alloc_new _ _)
          clear b1
          go_wp2_with fail
          refine (HK.out _ (B1.out.trans ((below_box w1 _).mono B1.out.size))).mono ?_
          rintro e w2 ⟨rfl, b2⟩
          have B2 := Lib.hid (below_boxed b2)
          have hT2 := (b2.block _ (show w1.heap.size < _ by simp)).trans (heap_alloc_new _ _)
          obtain ⟨d0, d1, d2, _⟩ := tok_cells hT2
          clear hT2
          have W2 := Lib.hid (B1.out.trans (B2.out.mono B1.out.size))
          clear b2
          go_wp2_with fail
          refine (HM1.out _ W2.out).mono ?_
          rintro e w3 ⟨rfl, b3⟩
          have B3 := Lib.hid (B2.out.trans (b3.mono B2.out.size))
          have W3 := Lib.hid (B1.out.trans (B3.out.mono B1.out.size))
          clear b3
          have cx := HX.out _ W3.out
          go_wp2_with fail
          refine (HM2.out _ W3.out).mono ?_
          rintro e w4 ⟨rfl, b4⟩
          have B4 := Lib.hid (B3.out.trans (b4.mono B3.out.size))
          have W4 := Lib.hid (B1.out.trans (B4.out.mono B1.out.size))
          clear b4
          go_wp2_with fail
          refine (HM3.out _ W4.out).mono ?_
          rintro e w5 ⟨rfl, b5⟩
          have B5 := Lib.hid (B4.out.trans (b5.mono B4.out.size))
          have W5 := Lib.hid (B1.out.trans (B5.out.mono B1.out.size))
          clear b5
          obtain ⟨c0, c1, c2, c3, c4, cz⟩ := cl_cells (HG.out _ B5.out)
          have z0 := cz 0
          have z1 := cz 1
          have z2 := cz 2
          have z3 := cz 3
          have z4 := cz 4
          go_wp2_with fail
          exact ret_cl Tryz.results79 rfl (set5_heap (HG.out _ B5.out)) rfl ⟨by rw [HZ.out]; rfl, W5.out.trans (set5_below (Nat.le_refl _))⟩
        | false =>
          have HZ : Hid (Z = .bad i 180) := Lib.hid (by rw [hZ, if_neg (fun e => absurd e.2 (by decide)), if_neg (by decide), if_neg (by decide)])
          clear hZ
          go_enter Tryz.func79, Tryz.ntmps79
          go_wp2_with fail
          refine (HP.out _ (below_box w _)).mono ?_
          rintro e w1 ⟨rfl, b1⟩
          have B1 := Lib.hid (below_boxed b1)
          have HG : Hid (∀ W, Below w1.heap.size w1 W → W.heap[w.heap.size]? = some (.cells #[.int .u8 0, .string ⟨#[]⟩, .string ⟨#[]⟩, .int .i64 0, .int .i64 0] 46)) := Lib.hid (fun W kk => by
            have hlt : w.heap.size < w1.heap.size := by have := b1.size; simp at this; omega
            rw [kk.block _ hlt, b1.block _ (by simp)]
            exact heap_alloc_new _ _)
          clear b1
          go_wp2_with fail
          refine (HK.out _ (B1.out.trans ((below_box w1 _).mono B1.out.size))).mono ?_
          rintro e w2 ⟨rfl, b2⟩
          have B2 := Lib.hid (below_boxed b2)
          have hT2 := (b2.block _ (show w1.heap.size < _ by simp)).trans (heap_alloc_new _ _)
          obtain ⟨d0, d1, d2, _⟩ := tok_cells hT2
          clear hT2
          have W2 := Lib.hid (B1.out.trans (B2.out.mono B1.out.size))
          clear b2
          go_wp2_with fail
          refine (HM1.out _ W2.out).mono ?_
          rintro e w3 ⟨rfl, b3⟩
          have B3 := Lib.hid (B2.out.trans (b3.mono B2.out.size))
          have W3 := Lib.hid (B1.out.trans (B3.out.mono B1.out.size))
          clear b3
          have cx := HX.out _ W3.out
          go_wp2_with fail
          refine (HM2.out _ W3.out).mono ?_
          rintro e w4 ⟨rfl, b4⟩
          have B4 := Lib.hid (B3.out.trans (b4.mono B3.out.size))
          have W4 := Lib.hid (B1.out.trans (B4.out.mono B1.out.size))
          clear b4
          go_wp2_with fail
          refine (HM3.out _ W4.out).mono ?_
          rintro e w5 ⟨rfl, b5⟩
          have B5 := Lib.hid (B4.out.trans (b5.mono B4.out.size))
          have W5 := Lib.hid (B1.out.trans (B5.out.mono B1.out.size))
          clear b5
          go_wp2_with fail
          refine (HF.out 180 _ W5.out).mono ?_
          rintro e w9 ⟨he, b9⟩
          unfold thr at he
          subst he
          (try go_wp2_with fail)
          simp only [bodyPost]
          exact ⟨trivial, by rw [HZ.out]; rfl, W5.out.trans (b9.mono W5.out.size)⟩
  | false =>
    cases m2 with
    | true =>
      have HZ : Hid (Z = .ok ⟨6, ⟨#[]⟩, ⟨#[]⟩, 0, 0⟩) := Lib.hid (by rw [hZ, if_neg (fun e => absurd e.1 (by decide)), if_pos rfl])
      clear hZ
      go_enter Tryz.func79, Tryz.ntmps79
      go_wp2_with fail
      refine (HP.out _ (below_box w _)).mono ?_
      rintro e w1 ⟨rfl, b1⟩
      have B1 := Lib.hid (below_boxed b1)
      have HG : Hid (∀ W, Below w1.heap.size w1 W → W.heap[w.heap.size]? = some (.cells #[.int .u8 0, .string ⟨#[]⟩, .string ⟨#[]⟩, .int .i64 0, .int .i64 0] 46)) := Lib.hid (fun W kk => by
        have hlt : w.heap.size < w1.heap.size := by have := b1.size; simp at this; omega
        rw [kk.block _ hlt, b1.block _ (by simp)]
        exact heap_alloc_new _ _)
      clear b1
      go_wp2_with fail
      refine (HK.out _ (B1.out.trans ((below_box w1 _).mono B1.out.size))).mono ?_
      rintro e w2 ⟨rfl, b2⟩
      have B2 := Lib.hid (below_boxed b2)
      have hT2 := (b2.block _ (show w1.heap.size < _ by simp)).trans (heap_alloc_new _ _)
      obtain ⟨d0, d1, d2, _⟩ := tok_cells hT2
      clear hT2
      have W2 := Lib.hid (B1.out.trans (B2.out.mono B1.out.size))
      clear b2
      go_wp2_with fail
      refine (HM1.out _ W2.out).mono ?_
      rintro e w3 ⟨rfl, b3⟩
      have B3 := Lib.hid (B2.out.trans (b3.mono B2.out.size))
      have W3 := Lib.hid (B1.out.trans (B3.out.mono B1.out.size))
      clear b3
      go_wp2_with fail
      refine (HM2.out _ W3.out).mono ?_
      rintro e w4 ⟨rfl, b4⟩
      have B4 := Lib.hid (B3.out.trans (b4.mono B3.out.size))
      have W4 := Lib.hid (B1.out.trans (B4.out.mono B1.out.size))
      clear b4
      obtain ⟨c0, c1, c2, c3, c4, cz⟩ := cl_cells (HG.out _ B4.out)
      have z0 := cz 0
      have z1 := cz 1
      have z2 := cz 2
      have z3 := cz 3
      have z4 := cz 4
      go_wp2_with fail
      exact ret_cl Tryz.results79 rfl (set5_heap (HG.out _ B4.out)) rfl ⟨by rw [HZ.out]; rfl, W4.out.trans (set5_below (Nat.le_refl _))⟩
    | false =>
      cases m3 with
      | true =>
        have HZ : Hid (Z = .ok ⟨7, ⟨#[]⟩, ⟨#[]⟩, 0, 0⟩) := Lib.hid (by rw [hZ, if_neg (fun e => absurd e.1 (by decide)), if_neg (by decide), if_pos rfl])
        clear hZ
        go_enter Tryz.func79, Tryz.ntmps79
        go_wp2_with fail
        refine (HP.out _ (below_box w _)).mono ?_
        rintro e w1 ⟨rfl, b1⟩
        have B1 := Lib.hid (below_boxed b1)
        have HG : Hid (∀ W, Below w1.heap.size w1 W → W.heap[w.heap.size]? = some (.cells #[.int .u8 0, .string ⟨#[]⟩, .string ⟨#[]⟩, .int .i64 0, .int .i64 0] 46)) := Lib.hid (fun W kk => by
          have hlt : w.heap.size < w1.heap.size := by have := b1.size; simp at this; omega
          rw [kk.block _ hlt, b1.block _ (by simp)]
          exact heap_alloc_new _ _)
        clear b1
        go_wp2_with fail
        refine (HK.out _ (B1.out.trans ((below_box w1 _).mono B1.out.size))).mono ?_
        rintro e w2 ⟨rfl, b2⟩
        have B2 := Lib.hid (below_boxed b2)
        have hT2 := (b2.block _ (show w1.heap.size < _ by simp)).trans (heap_alloc_new _ _)
        obtain ⟨d0, d1, d2, _⟩ := tok_cells hT2
        clear hT2
        have W2 := Lib.hid (B1.out.trans (B2.out.mono B1.out.size))
        clear b2
        go_wp2_with fail
        refine (HM1.out _ W2.out).mono ?_
        rintro e w3 ⟨rfl, b3⟩
        have B3 := Lib.hid (B2.out.trans (b3.mono B2.out.size))
        have W3 := Lib.hid (B1.out.trans (B3.out.mono B1.out.size))
        clear b3
        go_wp2_with fail
        refine (HM2.out _ W3.out).mono ?_
        rintro e w4 ⟨rfl, b4⟩
        have B4 := Lib.hid (B3.out.trans (b4.mono B3.out.size))
        have W4 := Lib.hid (B1.out.trans (B4.out.mono B1.out.size))
        clear b4
        go_wp2_with fail
        refine (HM3.out _ W4.out).mono ?_
        rintro e w5 ⟨rfl, b5⟩
        have B5 := Lib.hid (B4.out.trans (b5.mono B4.out.size))
        have W5 := Lib.hid (B1.out.trans (B5.out.mono B1.out.size))
        clear b5
        obtain ⟨c0, c1, c2, c3, c4, cz⟩ := cl_cells (HG.out _ B5.out)
        have z0 := cz 0
        have z1 := cz 1
        have z2 := cz 2
        have z3 := cz 3
        have z4 := cz 4
        go_wp2_with fail
        exact ret_cl Tryz.results79 rfl (set5_heap (HG.out _ B5.out)) rfl ⟨by rw [HZ.out]; rfl, W5.out.trans (set5_below (Nat.le_refl _))⟩
      | false =>
        have HZ : Hid (Z = .bad i 180) := Lib.hid (by rw [hZ, if_neg (fun e => absurd e.1 (by decide)), if_neg (by decide), if_neg (by decide)])
        clear hZ
        go_enter Tryz.func79, Tryz.ntmps79
        go_wp2_with fail
        refine (HP.out _ (below_box w _)).mono ?_
        rintro e w1 ⟨rfl, b1⟩
        have B1 := Lib.hid (below_boxed b1)
        have HG : Hid (∀ W, Below w1.heap.size w1 W → W.heap[w.heap.size]? = some (.cells #[.int .u8 0, .string ⟨#[]⟩, .string ⟨#[]⟩, .int .i64 0, .int .i64 0] 46)) := Lib.hid (fun W kk => by
          have hlt : w.heap.size < w1.heap.size := by have := b1.size; simp at this; omega
          rw [kk.block _ hlt, b1.block _ (by simp)]
          exact heap_alloc_new _ _)
        clear b1
        go_wp2_with fail
        refine (HK.out _ (B1.out.trans ((below_box w1 _).mono B1.out.size))).mono ?_
        rintro e w2 ⟨rfl, b2⟩
        have B2 := Lib.hid (below_boxed b2)
        have hT2 := (b2.block _ (show w1.heap.size < _ by simp)).trans (heap_alloc_new _ _)
        obtain ⟨d0, d1, d2, _⟩ := tok_cells hT2
        clear hT2
        have W2 := Lib.hid (B1.out.trans (B2.out.mono B1.out.size))
        clear b2
        go_wp2_with fail
        refine (HM1.out _ W2.out).mono ?_
        rintro e w3 ⟨rfl, b3⟩
        have B3 := Lib.hid (B2.out.trans (b3.mono B2.out.size))
        have W3 := Lib.hid (B1.out.trans (B3.out.mono B1.out.size))
        clear b3
        go_wp2_with fail
        refine (HM2.out _ W3.out).mono ?_
        rintro e w4 ⟨rfl, b4⟩
        have B4 := Lib.hid (B3.out.trans (b4.mono B3.out.size))
        have W4 := Lib.hid (B1.out.trans (B4.out.mono B1.out.size))
        clear b4
        go_wp2_with fail
        refine (HM3.out _ W4.out).mono ?_
        rintro e w5 ⟨rfl, b5⟩
        have B5 := Lib.hid (B4.out.trans (b5.mono B4.out.size))
        have W5 := Lib.hid (B1.out.trans (B5.out.mono B1.out.size))
        clear b5
        go_wp2_with fail
        refine (HF.out 180 _ W5.out).mono ?_
        rintro e w9 ⟨he, b9⟩
        unfold thr at he
        subst he
        (try go_wp2_with fail)
        simp only [bodyPost]
        exact ⟨trivial, by rw [HZ.out]; rfl, W5.out.trans (b9.mono W5.out.size)⟩
end Go.Proofs.YtmkkckhfdafjnaaGreatDoor.Li
/- Layer 18: what is read goes on, and keeps what was (plain). -/
namespace Go.Proofs.YtmkkckhfdafjnaaGreatDoor.Li
open Go.RowKit Go.Maps
/-- A place behind, and cells behind what was. -/
structure Fwd (s : LTok) (j : Nat) (M : List CR) (j' : Nat) (N : List CR) : Prop where
  lt : j < j'
  le : j' ≤ s.n
  len : M.length ≤ N.length
  top : N.length ≤ 2048
  pre : N.take M.length = M
def Goes (s : LTok) (val : Nat → List CR → LR Out) : Prop := ∀ j M j' N, M.length ≤ 2048 → val j M = .ok (j', N) → Fwd s j M j' N ∧ M.length < N.length
theorem incC_len (M : List CR) (k : Nat) : (incC M k).length = M.length := by rw [incC_eq]; simp
theorem incC_take (M : List CR) (k : Nat) : (incC M k).take k = M.take k := by
  rw [incC_eq]
  apply List.ext_getElem?
  intro i
  simp only [List.getElem?_take, List.getElem?_set]
  by_cases h : i < k
  · rw [if_pos h, if_pos h, if_neg (by omega)]
  · rw [if_neg h, if_neg h]
theorem take_le {M N : List CR} {k : Nat} (h : N.take M.length = M) (hk : k ≤ M.length) : N.take k = M.take k := by
  rw [← h, List.take_take, Nat.min_eq_left hk]
theorem lsF_ok {s : LTok} {val : Nat → List CR → LR Out} {k : Nat} (hv : Goes s val) : ∀ (n j : Nat) (M : List CR) (j' : Nat) (N : List CR), k < M.length → M.length ≤ 2048 → lsF s val k n j M = .ok (j', N) → j < j' ∧ j' ≤ s.n ∧ M.length ≤ N.length ∧ N.length ≤ 2048 ∧ N.take k = M.take k := by
  intro n
  induction n with
  | zero => intro j M j' N _ _ h; cases h
  | succ n ih =>
    intro j M j' N hk hM h
    unfold lsF at h
    split at h
    · rename_i hm
      cases h
      have := isMk_in hm
      exact ⟨by omega, by omega, Nat.le_refl _, hM, rfl⟩
    · cases hx : val j M with
      | bad a e => rw [hx] at h; cases h
      | ok y =>
        obtain ⟨j1, N1⟩ := y
        rw [hx] at h
        obtain ⟨f, g⟩ := hv _ _ _ _ hM hx
        have hl := f.len
        have ht := f.top
        obtain ⟨a1, a2, a3, a4, a5⟩ := ih j1 (incC N1 k) j' N (by rw [incC_len]; omega) (by rw [incC_len]; omega) h
        rw [incC_len] at a3
        refine ⟨by have := f.lt; omega, a2, by omega, a4, ?_⟩
        rw [a5, incC_take]
        exact take_le f.pre (Nat.le_of_lt hk)
theorem obF_ok {s : LTok} {val : ByteArray → Nat → List CR → LR Out} {k : Nat} (hv : ∀ nm, Goes s (val nm)) : ∀ (n j : Nat) (ns : List ByteArray) (M : List CR) (j' : Nat) (N : List CR), k < M.length → M.length ≤ 2048 → obF s val k n j ns M = .ok (j', N) → j < j' ∧ j' ≤ s.n ∧ M.length ≤ N.length ∧ N.length ≤ 2048 ∧ N.take k = M.take k := by
  intro n
  induction n with
  | zero => intro j ns M j' N _ _ h; cases h
  | succ n ih =>
    intro j ns M j' N hk hM h
    unfold obF at h
    split at h
    · rename_i hm
      cases h
      have := isMk_in hm
      exact ⟨by omega, by omega, Nat.le_refl _, hM, rfl⟩
    · cases hw : nwL s ns j with
      | bad a e => rw [hw] at h; cases h
      | ok nm =>
        rw [hw] at h
        simp only [LR.bind_ok] at h
        split at h
        · cases hx : val nm (j + 2) M with
          | bad a e => rw [hx] at h; cases h
          | ok y =>
            obtain ⟨j1, N1⟩ := y
            rw [hx] at h
            obtain ⟨f, g⟩ := hv _ _ _ _ _ hM hx
            have hl := f.len
            have ht := f.top
            obtain ⟨a1, a2, a3, a4, a5⟩ := ih j1 (nm :: ns) (incC N1 k) j' N (by rw [incC_len]; omega) (by rw [incC_len]; omega) h
            rw [incC_len] at a3
            refine ⟨by have := f.lt; omega, a2, by omega, a4, ?_⟩
            rw [a5, incC_take]
            exact take_le f.pre (Nat.le_of_lt hk)
        · cases h
theorem take_self (L : List CR) (c : CR) : (L ++ [c]).take L.length = L := by
  rw [List.take_append_of_le_length (Nat.le_refl _), List.take_length]
theorem vaL_goes (s : LTok) : ∀ (f : Nat) (nm : ByteArray) (op : Nat), Goes s (vaL s f nm op)
  | 0, nm, op => by intro j M j' N _ h; cases h
  | f + 1, nm, op => by
    intro i L j' N hL h
    unfold vaL at h
    cases hh : hdL s i with
    | bad a e => rw [hh] at h; cases h
    | ok c =>
      have hi := hdL_in hh
      rw [hh] at h
      simp only [LR.bind_ok] at h
      split at h
      · cases h
      rename_i h48
      split at h
      · cases h
      have hlen : (L ++ [{ c with nm := nm }]).length = L.length + 1 := by simp
      unfold bdL at h
      split at h
      · split at h
        · rename_i hn
          cases h
          have := isNm_in hn
          exact ⟨⟨by omega, by omega, by simp, by simp; omega, take_self _ _⟩, by simp⟩
        · cases h
      split at h
      · obtain ⟨a1, a2, a3, a4, a5⟩ := lsF_ok (vaL_goes s f ⟨#[]⟩ (op + 1)) _ _ _ _ _ (by rw [hlen]; omega) (by rw [hlen]; omega) h
        rw [hlen] at a3
        exact ⟨⟨by omega, a2, by omega, a4, by rw [a5]; exact take_self _ _⟩, by omega⟩
      split at h
      · obtain ⟨a1, a2, a3, a4, a5⟩ := obF_ok (fun nm' => vaL_goes s f nm' (op + 1)) _ _ _ _ _ _ (by rw [hlen]; omega) (by rw [hlen]; omega) h
        rw [hlen] at a3
        exact ⟨⟨by omega, a2, by omega, a4, by rw [a5]; exact take_self _ _⟩, by omega⟩
      · cases h
        exact ⟨⟨by omega, by omega, by simp, by simp; omega, take_self _ _⟩, by simp⟩
end Go.Proofs.YtmkkckhfdafjnaaGreatDoor.Li
/- Layer 18: names that are new; what holds within lists and objects. -/
namespace Go.Proofs.YtmkkckhfdafjnaaGreatDoor.Li
open Go.RowKit Go.Maps Go.WideMaps
/-- A map lies apart from a reader. -/
structure Apt (p bm : Nat) (v : Value) : Prop where
  ab : p < bm
  ne : v.ownBlock ≠ some bm
theorem met_fr {w w' : World} {p bm n : Nat} {v v' : Value} {ns : List ByteArray} (h : Met w bm n ns) (a : Apt p bm v) (f : Fr p v v' w w') : Met w' bm n ns ∧ Apt p bm v' := by
  have hl := met_lt h
  have hab := a.ab
  refine ⟨met_same h (f.kept _ hl (by omega) a.ne), a.ab, fun e => ?_⟩
  rcases f.own _ e with e | e
  · exact a.ne e
  · omega
/-- A name is put to the names: the reader stays. -/
theorem RdB.named {w w' : World} {p i op bm : Nat} {s : LTok} {v : Value} {L : List CR} (h : RdB w p s i op v L) (a : Apt p bm v) (g : w.grownBy w' (some bm)) : RdB w' p s i op v L ∧ Below p w w' := by
  have hab := a.ab
  have hl := h.lt
  have hk : ∀ b, b < w.heap.size → b ≠ bm → w'.heap[b]? = w.heap[b]? := fun b hb hne => g.block b hb (fun e => hne (by cases e; rfl))
  refine ⟨h.same (hk p hl (by omega)) (fun j hj => hk j (by omega) (by omega)) (fun j e => hk j (h.row.lt j e).2 (fun e' => a.ne (by rw [← e']; exact e))), g.os, g.tape, g.output, g.size, fun j hj => hk j (by omega) (by omega)⟩
theorem fldT (k a : Int) (x : ByteArray) (W : World) : (Instr.field 59 (.agg #[.int .u8 k, .string x, .int .i64 a]) 1).run Tryz.prog W = .ok (.string x) W := by
  have u := Tryz.underlying59
  have u2 := Tryz.underlying9
  have z := Tryz.sizeOf5
  have z2 := Tryz.sizeOf9
  unfold Instr.field
  go_simp
  first | rfl | simp [run_underlying u, u, u2, z, z2, Value.cells]
def NwP (w : World) (p : Nat) (s : LTok) (i op bm n : Nat) (v : Value) (L : List CR) (ns : List ByteArray) (x : LR ByteArray) (e : Ending) (w' : World) : Prop := match x with
  | .ok nm => e = .returned (.string nm) ∧ RdB w' p s (i + 1) op v L ∧ Met w' bm (n + 1) (nm :: ns) ∧ Below p w w' ∧ ∃ W, Fr p v v w W ∧ W.grownBy w' (some bm) ∧ bm < W.heap.size
  | .bad a m => e = thr a m ∧ Below p w w'
set_option maxRecDepth 20000 in
set_option maxHeartbeats 4000000 in
theorem newName_any {p i op bm n : Nat} {s : LTok} {v : Value} {L : List CR} {ns : List ByteArray} (w : World) (h : RdB w p s i op v L) (hm : Met w bm n ns) (ha : Apt p bm v) (hi : i ≤ 1999999) (hn : n ≤ 1000000) : Calls Tryz.prog 62 #[.pointer (some ⟨p, 0, none⟩), .map (some bm)] w (NwP w p s i op bm n v L ns (nwL s ns i)) := by
  have HP := Lib.hid (peek_any w h (by omega))
  have HIN := Lib.hid (fun W (k : Below w.heap.size w W) => isName_any W (h.below k).1 (by omega))
  have HF := Lib.hid (fun W (k : Below w.heap.size w W) => fail_any 42 W (h.below k).1)
  have HNY := Lib.hid (fun W (k : Below w.heap.size w W) => name_yes W (h.below k).1 hi)
  have HNN := Lib.hid (fun W (k : Below w.heap.size w W) => name_no W (h.below k).1 hi)
  have HFR := Lib.hid (fun W (k : Below w.heap.size w W) => (h.below k).2)
  have HLT := Lib.hid h.lt
  have HA := Lib.hid ha
  have HMT := Lib.hid (fun W (k : Below w.heap.size w W) => met_same hm (k.block _ (met_lt hm)))
  have HML := Lib.hid (met_lt hm)
  have hz := tkA_small h.tok i
  clear h hm ha
  obtain ⟨Z, hZ⟩ : ∃ Z, Z = nwL s ns i := ⟨_, rfl⟩
  rw [← hZ]
  unfold nwL at hZ
  obtain ⟨t, ht⟩ : ∃ t, t = tkA s i := ⟨_, rfl⟩
  rw [← ht] at HP HIN HNY HNN hz hZ
  clear ht
  obtain ⟨k, x, a⟩ := t
  dsimp only at HP HIN HNY HNN hz hZ
  have hkey : keyOf Tryz.prog 9 (.string x) = some (keyL x) := keyOf_string_mk Tryz.underlying9 (by unfold maxLen; omega)
  have HKEY := Lib.hid hkey
  have hh := has_setN ns x
  obtain ⟨tw, htw⟩ : ∃ tw, tw = ns.any (fun y => decide (y = x)) := ⟨_, rfl⟩
  obtain ⟨nm, hnm⟩ : ∃ nm, nm = isNm ⟨k, x, a⟩ := ⟨_, rfl⟩
  rw [← htw] at hh hZ
  rw [← hnm] at HIN HNY HNN hZ
  have HH := Lib.hid hh
  have BASE := Lib.hid (fun (V : World) (h : V.ownsMap Tryz.prog 9 (unitElem (H := Unit)) bm (n + 1) ((setN ns).put (keyL x) (.agg []))) => (show Met V bm (n + 1) (x :: ns) by unfold Met; rw [setN_cons]; exact h))
  have hfd := fldT k a x
  clear hkey hh htw hnm hz
  cases tw with
  | true =>
    cases nm with
    | true =>
      have HZ : Hid (Z = .bad i 42) := Lib.hid (by rw [hZ, if_pos ⟨rfl, rfl⟩])
      clear hZ
      go_enter Tryz.func62, Tryz.ntmps62
      go_wp2_with fail
      refine HP.out.mono ?_
      rintro e w1 ⟨rfl, b1⟩
      have B1 := Lib.hid b1
      have HOWN := Lib.hid (HMT.out _ b1)
      have HOWA := Lib.hid (HMT.out _ (b1.trans ((below_box w1 (.cells #[] 68)).mono b1.size)))
      have BA := Lib.hid (b1.trans ((below_box w1 (.cells #[] 68)).mono b1.size))
      clear b1
      go_wp2_with (at_lookup; refine wpList_lookup_own_unit _ rfl _ _ 98 rfl 9 68 law9 Tryz.underlying98 (zeroU _) bm n _ rfl HOWN.out _ _ rfl HKEY.out ?_; rw [HH.out])
      refine (HIN.out _ BA.out).mono ?_
      rintro e w2 ⟨rfl, b2⟩
      have B2 := Lib.hid (BA.out.trans (b2.mono BA.out.size))
      clear b2
      go_wp2_with fail
      refine (HF.out _ B2.out).mono ?_
      rintro e w9 ⟨he, b9⟩
      unfold thr at he
      subst he
      (try go_wp2_with fail)
      rw [HZ.out]
      simp only [bodyPost]
      exact ⟨trivial, rfl, ((B2.out).trans (b9.mono (B2.out).size)).mono (Nat.le_of_lt HLT.out)⟩
    | false =>
      have HZ : Hid (Z = .bad i 180) := Lib.hid (by rw [hZ, if_neg (fun e => by cases e.2), if_neg (by decide)])
      clear hZ
      go_enter Tryz.func62, Tryz.ntmps62
      go_wp2_with fail
      refine HP.out.mono ?_
      rintro e w1 ⟨rfl, b1⟩
      have B1 := Lib.hid b1
      have HOWN := Lib.hid (HMT.out _ b1)
      have HOWA := Lib.hid (HMT.out _ (b1.trans ((below_box w1 (.cells #[] 68)).mono b1.size)))
      have BA := Lib.hid (b1.trans ((below_box w1 (.cells #[] 68)).mono b1.size))
      clear b1
      go_wp2_with (at_lookup; refine wpList_lookup_own_unit _ rfl _ _ 98 rfl 9 68 law9 Tryz.underlying98 (zeroU _) bm n _ rfl HOWN.out _ _ rfl HKEY.out ?_; rw [HH.out])
      refine (HIN.out _ BA.out).mono ?_
      rintro e w2 ⟨rfl, b2⟩
      have B2 := Lib.hid (BA.out.trans (b2.mono BA.out.size))
      clear b2
      go_wp2_with fail
      refine (HNN.out _ B2.out trivial).mono ?_
      rintro e w9 ⟨he, b9⟩
      unfold thr at he
      subst he
      (try go_wp2_with fail)
      rw [HZ.out]
      simp only [bodyPost]
      exact ⟨trivial, rfl, ((B2.out).trans (b9.mono (B2.out).size)).mono (Nat.le_of_lt HLT.out)⟩
  | false =>
    cases nm with
    | false =>
      have HZ : Hid (Z = .bad i 180) := Lib.hid (by rw [hZ, if_neg (fun e => by cases e.2), if_neg (by decide)])
      clear hZ
      go_enter Tryz.func62, Tryz.ntmps62
      go_wp2_with fail
      refine HP.out.mono ?_
      rintro e w1 ⟨rfl, b1⟩
      have B1 := Lib.hid b1
      have HOWN := Lib.hid (HMT.out _ b1)
      have HOWA := Lib.hid (HMT.out _ (b1.trans ((below_box w1 (.cells #[] 68)).mono b1.size)))
      have BA := Lib.hid (b1.trans ((below_box w1 (.cells #[] 68)).mono b1.size))
      clear b1
      go_wp2_with (at_lookup; refine wpList_lookup_own_unit _ rfl _ _ 98 rfl 9 68 law9 Tryz.underlying98 (zeroU _) bm n _ rfl HOWN.out _ _ rfl HKEY.out ?_; rw [HH.out])
      refine (HNN.out _ BA.out trivial).mono ?_
      rintro e w9 ⟨he, b9⟩
      unfold thr at he
      subst he
      (try go_wp2_with fail)
      rw [HZ.out]
      simp only [bodyPost]
      exact ⟨trivial, rfl, ((BA.out).trans (b9.mono (BA.out).size)).mono (Nat.le_of_lt HLT.out)⟩
    | true =>
      have HZ : Hid (Z = .ok x) := Lib.hid (by rw [hZ, if_neg (fun e => by cases e.1), if_pos rfl])
      clear hZ
      go_enter Tryz.func62, Tryz.ntmps62
      go_wp2_with fail
      refine HP.out.mono ?_
      rintro e w1 ⟨rfl, b1⟩
      have B1 := Lib.hid b1
      have HOWN := Lib.hid (HMT.out _ b1)
      have HOWA := Lib.hid (HMT.out _ (b1.trans ((below_box w1 (.cells #[] 68)).mono b1.size)))
      have BA := Lib.hid (b1.trans ((below_box w1 (.cells #[] 68)).mono b1.size))
      clear b1
      go_wp2_with (at_lookup; refine wpList_lookup_own_unit _ rfl _ _ 98 rfl 9 68 law9 Tryz.underlying98 (zeroU _) bm n _ rfl HOWN.out _ _ rfl HKEY.out ?_; rw [HH.out])
      refine (HNY.out _ BA.out trivial).mono ?_
      rintro e w3 ⟨rfl, r3, f3⟩
      have F3 := Lib.hid ((HFR.out _ BA.out).trans f3)
      have M3 := Lib.hid (met_fr HOWA.out HA.out f3).1
      have R3 := Lib.hid r3
      clear r3 f3
      go_wp2_with (at_mapUpdate; refine wpList_mapUpdate_own _ rfl _ _ _ 98 rfl 9 68 law9 Tryz.underlying98 (unitElem (H := Unit)) bm n _ rfl M3.out (by unfold maxLen; omega) _ _ _ rfl rfl HKEY.out _ [] unitElem_mk ?_; intro w4 hown1 hg1; have R4 := Lib.hid (R3.out.named HA.out hg1); have G4 := Lib.hid hg1; have M4 := Lib.hid (BASE.out _ hown1); clear hown1 hg1)
      go_ret
      rw [HZ.out]
      exact ⟨rfl, R4.out.1, M4.out, ((F3.out.below (fun j e => by have h1 := R3.out.far j e; exact h1) (Nat.le_of_lt HLT.out))).trans R4.out.2, _, F3.out, G4.out, met_lt M3.out⟩
/-- Within a list. -/
structure LM (s : LTok) (p op k : Nat) (v : Value) (w W : World) (i : Nat) (M : List CR) : Prop where
  rd : ∃ v', RdB W p s i op v' M ∧ Fr p v v' w W
  lim : LimP p W
  hk : k < M.length
  hM : M.length ≤ 2048
  cnt : 0 ≤ (gl M k).m ∧ (gl M k).m ≤ i
theorem LM.step {s : LTok} {p op k i j : Nat} {v v' v'' : Value} {w W W' : World} {M M' : List CR} (h : LM s p op k v w W i M) (r : RdB W p s i op v' M) (r' : RdB W' p s j op v'' M') (f : Fr p v' v'' W W') (hk : k < M'.length) (hM : M'.length ≤ 2048) (c : 0 ≤ (gl M' k).m ∧ (gl M' k).m ≤ j) : LM s p op k v w W' j M' := by
  obtain ⟨v9, r9, f9⟩ := h.rd
  obtain rfl := r9.veq r
  exact ⟨⟨_, r', f9.trans f⟩, h.lim.fr f (Nat.le_of_lt r.lt) r.far, hk, hM, c⟩
/-- Within an object. -/
structure OM (s : LTok) (p op k bm : Nat) (v : Value) (w W : World) (i : Nat) (ns : List ByteArray) (M : List CR) : Prop where
  rd : ∃ v', RdB W p s i op v' M ∧ Fr p v v' w W ∧ Apt p bm v'
  met : ∃ n, n ≤ i ∧ Met W bm n ns
  lim : LimP p W
  hk : k < M.length
  hM : M.length ≤ 2048
  cnt : 0 ≤ (gl M k).m ∧ (gl M k).m ≤ i
  new : w.heap.size ≤ bm
theorem OM.step {s : LTok} {p op k bm i j : Nat} {v v' v'' : Value} {w W W' : World} {ns : List ByteArray} {M M' : List CR} (h : OM s p op k bm v w W i ns M) (r : RdB W p s i op v' M) (r' : RdB W' p s j op v'' M') (f : Fr p v' v'' W W') (hij : i ≤ j) (hk : k < M'.length) (hM : M'.length ≤ 2048) (c : 0 ≤ (gl M' k).m ∧ (gl M' k).m ≤ j) : OM s p op k bm v w W' j ns M' := by
  obtain ⟨v9, r9, f9, a9⟩ := h.rd
  obtain rfl := r9.veq r
  obtain ⟨n, hn, hm⟩ := h.met
  obtain ⟨m1, m2⟩ := met_fr hm a9 f
  exact ⟨⟨_, r', f9.trans f, m2⟩, ⟨n, Nat.le_trans hn hij, m1⟩, h.lim.fr f (Nat.le_of_lt r.lt) r.far, hk, hM, c, h.new⟩
/-- A new name is taken. -/
theorem OM.named {s : LTok} {p op k bm i n : Nat} {v v' : Value} {w W W' : World} {nm : ByteArray} {ns : List ByteArray} {M : List CR} (h : OM s p op k bm v w W i ns M) (r : RdB W p s i op v' M) (r' : RdB W' p s (i + 1) op v' M) (hn : n ≤ i) (hm : Met W' bm (n + 1) (nm :: ns)) (hb : Below p W W') (hf : ∃ V, Fr p v' v' W V ∧ V.grownBy W' (some bm) ∧ bm < V.heap.size) : OM s p op k bm v w W' (i + 1) (nm :: ns) M := by
  obtain ⟨v9, r9, f9, a9⟩ := h.rd
  obtain rfl := r9.veq r
  obtain ⟨V, f, g, hV⟩ := hf
  have hnew := h.new
  have hc := h.cnt
  have kp : ∀ j, j < w.heap.size → j ≠ p → v.ownBlock ≠ some j → W'.heap[j]? = w.heap[j]? := fun j hj h1 h2 => by
    have h9 : v9.ownBlock ≠ some j := fun e => (f9.own j e).elim h2 (fun e => by omega)
    rw [g.block j (by have := f9.size; have := f.size; omega) (fun e => by cases e; omega), f.kept j (by have := f9.size; omega) h1 h9]
    exact f9.kept j hj h1 h2
  refine ⟨⟨v9, r', ⟨g.os.trans (f.os.trans f9.os), g.tape.trans (f.tape.trans f9.tape), g.output.trans (f.output.trans f9.output), Nat.le_trans f9.size (Nat.le_trans f.size g.size), kp, f9.own⟩, a9⟩, ⟨n + 1, by omega, hm⟩, ?_, h.hk, h.hM, ⟨hc.1, by omega⟩, hnew⟩
  refine ⟨h.lim.1, ?_, ?_⟩
  · rw [← h.lim.2.1]; unfold World.cell?; dsimp only; rw [hb.block _ h.lim.1]
  · rw [← h.lim.2.2]; unfold World.cell?; dsimp only; rw [hb.block _ h.lim.1]
end Go.Proofs.YtmkkckhfdafjnaaGreatDoor.Li
/- Layer 18: a value, the walk. -/
namespace Go.Proofs.YtmkkckhfdafjnaaGreatDoor.Li
open Go.RowKit Go.Maps
/-- A value is read, so many more brackets being allowed (one more than they). -/
def VC (s : LTok) (f : Nat) : Prop := ∀ (p i op : Nat) (v : Value) (L : List CR) (nm : ByteArray) (w : World), op + f = 17 → RdB w p s i op v L → LimP p w → i ≤ s.n → L.length ≤ 2048 → Calls Tryz.prog 64 #[.pointer (some ⟨p, 0, none⟩), .string nm] w (OutP p s op v w (vaL s f nm op i L))
theorem step_cell {ops : Array Oper} {o : Oper} {a : Act} {w : World} {K : Act → World → Prop} {Q : Exit → Act → World → Prop} {E : Prop} (hgd : o.guard = none) (s x : Operand)
    (ho : o.op = .call { callee := .builtin .append, args := #[s, x], argTypes := #[37, 37] }) (B : Nat) (v : Value) (L : List CR) (M : List Value) (b : Nat) (hs : a.eval s = v) (hx : a.eval x = .slice (some ⟨b, 0, none⟩) 1 1) (hO : w.ownsRow B 46 5 v L.length (rw5 L)) (hb : w.heap[b]? = some (.cells M.toArray 46)) (hM : M.length = 5) (hc : ∀ u ∈ M, u.oneCell' = true) (hL : L.length ≤ 2048) (hB : B ≤ w.heap.size)
    (hK : ∀ v' w', w'.ownsRow B 46 5 v' (L.length + 1) (rw5 L ++ M) → w.grownBy w' v.ownBlock → (v'.ownBlock = v.ownBlock ∨ ∃ g, v'.ownBlock = some g ∧ w.heap.size ≤ g) → K (a.put o.dst v') w') : if Region.wanted o (yielded ops a.tmps) = true then Oper.wp Tryz.prog o a w K Q else E := by
  have hw : Region.wanted o (yielded ops a.tmps) = true := by simp [Region.wanted, hgd]
  rw [if_pos hw]
  obtain ⟨i0, hin, hz0, hz1, hz2⟩ := infoC
  have hnews : ∀ j u, M[j]? = some u → w.cell? ((⟨b, 0, none⟩ : Addr).add j) = some u := fun j u hj => by
    simp only [Addr.add_lit, Nat.zero_add, World.cell?, hb]
    simpa using hj
  obtain ⟨v', w', hrun, r1, r2, _, r3⟩ := run_append_own_at (P := Tryz.prog) (w := w) B 37 o.type 46 i0 (.agg #[.int .u8 0, .string ⟨#[]⟩, .string ⟨#[]⟩, .int .i64 0, .int .i64 0]) 5 56 Tryz.underlying37 hin hz0 hz1 hz2 rfl (by decide) v L.length (rw5 L) hO ⟨b, 0, none⟩ 1 1 M (by omega) hnews hc (by unfold maxLen; omega) (by omega) hB
  unfold Oper.wp
  simp [execOp, ho, resolve, invoke, builtin, hs, hx, hrun, Result.andThen]
  exact hK v' w' r1 r2 (r3.elim .inl (fun h => .inr ⟨_, h, Nat.le_refl _⟩))
theorem keep_cell {w W : World} {p N : Nat} {v v' : Value} {cs : Array Value} (f : Fr p v v' w W) (hg : w.heap[N]? = some (.cells cs 46)) (h1 : N ≠ p) (h2 : v.ownBlock ≠ some N) : W.heap[N]? = some (.cells cs 46) := (f.kept N (Array.getElem?_eq_some_iff.1 hg).1 h1 h2).trans hg
set_option maxRecDepth 20000 in
set_option maxHeartbeats 8000000 in
theorem value_var {s : LTok} {f p i op cp : Nat} {ad : Option Addr} {L : List CR} {nm : ByteArray} {w : World} {cn ct : ByteArray} {cv cm : Int} (h : RdB w p s i op (.slice ad L.length cp) L) (hi : i < s.n) (hL : L.length < 2048) (hop : op ≤ 16) (hh : Calls Tryz.prog 79 #[.pointer (some ⟨p, 0, none⟩)] w fun e w' => e = .returned (.agg #[.int .u8 5, .string cn, .string ct, .int .i64 cv, .int .i64 cm]) ∧ Below w.heap.size w w') : Calls Tryz.prog 64 #[.pointer (some ⟨p, 0, none⟩), .string nm] w (OutP p s op (.slice ad L.length cp) w (bdL s (fun nm' j M => vaL s f nm' (op + 1) j M) ⟨5, nm, ct, cv, cm⟩ i L)) := by
  have hn : s.n ≤ 100000 := h.tok.2.1
  have HH2 := Lib.hid hh
  have HB := Lib.hid (fun W (k : Below w.heap.size w W) => h.below k)
  have HF := Lib.hid h.far
  have HLT := Lib.hid h.lt
  obtain ⟨Z, hZ⟩ : ∃ Z, Z = bdL s (fun nm' j M => vaL s f nm' (op + 1) j M) ⟨5, nm, ct, cv, cm⟩ i L := ⟨_, rfl⟩
  rw [← hZ]
  have HZ0 := Lib.hid hZ
  clear h hh hZ
  have hLi : (L.length : Int) ≤ 2048 := by omega
  have h48i : ((L.length : Int) == 2048) = false := beq_eq_false_iff_ne.2 (by omega)
  have hi2 : (i : Int) ≤ 100000 := by omega
  go_enter Tryz.func64, Tryz.ntmps64
  go_wp2_with fail
  refine HH2.out.mono ?_
  rintro e w1 ⟨rfl, b1⟩
  have BA := Lib.hid (b1.trans ((below_box w1 (.cells #[.int .u8 5, .string cn, .string ct, .int .i64 cv, .int .i64 cm] 46)).mono b1.size))
  have RA := Lib.hid (HB.out _ BA.out).1
  have c4 := RA.out.c4
  have c1 := RA.out.c1
  have c3 := RA.out.c3
  have z1 := RA.out.z 1
  have RN := Lib.hid (And.intro ((HB.out _ b1).1.at_ (i + 1) ((i : Int) + 1) (by omega)) (HB.out _ b1))
  have R2 := Lib.hid (RN.out.1.1.below (below_box _ (.cells #[.int .u8 5, .string nm, .string ct, .int .i64 cv, .int .i64 cm] 46)))
  have c4b := R2.out.1.c4
  have hlt1 : p < w1.heap.size := Nat.lt_of_lt_of_le HLT.out b1.size
  have hNp : ¬ (w1.heap.size = p) := by omega
  have hpN : ¬ (p = w1.heap.size) := by omega
  have HNV : Hid ((Value.slice ad L.length cp).ownBlock ≠ some w1.heap.size) := Lib.hid (fun e => by have h1 := (RN.out.2.1.row.lt _ e).2; omega)
  clear b1
  go_wp2_with fail
  obtain ⟨N, hN⟩ : ∃ N, N = w1.heap.size := ⟨_, rfl⟩
  have HNA : Hid (((w1.setCell ⟨p, 1, none⟩ (.int .i64 ((i : Int) + 1))).alloc (.cells #[.int .u8 5, .string nm, .string ct, .int .i64 cv, .int .i64 cm] 46)).heap[N]? = some (.cells #[.int .u8 5, .string nm, .string ct, .int .i64 cv, .int .i64 cm] 46)) := Lib.hid (by
    have e := heap_alloc_new (w1.setCell ⟨p, 1, none⟩ (.int .i64 ((i : Int) + 1))) (.cells #[.int .u8 5, .string nm, .string ct, .int .i64 cv, .int .i64 cm] 46)
    rw [hN]
    simpa using e)
  obtain ⟨A, hA⟩ : ∃ A, A = (w1.setCell ⟨p, 1, none⟩ (.int .i64 ((i : Int) + 1))).alloc (.cells #[.int .u8 5, .string nm, .string ct, .int .i64 cv, .int .i64 cm] 46) := ⟨_, rfl⟩
  rw [← hN] at HNV hNp hpN ⊢
  rw [← hA] at R2 HNA c4b ⊢
  have FA := Lib.hid (RN.out.2.2.trans (RN.out.1.2.trans R2.out.2))
  clear c4 c1 c3 z1 hA hN hlt1
  have HRW := Lib.hid R2.out.1.row
  have HSZ := Lib.hid R2.out.1.lt
  obtain ⟨a0, a1, a2, a3, a4, az⟩ := cl_cells HNA.out
  have c4a : ∀ o, (A.alloc o).cell? ⟨p, 4, none⟩ = some (.slice ad L.length cp) := fun o => (R2.out.1.below (below_box A o)).1.c4
  clear az
  go_region_law (first
    | (refine step_cell rfl (.tmp 61) (.tmp 63) rfl (p + 1) (.slice ad L.length cp) L [.int .u8 5, .string nm, .string ct, .int .i64 cv, .int .i64 cm] A.heap.size (by simp [Act.eval, Act.put]) (by simp [Act.eval, Act.put]) (HRW.out.drew.alloc _) (heap_alloc_new _ _) rfl (by intro u hu; simp at hu; rcases hu with rfl | rfl | rfl | rfl | rfl <;> rfl) (by omega) (by have := HSZ.out; simp; omega) ?_; intro v2 w2 o2 g2 x2; have R3 := Lib.hid (R2.out.1.push ⟨5, nm, ct, cv, cm⟩ o2 g2.os g2.tape g2.output (Nat.le_trans (by simp) g2.size) (fun k h1 h2 => by rw [g2.block k (by simp; omega) (fun e => h2 e.symm)]; exact heap_alloc_old _ _ h1) (x2.elim .inl (fun e => .inr (by obtain ⟨g, e1, e2⟩ := e; exact ⟨g, e1, by simp at e2; omega⟩)))); clear o2 g2 x2; obtain ⟨ad1, cp1, rfl⟩ := R3.out.2.2.1.slice; have c4' := R3.out.1; have z4' := R3.out.2.1))

  all_goals
    obtain ⟨W3, hW3⟩ : ∃ W3, W3 = w2.setCell ⟨p, 4, none⟩ (.slice ad1 (L.length + 1) cp1) := ⟨_, rfl⟩
    obtain ⟨M, hM⟩ : ∃ M, M = L ++ [(⟨5, nm, ct, cv, cm⟩ : CR)] := ⟨_, rfl⟩
    have hML : M.length = L.length + 1 := by rw [hM]; simp
    have R4 := R3.out.2.2
    rw [← hM] at R4
    rw [hML, ← hW3] at R4
    rw [← hW3]
    clear hW3 R3 c4' z4'
    obtain ⟨q, cap, he, hpq, hqs⟩ := R4.1.addr (by omega)
    simp only [Value.slice.injEq] at he
    obtain ⟨rfl, hmm, rfl⟩ := he
    clear hmm
    have R5 : Hid (RdB W3 p s (i + 1) op (.slice (some ⟨q, 0, none⟩) M.length cp1) M ∧ Fr p (.slice ad L.length cp) (.slice (some ⟨q, 0, none⟩) M.length cp1) w W3) := Lib.hid (by rw [hML]; exact ⟨R4.1, FA.out.trans R4.2⟩)
    have hN3 := keep_cell R4.2 HNA.out hNp HNV.out
    obtain ⟨b0, b1, b2, b3, b4, bz⟩ := cl_cells hN3
    have c4c : W3.cell? ⟨p, 4, none⟩ = some (.slice (some ⟨q, 0, none⟩) (L.length + 1) cp1) := R4.1.c4
    have hLM : L.length < M.length := by omega
    have HM := Lib.hid hM
    have HML := Lib.hid hML
    clear R4 hN3 b1 b2 b3 b4 bz hM hML a0 a1 a2 a3 a4 c4a c4b HNA HRW HSZ R2

    by_cases hnm : isNm (tkA s (i + 1)) = true
    · have HNY := Lib.hid (name_yes W3.drew (R5.out.1.dr (w' := W3.drew) ⟨rfl, rfl, rfl, rfl⟩).1 (by omega) hnm)
      have FD := Lib.hid (R5.out.1.dr (w' := W3.drew) ⟨rfl, rfl, rfl, rfl⟩).2
      have HZ : Hid (Z = .ok (i + 2, L ++ [⟨5, nm, (tkA s (i + 1)).s, cv, cm⟩])) := Lib.hid (by rw [HZ0.out]; unfold bdL; rw [if_pos rfl, if_pos hnm])
      obtain ⟨x, hx⟩ : ∃ x, x = (tkA s (i + 1)).s := ⟨_, rfl⟩
      rw [← hx] at HNY HZ
      have hLk : (L.length : Int) < (L.length : Int) + 1 := by omega
      clear hx hnm
      go_wp2_with fail
      go_region_law (first
        | (go_simp; refine HNY.out.mono ?_; rintro e w5 ⟨rfl, r5, f5⟩; have R6 := Lib.hid (And.intro r5 f5); have c4d : w5.cell? ⟨p, 4, none⟩ = some (.slice (some ⟨q, 0, none⟩) (L.length + 1) cp1) := (by rw [r5.c4, HML.out]); have d2 := (r5.cells (k := L.length) (by have := HML.out; omega)).2.2.1; have z2 := r5.cellz (L.length * 5 + 2); clear r5 f5))
      all_goals
        go_wp2_with fail
        go_end0
        have R7 := R6.out.1.setF hpq (k := L.length) (by have := HML.out; omega) 2 (by decide) (.string x) ⟨5, nm, x, cv, cm⟩ (by rw [HM.out, gl_last]; rfl)
        rw [HM.out, set_last] at R7
        rw [HZ.out]
        refine ⟨rfl, _, R7.1, ?_⟩
        have F9 := R5.out.2.trans (FD.out.trans R6.out.2)
        rw [HM.out] at F9
        exact F9.trans R7.2
    · have HNN := Lib.hid (name_no W3.drew (R5.out.1.dr (w' := W3.drew) ⟨rfl, rfl, rfl, rfl⟩).1 (by omega) (by simpa using hnm))
      have HZ : Hid (Z = .bad (i + 1) 180) := Lib.hid (by rw [HZ0.out]; unfold bdL; rw [if_pos rfl, if_neg hnm])
      clear hnm
      go_wp2_with fail
      go_region_dies
      all_goals
        refine HNN.out.mono ?_
        rintro e w5 ⟨he, b5⟩
        unfold thr at he
        subst he
        (try go_simp)
        rw [HZ.out]
        simp only [bodyPost]
        exact ⟨trivial, rfl, ((R5.out.2.below HF.out (Nat.le_of_lt HLT.out)).drew).trans (b5.mono (Nat.le_of_lt R5.out.1.lt))⟩
end Go.Proofs.YtmkkckhfdafjnaaGreatDoor.Li
