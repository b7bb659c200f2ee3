import Derived.Test.YtmkkckhfdafjnaaGreatDoorQ4
import Derived.Defers
import Derived.Recover
import Derived.Test.YtmkkckhfdafjnaaGreatDoorQ1
import Derived.Laws.AppendOwn
import Derived.Below
import Derived.Deep.LoopGhost
import Derived.Deep.RegionLaw
import Derived.Lib.Hide
import Derived.Outline
import Derived.WalkKit
import Derived.WalkLawsBesides
import Derived.WalkSpells
/- Layer 4, Read: an object. -/
namespace Go.Proofs.YtmkkckhfdafjnaaGreatDoor
open Go.RowKit Go.Maps Go.WideMaps
theorem obj_items {s : ByteArray} {p op k b2 b3 b4 bm f : Nat} {v : Value} {w w3 : World} (hV : VC s f) (hop : op + f = 17) (hs : s.size ≤ 100000) : Items (fun x => x.2) p op s w3 (OMem s p op k b2 b3 b4 bm v w w3) (objI s (fun nm j M => valM s f nm op j M) k) 173 #[.pointer (some ⟨b2, 0, none⟩), .pointer (some ⟨b4, 0, none⟩), .pointer (some ⟨b3, 0, none⟩)] where
  rd := fun W i x m => m.rd.elim fun v' h => ⟨v', h.1⟩
  move := fun W W' i j x v' m r r' fr hij => m.step r r' fr hij m.hk m.hM (cnt_up m.cnt hij)
  low := fun W i x m => m.low
  ahead := fun W i x y m hi e => by
    have h := objI_grows (valM_ok s f op) k i x y hi m.hk m.hM e
    exact ⟨h.1, h.2.1⟩
  item := fun W i x hi m => obj1_any hV hop m hi hs
  enter := enters_of Tryz.func173 (by kernel_rfl) rfl
set_option maxRecDepth 20000 in
set_option maxHeartbeats 2000000 in
theorem object_any {s nm : ByteArray} {p op k q cap i f : Nat} {w : World} {L : List CR} (hV : VC s f) (hop : op + 1 + f = 17) (h : RdB w p s i op (.slice (some ⟨q, 0, none⟩) L.length cap) L) (hl : LimP p w) (hpq : p < q) (hk : k < L.length) (hL : L.length ≤ 2048) (hg : gl L k = ⟨0, nm, ⟨#[]⟩, 0, 0⟩) (hs : s.size ≤ 100000) (hi : i < s.size) (hb : byt s i = 123) : Calls Tryz.prog 161 #[.pointer (some ⟨p, 0, none⟩), .int .i64 k] w (OutP p s op (.slice (some ⟨q, 0, none⟩) L.length cap) w (objM s (fun nm' j M => valM s f nm' (op + 1) j M) k (bl s (i + 1)) (L.set k ⟨7, nm, ⟨#[]⟩, 0, 0⟩))) := by
  rw [obj_al]
  have hki : (k : Int) < L.length := by omega
  have hk0 : (0 : Int) ≤ k := by omega
  obtain ⟨W2, hW2⟩ : ∃ W2, W2 = (w.alloc (.cells #[.pointer (some ⟨p, 0, none⟩)] 202)).alloc (.cells #[.int .i64 k] 3) := ⟨_, rfl⟩
  have b2 : Below w.heap.size w W2 := by rw [hW2]; exact ((Below.refl _ _).alloc (Nat.le_refl _) _).alloc (by simp) _
  have HSZ : Hid (W2.heap.size = w.heap.size + 2) := Lib.hid (by rw [hW2]; simp)
  have HLT := Lib.hid h.lt
  have R2 := Lib.hid (h.below b2)
  have n2 : W2.heap[w.heap.size]? = some (.cells #[.pointer (some ⟨p, 0, none⟩)] 202) := by rw [hW2, heap_alloc_old _ _ (by simp), heap_alloc_new]
  have n3 : W2.heap[w.heap.size + 1]? = some (.cells #[.int .i64 k] 3) := by
    have e := heap_alloc_new (w.alloc (.cells #[.pointer (some ⟨p, 0, none⟩)] 202)) (.cells #[.int .i64 k] 3)
    rw [hW2]; simpa using e
  have e2 : W2.cell? ⟨w.heap.size, 0, none⟩ = some (.pointer (some ⟨p, 0, none⟩)) := by simp [World.cell?, n2]
  have e3 : W2.cell? ⟨w.heap.size + 1, 0, none⟩ = some (.int .i64 k) := by simp [World.cell?, n3]
  have HE := Lib.hid (And.intro n2 n3)
  have HQ2 : Hid (p < q ∧ q < w.heap.size) := Lib.hid (by obtain ⟨q', c', e, h1, h2⟩ := h.addr (by omega); cases e; exact ⟨h1, h2⟩)
  have c3 := R2.out.1.c3
  have d0 := (R2.out.1.cells hk).1
  rw [hg] at d0
  dsimp only at d0
  have z0 := R2.out.1.cellz (k * 5)
  have R3 := Lib.hid (R2.out.1.setF hpq hk 0 (by decide) (.int .u8 7) ⟨7, nm, ⟨#[]⟩, 0, 0⟩ (by rw [hg]; rfl))
  have HL := Lib.hid (hl.fr R2.out.2 (Nat.le_of_lt h.lt) h.far)
  obtain ⟨X, hX⟩ : ∃ X, X = alM s (objI s (fun nm' j M => valM s f nm' (op + 1) j M) k) 125 (bl s (i + 1)) ([], L.set k ⟨7, nm, ⟨#[]⟩, 0, 0⟩) := ⟨_, rfl⟩
  rw [← hX]
  have HX := Lib.hid hX
  have HF := Lib.hid h.far
  have hmk := @run_makeMap Tryz.prog
  clear n2 n3 b2 h hl hg hX
  go_enter Tryz.func161, Tryz.ntmps161
  go_wp2_with fail
  rw [← hW2]
  clear hW2
  obtain ⟨B, hB⟩ : ∃ B, B = w.heap.size := ⟨_, rfl⟩
  rw [← hB] at e2 e3 ⊢
  have HB := Lib.hid hB
  clear hB
  go_region
  all_goals
    rw [List.length_set] at R3
    obtain ⟨W3, hW3⟩ : ∃ W3, W3 = (W2.setCell ⟨q, k * 5, none⟩ (.int .u8 7)).drew := ⟨_, rfl⟩
    rw [← hW3]
    have R4 : Hid (RdB W3 p s i op (.slice (some ⟨q, 0, none⟩) L.length cap) (L.set k ⟨7, nm, ⟨#[]⟩, 0, 0⟩) ∧ Fr p (.slice (some ⟨q, 0, none⟩) L.length cap) (.slice (some ⟨q, 0, none⟩) L.length cap) W2 W3) := Lib.hid (by
      have h1 := R3.out.1.dr (w' := W3) (by rw [hW3]; exact ⟨rfl, rfl, rfl, rfl⟩)
      exact ⟨h1.1, R3.out.2.trans h1.2⟩)
    have HS3 : Hid (W3.heap.size = B + 2) := Lib.hid (by rw [hW3, HB.out, ← HSZ.out]; simp)
    have hqb : q ≠ B ∧ q ≠ B + 1 ∧ p < B := by have h1 := HQ2.out; have h2 := HB.out; omega
    have HE3 : Hid (W3.heap[B]? = some (.cells #[.pointer (some ⟨p, 0, none⟩)] 202) ∧ W3.heap[B + 1]? = some (.cells #[.int .i64 k] 3)) := Lib.hid (by
      have hk : ∀ j, j ≠ q → W3.heap[j]? = W2.heap[j]? := fun j hj => by rw [hW3]; exact Below.heap_setCell W2 ⟨q, k * 5, none⟩ _ j hj
      rw [hk _ (Ne.symm hqb.1), hk _ (Ne.symm hqb.2.1)]
      exact HB.out ▸ HE.out)
    clear hW3 e2 e3 c3 d0 z0
    have e2 : W3.cell? ⟨B, 0, none⟩ = some (.pointer (some ⟨p, 0, none⟩)) := by simp [World.cell?, HE3.out.1]
    have HL3 := Lib.hid (HL.out.fr R4.out.2 (by have := R2.out.1.lt; omega) HF.out)
    obtain ⟨W5, hW5⟩ : ∃ W5, W5 = (W3.alloc (.map #[] 0)).alloc (.cells #[.map (some W3.heap.size)] 98) := ⟨_, rfl⟩
    have b5 : Below W3.heap.size W3 W5 := by rw [hW5]; exact ((Below.refl _ _).alloc (Nat.le_refl _) _).alloc (by simp) _
    have R5 := Lib.hid (R4.out.1.below b5)
    have e2a : ((W3.alloc (.map #[] 0)).alloc (.cells #[.map (some W3.heap.size)] 98)).cell? ⟨B, 0, none⟩ = some (.pointer (some ⟨p, 0, none⟩)) := by rw [← hW5]; simp [World.cell?, b5.block B (by rw [HS3.out]; omega), HE3.out.1]
    have HM5 : Hid (Met W5 W3.heap.size 0 [] ∧ W5.heap[W3.heap.size + 1]? = some (.cells #[.map (some W3.heap.size)] 98)) := Lib.hid (by
      rw [hW5]
      refine ⟨World.ownsMap.alloc (World.ownsMap_made W3 _ _ _) _, ?_⟩
      have e := heap_alloc_new (W3.alloc (.map #[] 0)) (.cells #[.map (some W3.heap.size)] 98)
      simpa using e)
    have HE5 : Hid (W5.heap[B]? = some (.cells #[.pointer (some ⟨p, 0, none⟩)] 202) ∧ W5.heap[B + 1]? = some (.cells #[.int .i64 k] 3)) := Lib.hid ⟨(b5.block B (by rw [HS3.out]; omega)).trans HE3.out.1, (b5.block (B + 1) (by rw [HS3.out]; omega)).trans HE3.out.2⟩
    have HL5 := Lib.hid (HL3.out.fr R5.out.2 (Nat.le_of_lt R4.out.1.lt) HF.out)
    have HFR := Lib.hid (R2.out.2.trans (R4.out.2.trans R5.out.2))
    go_wp2_with fail
    rw [← hW5]
    clear hW5 e2a b5
    obtain ⟨bm, hbm⟩ : ∃ bm, bm = W3.heap.size := ⟨_, rfl⟩
    rw [← hbm] at HM5 ⊢
    have hbmB : bm = B + 2 := by rw [hbm]; exact HS3.out
    have hBw := HB.out
    have hq2 := HQ2.out
    have HA := Lib.hid (all_any (pr := fun x => x.2) (shut := 125) W5 ([], L.set k ⟨7, nm, ⟨#[]⟩, 0, 0⟩) R5.out.1 (obj_items (k := k) (b2 := B) (b3 := B + 1) (b4 := bm + 1) (bm := bm) (v := .slice (some ⟨q, 0, none⟩) L.length cap) (w := w) hV hop hs) (fun W j r fr => (⟨⟨_, r, ⟨HFR.out.trans fr, fun b hb => by simp only [List.mem_cons, List.not_mem_nil, or_false] at hb; omega, fun j e hj => by have e' : q = j := Option.some.inj e; simp only [List.mem_cons, List.not_mem_nil, or_false] at hj; omega⟩⟩, (fr.kept _ (lt_some HE5.out.1) (by omega) (fun e => hqb.1 (by cases e; rfl))).trans HE5.out.1, (fr.kept _ (lt_some HE5.out.2) (by omega) (fun e => hqb.2.1 (by cases e; rfl))).trans HE5.out.2, (fr.kept (bm + 1) (lt_some HM5.out.2) (by omega) (fun e => by have e' : q = bm + 1 := Option.some.inj e; omega)).trans HM5.out.2, ⟨0, Nat.zero_le _, met_same HM5.out.1 (fr.kept bm (met_lt HM5.out.1) (by omega) (fun e => by have e' : q = bm := Option.some.inj e; omega))⟩, HL5.out.fr fr (Nat.le_of_lt R5.out.1.lt) HF.out, by rw [List.length_set]; exact hk, by rw [List.length_set]; exact hL, by have e : gl (L.set k ⟨7, nm, ⟨#[]⟩, 0, 0⟩) k = ⟨7, nm, ⟨#[]⟩, 0, 0⟩ := (by unfold gl; simp [List.getD, hk]); rw [e]; dsimp only; omega, fr.below HF.out (Nat.le_of_lt R5.out.1.lt), by omega⟩ : OMem s p (op + 1) k B (B + 1) (bm + 1) bm (.slice (some ⟨q, 0, none⟩) L.length cap) w W5 W j ([], L.set k ⟨7, nm, ⟨#[]⟩, 0, 0⟩))) hb (by omega) (by omega) hi (by decide))
    rw [← HX.out] at HA
    clear hqb hbm
    cases X with
    | bad m =>
      have HA1 : Hid (Calls Tryz.prog 172 #[.pointer (some ⟨p, 0, none⟩), .int .u8 123, .int .u8 125, .func (.func 173) #[] #[.pointer (some ⟨B, 0, none⟩), .pointer (some ⟨bm + 1, 0, none⟩), .pointer (some ⟨B + 1, 0, none⟩)]] W5 fun e w' => e = thr m ∧ Below p W5 w') := Lib.hid HA.out
      refine HA1.out.mono ?_
      rintro e w5 ⟨he, b5⟩
      unfold thr at he
      subst he
      (try go_wp2_with fail)
      simp only [bodyPost]
      exact ⟨trivial, rfl, (HFR.out.below HF.out (Nat.le_of_lt HLT.out)).trans b5⟩
    | ok y =>
      obtain ⟨j, ns, M⟩ := y
      have HA1 : Hid (Calls Tryz.prog 172 #[.pointer (some ⟨p, 0, none⟩), .int .u8 123, .int .u8 125, .func (.func 173) #[] #[.pointer (some ⟨B, 0, none⟩), .pointer (some ⟨bm + 1, 0, none⟩), .pointer (some ⟨B + 1, 0, none⟩)]] W5 fun e w' => e = .returned (.tuple #[]) ∧ ∃ W, OMem s p (op + 1) k B (B + 1) (bm + 1) bm (.slice (some ⟨q, 0, none⟩) L.length cap) w W5 W j (ns, M) ∧ w' = W.setCell ⟨p, 2, none⟩ (.int .i64 op)) := Lib.hid HA.out
      refine HA1.out.mono ?_
      rintro e w5 ⟨rfl, W6, m5, rfl⟩
      obtain ⟨v5, r5, o5⟩ := m5.rd
      have R6 := Lib.hid (And.intro (r5.open_ op op rfl).1 (o5.fr.trans (r5.open_ op op rfl).2))
      clear m5 r5 o5
      go_wp2_with fail
      go_end0
      exact ⟨rfl, _, R6.out.1, R6.out.2⟩
end Go.Proofs.YtmkkckhfdafjnaaGreatDoor
/- Layer 4, Read: a value. -/
namespace Go.Proofs.YtmkkckhfdafjnaaGreatDoor
open Go.RowKit Go.Maps
/-- What stands behind a value's beginning. -/
def bodyM (s : ByteArray) (f : Nat) (nm : ByteArray) (op i : Nat) (L : List CR) : Rs Out :=
  if byt s i = 123 then objM s (fun nm' j M => valM s f nm' (op + 1) j M) L.length (bl s (i + 1)) (L ++ [⟨7, nm, ⟨#[]⟩, 0, 0⟩])
  else if byt s i = 91 then lstM s (fun j M => valM s f ⟨#[]⟩ (op + 1) j M) L.length (bl s (i + 1)) (L ++ [⟨6, nm, ⟨#[]⟩, 0, 0⟩])
  else if byt s i = 34 then (strM s i).bind fun x => .ok (x.2, L ++ [⟨3, nm, mkB x.1, 0, 0⟩])
  else if byt s i = 116 then (wordM s [116, 114, 117, 101] i).bind fun j => .ok (j, L ++ [⟨1, nm, ⟨#[]⟩, 1, 0⟩])
  else if byt s i = 102 then (wordM s [102, 97, 108, 115, 101] i).bind fun j => .ok (j, L ++ [⟨1, nm, ⟨#[]⟩, 0, 0⟩])
  else if byt s i = 110 then (wordM s [110, 117, 108, 108] i).bind fun j => .ok (j, L ++ [⟨0, nm, ⟨#[]⟩, 0, 0⟩])
  else (numM s i).bind fun x => .ok (x.2, L ++ [⟨2, nm, ⟨#[]⟩, x.1, 0⟩])
theorem valM_eq (s : ByteArray) (f : Nat) (nm : ByteArray) (op i : Nat) (L : List CR) : valM s (f + 1) nm op i L = if isSt (byt s i) = false then .bad 40 else (begM s nm op i L).bind fun _ => bodyM s f nm op i L := by
  unfold begM bodyM
  rw [valM]
  split
  · rfl
  split
  · rfl
  split
  · rfl
  · rfl
theorem begM_ok {s nm : ByteArray} {op i : Nat} {L : List CR} {x : Out} (h : begM s nm op i L = .ok x) : x = (i, L ++ [⟨0, nm, ⟨#[]⟩, 0, 0⟩]) ∧ ¬ L.length = 2048 ∧ ¬ ((byt s i = 123 ∨ byt s i = 91) ∧ op = 16) := by
  unfold begM at h
  split at h
  · cases h
  · split at h
    · cases h
    · cases h
      exact ⟨rfl, by assumption, by assumption⟩
theorem set_last {L : List CR} {c d : CR} : (L ++ [c]).set L.length d = L ++ [d] := by
  rw [List.set_append_right _ _ (Nat.le_refl _), Nat.sub_self]; rfl
theorem gl_last {L : List CR} {c : CR} : gl (L ++ [c]) L.length = c := by
  unfold gl; simp [List.getD_eq_getElem?_getD]
/-- The reader of a value's kind does it. -/
def KC (s : ByteArray) (p i op : Nat) (L : List CR) (nm : ByteArray) (N : FuncId) (R : Rs Out) : Prop := ∀ (W : World) (q cap : Nat), p < q → RdB W p s i op (.slice (some ⟨q, 0, none⟩) (L ++ [(⟨0, nm, ⟨#[]⟩, 0, 0⟩ : CR)]).length cap) (L ++ [⟨0, nm, ⟨#[]⟩, 0, 0⟩]) → LimP p W → Calls Tryz.prog N #[.pointer (some ⟨p, 0, none⟩), .int .i64 L.length] W (OutP p s op (.slice (some ⟨q, 0, none⟩) (L ++ [(⟨0, nm, ⟨#[]⟩, 0, 0⟩ : CR)]).length cap) W R)
theorem kc_obj {s nm : ByteArray} {p i op f : Nat} {L : List CR} (hV : 1 ≤ f → VC s f) (hop : op + (f + 1) = 17) (h16 : op ≠ 16) (hL : L.length < 2048) (hs : s.size ≤ 100000) (hb : byt s i = 123) : KC s p i op L nm 161 (bodyM s f nm op i L) := by
  intro W q cap hpq r hl
  unfold bodyM
  rw [if_pos hb]
  have h := object_any (hV (by omega)) (by omega) r hl hpq (k := L.length) (by simp) (by simp; omega) gl_last hs (byt_in (by omega)) hb
  rw [set_last] at h
  exact h
theorem kc_lst {s nm : ByteArray} {p i op f : Nat} {L : List CR} (hV : 1 ≤ f → VC s f) (hop : op + (f + 1) = 17) (h16 : op ≠ 16) (hL : L.length < 2048) (hs : s.size ≤ 100000) (hb : byt s i = 91) : KC s p i op L nm 162 (bodyM s f nm op i L) := by
  intro W q cap hpq r hl
  unfold bodyM
  rw [if_neg (by omega), if_pos hb]
  have h := list_any (hV (by omega)) (by omega) r hl hpq (k := L.length) (by simp) (by simp; omega) gl_last (by omega) (byt_in (by omega)) hb
  rw [set_last] at h
  exact h
theorem kc_str {s nm : ByteArray} {p i op f : Nat} {L : List CR} (hL : L.length < 2048) (hs : s.size ≤ 100000) (hi : i ≤ s.size) (hb : byt s i = 34) : KC s p i op L nm 163 (bodyM s f nm op i L) := by
  intro W q cap hpq r hl
  unfold bodyM
  rw [if_neg (by omega), if_neg (by omega), if_pos hb]
  have h := textValue_any W r hpq (k := L.length) (by simp) (by simp; omega) gl_last (by omega) (by omega)
  simp only [set_last] at h
  exact h
theorem kc_true {s nm : ByteArray} {p i op f : Nat} {L : List CR} (hs : s.size ≤ 100000) (hi : i ≤ s.size) (hb : byt s i = 116) : KC s p i op L nm 164 (bodyM s f nm op i L) := by
  intro W q cap hpq r hl
  unfold bodyM
  rw [if_neg (by omega), if_neg (by omega), if_neg (by omega), if_pos hb]
  have h := named_true W r hpq (k := L.length) (by simp) gl_last (by omega) (by omega) hb
  simp only [set_last] at h
  exact h
theorem kc_false {s nm : ByteArray} {p i op f : Nat} {L : List CR} (hs : s.size ≤ 100000) (hi : i ≤ s.size) (hb : byt s i = 102) : KC s p i op L nm 164 (bodyM s f nm op i L) := by
  intro W q cap hpq r hl
  unfold bodyM
  rw [if_neg (by omega), if_neg (by omega), if_neg (by omega), if_neg (by omega), if_pos hb]
  have h := named_false W r hpq (k := L.length) (by simp) gl_last (by omega) (by omega) hb
  simp only [set_last] at h
  exact h
theorem kc_null {s nm : ByteArray} {p i op f : Nat} {L : List CR} (hs : s.size ≤ 100000) (hi : i ≤ s.size) (hb : byt s i = 110) : KC s p i op L nm 164 (bodyM s f nm op i L) := by
  intro W q cap hpq r hl
  unfold bodyM
  rw [if_neg (by omega), if_neg (by omega), if_neg (by omega), if_neg (by omega), if_neg (by omega), if_pos hb]
  exact named_null W r (k := L.length) (by simp) (by omega) (by omega) (by omega) (by omega)
theorem kc_num {s nm : ByteArray} {p i op f : Nat} {L : List CR} (hL : L.length < 2048) (hs : s.size ≤ 100000) (hi : i ≤ s.size) (hb : byt s i = 45 ∨ (48 ≤ byt s i ∧ byt s i ≤ 57)) : KC s p i op L nm 165 (bodyM s f nm op i L) := by
  intro W q cap hpq r hl
  unfold bodyM
  rw [if_neg (by omega), if_neg (by omega), if_neg (by omega), if_neg (by omega), if_neg (by omega), if_neg (by omega)]
  have h := jnumber_any W r hl hpq (k := L.length) (by simp) (by simp; omega) gl_last (by omega) hi
  simp only [set_last] at h
  exact h
end Go.Proofs.YtmkkckhfdafjnaaGreatDoor
/- Layer 4, Read: a value, the walk. -/
namespace Go.Proofs.YtmkkckhfdafjnaaGreatDoor
open Go.RowKit Go.Maps
set_option maxRecDepth 20000 in
set_option maxHeartbeats 8000000 in
theorem value_step {s : ByteArray} {f : Nat} (hV : 1 ≤ f → VC s f) (hs : s.size ≤ 100000) : VC s (f + 1) := by
  intro p i op v L nm w hop h hl hi hL
  rw [valM_eq]
  have HP := Lib.hid (peek_any w h (by omega) (by omega))
  have HBG := Lib.hid (fun W (r : RdB W p s i op v L) => begin_any nm W r (by omega) (by omega) (by omega) hL)
  have HGO := Lib.hid (fun x => begM_ok (s := s) (nm := nm) (op := op) (i := i) (L := L) (x := x))
  have HK1 := Lib.hid (fun (hb : byt s i = 123) (h1 : op ≠ 16) (h2 : L.length < 2048) => kc_obj (p := p) (nm := nm) hV hop h1 h2 hs hb)
  have HK2 := Lib.hid (fun (hb : byt s i = 91) (h1 : op ≠ 16) (h2 : L.length < 2048) => kc_lst (p := p) (nm := nm) hV hop h1 h2 hs hb)
  have HK3 := Lib.hid (fun (hb : byt s i = 34) (h2 : L.length < 2048) => kc_str (p := p) (op := op) (f := f) (nm := nm) h2 hs hi hb)
  have HK4 := Lib.hid (fun (hb : byt s i = 116) => kc_true (p := p) (op := op) (L := L) (f := f) (nm := nm) hs hi hb)
  have HK5 := Lib.hid (fun (hb : byt s i = 102) => kc_false (p := p) (op := op) (L := L) (f := f) (nm := nm) hs hi hb)
  have HK6 := Lib.hid (fun (hb : byt s i = 110) => kc_null (p := p) (op := op) (L := L) (f := f) (nm := nm) hs hi hb)
  have HK7 := Lib.hid (fun (hb : byt s i = 45 ∨ (48 ≤ byt s i ∧ byt s i ≤ 57)) (h2 : L.length < 2048) => kc_num (p := p) (op := op) (f := f) (nm := nm) h2 hs hi hb)
  obtain ⟨R, hR⟩ : ∃ R, R = bodyM s f nm op i L := ⟨_, rfl⟩
  rw [← hR] at HK1 HK2 HK3 HK4 HK5 HK6 HK7 ⊢
  obtain ⟨G, hG⟩ : ∃ G, G = begM s nm op i L := ⟨_, rfl⟩
  rw [← hG] at HBG HGO ⊢
  obtain ⟨b, hb⟩ : ∃ b, b = byt s i := ⟨_, rfl⟩
  rw [← hb] at HP HGO HK1 HK2 HK3 HK4 HK5 HK6 HK7 ⊢
  obtain ⟨Z, hZ⟩ : ∃ Z, Z = if isSt b = false then Rs.bad 40 else G.bind fun _ => R := ⟨_, rfl⟩
  rw [← hZ]
  have HF := Lib.hid h.far
  have HLT := Lib.hid h.lt
  have HL := Lib.hid hl
  have H := Lib.hid h
  have hL0 : L.length ≤ 2048 := hL
  clear hR hG hb hV hop hs hi hL hl h
  by_cases k123 : b = 123
  · subst k123
    have HGX := Lib.hid (fun x (e : G = .ok x) => have h := HGO.out x e; And.intro h.1 (And.intro h.2.1 (fun (e16 : op = 16) => h.2.2 ⟨.inl rfl, e16⟩)))
    have HKX := Lib.hid (HK1.out rfl)
    clear HGO HK1 HK2 HK3 HK4 HK5 HK6 HK7
    have HZ : Hid (Z = G.bind fun _ => R) := Lib.hid (by rw [hZ, if_neg (by decide)])
    clear hZ
    go_enter Tryz.func154, Tryz.ntmps154
    go_wp2_with (go_at_call 160; refine HP.out.mono ?_; rintro e w1 ⟨rfl, d⟩; have R1 := Lib.hid (H.out.dr d); clear d)
    have HB1 := Lib.hid (HBG.out w1 R1.out.1)
    cases G with
    | bad m =>
      have HZ2 : Hid (Z = .bad m) := Lib.hid HZ.out
      have HB2 : Hid (Calls Tryz.prog 166 #[.pointer (some ⟨p, 0, none⟩), .string nm] w1 fun e w' => e = thr m ∧ Below p w1 w') := Lib.hid HB1.out
      refine HB2.out.mono ?_
      rintro e w8 ⟨he, b8⟩
      unfold thr at he
      subst he
      (try go_wp2_with fail)
      rw [HZ2.out]
      simp only [bodyPost]
      exact ⟨trivial, rfl, (R1.out.2.below HF.out (Nat.le_of_lt HLT.out)).trans b8⟩
    | ok x =>
      obtain ⟨rfl, h4, h16⟩ := HGX.out x rfl
      have HZ2 : Hid (Z = R) := Lib.hid HZ.out
      have HC := Lib.hid (HKX.out h16 (by omega))
      have HB2 : Hid (Calls Tryz.prog 166 #[.pointer (some ⟨p, 0, none⟩), .string nm] w1 fun e w' => e = .returned (.tuple #[]) ∧ ∃ v', RdB w' p s i op v' (L ++ [(⟨0, nm, ⟨#[]⟩, 0, 0⟩ : CR)]) ∧ Fr p v v' w1 w') := Lib.hid HB1.out
      clear h16
      refine HB2.out.mono ?_
      rintro e w2 ⟨rfl, v2, r2, f2⟩
      obtain ⟨q, cap, rfl, hpq, _⟩ := r2.addr (by simp)
      have c3 := r2.c3
      have HFR := Lib.hid (R1.out.2.trans f2)
      have HFA := Lib.hid r2.far
      have HPL := Lib.hid r2.lt
      have HC2 := Lib.hid (HC.out w2 q cap hpq r2 (HL.out.fr HFR.out (Nat.le_of_lt HLT.out) HF.out))
      clear r2 f2 HC HB1 HB2 HZ
      go_wp2_with fail
      refine HC2.out.mono ?_
      intro e w3 h3
      cases R with
      | bad m =>
        obtain ⟨he, b3⟩ : e = thr m ∧ Below p w2 w3 := h3
        unfold thr at he
        subst he
        (try go_wp2_with fail)
        rw [HZ2.out]
        simp only [bodyPost]
        exact ⟨trivial, rfl, (HFR.out.below HF.out (Nat.le_of_lt HLT.out)).trans b3⟩
      | ok y =>
        obtain ⟨j, M⟩ := y
        obtain ⟨rfl, v3, r3, f3⟩ : e = .returned (.tuple #[]) ∧ ∃ v', RdB w3 p s j op v' M ∧ Fr p _ v' w2 w3 := h3
        have R3 := Lib.hid (And.intro r3 (HFR.out.trans f3))
        clear r3 f3
        go_wp2_with fail
        go_end0
        rw [HZ2.out]
        exact ⟨rfl, _, R3.out.1, R3.out.2⟩
  by_cases k91 : b = 91
  · subst k91
    have HGX := Lib.hid (fun x (e : G = .ok x) => have h := HGO.out x e; And.intro h.1 (And.intro h.2.1 (fun (e16 : op = 16) => h.2.2 ⟨.inr rfl, e16⟩)))
    have HKX := Lib.hid (HK2.out rfl)
    clear HGO HK1 HK2 HK3 HK4 HK5 HK6 HK7
    have HZ : Hid (Z = G.bind fun _ => R) := Lib.hid (by rw [hZ, if_neg (by decide)])
    clear hZ
    go_enter Tryz.func154, Tryz.ntmps154
    go_wp2_with (go_at_call 160; refine HP.out.mono ?_; rintro e w1 ⟨rfl, d⟩; have R1 := Lib.hid (H.out.dr d); clear d)
    have HB1 := Lib.hid (HBG.out w1 R1.out.1)
    cases G with
    | bad m =>
      have HZ2 : Hid (Z = .bad m) := Lib.hid HZ.out
      have HB2 : Hid (Calls Tryz.prog 166 #[.pointer (some ⟨p, 0, none⟩), .string nm] w1 fun e w' => e = thr m ∧ Below p w1 w') := Lib.hid HB1.out
      refine HB2.out.mono ?_
      rintro e w8 ⟨he, b8⟩
      unfold thr at he
      subst he
      (try go_wp2_with fail)
      rw [HZ2.out]
      simp only [bodyPost]
      exact ⟨trivial, rfl, (R1.out.2.below HF.out (Nat.le_of_lt HLT.out)).trans b8⟩
    | ok x =>
      obtain ⟨rfl, h4, h16⟩ := HGX.out x rfl
      have HZ2 : Hid (Z = R) := Lib.hid HZ.out
      have HC := Lib.hid (HKX.out h16 (by omega))
      have HB2 : Hid (Calls Tryz.prog 166 #[.pointer (some ⟨p, 0, none⟩), .string nm] w1 fun e w' => e = .returned (.tuple #[]) ∧ ∃ v', RdB w' p s i op v' (L ++ [(⟨0, nm, ⟨#[]⟩, 0, 0⟩ : CR)]) ∧ Fr p v v' w1 w') := Lib.hid HB1.out
      clear h16
      refine HB2.out.mono ?_
      rintro e w2 ⟨rfl, v2, r2, f2⟩
      obtain ⟨q, cap, rfl, hpq, _⟩ := r2.addr (by simp)
      have c3 := r2.c3
      have HFR := Lib.hid (R1.out.2.trans f2)
      have HFA := Lib.hid r2.far
      have HPL := Lib.hid r2.lt
      have HC2 := Lib.hid (HC.out w2 q cap hpq r2 (HL.out.fr HFR.out (Nat.le_of_lt HLT.out) HF.out))
      clear r2 f2 HC HB1 HB2 HZ
      go_wp2_with fail
      refine HC2.out.mono ?_
      intro e w3 h3
      cases R with
      | bad m =>
        obtain ⟨he, b3⟩ : e = thr m ∧ Below p w2 w3 := h3
        unfold thr at he
        subst he
        (try go_wp2_with fail)
        rw [HZ2.out]
        simp only [bodyPost]
        exact ⟨trivial, rfl, (HFR.out.below HF.out (Nat.le_of_lt HLT.out)).trans b3⟩
      | ok y =>
        obtain ⟨j, M⟩ := y
        obtain ⟨rfl, v3, r3, f3⟩ : e = .returned (.tuple #[]) ∧ ∃ v', RdB w3 p s j op v' M ∧ Fr p _ v' w2 w3 := h3
        have R3 := Lib.hid (And.intro r3 (HFR.out.trans f3))
        clear r3 f3
        go_wp2_with fail
        go_end0
        rw [HZ2.out]
        exact ⟨rfl, _, R3.out.1, R3.out.2⟩
  by_cases k34 : b = 34
  · subst k34
    have HGX := Lib.hid (fun x (e : G = .ok x) => have h := HGO.out x e; And.intro h.1 (And.intro h.2.1 trivial))
    have HKX := Lib.hid (HK3.out rfl)
    clear HGO HK1 HK2 HK3 HK4 HK5 HK6 HK7
    have HZ : Hid (Z = G.bind fun _ => R) := Lib.hid (by rw [hZ, if_neg (by decide)])
    clear hZ
    go_enter Tryz.func154, Tryz.ntmps154
    go_wp2_with (go_at_call 160; refine HP.out.mono ?_; rintro e w1 ⟨rfl, d⟩; have R1 := Lib.hid (H.out.dr d); clear d)
    have HB1 := Lib.hid (HBG.out w1 R1.out.1)
    cases G with
    | bad m =>
      have HZ2 : Hid (Z = .bad m) := Lib.hid HZ.out
      have HB2 : Hid (Calls Tryz.prog 166 #[.pointer (some ⟨p, 0, none⟩), .string nm] w1 fun e w' => e = thr m ∧ Below p w1 w') := Lib.hid HB1.out
      refine HB2.out.mono ?_
      rintro e w8 ⟨he, b8⟩
      unfold thr at he
      subst he
      (try go_wp2_with fail)
      rw [HZ2.out]
      simp only [bodyPost]
      exact ⟨trivial, rfl, (R1.out.2.below HF.out (Nat.le_of_lt HLT.out)).trans b8⟩
    | ok x =>
      obtain ⟨rfl, h4, h16⟩ := HGX.out x rfl
      have HZ2 : Hid (Z = R) := Lib.hid HZ.out
      have HC := Lib.hid (HKX.out (by omega))
      have HB2 : Hid (Calls Tryz.prog 166 #[.pointer (some ⟨p, 0, none⟩), .string nm] w1 fun e w' => e = .returned (.tuple #[]) ∧ ∃ v', RdB w' p s i op v' (L ++ [(⟨0, nm, ⟨#[]⟩, 0, 0⟩ : CR)]) ∧ Fr p v v' w1 w') := Lib.hid HB1.out
      clear h16
      refine HB2.out.mono ?_
      rintro e w2 ⟨rfl, v2, r2, f2⟩
      obtain ⟨q, cap, rfl, hpq, _⟩ := r2.addr (by simp)
      have c3 := r2.c3
      have HFR := Lib.hid (R1.out.2.trans f2)
      have HFA := Lib.hid r2.far
      have HPL := Lib.hid r2.lt
      have HC2 := Lib.hid (HC.out w2 q cap hpq r2 (HL.out.fr HFR.out (Nat.le_of_lt HLT.out) HF.out))
      clear r2 f2 HC HB1 HB2 HZ
      go_wp2_with fail
      refine HC2.out.mono ?_
      intro e w3 h3
      cases R with
      | bad m =>
        obtain ⟨he, b3⟩ : e = thr m ∧ Below p w2 w3 := h3
        unfold thr at he
        subst he
        (try go_wp2_with fail)
        rw [HZ2.out]
        simp only [bodyPost]
        exact ⟨trivial, rfl, (HFR.out.below HF.out (Nat.le_of_lt HLT.out)).trans b3⟩
      | ok y =>
        obtain ⟨j, M⟩ := y
        obtain ⟨rfl, v3, r3, f3⟩ : e = .returned (.tuple #[]) ∧ ∃ v', RdB w3 p s j op v' M ∧ Fr p _ v' w2 w3 := h3
        have R3 := Lib.hid (And.intro r3 (HFR.out.trans f3))
        clear r3 f3
        go_wp2_with fail
        go_end0
        rw [HZ2.out]
        exact ⟨rfl, _, R3.out.1, R3.out.2⟩
  by_cases k116 : b = 116
  · subst k116
    have HGX := Lib.hid (fun x (e : G = .ok x) => have h := HGO.out x e; And.intro h.1 (And.intro h.2.1 trivial))
    have HKX := Lib.hid (HK4.out rfl)
    clear HGO HK1 HK2 HK3 HK4 HK5 HK6 HK7
    have HZ : Hid (Z = G.bind fun _ => R) := Lib.hid (by rw [hZ, if_neg (by decide)])
    clear hZ
    go_enter Tryz.func154, Tryz.ntmps154
    go_wp2_with (go_at_call 160; refine HP.out.mono ?_; rintro e w1 ⟨rfl, d⟩; have R1 := Lib.hid (H.out.dr d); clear d)
    have HB1 := Lib.hid (HBG.out w1 R1.out.1)
    cases G with
    | bad m =>
      have HZ2 : Hid (Z = .bad m) := Lib.hid HZ.out
      have HB2 : Hid (Calls Tryz.prog 166 #[.pointer (some ⟨p, 0, none⟩), .string nm] w1 fun e w' => e = thr m ∧ Below p w1 w') := Lib.hid HB1.out
      refine HB2.out.mono ?_
      rintro e w8 ⟨he, b8⟩
      unfold thr at he
      subst he
      (try go_wp2_with fail)
      rw [HZ2.out]
      simp only [bodyPost]
      exact ⟨trivial, rfl, (R1.out.2.below HF.out (Nat.le_of_lt HLT.out)).trans b8⟩
    | ok x =>
      obtain ⟨rfl, h4, h16⟩ := HGX.out x rfl
      have HZ2 : Hid (Z = R) := Lib.hid HZ.out
      have HC := Lib.hid (HKX.out )
      have HB2 : Hid (Calls Tryz.prog 166 #[.pointer (some ⟨p, 0, none⟩), .string nm] w1 fun e w' => e = .returned (.tuple #[]) ∧ ∃ v', RdB w' p s i op v' (L ++ [(⟨0, nm, ⟨#[]⟩, 0, 0⟩ : CR)]) ∧ Fr p v v' w1 w') := Lib.hid HB1.out
      clear h16
      refine HB2.out.mono ?_
      rintro e w2 ⟨rfl, v2, r2, f2⟩
      obtain ⟨q, cap, rfl, hpq, _⟩ := r2.addr (by simp)
      have c3 := r2.c3
      have HFR := Lib.hid (R1.out.2.trans f2)
      have HFA := Lib.hid r2.far
      have HPL := Lib.hid r2.lt
      have HC2 := Lib.hid (HC.out w2 q cap hpq r2 (HL.out.fr HFR.out (Nat.le_of_lt HLT.out) HF.out))
      clear r2 f2 HC HB1 HB2 HZ
      go_wp2_with fail
      refine HC2.out.mono ?_
      intro e w3 h3
      cases R with
      | bad m =>
        obtain ⟨he, b3⟩ : e = thr m ∧ Below p w2 w3 := h3
        unfold thr at he
        subst he
        (try go_wp2_with fail)
        rw [HZ2.out]
        simp only [bodyPost]
        exact ⟨trivial, rfl, (HFR.out.below HF.out (Nat.le_of_lt HLT.out)).trans b3⟩
      | ok y =>
        obtain ⟨j, M⟩ := y
        obtain ⟨rfl, v3, r3, f3⟩ : e = .returned (.tuple #[]) ∧ ∃ v', RdB w3 p s j op v' M ∧ Fr p _ v' w2 w3 := h3
        have R3 := Lib.hid (And.intro r3 (HFR.out.trans f3))
        clear r3 f3
        go_wp2_with fail
        go_end0
        rw [HZ2.out]
        exact ⟨rfl, _, R3.out.1, R3.out.2⟩
  by_cases k102 : b = 102
  · subst k102
    have HGX := Lib.hid (fun x (e : G = .ok x) => have h := HGO.out x e; And.intro h.1 (And.intro h.2.1 trivial))
    have HKX := Lib.hid (HK5.out rfl)
    clear HGO HK1 HK2 HK3 HK4 HK5 HK6 HK7
    have HZ : Hid (Z = G.bind fun _ => R) := Lib.hid (by rw [hZ, if_neg (by decide)])
    clear hZ
    go_enter Tryz.func154, Tryz.ntmps154
    go_wp2_with (go_at_call 160; refine HP.out.mono ?_; rintro e w1 ⟨rfl, d⟩; have R1 := Lib.hid (H.out.dr d); clear d)
    have HB1 := Lib.hid (HBG.out w1 R1.out.1)
    cases G with
    | bad m =>
      have HZ2 : Hid (Z = .bad m) := Lib.hid HZ.out
      have HB2 : Hid (Calls Tryz.prog 166 #[.pointer (some ⟨p, 0, none⟩), .string nm] w1 fun e w' => e = thr m ∧ Below p w1 w') := Lib.hid HB1.out
      refine HB2.out.mono ?_
      rintro e w8 ⟨he, b8⟩
      unfold thr at he
      subst he
      (try go_wp2_with fail)
      rw [HZ2.out]
      simp only [bodyPost]
      exact ⟨trivial, rfl, (R1.out.2.below HF.out (Nat.le_of_lt HLT.out)).trans b8⟩
    | ok x =>
      obtain ⟨rfl, h4, h16⟩ := HGX.out x rfl
      have HZ2 : Hid (Z = R) := Lib.hid HZ.out
      have HC := Lib.hid (HKX.out )
      have HB2 : Hid (Calls Tryz.prog 166 #[.pointer (some ⟨p, 0, none⟩), .string nm] w1 fun e w' => e = .returned (.tuple #[]) ∧ ∃ v', RdB w' p s i op v' (L ++ [(⟨0, nm, ⟨#[]⟩, 0, 0⟩ : CR)]) ∧ Fr p v v' w1 w') := Lib.hid HB1.out
      clear h16
      refine HB2.out.mono ?_
      rintro e w2 ⟨rfl, v2, r2, f2⟩
      obtain ⟨q, cap, rfl, hpq, _⟩ := r2.addr (by simp)
      have c3 := r2.c3
      have HFR := Lib.hid (R1.out.2.trans f2)
      have HFA := Lib.hid r2.far
      have HPL := Lib.hid r2.lt
      have HC2 := Lib.hid (HC.out w2 q cap hpq r2 (HL.out.fr HFR.out (Nat.le_of_lt HLT.out) HF.out))
      clear r2 f2 HC HB1 HB2 HZ
      go_wp2_with fail
      refine HC2.out.mono ?_
      intro e w3 h3
      cases R with
      | bad m =>
        obtain ⟨he, b3⟩ : e = thr m ∧ Below p w2 w3 := h3
        unfold thr at he
        subst he
        (try go_wp2_with fail)
        rw [HZ2.out]
        simp only [bodyPost]
        exact ⟨trivial, rfl, (HFR.out.below HF.out (Nat.le_of_lt HLT.out)).trans b3⟩
      | ok y =>
        obtain ⟨j, M⟩ := y
        obtain ⟨rfl, v3, r3, f3⟩ : e = .returned (.tuple #[]) ∧ ∃ v', RdB w3 p s j op v' M ∧ Fr p _ v' w2 w3 := h3
        have R3 := Lib.hid (And.intro r3 (HFR.out.trans f3))
        clear r3 f3
        go_wp2_with fail
        go_end0
        rw [HZ2.out]
        exact ⟨rfl, _, R3.out.1, R3.out.2⟩
  by_cases k110 : b = 110
  · subst k110
    have HGX := Lib.hid (fun x (e : G = .ok x) => have h := HGO.out x e; And.intro h.1 (And.intro h.2.1 trivial))
    have HKX := Lib.hid (HK6.out rfl)
    clear HGO HK1 HK2 HK3 HK4 HK5 HK6 HK7
    have HZ : Hid (Z = G.bind fun _ => R) := Lib.hid (by rw [hZ, if_neg (by decide)])
    clear hZ
    go_enter Tryz.func154, Tryz.ntmps154
    go_wp2_with (go_at_call 160; refine HP.out.mono ?_; rintro e w1 ⟨rfl, d⟩; have R1 := Lib.hid (H.out.dr d); clear d)
    have HB1 := Lib.hid (HBG.out w1 R1.out.1)
    cases G with
    | bad m =>
      have HZ2 : Hid (Z = .bad m) := Lib.hid HZ.out
      have HB2 : Hid (Calls Tryz.prog 166 #[.pointer (some ⟨p, 0, none⟩), .string nm] w1 fun e w' => e = thr m ∧ Below p w1 w') := Lib.hid HB1.out
      refine HB2.out.mono ?_
      rintro e w8 ⟨he, b8⟩
      unfold thr at he
      subst he
      (try go_wp2_with fail)
      rw [HZ2.out]
      simp only [bodyPost]
      exact ⟨trivial, rfl, (R1.out.2.below HF.out (Nat.le_of_lt HLT.out)).trans b8⟩
    | ok x =>
      obtain ⟨rfl, h4, h16⟩ := HGX.out x rfl
      have HZ2 : Hid (Z = R) := Lib.hid HZ.out
      have HC := Lib.hid (HKX.out )
      have HB2 : Hid (Calls Tryz.prog 166 #[.pointer (some ⟨p, 0, none⟩), .string nm] w1 fun e w' => e = .returned (.tuple #[]) ∧ ∃ v', RdB w' p s i op v' (L ++ [(⟨0, nm, ⟨#[]⟩, 0, 0⟩ : CR)]) ∧ Fr p v v' w1 w') := Lib.hid HB1.out
      clear h16
      refine HB2.out.mono ?_
      rintro e w2 ⟨rfl, v2, r2, f2⟩
      obtain ⟨q, cap, rfl, hpq, _⟩ := r2.addr (by simp)
      have c3 := r2.c3
      have HFR := Lib.hid (R1.out.2.trans f2)
      have HFA := Lib.hid r2.far
      have HPL := Lib.hid r2.lt
      have HC2 := Lib.hid (HC.out w2 q cap hpq r2 (HL.out.fr HFR.out (Nat.le_of_lt HLT.out) HF.out))
      clear r2 f2 HC HB1 HB2 HZ
      go_wp2_with fail
      refine HC2.out.mono ?_
      intro e w3 h3
      cases R with
      | bad m =>
        obtain ⟨he, b3⟩ : e = thr m ∧ Below p w2 w3 := h3
        unfold thr at he
        subst he
        (try go_wp2_with fail)
        rw [HZ2.out]
        simp only [bodyPost]
        exact ⟨trivial, rfl, (HFR.out.below HF.out (Nat.le_of_lt HLT.out)).trans b3⟩
      | ok y =>
        obtain ⟨j, M⟩ := y
        obtain ⟨rfl, v3, r3, f3⟩ : e = .returned (.tuple #[]) ∧ ∃ v', RdB w3 p s j op v' M ∧ Fr p _ v' w2 w3 := h3
        have R3 := Lib.hid (And.intro r3 (HFR.out.trans f3))
        clear r3 f3
        go_wp2_with fail
        go_end0
        rw [HZ2.out]
        exact ⟨rfl, _, R3.out.1, R3.out.2⟩
  by_cases k45 : b = 45
  · subst k45
    have HGX := Lib.hid (fun x (e : G = .ok x) => have h := HGO.out x e; And.intro h.1 (And.intro h.2.1 trivial))
    have HKX := Lib.hid (HK7.out (.inl rfl))
    clear HGO HK1 HK2 HK3 HK4 HK5 HK6 HK7
    have HZ : Hid (Z = G.bind fun _ => R) := Lib.hid (by rw [hZ, if_neg (by decide)])
    clear hZ
    go_enter Tryz.func154, Tryz.ntmps154
    go_wp2_with (go_at_call 160; refine HP.out.mono ?_; rintro e w1 ⟨rfl, d⟩; have R1 := Lib.hid (H.out.dr d); clear d)
    have HB1 := Lib.hid (HBG.out w1 R1.out.1)
    cases G with
    | bad m =>
      have HZ2 : Hid (Z = .bad m) := Lib.hid HZ.out
      have HB2 : Hid (Calls Tryz.prog 166 #[.pointer (some ⟨p, 0, none⟩), .string nm] w1 fun e w' => e = thr m ∧ Below p w1 w') := Lib.hid HB1.out
      refine HB2.out.mono ?_
      rintro e w8 ⟨he, b8⟩
      unfold thr at he
      subst he
      (try go_wp2_with fail)
      rw [HZ2.out]
      simp only [bodyPost]
      exact ⟨trivial, rfl, (R1.out.2.below HF.out (Nat.le_of_lt HLT.out)).trans b8⟩
    | ok x =>
      obtain ⟨rfl, h4, h16⟩ := HGX.out x rfl
      have HZ2 : Hid (Z = R) := Lib.hid HZ.out
      have HC := Lib.hid (HKX.out (by omega))
      have HB2 : Hid (Calls Tryz.prog 166 #[.pointer (some ⟨p, 0, none⟩), .string nm] w1 fun e w' => e = .returned (.tuple #[]) ∧ ∃ v', RdB w' p s i op v' (L ++ [(⟨0, nm, ⟨#[]⟩, 0, 0⟩ : CR)]) ∧ Fr p v v' w1 w') := Lib.hid HB1.out
      clear h16
      refine HB2.out.mono ?_
      rintro e w2 ⟨rfl, v2, r2, f2⟩
      obtain ⟨q, cap, rfl, hpq, _⟩ := r2.addr (by simp)
      have c3 := r2.c3
      have HFR := Lib.hid (R1.out.2.trans f2)
      have HFA := Lib.hid r2.far
      have HPL := Lib.hid r2.lt
      have HC2 := Lib.hid (HC.out w2 q cap hpq r2 (HL.out.fr HFR.out (Nat.le_of_lt HLT.out) HF.out))
      clear r2 f2 HC HB1 HB2 HZ
      go_wp2_with fail
      refine HC2.out.mono ?_
      intro e w3 h3
      cases R with
      | bad m =>
        obtain ⟨he, b3⟩ : e = thr m ∧ Below p w2 w3 := h3
        unfold thr at he
        subst he
        (try go_wp2_with fail)
        rw [HZ2.out]
        simp only [bodyPost]
        exact ⟨trivial, rfl, (HFR.out.below HF.out (Nat.le_of_lt HLT.out)).trans b3⟩
      | ok y =>
        obtain ⟨j, M⟩ := y
        obtain ⟨rfl, v3, r3, f3⟩ : e = .returned (.tuple #[]) ∧ ∃ v', RdB w3 p s j op v' M ∧ Fr p _ v' w2 w3 := h3
        have R3 := Lib.hid (And.intro r3 (HFR.out.trans f3))
        clear r3 f3
        go_wp2_with fail
        go_end0
        rw [HZ2.out]
        exact ⟨rfl, _, R3.out.1, R3.out.2⟩
  by_cases k48 : b = 48
  · subst k48
    have HGX := Lib.hid (fun x (e : G = .ok x) => have h := HGO.out x e; And.intro h.1 (And.intro h.2.1 trivial))
    have HKX := Lib.hid (HK7.out (.inr (by decide)))
    clear HGO HK1 HK2 HK3 HK4 HK5 HK6 HK7
    have HZ : Hid (Z = G.bind fun _ => R) := Lib.hid (by rw [hZ, if_neg (by decide)])
    clear hZ
    go_enter Tryz.func154, Tryz.ntmps154
    go_wp2_with (go_at_call 160; refine HP.out.mono ?_; rintro e w1 ⟨rfl, d⟩; have R1 := Lib.hid (H.out.dr d); clear d)
    have HB1 := Lib.hid (HBG.out w1 R1.out.1)
    cases G with
    | bad m =>
      have HZ2 : Hid (Z = .bad m) := Lib.hid HZ.out
      have HB2 : Hid (Calls Tryz.prog 166 #[.pointer (some ⟨p, 0, none⟩), .string nm] w1 fun e w' => e = thr m ∧ Below p w1 w') := Lib.hid HB1.out
      refine HB2.out.mono ?_
      rintro e w8 ⟨he, b8⟩
      unfold thr at he
      subst he
      (try go_wp2_with fail)
      rw [HZ2.out]
      simp only [bodyPost]
      exact ⟨trivial, rfl, (R1.out.2.below HF.out (Nat.le_of_lt HLT.out)).trans b8⟩
    | ok x =>
      obtain ⟨rfl, h4, h16⟩ := HGX.out x rfl
      have HZ2 : Hid (Z = R) := Lib.hid HZ.out
      have HC := Lib.hid (HKX.out (by omega))
      have HB2 : Hid (Calls Tryz.prog 166 #[.pointer (some ⟨p, 0, none⟩), .string nm] w1 fun e w' => e = .returned (.tuple #[]) ∧ ∃ v', RdB w' p s i op v' (L ++ [(⟨0, nm, ⟨#[]⟩, 0, 0⟩ : CR)]) ∧ Fr p v v' w1 w') := Lib.hid HB1.out
      clear h16
      refine HB2.out.mono ?_
      rintro e w2 ⟨rfl, v2, r2, f2⟩
      obtain ⟨q, cap, rfl, hpq, _⟩ := r2.addr (by simp)
      have c3 := r2.c3
      have HFR := Lib.hid (R1.out.2.trans f2)
      have HFA := Lib.hid r2.far
      have HPL := Lib.hid r2.lt
      have HC2 := Lib.hid (HC.out w2 q cap hpq r2 (HL.out.fr HFR.out (Nat.le_of_lt HLT.out) HF.out))
      clear r2 f2 HC HB1 HB2 HZ
      go_wp2_with fail
      refine HC2.out.mono ?_
      intro e w3 h3
      cases R with
      | bad m =>
        obtain ⟨he, b3⟩ : e = thr m ∧ Below p w2 w3 := h3
        unfold thr at he
        subst he
        (try go_wp2_with fail)
        rw [HZ2.out]
        simp only [bodyPost]
        exact ⟨trivial, rfl, (HFR.out.below HF.out (Nat.le_of_lt HLT.out)).trans b3⟩
      | ok y =>
        obtain ⟨j, M⟩ := y
        obtain ⟨rfl, v3, r3, f3⟩ : e = .returned (.tuple #[]) ∧ ∃ v', RdB w3 p s j op v' M ∧ Fr p _ v' w2 w3 := h3
        have R3 := Lib.hid (And.intro r3 (HFR.out.trans f3))
        clear r3 f3
        go_wp2_with fail
        go_end0
        rw [HZ2.out]
        exact ⟨rfl, _, R3.out.1, R3.out.2⟩
  by_cases k49 : b = 49
  · subst k49
    have HGX := Lib.hid (fun x (e : G = .ok x) => have h := HGO.out x e; And.intro h.1 (And.intro h.2.1 trivial))
    have HKX := Lib.hid (HK7.out (.inr (by decide)))
    clear HGO HK1 HK2 HK3 HK4 HK5 HK6 HK7
    have HZ : Hid (Z = G.bind fun _ => R) := Lib.hid (by rw [hZ, if_neg (by decide)])
    clear hZ
    go_enter Tryz.func154, Tryz.ntmps154
    go_wp2_with (go_at_call 160; refine HP.out.mono ?_; rintro e w1 ⟨rfl, d⟩; have R1 := Lib.hid (H.out.dr d); clear d)
    have HB1 := Lib.hid (HBG.out w1 R1.out.1)
    cases G with
    | bad m =>
      have HZ2 : Hid (Z = .bad m) := Lib.hid HZ.out
      have HB2 : Hid (Calls Tryz.prog 166 #[.pointer (some ⟨p, 0, none⟩), .string nm] w1 fun e w' => e = thr m ∧ Below p w1 w') := Lib.hid HB1.out
      refine HB2.out.mono ?_
      rintro e w8 ⟨he, b8⟩
      unfold thr at he
      subst he
      (try go_wp2_with fail)
      rw [HZ2.out]
      simp only [bodyPost]
      exact ⟨trivial, rfl, (R1.out.2.below HF.out (Nat.le_of_lt HLT.out)).trans b8⟩
    | ok x =>
      obtain ⟨rfl, h4, h16⟩ := HGX.out x rfl
      have HZ2 : Hid (Z = R) := Lib.hid HZ.out
      have HC := Lib.hid (HKX.out (by omega))
      have HB2 : Hid (Calls Tryz.prog 166 #[.pointer (some ⟨p, 0, none⟩), .string nm] w1 fun e w' => e = .returned (.tuple #[]) ∧ ∃ v', RdB w' p s i op v' (L ++ [(⟨0, nm, ⟨#[]⟩, 0, 0⟩ : CR)]) ∧ Fr p v v' w1 w') := Lib.hid HB1.out
      clear h16
      refine HB2.out.mono ?_
      rintro e w2 ⟨rfl, v2, r2, f2⟩
      obtain ⟨q, cap, rfl, hpq, _⟩ := r2.addr (by simp)
      have c3 := r2.c3
      have HFR := Lib.hid (R1.out.2.trans f2)
      have HFA := Lib.hid r2.far
      have HPL := Lib.hid r2.lt
      have HC2 := Lib.hid (HC.out w2 q cap hpq r2 (HL.out.fr HFR.out (Nat.le_of_lt HLT.out) HF.out))
      clear r2 f2 HC HB1 HB2 HZ
      go_wp2_with fail
      refine HC2.out.mono ?_
      intro e w3 h3
      cases R with
      | bad m =>
        obtain ⟨he, b3⟩ : e = thr m ∧ Below p w2 w3 := h3
        unfold thr at he
        subst he
        (try go_wp2_with fail)
        rw [HZ2.out]
        simp only [bodyPost]
        exact ⟨trivial, rfl, (HFR.out.below HF.out (Nat.le_of_lt HLT.out)).trans b3⟩
      | ok y =>
        obtain ⟨j, M⟩ := y
        obtain ⟨rfl, v3, r3, f3⟩ : e = .returned (.tuple #[]) ∧ ∃ v', RdB w3 p s j op v' M ∧ Fr p _ v' w2 w3 := h3
        have R3 := Lib.hid (And.intro r3 (HFR.out.trans f3))
        clear r3 f3
        go_wp2_with fail
        go_end0
        rw [HZ2.out]
        exact ⟨rfl, _, R3.out.1, R3.out.2⟩
  by_cases k50 : b = 50
  · subst k50
    have HGX := Lib.hid (fun x (e : G = .ok x) => have h := HGO.out x e; And.intro h.1 (And.intro h.2.1 trivial))
    have HKX := Lib.hid (HK7.out (.inr (by decide)))
    clear HGO HK1 HK2 HK3 HK4 HK5 HK6 HK7
    have HZ : Hid (Z = G.bind fun _ => R) := Lib.hid (by rw [hZ, if_neg (by decide)])
    clear hZ
    go_enter Tryz.func154, Tryz.ntmps154
    go_wp2_with (go_at_call 160; refine HP.out.mono ?_; rintro e w1 ⟨rfl, d⟩; have R1 := Lib.hid (H.out.dr d); clear d)
    have HB1 := Lib.hid (HBG.out w1 R1.out.1)
    cases G with
    | bad m =>
      have HZ2 : Hid (Z = .bad m) := Lib.hid HZ.out
      have HB2 : Hid (Calls Tryz.prog 166 #[.pointer (some ⟨p, 0, none⟩), .string nm] w1 fun e w' => e = thr m ∧ Below p w1 w') := Lib.hid HB1.out
      refine HB2.out.mono ?_
      rintro e w8 ⟨he, b8⟩
      unfold thr at he
      subst he
      (try go_wp2_with fail)
      rw [HZ2.out]
      simp only [bodyPost]
      exact ⟨trivial, rfl, (R1.out.2.below HF.out (Nat.le_of_lt HLT.out)).trans b8⟩
    | ok x =>
      obtain ⟨rfl, h4, h16⟩ := HGX.out x rfl
      have HZ2 : Hid (Z = R) := Lib.hid HZ.out
      have HC := Lib.hid (HKX.out (by omega))
      have HB2 : Hid (Calls Tryz.prog 166 #[.pointer (some ⟨p, 0, none⟩), .string nm] w1 fun e w' => e = .returned (.tuple #[]) ∧ ∃ v', RdB w' p s i op v' (L ++ [(⟨0, nm, ⟨#[]⟩, 0, 0⟩ : CR)]) ∧ Fr p v v' w1 w') := Lib.hid HB1.out
      clear h16
      refine HB2.out.mono ?_
      rintro e w2 ⟨rfl, v2, r2, f2⟩
      obtain ⟨q, cap, rfl, hpq, _⟩ := r2.addr (by simp)
      have c3 := r2.c3
      have HFR := Lib.hid (R1.out.2.trans f2)
      have HFA := Lib.hid r2.far
      have HPL := Lib.hid r2.lt
      have HC2 := Lib.hid (HC.out w2 q cap hpq r2 (HL.out.fr HFR.out (Nat.le_of_lt HLT.out) HF.out))
      clear r2 f2 HC HB1 HB2 HZ
      go_wp2_with fail
      refine HC2.out.mono ?_
      intro e w3 h3
      cases R with
      | bad m =>
        obtain ⟨he, b3⟩ : e = thr m ∧ Below p w2 w3 := h3
        unfold thr at he
        subst he
        (try go_wp2_with fail)
        rw [HZ2.out]
        simp only [bodyPost]
        exact ⟨trivial, rfl, (HFR.out.below HF.out (Nat.le_of_lt HLT.out)).trans b3⟩
      | ok y =>
        obtain ⟨j, M⟩ := y
        obtain ⟨rfl, v3, r3, f3⟩ : e = .returned (.tuple #[]) ∧ ∃ v', RdB w3 p s j op v' M ∧ Fr p _ v' w2 w3 := h3
        have R3 := Lib.hid (And.intro r3 (HFR.out.trans f3))
        clear r3 f3
        go_wp2_with fail
        go_end0
        rw [HZ2.out]
        exact ⟨rfl, _, R3.out.1, R3.out.2⟩
  by_cases k51 : b = 51
  · subst k51
    have HGX := Lib.hid (fun x (e : G = .ok x) => have h := HGO.out x e; And.intro h.1 (And.intro h.2.1 trivial))
    have HKX := Lib.hid (HK7.out (.inr (by decide)))
    clear HGO HK1 HK2 HK3 HK4 HK5 HK6 HK7
    have HZ : Hid (Z = G.bind fun _ => R) := Lib.hid (by rw [hZ, if_neg (by decide)])
    clear hZ
    go_enter Tryz.func154, Tryz.ntmps154
    go_wp2_with (go_at_call 160; refine HP.out.mono ?_; rintro e w1 ⟨rfl, d⟩; have R1 := Lib.hid (H.out.dr d); clear d)
    have HB1 := Lib.hid (HBG.out w1 R1.out.1)
    cases G with
    | bad m =>
      have HZ2 : Hid (Z = .bad m) := Lib.hid HZ.out
      have HB2 : Hid (Calls Tryz.prog 166 #[.pointer (some ⟨p, 0, none⟩), .string nm] w1 fun e w' => e = thr m ∧ Below p w1 w') := Lib.hid HB1.out
      refine HB2.out.mono ?_
      rintro e w8 ⟨he, b8⟩
      unfold thr at he
      subst he
      (try go_wp2_with fail)
      rw [HZ2.out]
      simp only [bodyPost]
      exact ⟨trivial, rfl, (R1.out.2.below HF.out (Nat.le_of_lt HLT.out)).trans b8⟩
    | ok x =>
      obtain ⟨rfl, h4, h16⟩ := HGX.out x rfl
      have HZ2 : Hid (Z = R) := Lib.hid HZ.out
      have HC := Lib.hid (HKX.out (by omega))
      have HB2 : Hid (Calls Tryz.prog 166 #[.pointer (some ⟨p, 0, none⟩), .string nm] w1 fun e w' => e = .returned (.tuple #[]) ∧ ∃ v', RdB w' p s i op v' (L ++ [(⟨0, nm, ⟨#[]⟩, 0, 0⟩ : CR)]) ∧ Fr p v v' w1 w') := Lib.hid HB1.out
      clear h16
      refine HB2.out.mono ?_
      rintro e w2 ⟨rfl, v2, r2, f2⟩
      obtain ⟨q, cap, rfl, hpq, _⟩ := r2.addr (by simp)
      have c3 := r2.c3
      have HFR := Lib.hid (R1.out.2.trans f2)
      have HFA := Lib.hid r2.far
      have HPL := Lib.hid r2.lt
      have HC2 := Lib.hid (HC.out w2 q cap hpq r2 (HL.out.fr HFR.out (Nat.le_of_lt HLT.out) HF.out))
      clear r2 f2 HC HB1 HB2 HZ
      go_wp2_with fail
      refine HC2.out.mono ?_
      intro e w3 h3
      cases R with
      | bad m =>
        obtain ⟨he, b3⟩ : e = thr m ∧ Below p w2 w3 := h3
        unfold thr at he
        subst he
        (try go_wp2_with fail)
        rw [HZ2.out]
        simp only [bodyPost]
        exact ⟨trivial, rfl, (HFR.out.below HF.out (Nat.le_of_lt HLT.out)).trans b3⟩
      | ok y =>
        obtain ⟨j, M⟩ := y
        obtain ⟨rfl, v3, r3, f3⟩ : e = .returned (.tuple #[]) ∧ ∃ v', RdB w3 p s j op v' M ∧ Fr p _ v' w2 w3 := h3
        have R3 := Lib.hid (And.intro r3 (HFR.out.trans f3))
        clear r3 f3
        go_wp2_with fail
        go_end0
        rw [HZ2.out]
        exact ⟨rfl, _, R3.out.1, R3.out.2⟩
  by_cases k52 : b = 52
  · subst k52
    have HGX := Lib.hid (fun x (e : G = .ok x) => have h := HGO.out x e; And.intro h.1 (And.intro h.2.1 trivial))
    have HKX := Lib.hid (HK7.out (.inr (by decide)))
    clear HGO HK1 HK2 HK3 HK4 HK5 HK6 HK7
    have HZ : Hid (Z = G.bind fun _ => R) := Lib.hid (by rw [hZ, if_neg (by decide)])
    clear hZ
    go_enter Tryz.func154, Tryz.ntmps154
    go_wp2_with (go_at_call 160; refine HP.out.mono ?_; rintro e w1 ⟨rfl, d⟩; have R1 := Lib.hid (H.out.dr d); clear d)
    have HB1 := Lib.hid (HBG.out w1 R1.out.1)
    cases G with
    | bad m =>
      have HZ2 : Hid (Z = .bad m) := Lib.hid HZ.out
      have HB2 : Hid (Calls Tryz.prog 166 #[.pointer (some ⟨p, 0, none⟩), .string nm] w1 fun e w' => e = thr m ∧ Below p w1 w') := Lib.hid HB1.out
      refine HB2.out.mono ?_
      rintro e w8 ⟨he, b8⟩
      unfold thr at he
      subst he
      (try go_wp2_with fail)
      rw [HZ2.out]
      simp only [bodyPost]
      exact ⟨trivial, rfl, (R1.out.2.below HF.out (Nat.le_of_lt HLT.out)).trans b8⟩
    | ok x =>
      obtain ⟨rfl, h4, h16⟩ := HGX.out x rfl
      have HZ2 : Hid (Z = R) := Lib.hid HZ.out
      have HC := Lib.hid (HKX.out (by omega))
      have HB2 : Hid (Calls Tryz.prog 166 #[.pointer (some ⟨p, 0, none⟩), .string nm] w1 fun e w' => e = .returned (.tuple #[]) ∧ ∃ v', RdB w' p s i op v' (L ++ [(⟨0, nm, ⟨#[]⟩, 0, 0⟩ : CR)]) ∧ Fr p v v' w1 w') := Lib.hid HB1.out
      clear h16
      refine HB2.out.mono ?_
      rintro e w2 ⟨rfl, v2, r2, f2⟩
      obtain ⟨q, cap, rfl, hpq, _⟩ := r2.addr (by simp)
      have c3 := r2.c3
      have HFR := Lib.hid (R1.out.2.trans f2)
      have HFA := Lib.hid r2.far
      have HPL := Lib.hid r2.lt
      have HC2 := Lib.hid (HC.out w2 q cap hpq r2 (HL.out.fr HFR.out (Nat.le_of_lt HLT.out) HF.out))
      clear r2 f2 HC HB1 HB2 HZ
      go_wp2_with fail
      refine HC2.out.mono ?_
      intro e w3 h3
      cases R with
      | bad m =>
        obtain ⟨he, b3⟩ : e = thr m ∧ Below p w2 w3 := h3
        unfold thr at he
        subst he
        (try go_wp2_with fail)
        rw [HZ2.out]
        simp only [bodyPost]
        exact ⟨trivial, rfl, (HFR.out.below HF.out (Nat.le_of_lt HLT.out)).trans b3⟩
      | ok y =>
        obtain ⟨j, M⟩ := y
        obtain ⟨rfl, v3, r3, f3⟩ : e = .returned (.tuple #[]) ∧ ∃ v', RdB w3 p s j op v' M ∧ Fr p _ v' w2 w3 := h3
        have R3 := Lib.hid (And.intro r3 (HFR.out.trans f3))
        clear r3 f3
        go_wp2_with fail
        go_end0
        rw [HZ2.out]
        exact ⟨rfl, _, R3.out.1, R3.out.2⟩
  by_cases k53 : b = 53
  · subst k53
    have HGX := Lib.hid (fun x (e : G = .ok x) => have h := HGO.out x e; And.intro h.1 (And.intro h.2.1 trivial))
    have HKX := Lib.hid (HK7.out (.inr (by decide)))
    clear HGO HK1 HK2 HK3 HK4 HK5 HK6 HK7
    have HZ : Hid (Z = G.bind fun _ => R) := Lib.hid (by rw [hZ, if_neg (by decide)])
    clear hZ
    go_enter Tryz.func154, Tryz.ntmps154
    go_wp2_with (go_at_call 160; refine HP.out.mono ?_; rintro e w1 ⟨rfl, d⟩; have R1 := Lib.hid (H.out.dr d); clear d)
    have HB1 := Lib.hid (HBG.out w1 R1.out.1)
    cases G with
    | bad m =>
      have HZ2 : Hid (Z = .bad m) := Lib.hid HZ.out
      have HB2 : Hid (Calls Tryz.prog 166 #[.pointer (some ⟨p, 0, none⟩), .string nm] w1 fun e w' => e = thr m ∧ Below p w1 w') := Lib.hid HB1.out
      refine HB2.out.mono ?_
      rintro e w8 ⟨he, b8⟩
      unfold thr at he
      subst he
      (try go_wp2_with fail)
      rw [HZ2.out]
      simp only [bodyPost]
      exact ⟨trivial, rfl, (R1.out.2.below HF.out (Nat.le_of_lt HLT.out)).trans b8⟩
    | ok x =>
      obtain ⟨rfl, h4, h16⟩ := HGX.out x rfl
      have HZ2 : Hid (Z = R) := Lib.hid HZ.out
      have HC := Lib.hid (HKX.out (by omega))
      have HB2 : Hid (Calls Tryz.prog 166 #[.pointer (some ⟨p, 0, none⟩), .string nm] w1 fun e w' => e = .returned (.tuple #[]) ∧ ∃ v', RdB w' p s i op v' (L ++ [(⟨0, nm, ⟨#[]⟩, 0, 0⟩ : CR)]) ∧ Fr p v v' w1 w') := Lib.hid HB1.out
      clear h16
      refine HB2.out.mono ?_
      rintro e w2 ⟨rfl, v2, r2, f2⟩
      obtain ⟨q, cap, rfl, hpq, _⟩ := r2.addr (by simp)
      have c3 := r2.c3
      have HFR := Lib.hid (R1.out.2.trans f2)
      have HFA := Lib.hid r2.far
      have HPL := Lib.hid r2.lt
      have HC2 := Lib.hid (HC.out w2 q cap hpq r2 (HL.out.fr HFR.out (Nat.le_of_lt HLT.out) HF.out))
      clear r2 f2 HC HB1 HB2 HZ
      go_wp2_with fail
      refine HC2.out.mono ?_
      intro e w3 h3
      cases R with
      | bad m =>
        obtain ⟨he, b3⟩ : e = thr m ∧ Below p w2 w3 := h3
        unfold thr at he
        subst he
        (try go_wp2_with fail)
        rw [HZ2.out]
        simp only [bodyPost]
        exact ⟨trivial, rfl, (HFR.out.below HF.out (Nat.le_of_lt HLT.out)).trans b3⟩
      | ok y =>
        obtain ⟨j, M⟩ := y
        obtain ⟨rfl, v3, r3, f3⟩ : e = .returned (.tuple #[]) ∧ ∃ v', RdB w3 p s j op v' M ∧ Fr p _ v' w2 w3 := h3
        have R3 := Lib.hid (And.intro r3 (HFR.out.trans f3))
        clear r3 f3
        go_wp2_with fail
        go_end0
        rw [HZ2.out]
        exact ⟨rfl, _, R3.out.1, R3.out.2⟩
  by_cases k54 : b = 54
  · subst k54
    have HGX := Lib.hid (fun x (e : G = .ok x) => have h := HGO.out x e; And.intro h.1 (And.intro h.2.1 trivial))
    have HKX := Lib.hid (HK7.out (.inr (by decide)))
    clear HGO HK1 HK2 HK3 HK4 HK5 HK6 HK7
    have HZ : Hid (Z = G.bind fun _ => R) := Lib.hid (by rw [hZ, if_neg (by decide)])
    clear hZ
    go_enter Tryz.func154, Tryz.ntmps154
    go_wp2_with (go_at_call 160; refine HP.out.mono ?_; rintro e w1 ⟨rfl, d⟩; have R1 := Lib.hid (H.out.dr d); clear d)
    have HB1 := Lib.hid (HBG.out w1 R1.out.1)
    cases G with
    | bad m =>
      have HZ2 : Hid (Z = .bad m) := Lib.hid HZ.out
      have HB2 : Hid (Calls Tryz.prog 166 #[.pointer (some ⟨p, 0, none⟩), .string nm] w1 fun e w' => e = thr m ∧ Below p w1 w') := Lib.hid HB1.out
      refine HB2.out.mono ?_
      rintro e w8 ⟨he, b8⟩
      unfold thr at he
      subst he
      (try go_wp2_with fail)
      rw [HZ2.out]
      simp only [bodyPost]
      exact ⟨trivial, rfl, (R1.out.2.below HF.out (Nat.le_of_lt HLT.out)).trans b8⟩
    | ok x =>
      obtain ⟨rfl, h4, h16⟩ := HGX.out x rfl
      have HZ2 : Hid (Z = R) := Lib.hid HZ.out
      have HC := Lib.hid (HKX.out (by omega))
      have HB2 : Hid (Calls Tryz.prog 166 #[.pointer (some ⟨p, 0, none⟩), .string nm] w1 fun e w' => e = .returned (.tuple #[]) ∧ ∃ v', RdB w' p s i op v' (L ++ [(⟨0, nm, ⟨#[]⟩, 0, 0⟩ : CR)]) ∧ Fr p v v' w1 w') := Lib.hid HB1.out
      clear h16
      refine HB2.out.mono ?_
      rintro e w2 ⟨rfl, v2, r2, f2⟩
      obtain ⟨q, cap, rfl, hpq, _⟩ := r2.addr (by simp)
      have c3 := r2.c3
      have HFR := Lib.hid (R1.out.2.trans f2)
      have HFA := Lib.hid r2.far
      have HPL := Lib.hid r2.lt
      have HC2 := Lib.hid (HC.out w2 q cap hpq r2 (HL.out.fr HFR.out (Nat.le_of_lt HLT.out) HF.out))
      clear r2 f2 HC HB1 HB2 HZ
      go_wp2_with fail
      refine HC2.out.mono ?_
      intro e w3 h3
      cases R with
      | bad m =>
        obtain ⟨he, b3⟩ : e = thr m ∧ Below p w2 w3 := h3
        unfold thr at he
        subst he
        (try go_wp2_with fail)
        rw [HZ2.out]
        simp only [bodyPost]
        exact ⟨trivial, rfl, (HFR.out.below HF.out (Nat.le_of_lt HLT.out)).trans b3⟩
      | ok y =>
        obtain ⟨j, M⟩ := y
        obtain ⟨rfl, v3, r3, f3⟩ : e = .returned (.tuple #[]) ∧ ∃ v', RdB w3 p s j op v' M ∧ Fr p _ v' w2 w3 := h3
        have R3 := Lib.hid (And.intro r3 (HFR.out.trans f3))
        clear r3 f3
        go_wp2_with fail
        go_end0
        rw [HZ2.out]
        exact ⟨rfl, _, R3.out.1, R3.out.2⟩
  by_cases k55 : b = 55
  · subst k55
    have HGX := Lib.hid (fun x (e : G = .ok x) => have h := HGO.out x e; And.intro h.1 (And.intro h.2.1 trivial))
    have HKX := Lib.hid (HK7.out (.inr (by decide)))
    clear HGO HK1 HK2 HK3 HK4 HK5 HK6 HK7
    have HZ : Hid (Z = G.bind fun _ => R) := Lib.hid (by rw [hZ, if_neg (by decide)])
    clear hZ
    go_enter Tryz.func154, Tryz.ntmps154
    go_wp2_with (go_at_call 160; refine HP.out.mono ?_; rintro e w1 ⟨rfl, d⟩; have R1 := Lib.hid (H.out.dr d); clear d)
    have HB1 := Lib.hid (HBG.out w1 R1.out.1)
    cases G with
    | bad m =>
      have HZ2 : Hid (Z = .bad m) := Lib.hid HZ.out
      have HB2 : Hid (Calls Tryz.prog 166 #[.pointer (some ⟨p, 0, none⟩), .string nm] w1 fun e w' => e = thr m ∧ Below p w1 w') := Lib.hid HB1.out
      refine HB2.out.mono ?_
      rintro e w8 ⟨he, b8⟩
      unfold thr at he
      subst he
      (try go_wp2_with fail)
      rw [HZ2.out]
      simp only [bodyPost]
      exact ⟨trivial, rfl, (R1.out.2.below HF.out (Nat.le_of_lt HLT.out)).trans b8⟩
    | ok x =>
      obtain ⟨rfl, h4, h16⟩ := HGX.out x rfl
      have HZ2 : Hid (Z = R) := Lib.hid HZ.out
      have HC := Lib.hid (HKX.out (by omega))
      have HB2 : Hid (Calls Tryz.prog 166 #[.pointer (some ⟨p, 0, none⟩), .string nm] w1 fun e w' => e = .returned (.tuple #[]) ∧ ∃ v', RdB w' p s i op v' (L ++ [(⟨0, nm, ⟨#[]⟩, 0, 0⟩ : CR)]) ∧ Fr p v v' w1 w') := Lib.hid HB1.out
      clear h16
      refine HB2.out.mono ?_
      rintro e w2 ⟨rfl, v2, r2, f2⟩
      obtain ⟨q, cap, rfl, hpq, _⟩ := r2.addr (by simp)
      have c3 := r2.c3
      have HFR := Lib.hid (R1.out.2.trans f2)
      have HFA := Lib.hid r2.far
      have HPL := Lib.hid r2.lt
      have HC2 := Lib.hid (HC.out w2 q cap hpq r2 (HL.out.fr HFR.out (Nat.le_of_lt HLT.out) HF.out))
      clear r2 f2 HC HB1 HB2 HZ
      go_wp2_with fail
      refine HC2.out.mono ?_
      intro e w3 h3
      cases R with
      | bad m =>
        obtain ⟨he, b3⟩ : e = thr m ∧ Below p w2 w3 := h3
        unfold thr at he
        subst he
        (try go_wp2_with fail)
        rw [HZ2.out]
        simp only [bodyPost]
        exact ⟨trivial, rfl, (HFR.out.below HF.out (Nat.le_of_lt HLT.out)).trans b3⟩
      | ok y =>
        obtain ⟨j, M⟩ := y
        obtain ⟨rfl, v3, r3, f3⟩ : e = .returned (.tuple #[]) ∧ ∃ v', RdB w3 p s j op v' M ∧ Fr p _ v' w2 w3 := h3
        have R3 := Lib.hid (And.intro r3 (HFR.out.trans f3))
        clear r3 f3
        go_wp2_with fail
        go_end0
        rw [HZ2.out]
        exact ⟨rfl, _, R3.out.1, R3.out.2⟩
  by_cases k56 : b = 56
  · subst k56
    have HGX := Lib.hid (fun x (e : G = .ok x) => have h := HGO.out x e; And.intro h.1 (And.intro h.2.1 trivial))
    have HKX := Lib.hid (HK7.out (.inr (by decide)))
    clear HGO HK1 HK2 HK3 HK4 HK5 HK6 HK7
    have HZ : Hid (Z = G.bind fun _ => R) := Lib.hid (by rw [hZ, if_neg (by decide)])
    clear hZ
    go_enter Tryz.func154, Tryz.ntmps154
    go_wp2_with (go_at_call 160; refine HP.out.mono ?_; rintro e w1 ⟨rfl, d⟩; have R1 := Lib.hid (H.out.dr d); clear d)
    have HB1 := Lib.hid (HBG.out w1 R1.out.1)
    cases G with
    | bad m =>
      have HZ2 : Hid (Z = .bad m) := Lib.hid HZ.out
      have HB2 : Hid (Calls Tryz.prog 166 #[.pointer (some ⟨p, 0, none⟩), .string nm] w1 fun e w' => e = thr m ∧ Below p w1 w') := Lib.hid HB1.out
      refine HB2.out.mono ?_
      rintro e w8 ⟨he, b8⟩
      unfold thr at he
      subst he
      (try go_wp2_with fail)
      rw [HZ2.out]
      simp only [bodyPost]
      exact ⟨trivial, rfl, (R1.out.2.below HF.out (Nat.le_of_lt HLT.out)).trans b8⟩
    | ok x =>
      obtain ⟨rfl, h4, h16⟩ := HGX.out x rfl
      have HZ2 : Hid (Z = R) := Lib.hid HZ.out
      have HC := Lib.hid (HKX.out (by omega))
      have HB2 : Hid (Calls Tryz.prog 166 #[.pointer (some ⟨p, 0, none⟩), .string nm] w1 fun e w' => e = .returned (.tuple #[]) ∧ ∃ v', RdB w' p s i op v' (L ++ [(⟨0, nm, ⟨#[]⟩, 0, 0⟩ : CR)]) ∧ Fr p v v' w1 w') := Lib.hid HB1.out
      clear h16
      refine HB2.out.mono ?_
      rintro e w2 ⟨rfl, v2, r2, f2⟩
      obtain ⟨q, cap, rfl, hpq, _⟩ := r2.addr (by simp)
      have c3 := r2.c3
      have HFR := Lib.hid (R1.out.2.trans f2)
      have HFA := Lib.hid r2.far
      have HPL := Lib.hid r2.lt
      have HC2 := Lib.hid (HC.out w2 q cap hpq r2 (HL.out.fr HFR.out (Nat.le_of_lt HLT.out) HF.out))
      clear r2 f2 HC HB1 HB2 HZ
      go_wp2_with fail
      refine HC2.out.mono ?_
      intro e w3 h3
      cases R with
      | bad m =>
        obtain ⟨he, b3⟩ : e = thr m ∧ Below p w2 w3 := h3
        unfold thr at he
        subst he
        (try go_wp2_with fail)
        rw [HZ2.out]
        simp only [bodyPost]
        exact ⟨trivial, rfl, (HFR.out.below HF.out (Nat.le_of_lt HLT.out)).trans b3⟩
      | ok y =>
        obtain ⟨j, M⟩ := y
        obtain ⟨rfl, v3, r3, f3⟩ : e = .returned (.tuple #[]) ∧ ∃ v', RdB w3 p s j op v' M ∧ Fr p _ v' w2 w3 := h3
        have R3 := Lib.hid (And.intro r3 (HFR.out.trans f3))
        clear r3 f3
        go_wp2_with fail
        go_end0
        rw [HZ2.out]
        exact ⟨rfl, _, R3.out.1, R3.out.2⟩
  by_cases k57 : b = 57
  · subst k57
    have HGX := Lib.hid (fun x (e : G = .ok x) => have h := HGO.out x e; And.intro h.1 (And.intro h.2.1 trivial))
    have HKX := Lib.hid (HK7.out (.inr (by decide)))
    clear HGO HK1 HK2 HK3 HK4 HK5 HK6 HK7
    have HZ : Hid (Z = G.bind fun _ => R) := Lib.hid (by rw [hZ, if_neg (by decide)])
    clear hZ
    go_enter Tryz.func154, Tryz.ntmps154
    go_wp2_with (go_at_call 160; refine HP.out.mono ?_; rintro e w1 ⟨rfl, d⟩; have R1 := Lib.hid (H.out.dr d); clear d)
    have HB1 := Lib.hid (HBG.out w1 R1.out.1)
    cases G with
    | bad m =>
      have HZ2 : Hid (Z = .bad m) := Lib.hid HZ.out
      have HB2 : Hid (Calls Tryz.prog 166 #[.pointer (some ⟨p, 0, none⟩), .string nm] w1 fun e w' => e = thr m ∧ Below p w1 w') := Lib.hid HB1.out
      refine HB2.out.mono ?_
      rintro e w8 ⟨he, b8⟩
      unfold thr at he
      subst he
      (try go_wp2_with fail)
      rw [HZ2.out]
      simp only [bodyPost]
      exact ⟨trivial, rfl, (R1.out.2.below HF.out (Nat.le_of_lt HLT.out)).trans b8⟩
    | ok x =>
      obtain ⟨rfl, h4, h16⟩ := HGX.out x rfl
      have HZ2 : Hid (Z = R) := Lib.hid HZ.out
      have HC := Lib.hid (HKX.out (by omega))
      have HB2 : Hid (Calls Tryz.prog 166 #[.pointer (some ⟨p, 0, none⟩), .string nm] w1 fun e w' => e = .returned (.tuple #[]) ∧ ∃ v', RdB w' p s i op v' (L ++ [(⟨0, nm, ⟨#[]⟩, 0, 0⟩ : CR)]) ∧ Fr p v v' w1 w') := Lib.hid HB1.out
      clear h16
      refine HB2.out.mono ?_
      rintro e w2 ⟨rfl, v2, r2, f2⟩
      obtain ⟨q, cap, rfl, hpq, _⟩ := r2.addr (by simp)
      have c3 := r2.c3
      have HFR := Lib.hid (R1.out.2.trans f2)
      have HFA := Lib.hid r2.far
      have HPL := Lib.hid r2.lt
      have HC2 := Lib.hid (HC.out w2 q cap hpq r2 (HL.out.fr HFR.out (Nat.le_of_lt HLT.out) HF.out))
      clear r2 f2 HC HB1 HB2 HZ
      go_wp2_with fail
      refine HC2.out.mono ?_
      intro e w3 h3
      cases R with
      | bad m =>
        obtain ⟨he, b3⟩ : e = thr m ∧ Below p w2 w3 := h3
        unfold thr at he
        subst he
        (try go_wp2_with fail)
        rw [HZ2.out]
        simp only [bodyPost]
        exact ⟨trivial, rfl, (HFR.out.below HF.out (Nat.le_of_lt HLT.out)).trans b3⟩
      | ok y =>
        obtain ⟨j, M⟩ := y
        obtain ⟨rfl, v3, r3, f3⟩ : e = .returned (.tuple #[]) ∧ ∃ v', RdB w3 p s j op v' M ∧ Fr p _ v' w2 w3 := h3
        have R3 := Lib.hid (And.intro r3 (HFR.out.trans f3))
        clear r3 f3
        go_wp2_with fail
        go_end0
        rw [HZ2.out]
        exact ⟨rfl, _, R3.out.1, R3.out.2⟩
  have HZ : Hid (Z = .bad 40) := Lib.hid (by rw [hZ, if_pos]; unfold isSt isDg; simp only [Bool.or_eq_false_iff, Bool.and_eq_false_iff, decide_eq_false_iff_not]; omega)
  have q123 : (b == 123) = false := beq_eq_false_iff_ne.2 k123
  have q91 : (b == 91) = false := beq_eq_false_iff_ne.2 k91
  have q34 : (b == 34) = false := beq_eq_false_iff_ne.2 k34
  have q116 : (b == 116) = false := beq_eq_false_iff_ne.2 k116
  have q102 : (b == 102) = false := beq_eq_false_iff_ne.2 k102
  have q110 : (b == 110) = false := beq_eq_false_iff_ne.2 k110
  have q45 : (b == 45) = false := beq_eq_false_iff_ne.2 k45
  have q48 : (b == 48) = false := beq_eq_false_iff_ne.2 k48
  have q49 : (b == 49) = false := beq_eq_false_iff_ne.2 k49
  have q50 : (b == 50) = false := beq_eq_false_iff_ne.2 k50
  have q51 : (b == 51) = false := beq_eq_false_iff_ne.2 k51
  have q52 : (b == 52) = false := beq_eq_false_iff_ne.2 k52
  have q53 : (b == 53) = false := beq_eq_false_iff_ne.2 k53
  have q54 : (b == 54) = false := beq_eq_false_iff_ne.2 k54
  have q55 : (b == 55) = false := beq_eq_false_iff_ne.2 k55
  have q56 : (b == 56) = false := beq_eq_false_iff_ne.2 k56
  have q57 : (b == 57) = false := beq_eq_false_iff_ne.2 k57
  clear hZ
  go_enter Tryz.func154, Tryz.ntmps154
  go_wp2_with (go_at_call 160; refine HP.out.mono ?_; rintro e w1 ⟨rfl, d⟩; have R1 := Lib.hid (H.out.dr d); clear d)
  rw [HZ.out]
  simp only [bodyPost]
  exact ⟨trivial, rfl, R1.out.2.below HF.out (Nat.le_of_lt HLT.out)⟩
theorem value_all {s : ByteArray} (hs : s.size ≤ 100000) : ∀ f, VC s (f + 1)
  | 0 => value_step (fun h => absurd h (by decide)) hs
  | f + 1 => value_step (fun _ => value_all hs f) hs
end Go.Proofs.YtmkkckhfdafjnaaGreatDoor
/- Layer 4, Read: the deferred closure. -/
namespace Go.Proofs.YtmkkckhfdafjnaaGreatDoor
open Go.RowKit Go.Maps
theorem rcatchI (p q : Addr) (w : World) : CallsD Tryz.prog 152 #[.pointer (some p), .pointer (some q)] .returning w fun e u' w' => e = .returned (.tuple #[]) ∧ u' = .returning ∧ w' = w := by
  have hnil : ∀ w : World, (binOp BinOp.eql 20 .nilIface .nilIface).run Tryz.prog w = .ok (.bool true) w := fun _ => by kernel_rfl
  refine callsD_of_wpS Tryz.func152 rfl fun c₀ cs hu => ?_
  apply wpS_seq
  apply wpS_region
  simp [wpOpsS, go_sem, recoverD, hu, Tryz.ntmps152, Exit.thenS]
  refine wpS_of_wp ?_
  simp only [Array.replicate, List.replicate, List.setIfInBounds_toArray, List.set, List.append_toArray, List.cons_append, List.nil_append]
  go_wp2_with fail
  cases c₀
  simp_all [bodyPostS, results, Tryz.results152]
set_option maxRecDepth 20000 in
theorem rcatchP (a b : Nat) (e : Int) (v0 e0 : Value) (older : List PanicEntry) (w : World) (hp : w.cell? ⟨a, 0, none⟩ = some v0) (hzp : w.frozen? ⟨a, 0, none⟩ = false) (hq : w.cell? ⟨b, 0, none⟩ = some e0) (hzq : w.frozen? ⟨b, 0, none⟩ = false) (hpq : a ≠ b) : CallsD Tryz.prog 152 #[.pointer (some ⟨a, 0, none⟩), .pointer (some ⟨b, 0, none⟩)] (.panicking ({ v := .iface 201 (.int .i64 e), recovered := false } :: older)) w fun x u' w' => x = .returned (.tuple #[]) ∧ u' = .panicking ({ v := .iface 201 (.int .i64 e), recovered := true } :: older) ∧ w' = (w.setCell ⟨a, 0, none⟩ (.slice none 0 0)).setCell ⟨b, 0, none⟩ (.int .i64 e) := by
  have hnil : ∀ w : World, (binOp BinOp.eql 20 (.iface 201 (.int .i64 e)) .nilIface).run Tryz.prog w = .ok (.bool false) w := fun _ => by kernel_rfl
  have hta : ∀ w : World, (Instr.typeAssert (.iface 201 (.int .i64 e)) 20 201 true).run Tryz.prog w = .ok (.tuple #[.int .i64 e, .bool true]) w := fun _ => by kernel_rfl
  refine callsD_of_wpS Tryz.func152 rfl fun c₀ cs hu => ?_
  apply wpS_seq
  apply wpS_region
  simp [wpOpsS, go_sem, recoverD, hu, Tryz.ntmps152, Exit.thenS]
  refine wpS_of_wp ?_
  simp only [Array.replicate, List.replicate, List.setIfInBounds_toArray, List.set, List.append_toArray, List.cons_append, List.nil_append]
  clear hu
  go_wp2_with fail
  cases c₀
  simp_all [bodyPostS, results, Tryz.results152]
end Go.Proofs.YtmkkckhfdafjnaaGreatDoor
/- Layer 4, Read: read. -/
namespace Go.Proofs.YtmkkckhfdafjnaaGreatDoor
open Go.RowKit Go.Maps
/-- What a text that is not too long tells. -/
def readN (s : ByteArray) : Rs (List CR) := (valM s 17 ⟨#[]⟩ 0 (bl s 0) []).bind fun x => if bl s x.1 < s.size then .bad 40 else .ok x.2
/-- Cells are told, or an error. -/
def RdP (w : World) (x : Rs (List CR)) (e : Ending) (w' : World) : Prop := match x with
  | .ok M => ∃ v, e = .returned (.tuple #[v, .int .i64 0]) ∧ w'.ownsRow w.heap.size 46 5 v M.length (rw5 M) ∧ Below w.heap.size w w'
  | .bad m => e = .returned (.tuple #[.slice none 0 0, .int .i64 m]) ∧ Below w.heap.size w w'
set_option maxRecDepth 20000 in
set_option maxHeartbeats 4000000 in
theorem jread_any (s : ByteArray) (w : World) (hl : LimP w.heap.size w) (hs : s.size ≤ 100000) : Calls Tryz.prog 150 #[.string s] w (RdP w (readN s)) := by
  have hmf : ∀ (fn : Fn) (first cap : Array Value) (w : World), (Instr.makeFunc fn first cap).run Tryz.prog w = .ok (.func fn first cap) w := fun _ _ _ _ => rfl
  obtain ⟨W1, hW1⟩ : ∃ W1, W1 = ((w.alloc (.cells #[.slice none 0 0] 37)).alloc (.cells #[.int .i64 0] 23)).alloc (.cells #[.string s, .int .i64 0, .int .i64 0, .slice none 0 0] 204) := ⟨_, rfl⟩
  have hB1 : W1.heap.size = w.heap.size + 3 := by rw [hW1]; simp
  have b1 : Below w.heap.size w W1 := by rw [hW1]; exact (((Below.refl _ _).alloc (Nat.le_refl _) _).alloc (by simp) _).alloc (by simp; omega) _
  have n0 : W1.heap[w.heap.size]? = some (.cells #[.slice none 0 0] 37) := by rw [hW1, heap_alloc_old _ _ (by simp; omega), heap_alloc_old _ _ (by simp), heap_alloc_new]
  have n1 : W1.heap[w.heap.size + 1]? = some (.cells #[.int .i64 0] 23) := by
    have e := heap_alloc_new (w.alloc (.cells #[.slice none 0 0] 37)) (.cells #[.int .i64 0] 23)
    rw [hW1, heap_alloc_old _ _ (by simp)]; simpa using e
  have n2 : W1.heap[w.heap.size + 1 + 1]? = some (.cells #[.string s, .int .i64 0, .int .i64 0, .slice none 0 0] 204) := by
    have e := heap_alloc_new ((w.alloc (.cells #[.slice none 0 0] 37)).alloc (.cells #[.int .i64 0] 23)) (.cells #[.string s, .int .i64 0, .int .i64 0, .slice none 0 0] 204)
    rw [hW1]; simpa using e
  have HR1 : Hid (RdB W1 (w.heap.size + 1 + 1) s 0 0 (.slice none 0 0) []) := Lib.hid ⟨n2, World.ownsRow_nil _ _ _ _⟩
  have HL1 : Hid (LimP (w.heap.size + 1 + 1) W1) := Lib.hid (by
    have e := b1.block _ hl.1
    refine ⟨by have := hl.1; omega, ?_, ?_⟩
    · rw [← hl.2.1]; unfold World.cell?; dsimp only; rw [e]
    · rw [← hl.2.2]; unfold World.cell?; dsimp only; rw [e])
  have HN := Lib.hid (And.intro n0 n1)
  have HB := Lib.hid b1
  have HFA : Hid (∀ k, (Value.slice none 0 0).ownBlock = some k → w.heap.size + 1 + 1 + 1 ≤ k) := Lib.hid (fun k e => by cases e)
  have hbl : bl s 0 ≤ s.size := bl_le (Nat.zero_le _)
  have HBK := Lib.hid (blanks_any W1 HR1.out (by omega) (by omega))
  obtain ⟨Z, hZ⟩ : ∃ Z, Z = readN s := ⟨_, rfl⟩
  rw [← hZ]
  unfold readN at hZ
  obtain ⟨i0, hi0⟩ : ∃ i0, i0 = bl s 0 := ⟨_, rfl⟩
  rw [← hi0] at hbl HBK hZ
  have HV := Lib.hid (fun W (r : RdB W (w.heap.size + 1 + 1) s i0 0 (.slice none 0 0) []) (l : LimP (w.heap.size + 1 + 1) W) => value_all hs 16 (w.heap.size + 1 + 1) i0 0 (.slice none 0 0) [] ⟨#[]⟩ W rfl r l hbl (by decide))
  have HOK := Lib.hid (fun j N => valM_ok s 17 0 ⟨#[]⟩ i0 [] j N hbl (by decide))
  dsimp only at HOK
  obtain ⟨X, hX⟩ : ∃ X, X = valM s 17 ⟨#[]⟩ 0 i0 [] := ⟨_, rfl⟩
  rw [← hX] at HV HOK hZ
  have HZ := Lib.hid hZ
  clear hX hi0 hZ n0 n1 n2 b1 hl hbl
  go_enter_defers Tryz.func150, Tryz.ntmps150
  go_wp2_with fail
  rw [← hW1]
  clear hW1
  refine HBK.out.mono ?_
  rintro e w2 ⟨rfl, r2, f2⟩
  have HV2 := Lib.hid (HV.out w2 r2 (HL1.out.fr f2 (by omega) HFA.out))
  have HF2 := Lib.hid (f2.below HFA.out (by omega))
  clear r2 f2 HV HBK
  go_wp2_with fail
  cases X with
  | bad m =>
    have HV3 : Hid (Calls Tryz.prog 154 #[.pointer (some ⟨w.heap.size + 1 + 1, 0, none⟩), .string ⟨#[]⟩] w2 fun e w' => e = thr m ∧ Below (w.heap.size + 1 + 1) w2 w') := Lib.hid HV2.out
    have HZ2 : Hid (Z = .bad m) := Lib.hid HZ.out
    refine HV3.out.mono ?_
    rintro e w3 ⟨he, b3⟩
    unfold thr at he
    subst he
    have HB3 := Lib.hid (HF2.out.trans b3)
    clear b3
    (try go_wp2_with fail)
    have n0 : w3.heap[w.heap.size]? = some (.cells #[.slice none 0 0] 37) := (HB3.out.block _ (by omega)).trans HN.out.1
    have n1 : w3.heap[w.heap.size + 1]? = some (.cells #[.int .i64 0] 23) := (HB3.out.block _ (by omega)).trans HN.out.2
    refine leaves_cons (f := 152) (args := #[.pointer (some ⟨w.heap.size, 0, none⟩), .pointer (some ⟨w.heap.size + 1, 0, none⟩)]) (by simp) (by simp [go_sem]) ?_
    refine (rcatchP w.heap.size (w.heap.size + 1) m (.slice none 0 0) (.int .i64 0) [] w3 (by simp [World.cell?, n0]) (by simp [World.frozen?, n0]) (by simp [World.cell?, n1]) (by simp [World.frozen?, n1]) (by omega)).mono ?_
    rintro e u' w'' ⟨rfl, rfl, hw⟩
    rw [HZ2.out]
    have m0 : w''.heap[w.heap.size]? = some (.cells #[.slice none 0 0] 37) := by
      rw [hw, Below.heap_setCell _ ⟨w.heap.size + 1, 0, none⟩ _ _ (show w.heap.size ≠ w.heap.size + 1 by omega)]
      simp [World.setCell, Array.getElem?_modify, n0]
    have m1 : w''.heap[w.heap.size + 1]? = some (.cells #[.int .i64 m] 23) := by
      rw [hw]
      simp [World.setCell, Array.getElem?_modify, n1]
    have d0 : w''.cell? ⟨w.heap.size, 0, none⟩ = some (.slice none 0 0) := by simp [World.cell?, m0]
    have d1 : w''.cell? ⟨w.heap.size + 1, 0, none⟩ = some (.int .i64 m) := by simp [World.cell?, m1]
    have bw : Below w.heap.size w w'' := by rw [hw]; exact ((HB.out.trans (HB3.out.mono (by omega))).setCell (by simp) _).setCell (by simp) _
    clear hw
    simp [Leaves, settle, results, Tryz.results150, go_sem, d0, d1]
    exact ⟨rfl, bw⟩
  | ok x =>
    obtain ⟨j, M⟩ := x
    have HV3 : Hid (Calls Tryz.prog 154 #[.pointer (some ⟨w.heap.size + 1 + 1, 0, none⟩), .string ⟨#[]⟩] w2 fun e w' => e = .returned (.tuple #[]) ∧ ∃ v', RdB w' (w.heap.size + 1 + 1) s j 0 v' M ∧ Fr (w.heap.size + 1 + 1) (.slice none 0 0) v' w2 w') := Lib.hid HV2.out
    obtain ⟨g1, g2, g3, g4, g5⟩ := HOK.out j M rfl
    have HZ1 : Hid (Z = if bl s j < s.size then .bad 40 else .ok M) := Lib.hid HZ.out
    clear HV2 HOK HZ g5
    refine HV3.out.mono ?_
    rintro e w3 ⟨rfl, v3, r3, f3⟩
    have hb1 := bl_ge s j
    have hb2 : bl s j ≤ s.size := bl_le g2
    have HB3' := Lib.hid (HF2.out.trans (f3.below HFA.out (by have := HF2.out.size; omega)))
    have HBK := Lib.hid (blanks_any w3 r3 (by omega) (by omega))
    have HR3 := Lib.hid r3
    clear r3 f3
    go_wp2_with fail
    refine HBK.out.mono ?_
    rintro e w4 ⟨rfl, r4, f4⟩
    have HB4 := Lib.hid (HB3'.out.trans (f4.below HR3.out.far (Nat.le_of_lt HR3.out.lt)))
    have c1 := r4.c1
    have c3 := r4.c3
    have HR4 := Lib.hid r4
    obtain ⟨j1, hj1⟩ : ∃ j1, j1 = bl s j := ⟨_, rfl⟩
    rw [← hj1] at c1 hb1 hb2 HZ1 HR4
    clear hj1 r4 f4 HBK
    by_cases hlt : j1 < s.size
    · have hlt2 : (j1 : Int) < s.size := by omega
      have HZ2 : Hid (Z = .bad 40) := Lib.hid (by rw [HZ1.out, if_pos hlt])
      go_wp2_with fail
      have HB3 := HB4
      clear HB4 HB3'
      have n0 : w4.heap[w.heap.size]? = some (.cells #[.slice none 0 0] 37) := (HB3.out.block _ (by omega)).trans HN.out.1
      have n1 : w4.heap[w.heap.size + 1]? = some (.cells #[.int .i64 0] 23) := (HB3.out.block _ (by omega)).trans HN.out.2
      refine leaves_cons (f := 152) (args := #[.pointer (some ⟨w.heap.size, 0, none⟩), .pointer (some ⟨w.heap.size + 1, 0, none⟩)]) (by simp) (by simp [go_sem]) ?_
      refine (rcatchP w.heap.size (w.heap.size + 1) 40 (.slice none 0 0) (.int .i64 0) [] w4 (by simp [World.cell?, n0]) (by simp [World.frozen?, n0]) (by simp [World.cell?, n1]) (by simp [World.frozen?, n1]) (by omega)).mono ?_
      rintro e u' w'' ⟨rfl, rfl, hw⟩
      rw [HZ2.out]
      have m0 : w''.heap[w.heap.size]? = some (.cells #[.slice none 0 0] 37) := by
        rw [hw, Below.heap_setCell _ ⟨w.heap.size + 1, 0, none⟩ _ _ (show w.heap.size ≠ w.heap.size + 1 by omega)]
        simp [World.setCell, Array.getElem?_modify, n0]
      have m1 : w''.heap[w.heap.size + 1]? = some (.cells #[.int .i64 40] 23) := by
        rw [hw]
        simp [World.setCell, Array.getElem?_modify, n1]
      have d0 : w''.cell? ⟨w.heap.size, 0, none⟩ = some (.slice none 0 0) := by simp [World.cell?, m0]
      have d1 : w''.cell? ⟨w.heap.size + 1, 0, none⟩ = some (.int .i64 40) := by simp [World.cell?, m1]
      have bw : Below w.heap.size w w'' := by rw [hw]; exact ((HB.out.trans (HB3.out.mono (by omega))).setCell (by simp) _).setCell (by simp) _
      clear hw
      simp [Leaves, settle, results, Tryz.results150, go_sem, d0, d1]
      exact ⟨rfl, bw⟩
    · have hlt2 : ¬ (j1 : Int) < s.size := by omega
      have HZ2 : Hid (Z = .ok M) := Lib.hid (by rw [HZ1.out, if_neg hlt])
      obtain ⟨q, cap, rfl, hpq, hqs⟩ := HR4.out.addr (by omega)
      have n0 : w4.heap[w.heap.size]? = some (.cells #[.slice none 0 0] 37) := (HB4.out.block _ (by omega)).trans HN.out.1
      have n1 : w4.heap[w.heap.size + 1]? = some (.cells #[.int .i64 0] 23) := (HB4.out.block _ (by omega)).trans HN.out.2
      have k0 : w4.cell? ⟨w.heap.size, 0, none⟩ = some (.slice none 0 0) := by simp [World.cell?, n0]
      have k1 : w4.cell? ⟨w.heap.size + 1, 0, none⟩ = some (.int .i64 0) := by simp [World.cell?, n1]
      have z0 : w4.frozen? ⟨w.heap.size, 0, none⟩ = false := by simp [World.frozen?, n0]
      have z1 : w4.frozen? ⟨w.heap.size + 1, 0, none⟩ = false := by simp [World.frozen?, n1]
      obtain ⟨Wf, hWf⟩ : ∃ Wf, Wf = (w4.setCell ⟨w.heap.size, 0, none⟩ (.slice (some ⟨q, 0, none⟩) M.length cap)).setCell ⟨w.heap.size + 1, 0, none⟩ (.int .i64 0) := ⟨_, rfl⟩
      have m0 : Wf.heap[w.heap.size]? = some (.cells #[.slice (some ⟨q, 0, none⟩) M.length cap] 37) := by
        rw [hWf, Below.heap_setCell _ ⟨w.heap.size + 1, 0, none⟩ _ _ (show w.heap.size ≠ w.heap.size + 1 by omega)]
        simp [World.setCell, Array.getElem?_modify, n0]
      have m1 : Wf.heap[w.heap.size + 1]? = some (.cells #[.int .i64 0] 23) := by
        rw [hWf]
        simp [World.setCell, Array.getElem?_modify, n1]
      have bw : Hid (Below w.heap.size w Wf) := Lib.hid (by rw [hWf]; exact ((HB.out.trans (HB4.out.mono (by omega))).setCell (by simp) _).setCell (by simp) _)
      have hrow : Hid (Wf.ownsRow w.heap.size 46 5 (.slice (some ⟨q, 0, none⟩) M.length cap) M.length (rw5 M)) := Lib.hid (own_base (own_move HR4.out.row (fun j hj => by
        cases hj
        rw [hWf, Below.heap_setCell _ ⟨w.heap.size + 1, 0, none⟩ _ _ (show q ≠ w.heap.size + 1 by omega), Below.heap_setCell _ ⟨w.heap.size, 0, none⟩ _ _ (show q ≠ w.heap.size by omega)])) (by omega))
      have M01 := Lib.hid (And.intro m0 m1)
      have HWF := Lib.hid hWf
      clear n0 n1 m0 m1 hWf
      go_wp2_with fail
      rw [← HWF.out]
      clear HWF
      refine leaves_cons (f := 152) (args := #[.pointer (some ⟨w.heap.size, 0, none⟩), .pointer (some ⟨w.heap.size + 1, 0, none⟩)]) (by simp) (by simp [go_sem]) ?_
      refine (rcatchI _ _ Wf).mono ?_
      rintro e u' w'' ⟨rfl, rfl, rfl⟩
      have d0 : w''.cell? ⟨w.heap.size, 0, none⟩ = some (.slice (some ⟨q, 0, none⟩) M.length cap) := by simp [World.cell?, M01.out.1]
      have d1 : w''.cell? ⟨w.heap.size + 1, 0, none⟩ = some (.int .i64 0) := by simp [World.cell?, M01.out.2]
      rw [HZ2.out]
      simp [Leaves, settle, results, Tryz.results150, go_sem, d0, d1]
      exact ⟨_, rfl, hrow.out, bw.out⟩
end Go.Proofs.YtmkkckhfdafjnaaGreatDoor
/- Layer 4: Read. -/
namespace Go.Proofs.YtmkkckhfdafjnaaGreatDoor
open Go.RowKit Go.Maps
theorem ckE_size {s : ByteArray} (h : ckE s = 0) : s.size ≤ 16384 := by
  unfold ckE at h
  split at h
  · cases h
  · omega
theorem LimP.up {w w' : World} (l : LimP w.heap.size w) (b : Below w.heap.size w w') : LimP w'.heap.size w' := by
  have e := b.block _ l.1
  refine ⟨Nat.lt_of_lt_of_le l.1 b.size, ?_, ?_⟩
  · rw [← l.2.1]; unfold World.cell?; dsimp only; rw [e]
  · rw [← l.2.2]; unfold World.cell?; dsimp only; rw [e]
set_option maxRecDepth 20000 in
theorem Read_any (s : ByteArray) (w : World) (hl : LimP w.heap.size w) (hs : s.size ≤ maxLen) : Calls Tryz.prog 148 #[.string s] w (RdP w (readM s)) := by
  have HC := Lib.hid (check_any s w hs)
  have HR := Lib.hid (fun (h : ckE s = 0) W (b : Below w.heap.size w W) => jread_any s W (hl.up b) (by have := ckE_size h; omega))
  have HE : Hid (ckE s = 0 → readM s = readN s) := Lib.hid (fun h => by unfold readM readN; rw [if_neg (by omega)])
  have HE2 : Hid (ckE s ≠ 0 → readM s = .bad (ckE s)) := Lib.hid (fun h => by unfold readM; rw [if_pos h])
  obtain ⟨c, hc⟩ : ∃ c, c = ckE s := ⟨_, rfl⟩
  rw [← hc] at HC HR HE HE2
  clear hc hl
  obtain ⟨Z, hZ⟩ : ∃ Z, Z = readM s := ⟨_, rfl⟩
  rw [← hZ] at HE HE2 ⊢
  clear hZ
  by_cases h0 : c = 0
  · have HZ := Lib.hid (HE.out h0)
    have HR1 := Lib.hid (HR.out h0)
    clear HR HE HE2
    subst h0
    obtain ⟨X, hX⟩ : ∃ X, X = readN s := ⟨_, rfl⟩
    rw [← hX] at HZ HR1
    clear hX
    go_enter Tryz.func148, Tryz.ntmps148
    go_wp2_with fail
    refine HC.out.mono ?_
    rintro e w1 ⟨rfl, b1⟩
    have HR2 := Lib.hid (HR1.out w1 b1)
    have HB1 := Lib.hid b1
    clear b1 HR1
    go_wp2_with fail
    refine HR2.out.mono ?_
    intro e w2 h2
    cases X with
    | bad m =>
      obtain ⟨rfl, b2⟩ : e = .returned (.tuple #[.slice none 0 0, .int .i64 m]) ∧ Below w1.heap.size w1 w2 := h2
      have HB2 := Lib.hid (HB1.out.trans (b2.mono HB1.out.size))
      clear b2
      go_wp2_with fail
      go_ret2
      rw [HZ.out]
      exact ⟨rfl, HB2.out⟩
    | ok M =>
      obtain ⟨v, rfl, o2, b2⟩ : ∃ v, e = .returned (.tuple #[v, .int .i64 0]) ∧ w2.ownsRow w1.heap.size 46 5 v M.length (rw5 M) ∧ Below w1.heap.size w1 w2 := h2
      have HB2 := Lib.hid (HB1.out.trans (b2.mono HB1.out.size))
      have HO := Lib.hid (own_base o2 HB1.out.size)
      clear b2 o2
      go_wp2_with fail
      go_ret2
      rw [HZ.out]
      exact ⟨_, rfl, HO.out, HB2.out⟩
  · have HZ := Lib.hid (HE2.out h0)
    have hb : (c != 0) = true := by simp [bne, beq_eq_false_iff_ne.2 h0]
    clear HR HE HE2 h0
    go_enter Tryz.func148, Tryz.ntmps148
    go_wp2_with fail
    refine HC.out.mono ?_
    rintro e w1 ⟨rfl, b1⟩
    have HB1 := Lib.hid b1
    clear b1
    go_wp2_with fail
    go_ret2
    rw [HZ.out]
    exact ⟨rfl, HB1.out⟩
end Go.Proofs.YtmkkckhfdafjnaaGreatDoor
/- Layer 3: the document's One, Name, among. -/
namespace Go.Proofs.YtmkkckhfdafjnaaGreatDoor
open Go.RowKit Go.Maps
end Go.Proofs.YtmkkckhfdafjnaaGreatDoor
/- Layer 31, ServeWrites: a text quoted (plain), and appends of bytes. -/
namespace Go.Proofs.YtmkkckhfdafjnaaGreatDoor
open Go.RowKit
def hexI (x : Int) : Int := if x < 10 then 48 + x else 87 + x
def shortI (x : Int) : Int := if x = 34 then 34 else if x = 92 then 92 else if x = 8 then 98 else if x = 9 then 116 else if x = 10 then 110 else if x = 12 then 102 else if x = 13 then 114 else 0
def escI (x : Int) : List Int := if shortI x ≠ 0 then [92, shortI x] else if x < 32 then [92, 117, 48, 48, hexI (x / 16), hexI (x % 16)] else [x]
def quL (s : ByteArray) : Nat → List Int
  | 0 => [34]
  | k + 1 => quL s k ++ escI (byt s k)
/-- A text, quoted. -/
def quT (s : ByteArray) : ByteArray := mkB (quL s s.size ++ [34])
def BO (w0 w : World) (v : Value) (L : List Int) : Prop := w.ownsRow w0.heap.size 5 1 v L.length (L.map (Value.int .u8)) ∧ Below w0.heap.size w0 w
theorem BO.nil (w : World) : BO w w (.slice none 0 0) [] := ⟨World.ownsRow_nil _ _ _ _, Below.refl _ _⟩
theorem BO.alloc {w0 w : World} {v : Value} {L : List Int} (h : BO w0 w v L) (o : Obj) : BO w0 (w.alloc o) v L := ⟨h.1.alloc o, h.2.alloc h.2.size o⟩
theorem BO.drew {w0 w : World} {v : Value} {L : List Int} (h : BO w0 w v L) : BO w0 w.drew v L := ⟨h.1.drew, h.2.drew⟩
theorem BO.slice {w0 w : World} {v : Value} {L : List Int} (h : BO w0 w v L) : ∃ ad c, v = .slice ad L.length c := by
  rcases h.1.2 with ⟨rfl, hn⟩ | ⟨g, cap, cur, rfl, _⟩
  · exact ⟨none, 0, by rw [hn]⟩
  · exact ⟨_, _, rfl⟩
end Go.Proofs.YtmkkckhfdafjnaaGreatDoor
/- Layer 31, ServeWrites: a text quoted, by the program and by the document. -/
namespace Go.Proofs.YtmkkckhfdafjnaaGreatDoor
open Go.RowKit
end Go.Proofs.YtmkkckhfdafjnaaGreatDoor
/- Layer 31, ServeWrites: the document's Quoted. -/
namespace Go.Proofs.YtmkkckhfdafjnaaGreatDoor
open Go.RowKit
end Go.Proofs.YtmkkckhfdafjnaaGreatDoor
/- Layer 31, ServeWrites: a text quoted, what is no text as the empty one. -/
namespace Go.Proofs.YtmkkckhfdafjnaaGreatDoor
open Go.RowKit
end Go.Proofs.YtmkkckhfdafjnaaGreatDoor
