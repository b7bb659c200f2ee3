import Derived.Test.YtmkkckhfdafjnaaGreatDoorK10
import Derived.Laws.LoneSync
import Derived.Maps.AppendAt
/- Layer 17, Lex: what counts for nothing. -/
namespace Go.Proofs.YtmkkckhfdafjnaaGreatDoor
open Go.RowKit Go.Maps
theorem bkF_step {s : ByteArray} {f j : Nat} {ins : Bool} (h : 1 ≤ f) : bkF s f j ins = if s.size ≤ j then (j, false) else if byt s j = 10 ∨ byt s j = 13 then bkF s (f - 1) (j + 1) false else if ins = true ∧ byt s j < 32 ∧ byt s j ≠ 9 then (j, true) else if ins = true ∨ byt s j = 32 ∨ byt s j = 9 ∨ byt s j = 44 then bkF s (f - 1) (j + 1) ins else if byt s j = 35 then bkF s (f - 1) (j + 1) true else if byt s j = 239 ∧ byt s (j + 1) = 187 ∧ byt s (j + 2) = 191 then bkF s (f - 1) (j + 3) ins else (j, false) := by
  match f, h with
  | f + 1, _ => rfl
set_option maxRecDepth 20000 in
set_option maxHeartbeats 4000000 in
theorem blank_any (s : ByteArray) (a : Nat) (w : World) (ha : a ≤ s.size) (hs : s.size ≤ 1000000) : Calls Tryz.prog 29 #[.string s, .int .i64 a] w fun e w' => e = .returned (.tuple #[.int .i64 (bk s a).1, .bool (bk s a).2]) ∧ w' = w := by
  obtain ⟨X, hX⟩ : ∃ X, X = bk s a := ⟨_, rfl⟩
  rw [← hX]
  have HX : Hid (bkF s (s.size - a + 1) a false = X) := Lib.hid hX.symm
  have hsi : (s.size : Int) ≤ 1000000 := by omega
  have HPF := Lib.hid (fun j W => Tryz.strings_HasPrefix (s.extract j s.size) ⟨#[239, 187, 191]⟩ W)
  have HP3 : Hid (∀ j, Lib.hasPrefix (s.extract j s.size).data.toList (⟨#[239, 187, 191]⟩ : ByteArray).data.toList = decide (byt s j = 239 ∧ byt s (j + 1) = 187 ∧ byt s (j + 2) = 191)) := Lib.hid (fun j => pre3 s j 239 187 191 (by decide))
  clear hX
  go_enter Tryz.func29, Tryz.ntmps29
  go_wp2_with fail
  go_loopg [1, 6, 7] (s.size - a + 1) (fun f v1 v6 _ wr => ∃ (j : Nat) (ins : Bool), s.size - j + 1 ≤ f ∧ j ≤ s.size ∧ v1 = .int .i64 j ∧ v6 = .bool ins ∧ Hid (bkF s f j ins = X) ∧ Hid (wr = w))
  case atStart => exact ⟨a, false, by omega, ha, rfl, rfl, HX, Lib.hid rfl⟩
  case round =>
    obtain ⟨j, ins, hf, hj, rfl, rfl, HQ, HW⟩ := hrel
    obtain rfl := HW.out
    have hj0 : (0 : Int) ≤ j := by omega
    have hst := HQ.out
    rw [bkF_step (by omega)] at hst
    by_cases hlt : j < s.size
    · have hji : (j : Int) < s.size := by omega
      have hbe : (s[j].toNat : Int) = byt s j := byt_eq s j hlt
      rw [if_neg (by omega)] at hst
      by_cases h10 : byt s j = 10 ∨ byt s j = 13
      · rw [if_pos h10] at hst
        have HO := Lib.hid hst
        have HQQ : Hid (((s[j].toNat : Int) == 10) = true ∨ (((s[j].toNat : Int) == 10) = false ∧ ((s[j].toNat : Int) == 13) = true)) := Lib.hid (by
          rw [hbe]
          rcases h10 with e | e
          · rw [e]; exact .inl rfl
          · rw [e]; exact .inr ⟨rfl, rfl⟩)
        clear hst hbe h10
        rcases HQQ.out with q1 | ⟨q1, q2⟩
        all_goals
          clear HQQ
          go_wp2_with fail
          go_roundg (gk - 1)
          case rel => exact ⟨j + 1, false, by omega, by omega, by go_num, rfl, HO, Lib.hid rfl⟩
          case measure => omega
      rw [if_neg h10] at hst
      have q10 : ((s[j].toNat : Int) == 10) = false := by rw [hbe]; exact beq_eq_false_iff_ne.2 (fun e => h10 (.inl e))
      have q13 : ((s[j].toNat : Int) == 13) = false := by rw [hbe]; exact beq_eq_false_iff_ne.2 (fun e => h10 (.inr e))
      cases ins with
      | true =>
        by_cases hc : byt s j < 32 ∧ byt s j ≠ 9
        · rw [if_pos ⟨rfl, hc⟩] at hst
          have q4 : (s[j].toNat : Int) < 32 := by rw [hbe]; exact hc.1
          have q5 : ((s[j].toNat : Int) != 9) = true := by rw [hbe]; simp [hc.2]
          have HO := Lib.hid hst
          clear hst h10 hbe hc
          go_wp2_with fail
          go_ret2
          rw [← HO.out]
          exact ⟨rfl, rfl⟩
        · rw [if_neg (fun e => hc e.2), if_pos (.inl rfl)] at hst
          have HQQ : Hid ((¬ (s[j].toNat : Int) < 32) ∨ ((s[j].toNat : Int) < 32 ∧ ((s[j].toNat : Int) != 9) = false)) := Lib.hid (by
            rw [hbe]
            by_cases e : byt s j < 32
            · exact .inr ⟨e, by
                by_cases e9 : byt s j = 9
                · rw [e9]; rfl
                · exact absurd ⟨e, e9⟩ hc⟩
            · exact .inl e)
          have HO := Lib.hid hst
          clear hst h10 hbe hc
          rcases HQQ.out with q4 | ⟨q4, q5⟩
          all_goals
            clear HQQ
            go_wp2_with fail
            go_roundg (gk - 1)
            case rel => exact ⟨j + 1, true, by omega, by omega, by go_num, rfl, HO, Lib.hid rfl⟩
            case measure => omega
      | false =>
        rw [if_neg (fun e => by cases e.1)] at hst
        by_cases hbl : byt s j = 32 ∨ byt s j = 9 ∨ byt s j = 44
        · rw [if_pos (.inr hbl)] at hst
          have HO := Lib.hid hst
          have HQQ : Hid (((s[j].toNat : Int) == 32) = true ∨ (((s[j].toNat : Int) == 32) = false ∧ ((s[j].toNat : Int) == 9) = true) ∨ (((s[j].toNat : Int) == 32) = false ∧ ((s[j].toNat : Int) == 9) = false ∧ ((s[j].toNat : Int) == 44) = true)) := Lib.hid (by
            rw [hbe]
            rcases hbl with e | e | e
            · rw [e]; exact .inl rfl
            · rw [e]; exact .inr (.inl ⟨rfl, rfl⟩)
            · rw [e]; exact .inr (.inr ⟨rfl, rfl, rfl⟩))
          clear hst h10 hbe hbl
          rcases HQQ.out with q1 | ⟨q1, q2⟩ | ⟨q1, q2, q3⟩
          all_goals
            clear HQQ
            go_wp2_with fail
            go_roundg (gk - 1)
            case rel => exact ⟨j + 1, false, by omega, by omega, by go_num, rfl, HO, Lib.hid rfl⟩
            case measure => omega
        rw [if_neg (by rintro (e | e); cases e; exact hbl e)] at hst
        have q32 : ((s[j].toNat : Int) == 32) = false := by rw [hbe]; exact beq_eq_false_iff_ne.2 (fun e => hbl (.inl e))
        have q9 : ((s[j].toNat : Int) == 9) = false := by rw [hbe]; exact beq_eq_false_iff_ne.2 (fun e => hbl (.inr (.inl e)))
        have q44 : ((s[j].toNat : Int) == 44) = false := by rw [hbe]; exact beq_eq_false_iff_ne.2 (fun e => hbl (.inr (.inr e)))
        by_cases h35 : byt s j = 35
        · rw [if_pos h35] at hst
          have q35 : ((s[j].toNat : Int) == 35) = true := by rw [hbe, h35]; rfl
          have HO := Lib.hid hst
          clear hst h10 hbe hbl h35
          go_wp2_with fail
          go_roundg (gk - 1)
          case rel => exact ⟨j + 1, true, by omega, by omega, by go_num, rfl, HO, Lib.hid rfl⟩
          case measure => omega
        rw [if_neg h35] at hst
        have q35 : ((s[j].toNat : Int) == 35) = false := by rw [hbe]; exact beq_eq_false_iff_ne.2 h35
        have HPJ := Lib.hid (HPF.out j wr)
        rw [HP3.out j] at HPJ
        by_cases h3 : byt s j = 239 ∧ byt s (j + 1) = 187 ∧ byt s (j + 2) = 191
        · rw [if_pos h3] at hst
          rw [decide_eq_true h3] at HPJ
          have h2 : j + 2 < s.size := byt_in (by rw [h3.2.2]; decide)
          have HO := Lib.hid hst
          clear hst h10 hbe hbl h35 h3
          go_wp2_with fail
          refine HPJ.out.mono ?_
          rintro e w1 ⟨rfl, hw⟩
          obtain rfl := hw.symm
          go_wp2_with fail
          go_roundg (gk - 1)
          case rel => exact ⟨j + 3, false, by omega, by omega, by go_num, rfl, HO, Lib.hid rfl⟩
          case measure => omega
        · rw [if_neg h3] at hst
          rw [decide_eq_false h3] at HPJ
          have HO := Lib.hid hst
          clear hst h10 hbe hbl h35 h3
          go_wp2_with fail
          refine HPJ.out.mono ?_
          rintro e w1 ⟨rfl, hw⟩
          obtain rfl := hw.symm
          go_wp2_with fail
          go_ret2
          rw [← HO.out]
          exact ⟨rfl, rfl⟩
    · obtain rfl : j = s.size := by omega
      rw [if_pos (Nat.le_refl _)] at hst
      have HO := Lib.hid hst
      clear hst
      go_wp2_with fail
      go_ret2
      rw [← HO.out]
      exact ⟨rfl, rfl⟩
end Go.Proofs.YtmkkckhfdafjnaaGreatDoor
/- Layer 17: Lex. -/
namespace Go.Proofs.YtmkkckhfdafjnaaGreatDoor
open Go.RowKit Go.Maps
theorem bkF_le {s : ByteArray} : ∀ (f j : Nat) (ins : Bool), j ≤ s.size → j ≤ (bkF s f j ins).1 ∧ (bkF s f j ins).1 ≤ s.size
  | 0, j, ins, h => ⟨Nat.le_refl _, h⟩
  | f + 1, j, ins, h => by
    unfold bkF
    split
    · exact ⟨Nat.le_refl _, h⟩
    rename_i hlt
    split
    · have := bkF_le (s := s) f (j + 1) false (by omega); omega
    split
    · exact ⟨Nat.le_refl _, h⟩
    split
    · have := bkF_le (s := s) f (j + 1) ins (by omega); omega
    split
    · have := bkF_le (s := s) f (j + 1) true (by omega); omega
    split
    · rename_i h3
      have h2 : j + 2 < s.size := byt_in (by rw [h3.2.2]; decide)
      have := bkF_le (s := s) f (j + 3) ins (by omega); omega
    · exact ⟨Nat.le_refl _, h⟩
theorem bk_le {s : ByteArray} {j : Nat} (h : j ≤ s.size) : j ≤ (bk s j).1 ∧ (bk s j).1 ≤ s.size := bkF_le _ _ _ h
theorem wd_range {s : ByteArray} : ∀ (n j : Nat), s.size - j ≤ n → j ≤ s.size → j ≤ wd s j ∧ wd s j ≤ s.size := by
  intro n
  induction n with
  | zero =>
    intro j hn hj
    rw [wd_stop (by rw [byt_end (by omega)]; rfl)]
    exact ⟨Nat.le_refl _, hj⟩
  | succ n ih =>
    intro j hn hj
    cases hw : wcI (byt s j) with
    | false => rw [wd_stop hw]; exact ⟨Nat.le_refl _, hj⟩
    | true =>
      have hin : j < s.size := byt_in (by intro e; rw [e] at hw; exact absurd hw (by decide))
      rw [wd_step hw]
      have := ih (j + 1) (by omega) (by omega)
      omega
theorem tok_ok {s : ByteArray} {a k : Nat} {t : TkR} (ha : a < s.size) (h : tokM s a = some (t, k)) : a < k ∧ k ≤ s.size := by
  unfold tokM at h
  have h1 : ∀ t k, namR s a = .ok t k → a < k ∧ k ≤ s.size := by
    intro t k e
    unfold namR at e
    split at e
    · cases e
      have := wd_range (s := s) _ (a + 1) (Nat.le_refl _) (by omega)
      omega
    · cases e
  have h2 : ∀ t k, intR s a = .ok t k → a < k ∧ k ≤ s.size := by
    intro t k e
    unfold intR at e
    split at e
    · split at e
      · cases e
      · cases e
        have := dg_ge s (a + 1)
        have := dg_le (s := s) (i := a + 1) (by omega)
        omega
    · cases e
  have h3 : ∀ t k, txtR s a = .ok t k → a < k ∧ k ≤ s.size := by
    intro t k e
    unfold txtR at e
    split at e
    · unfold txt1 at e
      cases hq : quM s a with
      | none => rw [hq] at e; cases e
      | some n =>
        rw [hq] at e
        dsimp only at e
        have := quM_ok hq
        unfold txt2 at e
        split at e
        · cases e
        · split at e
          · cases e
          · cases e; exact this
    · cases e
  have h4 : ∀ t k, mrkR s a = .ok t k → a < k ∧ k ≤ s.size := by
    intro t k e
    unfold mrkR at e
    split at e
    · rename_i h
      have : a + 2 < s.size := byt_in (by rw [h.2.2]; decide)
      cases e; omega
    · split at e
      · cases e; omega
      · cases e
  cases e1 : namR s a with
  | bad => rw [e1] at h; cases h
  | ok t' k' => rw [e1] at h; cases h; exact h1 _ _ e1
  | no =>
    rw [e1] at h
    cases e2 : intR s a with
    | bad => rw [e2] at h; cases h
    | ok t' k' => rw [e2] at h; cases h; exact h2 _ _ e2
    | no =>
      rw [e2] at h
      cases e3 : txtR s a with
      | bad => rw [e3] at h; cases h
      | ok t' k' => rw [e3] at h; cases h; exact h3 _ _ e3
      | no =>
        rw [e3] at h
        cases e4 : mrkR s a with
        | bad => rw [e4] at h; cases h
        | ok t' k' => rw [e4] at h; cases h; exact h4 _ _ e4
        | no => rw [e4] at h; cases h
/-- Tokens as a row's. -/
def gt (L : List TkR) : Nat → TkR := fun i => L.getD i ⟨0, ⟨#[]⟩, 0⟩
theorem rw3_eq {g h : Nat → TkR} : ∀ n, (∀ i, i < n → g i = h i) → rw3 g n = rw3 h n
  | 0, _ => rfl
  | n + 1, e => by
    show rw3 g n ++ _ = rw3 h n ++ _
    rw [rw3_eq n (fun i hi => e i (by omega)), e n (by omega)]
theorem rw3_snoc (L : List TkR) (t : TkR) : rw3 (gt (L ++ [t])) (L.length + 1) = rw3 (gt L) L.length ++ [.int .u8 t.k, .string t.s, .int .i64 t.a] := by
  show rw3 (gt (L ++ [t])) L.length ++ _ = _
  rw [rw3_eq (h := gt L) L.length (fun i hi => by unfold gt; simp [List.getD_eq_getElem?_getD, List.getElem?_append, hi])]
  have e : gt (L ++ [t]) L.length = t := by unfold gt; simp [List.getD_eq_getElem?_getD]
  rw [e]
/-- What Lex ends in. -/
def LxP (w : World) (x : LxR) (e : Ending) (w' : World) : Prop := Below w.heap.size w w' ∧ match x with
  | .ok l => ∃ v, e = .returned (.tuple #[v, .int .i64 0, .int .i64 0]) ∧ w'.ownsRow w.heap.size 59 3 v l.length (rw3 (gt l) l.length)
  | .bad p m => e = .returned (.tuple #[.slice none 0 0, .int .i64 p, .int .i64 m])
theorem at_cell {w : World} {b : Nat} {x : Int} (hg : w.heap[b]? = some (.cells #[.int .i64 x] 72)) : w.cell? ⟨b, 0, none⟩ = some (.int .i64 x) ∧ w.frozen? ⟨b, 0, none⟩ = false := by
  refine ⟨?_, by simp [World.frozen?, hg]⟩
  unfold World.cell?; dsimp only; rw [hg]; rfl
set_option maxRecDepth 20000 in
theorem fuel_store (b : Nat) (x : Int) (w : World) (hg : w.heap[b]? = some (.cells #[.int .i64 x] 72)) : Calls Tryz.prog 28 #[.pointer (some ⟨b, 0, none⟩), .int .i64 1024] w fun e w' => e = .returned (.tuple #[]) ∧ w' = w.setCell ⟨b, 0, none⟩ (.int .i64 1024) := by
  obtain ⟨hc, hz⟩ := at_cell hg
  have hd := run_call_store (P := Tryz.prog) Tryz.func47 (by kernel_rfl) (by kernel_rfl) (by kernel_rfl) (by kernel_rfl) (a := ⟨b, 0, none⟩) (k := .i64) (y := 1024) hc hz
  clear hg
  go_enter Tryz.func28, Tryz.ntmps28
  go_wp2
  go_end0
  exact ⟨rfl, rfl⟩
set_option maxRecDepth 20000 in
theorem fuel_add (b : Nat) (x : Int) (w : World) (h0 : 0 ≤ x) (h1 : x ≤ 2000) (hg : w.heap[b]? = some (.cells #[.int .i64 x] 72)) : Calls Tryz.prog 30 #[.pointer (some ⟨b, 0, none⟩), .int .i64 (-1)] w fun e w' => e = .returned (.int .i64 (x - 1)) ∧ w' = w.setCell ⟨b, 0, none⟩ (.int .i64 (x - 1)) := by
  obtain ⟨hc, hz⟩ := at_cell hg
  have hs : (Op.intArith .add .i64 x (-1)).run Tryz.prog w = .ok (.int .i64 (x - 1)) w := by
    have e : IntKind.i64.wrap (x + -1) = x - 1 := by rw [IntKind.wrap_i64]; omega
    simp [go_sem, e]
  have hd := run_call_add (P := Tryz.prog) Tryz.func49 (by kernel_rfl) (by kernel_rfl) (by kernel_rfl) .i64 (by kernel_rfl) (a := ⟨b, 0, none⟩) (x := x) (y := -1) (s := x - 1) hc hz hs
  clear hg hs
  go_enter Tryz.func30, Tryz.ntmps30
  go_wp2
  go_ret
  exact ⟨rfl, rfl⟩
end Go.Proofs.YtmkkckhfdafjnaaGreatDoor
/- Layer 17: Lex, the walk. -/
namespace Go.Proofs.YtmkkckhfdafjnaaGreatDoor
open Go.RowKit Go.Maps
theorem lexF_step0 {s : ByteArray} {i : Nat} {L : List TkR} : lexF s 0 i L = if (bk s i).2 = true then .bad (bk s i).1 170 else if (bk s i).1 = s.size then .ok (L ++ [⟨0, ⟨#[]⟩, (bk s i).1⟩]) else .bad (bk s i).1 171 := rfl
theorem lexF_step {s : ByteArray} {n i : Nat} {L : List TkR} : lexF s (n + 1) i L = if (bk s i).2 = true then .bad (bk s i).1 170 else if (bk s i).1 = s.size then .ok (L ++ [⟨0, ⟨#[]⟩, (bk s i).1⟩]) else lexK (bk s i).1 (tokM s (bk s i).1) (fun t k => lexF s n k (L ++ [t])) := rfl
theorem news_at2 (w : World) (cs : Array Value) (t : TypeId) (L : List Value) {b : Nat} (h : cs.toList = L) (hb : b = w.heap.size) : ∀ j u, L[j]? = some u → (w.alloc (.cells cs t)).cell? ((⟨b, 0, none⟩ : Addr).add j) = some u := by
  subst hb
  exact news_at w cs t L h
/-- Within Lex: the fuel, and the tokens' row. -/
structure LxS (w W : World) (N n : Nat) (v : Value) (L : List TkR) : Prop where
  b : Below w.heap.size w W
  fu : W.heap[N]? = some (.cells #[.int .i64 n] 72)
  lo : w.heap.size ≤ N
  own : W.ownsRow (N + 1) 59 3 v L.length (rw3 (gt L) L.length)
theorem LxS.up {w W W' : World} {N n : Nat} {v : Value} {L : List TkR} (h : LxS w W N n v L) (b : Below W.heap.size W W') : LxS w W' N n v L :=
  ⟨h.b.trans (b.mono h.b.size), by rw [b.block _ (Array.getElem?_eq_some_iff.1 h.fu).1]; exact h.fu, h.lo, own_below h.own b⟩
theorem LxS.box {w W : World} {N n : Nat} {v : Value} {L : List TkR} (h : LxS w W N n v L) (o : Obj) : LxS w (W.alloc o) N n v L := h.up ((Below.refl _ _).alloc (Nat.le_refl _) _)
theorem LxS.burn {w W : World} {N n m : Nat} {v : Value} {L : List TkR} {y : Int} (h : LxS w W N n v L) (hy : y = (m : Nat)) : LxS w (W.setCell ⟨N, 0, none⟩ (.int .i64 y)) N m v L := by
  subst hy
  have hk : ∀ k, k ≠ N → (W.setCell ⟨N, 0, none⟩ (.int .i64 m)).heap[k]? = W.heap[k]? := fun k hk => Below.heap_setCell W ⟨N, 0, none⟩ _ k hk
  refine ⟨h.b.trans ⟨rfl, rfl, rfl, by simp, fun k hk' => hk k (by have := h.lo; omega)⟩, by simp [World.setCell, Array.getElem?_modify, h.fu], h.lo, ?_⟩
  refine ⟨h.own.1, ?_⟩
  rcases h.own.2 with h1 | ⟨g, cap, cur, e, hg, hc, rest⟩
  · exact .inl h1
  · exact .inr ⟨g, cap, cur, e, hg, by rw [hk g (by omega)]; exact hc, rest⟩
theorem LxS.add {w W W' : World} {N n : Nat} {v v' : Value} {L : List TkR} {t : TkR} {o : Obj} (h : LxS w W N n v L) (ho : W'.ownsRow (N + 1) 59 3 v' (L.length + 1) (rw3 (gt L) L.length ++ [.int .u8 t.k, .string t.s, .int .i64 t.a])) (hg : (W.alloc o).grownBy W' v.ownBlock) : LxS w W' N n v' (L ++ [t]) := by
  have hs : (W.alloc o).heap.size = W.heap.size + 1 := by simp
  have hN := (Array.getElem?_eq_some_iff.1 h.fu).1
  have kept : ∀ k, k < W.heap.size → v.ownBlock ≠ some k → W'.heap[k]? = W.heap[k]? := fun k h1 h2 => (hg.block k (by omega) (fun e => h2 e.symm)).trans (heap_alloc_old _ _ h1)
  refine ⟨⟨hg.os.trans h.b.os, hg.tape.trans h.b.tape, hg.output.trans h.b.output, Nat.le_trans h.b.size (Nat.le_trans (by omega) hg.size), fun k hk => ?_⟩, ?_, h.lo, ?_⟩
  · rw [kept k (Nat.lt_of_lt_of_le hk h.b.size) (fun e => by have := (h.own.lt k e).1; have := h.lo; omega)]
    exact h.b.block k hk
  · rw [kept N hN (fun e => by have := (h.own.lt N e).1; omega)]
    exact h.fu
  · rw [List.length_append, List.length_singleton, rw3_snoc]
    exact ho
set_option maxRecDepth 20000 in
set_option maxHeartbeats 0 in
theorem lex_any (s : ByteArray) (w : World) (hc : LxC w) (hs : s.size ≤ 1000000) : Calls Tryz.prog 6 #[.string s] w (LxP w (lexM s)) := by
  obtain ⟨i0, hin, hz0, hz1, hz2⟩ := infoT
  have HCK := Lib.hid (check_any s w (by unfold maxLen; omega))
  by_cases h0 : ckE s = 0
  · have HX0 : Hid (lexM s = lexF s 1024 0 []) := Lib.hid (by unfold lexM; rw [if_neg (by omega)])
    obtain ⟨X, hX⟩ : ∃ X, X = lexM s := ⟨_, rfl⟩
    rw [← hX] at HX0 ⊢
    rw [h0] at HCK
    have HBK := Lib.hid (fun i W (h : i ≤ s.size) => blank_any s i W h hs)
    have HTK := Lib.hid (fun i W (b : Below w.heap.size w W) (h : i < s.size) => token_any s i W (hc.up b) h hs)
    have hsi : (s.size : Int) ≤ 1000000 := by omega
    clear hX h0 hc
    go_enter Tryz.func6, Tryz.ntmps6
    go_wp2_with fail
    refine HCK.out.mono ?_
    rintro e w1 ⟨rfl, b1⟩
    have B1 := Lib.hid b1
    clear b1
    go_wp2_with fail
    obtain ⟨N, hN⟩ : ∃ N, N = w1.heap.size := ⟨_, rfl⟩
    have hg1 : (w1.alloc (.cells #[.int .i64 0] 72)).heap[N]? = some (.cells #[.int .i64 0] 72) := by rw [hN, heap_alloc_new]
    have HFS := Lib.hid (fuel_store N 0 _ hg1)
    have S0 : Hid (LxS w (w1.alloc (.cells #[.int .i64 0] 72)) N 0 (.slice none 0 0) []) := Lib.hid ⟨B1.out.alloc B1.out.size _, hg1, by rw [hN]; exact B1.out.size, World.ownsRow_nil _ _ _ _⟩
    rw [← hN]
    clear hN hg1
    refine HFS.out.mono ?_
    rintro e w2 ⟨rfl, hw2⟩
    have S1 : Hid (LxS w w2 N 1024 (.slice none 0 0) []) := Lib.hid (by rw [hw2]; exact S0.out.burn (m := 1024) rfl)
    clear hw2 S0 HFS
    go_wp2_with fail
    go_loopg [2, 3, 7, 8, 9] 1025 (fun f v2 v3 _ _ _ wr => ∃ (n i : Nat) (L : List TkR) (vl : Value), n + 1 ≤ f ∧ n ≤ 1024 ∧ i ≤ s.size ∧ L.length + n ≤ 1024 ∧ v3 = .int .i64 i ∧ vl = v2 ∧ Hid (LxS w wr N n vl L) ∧ Hid (lexF s n i L = X))
    case atStart => exact ⟨1024, 0, [], _, by omega, by omega, Nat.zero_le _, by simp, rfl, rfl, S1, Lib.hid HX0.out.symm⟩
    case round =>
      obtain ⟨n, i, L, vl, hf, hn, hi, hLn, rfl, rfl, HS, HE⟩ := hrel
      have HB := Lib.hid (HBK.out i wr hi)
      have hle := bk_le hi
      have hst := HE.out
      obtain ⟨j, hj⟩ : ∃ j, j = (bk s i).1 := ⟨_, rfl⟩
      obtain ⟨br, hbr⟩ : ∃ br, br = (bk s i).2 := ⟨_, rfl⟩
      rw [← hj, ← hbr] at HB
      rw [← hj] at hle
      have hji : (j : Int) ≤ 1000000 := by omega
      have hni : (n : Int) ≤ 1024 := by omega
      cases hbb : br with
      | true =>
        rw [hbb] at HB
        have HF : Hid (X = .bad j 170) := Lib.hid (by
          rw [← hst]
          cases n with
          | zero => rw [lexF_step0, ← hj, ← hbr, if_pos hbb]
          | succ m => rw [lexF_step, ← hj, ← hbr, if_pos hbb])
        clear hst hj hbr hbb HE
        go_wp2_with fail
        refine HB.out.mono ?_
        rintro e w3 ⟨rfl, hw⟩
        obtain rfl := hw.symm
        go_wp2_with fail
        go_ret3
        rw [HF.out]
        exact ⟨HS.out.b, rfl⟩
      | false =>
        rw [hbb] at HB
        by_cases hjs : j = s.size
        · have HF : Hid (X = .ok (L ++ [⟨0, ⟨#[]⟩, j⟩])) := Lib.hid (by
            rw [← hst]
            cases n with
            | zero => rw [lexF_step0, ← hj, ← hbr, if_neg (by rw [hbb]; decide), if_pos hjs]
            | succ m => rw [lexF_step, ← hj, ← hbr, if_neg (by rw [hbb]; decide), if_pos hjs])
          have hq : ((j : Int) == s.size) = true := by simp [hjs]
          clear hst hj hbr hbb HE hjs
          go_wp2_with fail
          refine HB.out.mono ?_
          rintro e w3 ⟨rfl, hw⟩
          obtain rfl := hw.symm
          go_wp2_with (at_builtin; go_loud (refine wpList_append_own _ rfl _ _ 22 rfl (N + 1) 59 i0 (.agg #[.int .u8 0, .string ⟨#[]⟩, .int .i64 0]) 3 32 Tryz.underlying22 hin hz0 hz1 hz2 rfl (by decide) _ L.length (rw3 (gt L) L.length) rfl (HS.out.own.alloc _) ⟨wr.heap.size, 0, none⟩ 1 1 [.int .u8 0, .string ⟨#[]⟩, .int .i64 j] rfl rfl (news_at2 _ _ _ _ rfl (by simp)) (by intro u hu; simp at hu; rcases hu with rfl | rfl | rfl <;> rfl) (by unfold maxLen; omega) (by omega) (by have := (Array.getElem?_eq_some_iff.1 HS.out.fu).1; (try simp only [Array.size_push] at this); (try simp at this); simp; omega) ?_; intro v' w' ho hg _; have T6 := Lib.hid (HS.out.add (t := ⟨0, ⟨#[]⟩, j⟩) ho hg); clear ho hg))
          go_ret3
          rw [HF.out]
          refine ⟨T6.out.b, _, rfl, ?_⟩
          have := T6.out.lo
          exact own_base T6.out.own (by omega)
        · have hq : ((j : Int) == s.size) = false := beq_eq_false_iff_ne.2 (by omega)
          have hjlt : j < s.size := by omega
          cases n with
          | zero =>
            have HF : Hid (X = .bad j 171) := Lib.hid (by rw [← hst, lexF_step0, ← hj, ← hbr, if_neg (by rw [hbb]; decide), if_neg hjs])
            have HFA := Lib.hid (fuel_add N ((0 : Nat) : Int) _ (by decide) (by decide) HS.out.fu)
            have S4 := Lib.hid (fun (y : Int) => HS.out.b.trans (⟨rfl, rfl, rfl, by simp, fun k hk => Below.heap_setCell wr ⟨N, 0, none⟩ (.int .i64 y) k (by have := HS.out.lo; dsimp only; omega)⟩ : Below w.heap.size wr (wr.setCell ⟨N, 0, none⟩ (.int .i64 y))))
            clear hst hj hbr hbb HE hjs
            go_wp2_with fail
            refine HB.out.mono ?_
            rintro e w3 ⟨rfl, hw⟩
            obtain rfl := hw.symm
            go_wp2_with fail
            refine HFA.out.mono ?_
            rintro e w4 ⟨rfl, rfl⟩
            go_wp2_with fail
            go_ret3
            rw [HF.out]
            exact ⟨S4.out _, rfl⟩
          | succ m =>
            have HLF : Hid (X = lexK j (tokM s j) (fun t k => lexF s m k (L ++ [t]))) := Lib.hid (by rw [← hst, lexF_step, ← hj, ← hbr, if_neg (by rw [hbb]; decide), if_neg hjs])
            have HFA := Lib.hid (fuel_add N ((m + 1 : Nat) : Int) _ (by omega) (by omega) HS.out.fu)
            have S4 := Lib.hid (HS.out.burn (m := m) (y := ((m + 1 : Nat) : Int) - 1) (by omega))
            obtain ⟨w4, hw4⟩ : ∃ w4, w4 = wr.setCell ⟨N, 0, none⟩ (.int .i64 (((m + 1 : Nat) : Int) - 1)) := ⟨_, rfl⟩
            rw [← hw4] at HFA S4
            have hm0 : ¬ ((m + 1 : Nat) : Int) - 1 < 0 := by omega
            have HT4 := Lib.hid (HTK.out j w4 S4.out.b hjlt)
            have HTO := Lib.hid (fun t k => tok_ok (s := s) (a := j) (k := k) (t := t) hjlt)
            clear hst hj hbr hbb HE hjs hw4
            cases ht : tokM s j with
            | none =>
              rw [ht] at HT4 HLF
              have HF : Hid (X = .bad j 170) := HLF
              clear ht HTO HLF
              go_wp2_with fail
              refine HB.out.mono ?_
              rintro e w3 ⟨rfl, hw⟩
              obtain rfl := hw.symm
              go_wp2_with fail
              refine HFA.out.mono ?_
              rintro e w5 ⟨rfl, hw⟩
              obtain rfl := hw.symm
              go_wp2_with fail
              refine HT4.out.mono ?_
              rintro e w5 ⟨b5, tt, rfl⟩
              have S5 := Lib.hid ((S4.out.up b5).box (.cells #[.int .u8 tt.k, .string tt.s, .int .i64 tt.a] 59))
              clear b5
              go_wp2_with fail
              go_ret3
              rw [HF.out]
              exact ⟨S5.out.b, rfl⟩
            | some y =>
              obtain ⟨tt, k⟩ := y
              obtain ⟨hk1, hk2⟩ := HTO.out tt k ht
              rw [ht] at HT4 HLF
              have HF : Hid (lexF s m k (L ++ [tt]) = X) := Lib.hid HLF.out.symm
              have hkj : ((k : Int) == j) = false := beq_eq_false_iff_ne.2 (by omega)
              clear ht HTO HLF
              go_wp2_with fail
              refine HB.out.mono ?_
              rintro e w3 ⟨rfl, hw⟩
              obtain rfl := hw.symm
              go_wp2_with fail
              refine HFA.out.mono ?_
              rintro e w5 ⟨rfl, hw⟩
              obtain rfl := hw.symm
              go_wp2_with fail
              refine HT4.out.mono ?_
              rintro e w5 ⟨b5, rfl⟩
              have S5 := Lib.hid ((S4.out.up b5).box (.cells #[.int .u8 tt.k, .string tt.s, .int .i64 tt.a] 59))
              clear b5
              go_wp2_with (at_builtin; go_loud (refine wpList_append_own _ rfl _ _ 22 rfl (N + 1) 59 i0 (.agg #[.int .u8 0, .string ⟨#[]⟩, .int .i64 0]) 3 32 Tryz.underlying22 hin hz0 hz1 hz2 rfl (by decide) _ L.length (rw3 (gt L) L.length) rfl (S5.out.own.alloc _) ⟨w5.heap.size + 1, 0, none⟩ 1 1 [.int .u8 tt.k, .string tt.s, .int .i64 tt.a] rfl rfl (news_at2 _ _ _ _ rfl (by simp)) (by intro u hu; simp at hu; rcases hu with rfl | rfl | rfl <;> rfl) (by unfold maxLen; omega) (by omega) (by have := (Array.getElem?_eq_some_iff.1 S5.out.fu).1; (try simp only [Array.size_push] at this); (try simp at this); simp; omega) ?_; intro v' w' ho hg _; have T6 := Lib.hid (S5.out.add (t := tt) ho hg); clear ho hg))
              go_roundg (gk - 1)
              case rel => exact ⟨m, k, L ++ [tt], _, by omega, by omega, hk2, by rw [List.length_append, List.length_singleton]; omega, rfl, rfl, T6, HF⟩
              case measure => omega
  · have HX0 : Hid (lexM s = .bad 0 (ckE s)) := Lib.hid (by unfold lexM; rw [if_pos h0])
    obtain ⟨c, hc⟩ : ∃ c, c = ckE s := ⟨_, rfl⟩
    rw [← hc] at HCK HX0 h0
    have hb : (c != 0) = true := by simp [h0]
    clear h0 hc
    go_enter Tryz.func6, Tryz.ntmps6
    go_wp2_with fail
    refine HCK.out.mono ?_
    rintro e w1 ⟨rfl, b1⟩
    have B1 := Lib.hid b1
    clear b1
    go_wp2_with fail
    go_ret3
    rw [HX0.out]
    exact ⟨B1.out, rfl⟩
end Go.Proofs.YtmkkckhfdafjnaaGreatDoor
/- Layer 17: a token's text is read as that token (plain). -/
namespace Go.Proofs.YtmkkckhfdafjnaaGreatDoor
open Go.RowKit
/-- What may stand behind a token. -/
structure Fol (c : Int) : Prop where
  w : wcI c = false
  p : c ≠ 46
  q : c ≠ 34
theorem fol_0 : Fol 0 := ⟨by decide, by decide, by decide⟩
theorem fol_32 : Fol 32 := ⟨by decide, by decide, by decide⟩
theorem bytA {s : ByteArray} {a : Nat} {t : ByteArray} (h : AtL s a (bI t)) (k : Nat) (hk : k < t.size) : byt s (a + k) = byt t k := by
  have e := at_getD h k (by rw [bI_len]; exact hk)
  rw [e, List.getD_eq_getElem?_getD, bI_at t k hk]; rfl
theorem cutA {s : ByteArray} {a : Nat} {t : ByteArray} (h : AtL s a (bI t)) : s.extract a (a + t.size) = t := by
  apply bI_inj
  have := at_extract h
  rw [bI_len] at this
  exact this
theorem wd_run {s : ByteArray} : ∀ (z j : Nat), (∀ k, k < z → wcI (byt s (j + k)) = true) → wcI (byt s (j + z)) = false → wd s j = j + z
  | 0, j, _, h => by rw [Nat.add_zero] at h ⊢; exact wd_stop h
  | z + 1, j, h, h2 => by
    rw [wd_step (by have := h 0 (by omega); rwa [Nat.add_zero] at this), wd_run z (j + 1) (fun k hk => by have := h (k + 1) (by omega); rw [show j + 1 + k = j + (k + 1) by omega]; exact this) (by rw [show j + 1 + z = j + (z + 1) by omega]; exact h2)]
    omega
theorem dg_runs {s : ByteArray} : ∀ (z j : Nat), (∀ k, k < z → isDg (byt s (j + k)) = true) → isDg (byt s (j + z)) = false → dg s j = j + z
  | 0, j, _, h => by rw [Nat.add_zero] at h ⊢; exact dg_stop h
  | z + 1, j, h, h2 => by
    rw [dg_step (by have := h 0 (by omega); rwa [Nat.add_zero] at this), dg_runs z (j + 1) (fun k hk => by have := h (k + 1) (by omega); rw [show j + 1 + k = j + (k + 1) by omega]; exact this) (by rw [show j + 1 + z = j + (z + 1) by omega]; exact h2)]
    omega
theorem byt_list (t : ByteArray) (k : Nat) (hk : k < t.size) : ∃ c : UInt8, t.data.toList[k]? = some c ∧ byt t k = (c.toNat : Nat) := by
  refine ⟨t[k], ?_, (byt_eq t k hk).symm⟩
  have hl : k < t.data.toList.length := by simpa using hk
  rw [List.getElem?_eq_getElem hl]
  rfl
theorem nm_at {t : ByteArray} (h : nmB t = true) : 0 < t.size ∧ ltI (byt t 0) = true ∧ ∀ k, k < t.size → wcI (byt t k) = true := by
  unfold nmB at h
  have hz : t.data.toList.length = t.size := by simp
  cases hl : t.data.toList with
  | nil => rw [hl] at h; cases h
  | cons b r =>
    rw [hl] at h hz
    simp only [nmL, Bool.and_eq_true] at h
    have h0 : 0 < t.size := by rw [← hz]; simp
    obtain ⟨c, e1, e2⟩ := byt_list t 0 h0
    rw [hl] at e1
    simp only [List.getElem?_cons_zero, Option.some.injEq] at e1
    subst e1
    have hb0 : ltI (byt t 0) = true := by rw [e2, ← ltI_eq]; exact h.1
    refine ⟨h0, hb0, fun k hk => ?_⟩
    cases k with
    | zero => unfold wcI; rw [hb0]; rfl
    | succ k =>
      obtain ⟨c, e3, e4⟩ := byt_list t (k + 1) hk
      rw [hl, List.getElem?_cons_succ] at e3
      have := List.all_eq_true.1 h.2 c (List.mem_of_getElem? e3)
      unfold wcI
      rw [e4, ← ltI_eq, ← dgI_eq]
      exact this
theorem allD_in {t : ByteArray} : ∀ n, Nm.allD t n = true → ∀ k, k < n → isDg (byt t k) = true
  | 0, _, k, hk => by omega
  | n + 1, h, k, hk => by
    unfold Nm.allD at h
    simp only [Bool.and_eq_true, decide_eq_true_eq] at h
    by_cases e : k = n
    · subst e; unfold isDg; simp; exact h.2
    · exact allD_in n h.1 k (by omega)
theorem int_at {t : ByteArray} (h : intB t = true) : 0 < t.size ∧ (byt t 0 = 45 ∨ isDg (byt t 0) = true) ∧ ∀ k, 1 ≤ k → k < t.size → isDg (byt t k) = true := by
  unfold intB Nm.areD at h
  simp only [Bool.and_eq_true, decide_eq_true_eq] at h
  obtain ⟨⟨h1, _⟩, h3⟩ := h
  cases hn : Nm.isNeg t with
  | false =>
    have hb : Nm.bare t = t := by unfold Nm.bare; rw [hn]; rfl
    rw [hb] at h1 h3
    exact ⟨h1, .inr (allD_in _ h3 0 h1), fun k _ hk => allD_in _ h3 k hk⟩
  | true =>
    have hneg := hn
    unfold Nm.isNeg at hneg
    simp only [Bool.and_eq_true, decide_eq_true_eq] at hneg
    have hb : Nm.bare t = t.extract 1 (1 + (t.size - 1)) := by
      unfold Nm.bare
      rw [hn, show 1 + (t.size - 1) = t.size by omega]; rfl
    rw [hb] at h1 h3
    have hz : (t.extract 1 (1 + (t.size - 1))).size = t.size - 1 := by simp; omega
    rw [hz] at h3
    refine ⟨hneg.1, .inl hneg.2, fun k hk1 hk => ?_⟩
    have := allD_in _ h3 (k - 1) (by omega)
    rw [byt_extract (by omega) (k - 1) (by omega), show 1 + (k - 1) = k by omega] at this
    exact this
theorem wc_parts {c : Int} (h : wcI c = false) : ltI c = false ∧ isDg c = false := by
  unfold wcI at h
  exact Bool.or_eq_false_iff.1 h
theorem lt_parts {c : Int} (h : ltI c = true) : c ≠ 45 ∧ isDg c = false ∧ c ≠ 34 ∧ 65 ≤ c ∧ c ≤ 122 := by
  unfold ltI at h
  unfold isDg
  simp at h ⊢
  omega
theorem dg_parts {c : Int} (h : isDg c = true) : ltI c = false ∧ c ≠ 34 ∧ 48 ≤ c ∧ c ≤ 57 := by
  unfold isDg at h
  unfold ltI
  simp at h ⊢
  omega
theorem nam_no {s : ByteArray} {a : Nat} (h : ltI (byt s a) = false) : namR s a = .no := by unfold namR; rw [h]; rfl
theorem int_no {s : ByteArray} {a : Nat} (h1 : byt s a ≠ 45) (h2 : isDg (byt s a) = false) : intR s a = .no := by unfold intR; rw [if_neg (by rintro (e | e); exact h1 e; rw [h2] at e; cases e)]
theorem txt_no {s : ByteArray} {a : Nat} (h : byt s a ≠ 34) : txtR s a = .no := by unfold txtR; rw [if_neg h]
/-- A name is read. -/
theorem tok_name {s : ByteArray} {a : Nat} {t : ByteArray} (h : nmB t = true) (hat : AtL s a (bI t)) (hf : Fol (byt s (a + t.size))) : tokM s a = some (⟨1, t, a⟩, a + t.size) := by
  obtain ⟨h0, h1, h2⟩ := nm_at h
  have b0 := bytA hat 0 h0
  rw [Nat.add_zero] at b0
  have hw : wd s (a + 1) = a + t.size := by
    rw [wd_run (t.size - 1) (a + 1) (fun k hk => by rw [show a + 1 + k = a + (k + 1) by omega, bytA hat (k + 1) (by omega)]; exact h2 _ (by omega)) (by rw [show a + 1 + (t.size - 1) = a + t.size by omega]; exact hf.w)]
    omega
  unfold tokM namR
  rw [b0, if_pos h1, hw, cutA hat]
  rfl
/-- An Int is read. -/
theorem tok_int {s : ByteArray} {a : Nat} {t : ByteArray} (h : intB t = true) (hat : AtL s a (bI t)) (hf : Fol (byt s (a + t.size))) : tokM s a = some (⟨2, t, a⟩, a + t.size) := by
  obtain ⟨h0, h1, h2⟩ := int_at h
  have b0 := bytA hat 0 h0
  rw [Nat.add_zero] at b0
  have hl : ltI (byt s a) = false := by
    rw [b0]
    rcases h1 with e | e
    · rw [e]; decide
    · exact (dg_parts e).1
  have hw : dg s (a + 1) = a + t.size := by
    rw [dg_runs (t.size - 1) (a + 1) (fun k hk => by rw [show a + 1 + k = a + (k + 1) by omega, bytA hat (k + 1) (by omega)]; exact h2 _ (by omega) (by omega)) (by rw [show a + 1 + (t.size - 1) = a + t.size by omega]; exact (wc_parts hf.w).2)]
    omega
  unfold tokM
  rw [nam_no hl]
  unfold intR
  rw [b0, if_pos h1, hw, cutA hat, if_neg (by
    rintro (e | e | e)
    · exact hf.p e
    · rw [(wc_parts hf.w).1] at e; cases e
    · rw [h] at e; cases e)]
  rfl
theorem pm_at {t : ByteArray} (h : pmB t = true) : t = ⟨#[46, 46, 46]⟩ ∨ (t.size = 1 ∧ (byt t 0 = 33 ∨ byt t 0 = 36 ∨ byt t 0 = 38 ∨ byt t 0 = 40 ∨ byt t 0 = 41 ∨ byt t 0 = 58 ∨ byt t 0 = 61 ∨ byt t 0 = 64 ∨ byt t 0 = 91 ∨ byt t 0 = 93 ∨ byt t 0 = 123 ∨ byt t 0 = 124 ∨ byt t 0 = 125)) := by
  unfold pmB at h
  rw [Bool.or_eq_true] at h
  rcases h with h | h
  · left
    have e := eq_of_beq h
    rw [Lib.toList_data] at e
    apply ByteArray.ext
    apply Array.ext'
    exact e
  · right
    obtain ⟨i, hi, e⟩ := List.any_eq_true.1 h
    have hi' := List.mem_range.1 hi
    have e2 := eq_of_beq e
    rw [cut_list i hi', Lib.toList_data] at e2
    have hz : t.size = 1 := by
      have : t.data.toList.length = t.size := by simp
      rw [← this, e2]; rfl
    refine ⟨hz, ?_⟩
    obtain ⟨c, e3, e4⟩ := byt_list t 0 (by omega)
    rw [e2] at e3
    simp only [List.getElem?_cons_zero, Option.some.injEq] at e3
    rw [e4, ← e3]
    rcases (show i = 0 ∨ i = 1 ∨ i = 2 ∨ i = 3 ∨ i = 4 ∨ i = 5 ∨ i = 6 ∨ i = 7 ∨ i = 8 ∨ i = 9 ∨ i = 10 ∨ i = 11 ∨ i = 12 by omega) with rfl | rfl | rfl | rfl | rfl | rfl | rfl | rfl | rfl | rfl | rfl | rfl | rfl <;> decide
theorem mk_b0 {c : Int} (h : c = 33 ∨ c = 36 ∨ c = 38 ∨ c = 40 ∨ c = 41 ∨ c = 58 ∨ c = 61 ∨ c = 64 ∨ c = 91 ∨ c = 93 ∨ c = 123 ∨ c = 124 ∨ c = 125) : ltI c = false ∧ c ≠ 45 ∧ isDg c = false ∧ c ≠ 34 ∧ c ≠ 46 := by
  rcases h with rfl | rfl | rfl | rfl | rfl | rfl | rfl | rfl | rfl | rfl | rfl | rfl | rfl <;> decide
/-- A mark is read. -/
theorem tok_mark {s : ByteArray} {a : Nat} {t : ByteArray} (h : pmB t = true) (hat : AtL s a (bI t)) : tokM s a = some (⟨4, t, a⟩, a + t.size) := by
  rcases pm_at h with rfl | ⟨hz, hb⟩
  · have b0 := bytA hat 0 (by decide)
    have b1 := bytA hat 1 (by decide)
    have b2 := bytA hat 2 (by decide)
    rw [Nat.add_zero] at b0
    have e0 : byt ⟨#[46, 46, 46]⟩ 0 = 46 := by decide
    have e1 : byt ⟨#[46, 46, 46]⟩ 1 = 46 := by decide
    have e2 : byt ⟨#[46, 46, 46]⟩ 2 = 46 := by decide
    rw [e0] at b0
    rw [e1] at b1
    rw [e2] at b2
    unfold tokM
    rw [nam_no (by rw [b0]; decide), int_no (by rw [b0]; decide) (by rw [b0]; decide), txt_no (by rw [b0]; decide)]
    unfold mrkR
    rw [if_pos ⟨b0, b1, b2⟩]
    rfl
  · have b0 := bytA hat 0 (by omega)
    rw [Nat.add_zero] at b0
    obtain ⟨g1, g2, g3, g4, g5⟩ := mk_b0 hb
    have hc : s.extract a (a + 1) = t := by have := cutA hat; rwa [hz] at this
    unfold tokM
    rw [nam_no (by rw [b0]; exact g1), int_no (by rw [b0]; exact g2) (by rw [b0]; exact g3), txt_no (by rw [b0]; exact g4)]
    unfold mrkR
    rw [if_neg (fun e => g5 (by rw [← b0]; exact e.1)), hc, if_pos h, hz]
    rfl
end Go.Proofs.YtmkkckhfdafjnaaGreatDoor
/- Layer 17: a text's JSON is read as that text (plain). -/
namespace Go.Proofs.YtmkkckhfdafjnaaGreatDoor
open Go.RowKit
theorem esc_ge {x : Int} (h0 : 0 ≤ x) : ∀ c ∈ escI x, 32 ≤ c := by
  intro c hc
  unfold escI at hc
  split at hc
  · rename_i hs
    rcases List.mem_cons.1 hc with rfl | hc
    · decide
    · obtain rfl := List.mem_singleton.1 hc
      unfold shortI at hs ⊢
      (repeat' split) <;> (first | omega | (simp at hs; omega))
  · split at hc
    · simp only [List.mem_cons, List.not_mem_nil, or_false] at hc
      unfold hexI at hc
      rcases hc with rfl | rfl | rfl | rfl | rfl | rfl <;> (try (split <;> omega)) <;> decide
    · obtain rfl := List.mem_singleton.1 hc; omega
theorem quF_plain {s : ByteArray} {f j : Nat} (hf : 1 ≤ f) (hj : j < s.size) (h1 : 32 ≤ byt s j) (h2 : byt s j ≠ 34) (h3 : byt s j ≠ 92) : quF s f j = quF s (f - 1) (j + 1) := by
  rw [quF_step hf, if_neg (by omega), if_neg h2, if_neg (fun e => h3 e.1), if_neg (by rintro (e | e); exact h3 e; omega)]
theorem quF_two {s : ByteArray} {f j : Nat} (hf : 1 ≤ f) (hj : j < s.size) (h1 : byt s j = 92) (h2 : 32 ≤ byt s (j + 1)) : quF s f j = quF s (f - 1) (j + 2) := by
  rw [quF_step hf, if_neg (by omega), if_neg (by omega), if_pos ⟨h1, h2⟩]
theorem quF_esL {s : ByteArray} : ∀ (L : List Int) (j f : Nat), (∀ x ∈ L, 0 ≤ x) → AtL s j (esL L ++ [34]) → s.size - j + 1 ≤ f → quF s f j = some (j + (esL L).length + 1)
  | [], j, f, _, h, hf => by
    have h34 : byt s j = 34 := h.2.1
    have hj : j < s.size := byt_in (by rw [h34]; decide)
    rw [quF_step (by omega), if_neg (by omega), if_pos h34]
    rfl
  | x :: r, j, f, hx, h, hf => by
    have h0 := hx x (by simp)
    have e : esL (x :: r) ++ [34] = escI x ++ (esL r ++ [34]) := by
      show (escI x ++ esL r) ++ [34] = _
      rw [List.append_assoc]
    have el : (esL (x :: r)).length = (escI x).length + (esL r).length := by
      show (escI x ++ esL r).length = _
      rw [List.length_append]
    rw [e] at h
    obtain ⟨hA, hB⟩ := at_app.1 h
    have hle := at_le hB
    have hg := esc_ge h0
    have hb := fun k (hk : k < (escI x).length) => at_getD hA k hk
    have ih := fun f' (hf' : s.size - (j + (escI x).length) + 1 ≤ f') => quF_esL r (j + (escI x).length) f' (fun y hy => hx y (by simp [hy])) hB hf'
    rw [el]
    unfold escI at hb hg hle ih ⊢
    by_cases hs : shortI x ≠ 0
    · rw [if_pos hs] at hb hg hle ih ⊢
      have b0 := hb 0 (by simp)
      have b1 := hb 1 (by simp)
      rw [Nat.add_zero] at b0
      have g1 := hg (shortI x) (by simp)
      simp at hle
      rw [quF_two (by omega) (by omega) b0 (by rw [b1]; exact g1)]
      have := ih (f - 1) (by simp; omega)
      simp at this ⊢
      rw [this]
      congr 1
      omega
    · rw [if_neg hs] at hb hg hle ih ⊢
      by_cases h32 : x < 32
      · rw [if_pos h32] at hb hg hle ih ⊢
        have b0 := hb 0 (by simp)
        have b1 := hb 1 (by simp)
        have b2 := hb 2 (by simp)
        have b3 := hb 3 (by simp)
        have b4 := hb 4 (by simp)
        have b5 := hb 5 (by simp)
        rw [Nat.add_zero] at b0
        have hx4 : ∀ y : Int, 0 ≤ y → y < 16 → 32 ≤ hexI y ∧ hexI y ≠ 34 ∧ hexI y ≠ 92 := by
          intro y y0 y1
          unfold hexI
          split <;> omega
        have g4 := hx4 (x / 16) (by omega) (by omega)
        have g5 := hx4 (x % 16) (by omega) (by omega)
        have b1' : byt s (j + 1) = 117 := b1
        have b2' : byt s (j + 2) = 48 := b2
        have b3' : byt s (j + 2 + 1) = 48 := b3
        have b4' : byt s (j + 2 + 1 + 1) = hexI (x / 16) := b4
        have b5' : byt s (j + 2 + 1 + 1 + 1) = hexI (x % 16) := b5
        simp at hle
        rw [quF_two (by omega) (by omega) b0 (by rw [b1']; decide),
          quF_plain (by omega) (by omega) (by rw [b2']; decide) (by rw [b2']; decide) (by rw [b2']; decide),
          quF_plain (by omega) (by omega) (by rw [b3']; decide) (by rw [b3']; decide) (by rw [b3']; decide),
          quF_plain (by omega) (by omega) (by rw [b4']; exact g4.1) (by rw [b4']; exact g4.2.1) (by rw [b4']; exact g4.2.2),
          quF_plain (by omega) (by omega) (by rw [b5']; exact g5.1) (by rw [b5']; exact g5.2.1) (by rw [b5']; exact g5.2.2)]
        have := ih (f - 1 - 1 - 1 - 1 - 1) (by simp; omega)
        simp at this ⊢
        rw [this]
        congr 1
        omega
      · rw [if_neg h32] at hb hg hle ih ⊢
        have b0 := hb 0 (by simp)
        rw [Nat.add_zero] at b0
        have b0' : byt s j = x := b0
        have hn : x ≠ 34 ∧ x ≠ 92 := by
          constructor
          · intro e; exact hs (by rw [e]; decide)
          · intro e; exact hs (by rw [e]; decide)
        simp at hle
        rw [quF_plain (by omega) (by omega) (by rw [b0']; omega) (by rw [b0']; exact hn.1) (by rw [b0']; exact hn.2)]
        have := ih (f - 1) (by simp; omega)
        simp at this ⊢
        rw [this]
        congr 1
        omega
theorem quT_size2 (t : ByteArray) : (quT t).size = (esL (bI t)).length + 2 := by rw [← bI_len, quT_bI]; simp
theorem quM_qu {s : ByteArray} {a : Nat} {t : ByteArray} (hat : AtL s a (bI (quT t))) : quM s a = some (a + (quT t).size) := by
  have hz := quT_size2 t
  have hle := at_le hat
  rw [bI_len] at hle
  rw [quT_bI] at hat
  unfold quM
  rw [quF_esL (bI t) (a + 1) (s.size - a) (fun x hx => (bI_range t x hx).1) hat.2.2 (by omega), hz]
  congr 1
  omega
theorem tabL_id : ∀ l : List Int, (∀ c ∈ l, c ≠ 9) → tabL l = l
  | [], _ => rfl
  | c :: r, h => by
    unfold tabL
    rw [if_neg (h c (by simp)), tabL_id r (fun x hx => h x (by simp [hx]))]
theorem tabT_qu (t : ByteArray) : tabT (quT t) = quT t := by
  unfold tabT
  rw [tabL_id _ (fun c hc => by
    rw [quT_bI] at hc
    rcases List.mem_cons.1 hc with rfl | hc
    · decide
    rcases List.mem_append.1 hc with hc | hc
    · obtain ⟨x, hx, hc⟩ := List.mem_flatMap.1 hc
      have := esc_ge (bI_range t x hx).1 c hc
      omega
    · obtain rfl := List.mem_singleton.1 hc; decide), mk_bI]
theorem readM_qu {t : ByteArray} (h : isTx t = true) (hs : (quT t).size ≤ 16384) : readM (quT t) = .ok [⟨3, ⟨#[]⟩, t, 0, 0⟩] := by
  have hat := at_all (quT t)
  have htw := tw_qu h hat
  rw [Nat.zero_add] at htw
  have htx := htw.tx rfl _ (Nat.le_refl _)
  have hck : ckE (quT t) = 0 := by
    unfold ckE
    rw [if_neg (by omega)]
    have e : isTx (quT t) = true := htx
    rw [e]; rfl
  have hrd := quT_read hat
  rw [Nat.zero_add] at hrd
  have b0 : byt (quT t) 0 = 34 := by
    have hz := quT_size2 t
    have e := bI_at (quT t) 0 (by omega)
    rw [quT_bI] at e
    simp at e
    exact e.symm
  have hbl : bl (quT t) 0 = 0 := bl_stop (by rw [b0]; decide)
  unfold readM
  rw [if_neg (by omega), hbl]
  unfold valM
  rw [b0, if_neg (by decide), if_neg (by rintro ⟨e, _⟩; rcases e with e | e <;> cases e), if_neg (by decide), if_neg (by decide), if_neg (by decide), if_pos rfl, hrd]
  simp only [Rs.bind_ok]
  rw [bl_stop (by rw [byt_end (Nat.le_refl _)]; rfl), if_neg (Nat.lt_irrefl _), mk_bI]
  rfl
/-- A text is read. -/
theorem tok_text {s : ByteArray} {a : Nat} {t : ByteArray} (h : isTx t = true) (hs : (quT t).size ≤ 16384) (hat : AtL s a (bI (quT t))) (hf : Fol (byt s (a + (quT t).size))) : tokM s a = some (⟨3, t, a⟩, a + (quT t).size) := by
  have hz := quT_size2 t
  have b0 : byt s a = 34 := by
    have h2 := hat
    rw [quT_bI] at h2
    exact h2.2.1
  unfold tokM
  rw [nam_no (by rw [b0]; decide), int_no (by rw [b0]; decide) (by rw [b0]; decide)]
  unfold txtR
  rw [if_pos b0, quM_qu hat]
  unfold txt1
  dsimp only
  rw [cutA hat, tabT_qu, readM_qu h hs]
  unfold txt2
  dsimp only
  have e : (gl [(⟨3, ⟨#[]⟩, t, 0, 0⟩ : CR)] 0).tx = t := rfl
  rw [e, if_neg (fun k => hf.q k.2)]
  rfl
/-- A token that may be, and is no end, is read. -/
theorem tok_read {s : ByteArray} {a : Nat} {x : TkR} (h : okT x = true) (hk : x.k ≠ 0) (hs : (tellT x).size ≤ 16384) (hat : AtL s a (bI (tellT x))) (hf : Fol (byt s (a + (tellT x).size))) : tokM s a = some (⟨x.k, x.s, a⟩, a + (tellT x).size) := by
  unfold okT at h
  rw [if_neg hk] at h
  unfold tellT at hs hat hf ⊢
  by_cases h1 : x.k = 1
  · rw [if_pos h1] at h
    rw [if_neg (by omega)] at hs hat hf ⊢
    rw [h1]
    exact tok_name h hat hf
  rw [if_neg h1] at h
  by_cases h2 : x.k = 2
  · rw [if_pos h2] at h
    rw [if_neg (by omega)] at hs hat hf ⊢
    rw [h2]
    exact tok_int h hat hf
  rw [if_neg h2] at h
  by_cases h3 : x.k = 3
  · rw [if_pos h3] at h
    rw [if_pos h3] at hs hat hf ⊢
    rw [h3]
    refine tok_text ?_ hs hat hf
    have hc := beq_iff_eq.1 h
    have hc2 := ck_small (ckE_size hc)
    rw [hc] at hc2
    cases ht : isTx x.s with
    | true => rfl
    | false => rw [ht] at hc2; cases hc2
  rw [if_neg h3] at h
  by_cases h4 : x.k = 4
  · rw [if_pos h4] at h
    rw [if_neg (by omega)] at hs hat hf ⊢
    rw [h4]
    exact tok_mark h hat
  · rw [if_neg h4] at h; cases h
end Go.Proofs.YtmkkckhfdafjnaaGreatDoor
/- Layer 17: tokens that lie one behind the other are read (plain). -/
namespace Go.Proofs.YtmkkckhfdafjnaaGreatDoor
open Go.RowKit
/-- Tokens that lie from a place on, so many bytes ahead of each that count for nothing. -/
def Lay (s : ByteArray) : Nat → List (Nat × TkR) → Prop
  | i, [] => bk s i = (s.size, false)
  | i, y :: r => bk s i = (i + y.1, false) ∧ i + y.1 < s.size ∧ okT y.2 = true ∧ y.2.k ≠ 0 ∧ (tellT y.2).size ≤ 16384 ∧ AtL s (i + y.1) (bI (tellT y.2)) ∧ Fol (byt s (i + y.1 + (tellT y.2).size)) ∧ Lay s (i + y.1 + (tellT y.2).size) r
def ksT (x : TkR) : Int × ByteArray := (x.k, x.s)
theorem lay_lex {s : ByteArray} : ∀ (items : List (Nat × TkR)) (i n : Nat) (L : List TkR), Lay s i items → items.length ≤ n → ∃ L', lexF s n i L = .ok (L ++ L' ++ [⟨0, ⟨#[]⟩, s.size⟩]) ∧ L'.map ksT = items.map (fun y => ksT y.2)
  | [], i, n, L, h, _ => by
    refine ⟨[], ?_, rfl⟩
    have h' : bk s i = (s.size, false) := h
    cases n with
    | zero => rw [lexF_step0, h', if_neg (fun e => by cases e), if_pos rfl]; simp
    | succ n => rw [lexF_step, h', if_neg (fun e => by cases e), if_pos rfl]; simp
  | y :: r, i, n, L, h, hn => by
    obtain ⟨h1, h2, h3, h4, h5, h6, h7, h8⟩ := h
    obtain ⟨m, rfl⟩ : ∃ m, n = m + 1 := ⟨n - 1, by simp at hn; omega⟩
    obtain ⟨L', e1, e2⟩ := lay_lex r _ m (L ++ [⟨y.2.k, y.2.s, (i + y.1 : Nat)⟩]) h8 (by simp at hn; omega)
    refine ⟨⟨y.2.k, y.2.s, (i + y.1 : Nat)⟩ :: L', ?_, ?_⟩
    · rw [lexF_step, h1, if_neg (fun e => by cases e), if_neg (by show ¬ i + y.1 = s.size; omega)]
      show lexK (i + y.1) (tokM s (i + y.1)) _ = _
      rw [tok_read h3 h4 h5 h6 h7]
      show lexF s m (i + y.1 + (tellT y.2).size) _ = _
      rw [e1]
      simp
    · simp only [List.map_cons, e2]
      rfl
/-- What is no blank's byte. -/
structure Nbl (c : Int) : Prop where
  p1 : c ≠ 10
  p2 : c ≠ 13
  p3 : c ≠ 32
  p4 : c ≠ 9
  p5 : c ≠ 44
  p6 : c ≠ 35
  p7 : c ≠ 239
theorem bk_here {s : ByteArray} {j : Nat} (hj : j < s.size) (h : Nbl (byt s j)) : bk s j = (j, false) := by
  unfold bk
  rw [bkF_step (by omega), if_neg (by omega), if_neg (by rintro (e | e); exact h.p1 e; exact h.p2 e), if_neg (fun e => by cases e.1), if_neg (by rintro (e | e | e | e); cases e; exact h.p3 e; exact h.p4 e; exact h.p5 e), if_neg h.p6, if_neg (fun e => h.p7 e.1)]
theorem bk_sp {s : ByteArray} {j : Nat} (hj : j < s.size) (h : byt s j = 32 ∨ byt s j = 9 ∨ byt s j = 44) : bk s j = bk s (j + 1) := by
  unfold bk
  rw [bkF_step (by omega), if_neg (by omega), if_neg (by omega), if_neg (fun e => by cases e.1), if_pos (.inr h)]
  congr 1
  omega
theorem bk_end (s : ByteArray) : bk s s.size = (s.size, false) := by
  unfold bk
  rw [bkF_step (by omega), if_pos (Nat.le_refl _)]
theorem nbl_of {c : Int} (h : 45 ≤ c) (h2 : c ≠ 239) : Nbl c := ⟨by omega, by omega, by omega, by omega, by omega, by omega, h2⟩
theorem tell_b0 {x : TkR} (h : okT x = true) (hk : x.k ≠ 0) : 0 < (tellT x).size ∧ Nbl (byt (tellT x) 0) := by
  unfold okT at h
  rw [if_neg hk] at h
  unfold tellT
  by_cases h1 : x.k = 1
  · rw [if_pos h1] at h
    rw [if_neg (by omega)]
    obtain ⟨h0, hl, _⟩ := nm_at h
    have := lt_parts hl
    exact ⟨h0, nbl_of (by omega) (by omega)⟩
  rw [if_neg h1] at h
  by_cases h2 : x.k = 2
  · rw [if_pos h2] at h
    rw [if_neg (by omega)]
    obtain ⟨h0, hl, _⟩ := int_at h
    refine ⟨h0, ?_⟩
    rcases hl with e | e
    · rw [e]; exact nbl_of (by decide) (by decide)
    · have := dg_parts e
      exact nbl_of (by omega) (by omega)
  rw [if_neg h2] at h
  by_cases h3 : x.k = 3
  · rw [if_pos h3]
    have hz := quT_size2 x.s
    have e := bI_at (quT x.s) 0 (by omega)
    rw [quT_bI] at e
    simp at e
    refine ⟨by omega, ?_⟩
    rw [← e]
    exact ⟨by decide, by decide, by decide, by decide, by decide, by decide, by decide⟩
  rw [if_neg h3] at h
  by_cases h4 : x.k = 4
  · rw [if_pos h4] at h
    rw [if_neg (by omega)]
    rcases pm_at h with e | ⟨hz, hb⟩
    · rw [e]
      exact ⟨by decide, nbl_of (by decide) (by decide)⟩
    · refine ⟨by omega, ?_⟩
      rcases hb with e | e | e | e | e | e | e | e | e | e | e | e | e <;> (rw [e]; exact ⟨by decide, by decide, by decide, by decide, by decide, by decide, by decide⟩)
  · rw [if_neg h4] at h; cases h
theorem ascA {s : ByteArray} {i : Nat} {t : ByteArray} (h : ∀ k, k < t.size → byt t k < 128) (hat : AtL s i (bI t)) : Tw s i (i + t.size) := by
  have := tw_asc (s := s) (L := bI t) (i := i) (fun c hc => by
    obtain ⟨k, hk, rfl⟩ := List.mem_iff_getElem.1 hc
    have hk' : k < t.size := by rw [bI_len] at hk; exact hk
    have e := bI_at t k hk'
    rw [List.getElem?_eq_getElem hk] at e
    rw [Option.some.inj e]
    exact h k hk') hat
  rw [bI_len] at this
  exact this
theorem wc_asc {c : Int} (h : wcI c = true) : c < 128 := by
  unfold wcI ltI isDg at h
  simp at h
  omega
theorem tell_tw {s : ByteArray} {i : Nat} {x : TkR} (h : okT x = true) (hk : x.k ≠ 0) (hat : AtL s i (bI (tellT x))) : Tw s i (i + (tellT x).size) := by
  unfold okT at h
  rw [if_neg hk] at h
  unfold tellT at hat ⊢
  by_cases h1 : x.k = 1
  · rw [if_pos h1] at h
    rw [if_neg (by omega)] at hat ⊢
    exact ascA (fun k hk => wc_asc ((nm_at h).2.2 k hk)) hat
  rw [if_neg h1] at h
  by_cases h2 : x.k = 2
  · rw [if_pos h2] at h
    rw [if_neg (by omega)] at hat ⊢
    obtain ⟨h0, hl, hr⟩ := int_at h
    refine ascA (fun k hk => ?_) hat
    cases k with
    | zero =>
      rcases hl with e | e
      · rw [e]; decide
      · have := dg_parts e; omega
    | succ k => have := dg_parts (hr (k + 1) (by omega) hk); omega
  rw [if_neg h2] at h
  by_cases h3 : x.k = 3
  · rw [if_pos h3] at h hat ⊢
    have hc := beq_iff_eq.1 h
    have hc2 := ck_small (ckE_size hc)
    rw [hc] at hc2
    refine tw_qu ?_ hat
    cases ht : isTx x.s with
    | true => rfl
    | false => rw [ht] at hc2; cases hc2
  rw [if_neg h3] at h
  by_cases h4 : x.k = 4
  · rw [if_pos h4] at h
    rw [if_neg (by omega)] at hat ⊢
    refine ascA (fun k hk => ?_) hat
    rcases pm_at h with e | ⟨hz, hb⟩
    · rw [e] at hk ⊢
      have hk3 : k < 3 := hk
      rcases (show k = 0 ∨ k = 1 ∨ k = 2 by omega) with rfl | rfl | rfl <;> decide
    · obtain rfl : k = 0 := by omega
      omega
  · rw [if_neg h4] at h; cases h
/-! ### What Join puts together -/
def itJ (g : Nat → TkR) : Nat → Nat → List (Nat × TkR)
  | 0, _ => []
  | d + 1, k => (if 0 < k then 1 else 0, g k) :: itJ g d (k + 1)
theorem itJ_len (g : Nat → TkR) : ∀ d k, (itJ g d k).length = d
  | 0, _ => rfl
  | d + 1, k => by simp [itJ, itJ_len g d]
theorem itJ_map (g : Nat → TkR) : ∀ d k, (itJ g d k).map (fun y => ksT y.2) = (List.range d).map (fun j => ksT (g (k + j)))
  | 0, _ => rfl
  | d + 1, k => by
    rw [itJ, List.map_cons, itJ_map g d (k + 1), List.range_succ_eq_map, List.map_cons, List.map_map]
    congr 1
    apply List.map_congr_left
    intro j _
    show ksT (g (k + 1 + j)) = ksT (g (k + (j + 1)))
    rw [show k + 1 + j = k + (j + 1) by omega]
theorem jd_bI (g : Nat → TkR) (k : Nat) (hk : (g k).k ≠ 0) : bI (jdW g (k + 1)) = bI (jdW g k) ++ ((if 0 < k then [32] else []) ++ bI (tellT (g k))) := by
  show bI ((if 0 < k ∧ (g k).k ≠ 0 then jdW g k ++ ⟨#[32]⟩ else jdW g k) ++ tellT (g k)) = _
  rw [bI_app]
  by_cases h : 0 < k
  · rw [if_pos ⟨h, hk⟩, if_pos h, bI_app, List.append_assoc]; rfl
  · rw [if_neg (fun e => h e.1), if_neg h]; rfl
theorem jd_pre {s : ByteArray} {g : Nat → TkR} {m : Nat} (hk : ∀ k, k < m → (g k).k ≠ 0) (h : AtL s 0 (bI (jdW g m))) : ∀ d k, k + d = m → AtL s 0 (bI (jdW g k))
  | 0, k, e => by obtain rfl : k = m := by omega
                  exact h
  | d + 1, k, e => by
    have := jd_pre hk h d (k + 1) (by omega)
    rw [jd_bI g k (hk k (by omega))] at this
    exact (at_app.1 this).1
theorem jd_at {s : ByteArray} {g : Nat → TkR} {m : Nat} (hk : ∀ k, k < m → (g k).k ≠ 0) (h : AtL s 0 (bI (jdW g m))) {k : Nat} (hkm : k < m) : AtL s (jdW g k).size ((if 0 < k then [32] else []) ++ bI (tellT (g k))) := by
  have := jd_pre hk h (m - (k + 1)) (k + 1) (by omega)
  rw [jd_bI g k (hk k hkm)] at this
  have := (at_app.1 this).2
  rw [bI_len, Nat.zero_add] at this
  exact this
theorem jd_size (g : Nat → TkR) (k : Nat) (hk : (g k).k ≠ 0) : (jdW g (k + 1)).size = (jdW g k).size + (if 0 < k then 1 else 0) + (tellT (g k)).size := by
  rw [← bI_len, jd_bI g k hk, List.length_append, List.length_append, bI_len, bI_len]
  split <;> simp <;> omega
theorem lay_jd {g : Nat → TkR} {m : Nat} (hok : ∀ k, k < m → okT (g k) = true) (hk : ∀ k, k < m → (g k).k ≠ 0) (hsz : (jdW g m).size ≤ 16384) : ∀ d k, k + d = m → Lay (jdW g m) (jdW g k).size (itJ g d k) ∧ Tw (jdW g m) (jdW g k).size (jdW g m).size
  | 0, k, e => by
    obtain rfl : k = m := by omega
    exact ⟨bk_end _, .nil _⟩
  | d + 1, k, e => by
    have hkm : k < m := by omega
    obtain ⟨ih1, ih2⟩ := lay_jd hok hk hsz d (k + 1) (by omega)
    have hall := at_all (jdW g m)
    have hat := jd_at hk hall hkm
    obtain ⟨hA, hB⟩ := at_app.1 hat
    have hlen : (if 0 < k then [(32 : Int)] else []).length = if 0 < k then 1 else 0 := by split <;> rfl
    rw [hlen] at hB
    have hle := at_le hB
    rw [bI_len] at hle
    obtain ⟨t0, tn⟩ := tell_b0 (hok k hkm) (hk k hkm)
    have hb := bytA hB 0 t0
    rw [Nat.add_zero] at hb
    rw [jd_size g k (hk k hkm)] at ih1 ih2
    obtain ⟨P, hP⟩ : ∃ P, P = (jdW g k).size := ⟨_, rfl⟩
    obtain ⟨D, hD⟩ : ∃ D, D = if 0 < k then 1 else 0 := ⟨_, rfl⟩
    have hfol : Fol (byt (jdW g m) (P + D + (tellT (g k)).size)) := by
      by_cases e2 : k + 1 < m
      · have h2 := jd_at hk hall e2
        rw [if_pos (Nat.succ_pos k), jd_size g k (hk k hkm), ← hP, ← hD] at h2
        have := h2.2.1
        rw [this]; exact fol_32
      · have e3 : m = k + 1 := by omega
        have : (jdW g m).size = P + D + (tellT (g k)).size := by rw [e3, jd_size g k (hk k hkm), ← hP, ← hD]
        rw [byt_end (by omega)]; exact fol_0
    have hbk : bk (jdW g m) P = (P + D, false) := by
      by_cases h0 : 0 < k
      · rw [if_pos h0] at hA
        have h32 : byt (jdW g m) P = 32 := by rw [hP]; exact hA.2.1
        have hD1 : D = 1 := by rw [hD, if_pos h0]
        rw [bk_sp (by rw [hP]; have := at_le hA; simp at this; omega) (.inl h32)]
        rw [← hP, ← hD, hD1] at hb
        rw [hD1]
        exact bk_here (by rw [← hP, ← hD, hD1] at hle; omega) (by rw [hb]; exact tn)
      · have hD0 : D = 0 := by rw [hD, if_neg h0]
        rw [← hP, ← hD, hD0, Nat.add_zero] at hb hle
        rw [hD0]
        exact bk_here (by omega) (by rw [hb]; exact tn)
    rw [← hP, ← hD] at hB hle ih1 ih2
    have htw1 : Tw (jdW g m) P (P + D) := by
      by_cases h0 : 0 < k
      · rw [if_pos h0] at hA
        have := tw_asc (s := jdW g m) (L := [32]) (i := P) (by simp) (by rw [hP]; exact hA)
        rw [hD, if_pos h0]; exact this
      · rw [hD, if_neg h0]; exact .nil _
    rw [← hP]
    refine ⟨?_, (htw1.trans (tell_tw (hok k hkm) (hk k hkm) hB)).trans ih2⟩
    show bk (jdW g m) P = (P + (if 0 < k then 1 else 0), false) ∧ _
    rw [← hD]
    exact ⟨hbk, by omega, hok k hkm, hk k hkm, by show (tellT (g k)).size ≤ 16384; omega, hB, hfol, ih1⟩
theorem lexM_of {s : ByteArray} {items : List (Nat × TkR)} (hw : Tw s 0 s.size) (hs : s.size ≤ 16384) (h : Lay s 0 items) (hn : items.length ≤ 1024) : ∃ L', lexM s = .ok (L' ++ [⟨0, ⟨#[]⟩, s.size⟩]) ∧ L'.map ksT = items.map (fun y => ksT y.2) := by
  have htx := hw.tx rfl _ (Nat.le_refl _)
  have hck : ckE s = 0 := by
    unfold ckE
    rw [if_neg (by omega)]
    have e : isTx s = true := htx
    rw [e]; rfl
  obtain ⟨L', e1, e2⟩ := lay_lex items 0 1024 [] h hn
  refine ⟨L', ?_, e2⟩
  unfold lexM
  rw [if_neg (by omega), e1]
  rfl
/-- Tokens that are joined are read as the same ones. -/
theorem back_lex {g : Nat → TkR} {m : Nat} (hok : ∀ k, k < m → okT (g k) = true) (hk : ∀ k, k < m → (g k).k ≠ 0) (hsz : (jdW g m).size ≤ 16384) (hm : m ≤ 1024) : ∃ L', lexM (jdW g m) = .ok (L' ++ [⟨0, ⟨#[]⟩, (jdW g m).size⟩]) ∧ L'.map ksT = (List.range m).map (fun j => ksT (g j)) := by
  obtain ⟨h1, h2⟩ := lay_jd hok hk hsz m 0 (by omega)
  obtain ⟨L', e1, e2⟩ := lexM_of h2 hsz h1 (by rw [itJ_len]; exact hm)
  refine ⟨L', e1, ?_⟩
  rw [e2, itJ_map]
  apply List.map_congr_left
  intro j _
  rw [Nat.zero_add]
end Go.Proofs.YtmkkckhfdafjnaaGreatDoor
/- Layer 17: Same of two lists; the chapter's first examples. -/
namespace Go.Proofs.YtmkkckhfdafjnaaGreatDoor
open Go.RowKit Go.Maps
/-- A row of tokens of one's own. -/
def OwT (B : Nat) (w : World) (v : Value) (L : List TkR) : Prop := w.ownsRow B 59 3 v L.length (rw3 (gt L) L.length)
theorem OwT.len {B : Nat} {w : World} {v : Value} {L : List TkR} (h : OwT B w v L) : L.length ≤ maxLen := by
  rcases h.2 with ⟨_, hn⟩ | ⟨g, cap, cur, rfl, hb, hg, h1, h2, h3, h4⟩
  · rw [hn]; exact Nat.zero_le _
  · exact Nat.le_trans h1 h2
theorem ks_at {L M : List TkR} (h : L.map ksT = M.map ksT) : L.length = M.length ∧ ∀ i, i < L.length → (gt L i).k = (gt M i).k ∧ (gt L i).s = (gt M i).s := by
  have hl : L.length = M.length := by have := congrArg List.length h; simpa using this
  refine ⟨hl, fun i hi => ?_⟩
  have e : (L.map ksT)[i]? = (M.map ksT)[i]? := by rw [h]
  rw [List.getElem?_map, List.getElem?_map, List.getElem?_eq_getElem hi, List.getElem?_eq_getElem (by omega)] at e
  have e2 := Option.some.inj e
  unfold gt
  rw [List.getD_eq_getElem?_getD, List.getD_eq_getElem?_getD, List.getElem?_eq_getElem hi, List.getElem?_eq_getElem (by omega)]
  exact ⟨congrArg Prod.fst e2, congrArg Prod.snd e2⟩
theorem last_cell {B : Nat} {w : World} {v : Value} {L : List TkR} {t : TkR} (h : OwT B w v (L ++ [t])) : ∃ q cap, v = .slice (some ⟨q, 0, none⟩) (L.length + 1) cap ∧ B ≤ q ∧ q < w.heap.size ∧ w.cell? ⟨q, L.length * 3 + 2, none⟩ = some (.int .i64 t.a) := by
  have hr : w.ownsRow B 59 3 v (L.length + 1) (rw3 (gt (L ++ [t])) (L.length + 1)) := by
    have h2 := h
    unfold OwT at h2
    rw [List.length_append, List.length_singleton] at h2
    exact h2
  have hlt := hr.lt
  rcases hr.2 with ⟨_, h0⟩ | ⟨q, cap, cur, rfl, hq, hb, _⟩
  · omega
  · refine ⟨q, cap, rfl, hq, (Array.getElem?_eq_some_iff.1 hb).1, ?_⟩
    rw [hr.cellAt _ (by omega)]
    rw [(rw3_at (gt (L ++ [t])) (L.length + 1) L.length (by omega)).2.2]
    unfold gt
    simp [List.getD_eq_getElem?_getD]
theorem tk_one (w : World) (x y z : Value) {b : Nat} (hb : b = w.heap.size) : ∀ j u, [x, y, z][j]? = some u → (w.alloc (.cells #[x, y, z] 59)).cell? ((⟨b, 0, none⟩ : Addr).add j) = some u := news_at2 w _ _ _ rfl hb
/-- Append of one cell record onto an own row, where the operation stands under a guard that holds. -/
theorem wpList_append_own_g {P : Program} {w : World} {ops : Array Oper} {rest : List Oper} {o : Oper} {a : Act} {Q : Exit → Act → World → Prop} (hw : Region.wanted o (yielded ops a.tmps) = true) (s x : Operand) (t : TypeId)
    (ho : o.op = .call { callee := .builtin .append, args := #[s, x], argTypes := #[t, t] })
    (base : Nat) (e : TypeId) (i : TypeInfo) (z : Value) (size bytes : Nat) (ht : P.underlying t = some (.slice e)) (hi : P.info? e = some i) (hz : i.zero = some z)
    (hsize : i.size = size) (hby : i.bytes = bytes) (hzs : z.cells.size = size) (hsz : 0 < size)
    (v : Value) (n : Nat) (xs : List Value) (hs : a.eval s = v) (hown : w.ownsRow base e size v n xs)
    (ad : Addr) (m c : Nat) (news : List Value) (hx : a.eval x = .slice (some ad) m c) (hl : news.length = m * size) (hnews : ∀ j u, news[j]? = some u → w.cell? (ad.add j) = some u) (h1 : ∀ u ∈ news, u.oneCell' = true)
    (h63 : n + m ≤ maxLen) (hbytes : (n + m) * bytes ≤ 140737488355328) (hbase : base ≤ w.heap.size)
    (h : ∀ v' w', w'.ownsRow base e size v' (n + m) (xs ++ news) → w.grownBy w' v.ownBlock → wpList P ops Q rest (a.put o.dst v') w') : wpList P ops Q (o :: rest) a w :=
  wpList_step fun _ hK => by
    rw [if_pos hw]
    exact wp_append_own w s x t ho base e i z size bytes ht hi hz hsize hby hzs hsz v n xs hs hown ad m c news hx hl hnews h1 h63 hbytes hbase fun v' w' h2 h3 _ => hK _ _ (h v' w' h2 h3)
end Go.Proofs.YtmkkckhfdafjnaaGreatDoor
/- Layer 17: the law's helpers: mark, name, alive. -/
namespace Go.Proofs.YtmkkckhfdafjnaaGreatDoor
open Go.RowKit Go.Maps
theorem ret_mk {R : Ending → World → Prop} {fn : Func} {tmps : Array Value} {w : World} {g : Nat} {cs : Array Value} (hr : fn.results = #[.cell 2 59]) (h2 : tmps.getD 2 undef = .pointer (some ⟨g, 0, none⟩)) (hg : w.heap[g]? = some (.cells cs 59)) (hs : cs.size = 3)
    (hR : R (.returned (.agg cs)) w) : bodyPost Tryz.prog fn R .ret ⟨tmps, []⟩ w := by
  obtain ⟨i0, hin, hz0, hz1, hz2⟩ := infoT
  refine bodyPost_ret (v := .agg cs) ?_ rfl hR
  exact results_cell_row hr tmps w g 59 cs (0, 0) _ h2 hg Tryz.underlying59 rfl (by rw [hin]; simp [hz1, hs])
theorem al_lex1 : lexM ⟨#[123, 97, 40, 98, 58, 45, 49, 41, 125, 32, 35, 120]⟩ = .ok ([⟨4, ⟨#[123]⟩, 0⟩, ⟨1, ⟨#[97]⟩, 1⟩, ⟨4, ⟨#[40]⟩, 2⟩, ⟨1, ⟨#[98]⟩, 3⟩, ⟨4, ⟨#[58]⟩, 4⟩, ⟨2, ⟨#[45, 49]⟩, 5⟩, ⟨4, ⟨#[41]⟩, 7⟩, ⟨4, ⟨#[125]⟩, 8⟩] ++ [⟨0, ⟨#[]⟩, 12⟩]) := by kernel_rfl
theorem al_lex2 : lexM ⟨#[34, 92, 117, 48, 48, 101, 57, 44, 34, 44, 32, 120]⟩ = .ok ([⟨3, ⟨#[195, 169, 44]⟩, 0⟩, ⟨1, ⟨#[120]⟩, 11⟩] ++ [⟨0, ⟨#[]⟩, 12⟩]) := by kernel_rfl
/-- Behind a box of one's own: what was is kept. -/
theorem below_boxed0 {w w' : World} {o : Obj} (h : Below w.heap.size (w.alloc o) w') : Below w.heap.size w w' := ((Below.refl _ _).alloc (Nat.le_refl _) _).trans h
end Go.Proofs.YtmkkckhfdafjnaaGreatDoor
/- Layer 17: LexBack. -/
namespace Go.Proofs.YtmkkckhfdafjnaaGreatDoor
open Go.RowKit Go.Maps
def gZ (g : Nat → TkR) (n i : Nat) : TkR := if i < n then g i else ⟨0, ⟨#[]⟩, 0⟩
theorem rw3_cong {g g' : Nat → TkR} : ∀ n, (∀ i, i < n → g i = g' i) → rw3 g n = rw3 g' n
  | 0, _ => rfl
  | n + 1, h => by
    show rw3 g n ++ _ = rw3 g' n ++ _
    rw [rw3_cong n (fun i hi => h i (by omega)), h n (by omega)]
theorem rw3_gZ (g : Nat → TkR) (n : Nat) : rw3 (gZ g n) (n + 1) = rw3 g n ++ [.int .u8 0, .string ⟨#[]⟩, .int .i64 0] := by
  show rw3 (gZ g n) n ++ [.int .u8 (gZ g n n).k, .string (gZ g n n).s, .int .i64 (gZ g n n).a] = _
  rw [rw3_cong (g := gZ g n) (g' := g) n (fun i hi => by unfold gZ; rw [if_pos hi])]
  unfold gZ
  rw [if_neg (Nat.lt_irrefl n)]
theorem gt_gZ (g : Nat → TkR) (n i : Nat) (hi : i < n + 1) : gt ((List.range n).map g ++ [(⟨0, ⟨#[]⟩, 0⟩ : TkR)]) i = gZ g n i := by
  unfold gt gZ
  rw [List.getD_eq_getElem?_getD]
  by_cases h : i < n
  · rw [if_pos h, List.getElem?_append_left (by simpa using h)]
    simp [h]
  · obtain rfl : i = n := by omega
    rw [if_neg h, List.getElem?_append_right (by simp)]
    simp
theorem back_core {g : Nat → TkR} {m : Nat} (hok : ∀ k, k < m → okT (g k) = true) (hk : ∀ k, k < m → (g k).k ≠ 0) (hsz : (jdW g m).size ≤ 16384) (hm : m ≤ 1024) : ∃ LM, lexM (jdW g m) = .ok LM ∧ LM.length = m + 1 ∧ ∀ i, i < m + 1 → (gt LM i).k = (gZ g m i).k ∧ (gt LM i).s = (gZ g m i).s := by
  obtain ⟨L', e1, e2⟩ := back_lex hok hk hsz hm
  have e : (L' ++ [(⟨0, ⟨#[]⟩, (jdW g m).size⟩ : TkR)]).map ksT = ((List.range m).map g ++ [(⟨0, ⟨#[]⟩, 0⟩ : TkR)]).map ksT := by
    rw [List.map_append, List.map_append, e2, List.map_map]
    rfl
  obtain ⟨h1, h2⟩ := ks_at e
  have hl : (L' ++ [(⟨0, ⟨#[]⟩, (jdW g m).size⟩ : TkR)]).length = m + 1 := by rw [h1]; simp
  refine ⟨_, e1, hl, fun i hi => ?_⟩
  have := h2 i (by omega)
  rw [gt_gZ g m i hi] at this
  exact this
theorem good_at {g : Nat → TkR} {n : Nat} (h : okAll g n = true) {i : Nat} (hi : i < n) : okT (g i) = true ∧ ((g i).k ≠ 0 ∨ n ≤ i + 1) := by
  have := List.all_eq_true.1 h i (List.mem_range.2 hi)
  unfold goodT at this
  simpa using this
theorem back_A {g : Nat → TkR} {n : Nat} (h : okAll g n = true) (hA : n = 0 ∨ (g (n - 1)).k ≠ 0) (hs : (jdW g n).size ≤ 16000) (hn : n ≤ 200) : ∃ LM, lexM (jdW g n) = .ok LM ∧ LM.length = n + 1 ∧ ∀ i, i < n + 1 → (gt LM i).k = (gZ g n i).k ∧ (gt LM i).s = (gZ g n i).s :=
  back_core (fun k hk => (good_at h hk).1) (fun k hk => by
    rcases (good_at h hk).2 with h1 | h1
    · exact h1
    · obtain rfl : k = n - 1 := by omega
      rcases hA with h2 | h2
      · omega
      · exact h2) (by omega) (by omega)
theorem end_txt {x : TkR} (h : okT x = true) (h0 : x.k = 0) : x.s = ⟨#[]⟩ := by
  unfold okT at h
  rw [if_pos h0] at h
  have h4 := List.isEmpty_iff.1 h
  apply ByteArray.ext
  rw [Lib.toList_data] at h4
  apply Array.ext'
  rw [h4]
theorem back_B {g : Nat → TkR} {k : Nat} (h : okAll g (k + 1) = true) (hB : (g k).k = 0) (hs : (jdW g (k + 1)).size ≤ 16000) (hn : k + 1 ≤ 200) : ∃ LM, lexM (jdW g (k + 1)) = .ok LM ∧ LM.length = k + 1 ∧ ∀ i, i < k + 1 → (gt LM i).k = (g i).k ∧ (gt LM i).s = (g i).s := by
  have hx := end_txt (good_at h (Nat.lt_succ_self k)).1 hB
  have ht : tellT (g k) = ⟨#[]⟩ := by
    unfold tellT
    rw [if_neg (by omega), hx]
  have hj : jdW g (k + 1) = jdW g k := by
    show (if 0 < k ∧ (g k).k ≠ 0 then jdW g k ++ ⟨#[32]⟩ else jdW g k) ++ tellT (g k) = _
    rw [if_neg (fun c => c.2 hB), ht, ba_nil]
  rw [hj] at hs ⊢
  obtain ⟨LM, e1, e2, e3⟩ := back_core (g := g) (m := k) (fun i hi => (good_at h (by omega)).1) (fun i hi => by
    rcases (good_at h (show i < k + 1 by omega)).2 with h1 | h1
    · exact h1
    · omega) (by omega) (by omega)
  refine ⟨LM, e1, e2, fun i hi => ?_⟩
  have := e3 i hi
  by_cases hik : i < k
  · unfold gZ at this
    rw [if_pos hik] at this
    exact this
  · obtain rfl : i = k := by omega
    unfold gZ at this
    rw [if_neg hik] at this
    rw [hB, hx]
    exact this
end Go.Proofs.YtmkkckhfdafjnaaGreatDoor
/- Layer 17, plain: what is read, in order. -/
namespace Go.Proofs.YtmkkckhfdafjnaaGreatDoor
open Go.RowKit Go.Maps
theorem tok_at {s : ByteArray} {a k : Nat} {t : TkR} (h : tokM s a = some (t, k)) : t.a = a ∧ (t.k = 1 ∨ t.k = 2 ∨ t.k = 3 ∨ t.k = 4) := by
  unfold tokM at h
  cases h1 : namR s a with
  | bad => rw [h1] at h; cases h
  | ok t' k' =>
    rw [h1] at h
    cases h
    unfold namR at h1
    split at h1
    · cases h1; exact ⟨rfl, .inl rfl⟩
    · cases h1
  | no =>
    rw [h1] at h
    cases h2 : intR s a with
    | bad => rw [h2] at h; cases h
    | ok t' k' =>
      rw [h2] at h
      cases h
      unfold intR at h2
      split at h2
      · split at h2
        · cases h2
        · cases h2; exact ⟨rfl, .inr (.inl rfl)⟩
      · cases h2
    | no =>
      rw [h2] at h
      cases h3 : txtR s a with
      | bad => rw [h3] at h; cases h
      | ok t' k' =>
        rw [h3] at h
        cases h
        unfold txtR at h3
        split at h3
        · unfold txt1 at h3
          split at h3
          · cases h3
          · unfold txt2 at h3
            split at h3
            · cases h3
            · split at h3
              · cases h3
              · cases h3; exact ⟨rfl, .inr (.inr (.inl rfl))⟩
        · cases h3
      | no =>
        rw [h3] at h
        cases h4 : mrkR s a with
        | bad => rw [h4] at h; cases h
        | no => rw [h4] at h; cases h
        | ok t' k' =>
          rw [h4] at h
          cases h
          unfold mrkR at h4
          split at h4
          · cases h4; exact ⟨rfl, .inr (.inr (.inr rfl))⟩
          · split at h4
            · cases h4; exact ⟨rfl, .inr (.inr (.inr rfl))⟩
            · cases h4
/-- Tokens that were read from a place on: each begins behind the one ahead. -/
def Toks (s : ByteArray) : Nat → List TkR → Prop
  | _, [] => True
  | i, t :: r => ∃ j k : Nat, i ≤ j ∧ j < k ∧ k ≤ s.size ∧ tokM s j = some (t, k) ∧ Toks s k r
theorem lexF_shape {s : ByteArray} : ∀ (n i : Nat) (L R : List TkR), i ≤ s.size → lexF s n i L = .ok R → ∃ M, R = L ++ M ++ [⟨0, ⟨#[]⟩, s.size⟩] ∧ Toks s i M ∧ M.length ≤ n := by
  intro n
  induction n with
  | zero =>
    intro i L R hi h
    rw [lexF_step0] at h
    split at h
    · cases h
    · split at h
      · rename_i e
        cases h
        exact ⟨[], by rw [e]; simp, trivial, Nat.le_refl _⟩
      · cases h
  | succ n ih =>
    intro i L R hi h
    obtain ⟨hb1, hb2⟩ := bk_le hi
    rw [lexF_step] at h
    split at h
    · cases h
    · split at h
      · rename_i e
        cases h
        exact ⟨[], by rw [e]; simp, trivial, Nat.zero_le _⟩
      · rename_i hne
        have hlt : (bk s i).1 < s.size := by omega
        cases ht : tokM s (bk s i).1 with
        | none => rw [ht] at h; cases h
        | some y =>
          obtain ⟨t, k⟩ := y
          rw [ht] at h
          obtain ⟨hk1, hk2⟩ := tok_ok hlt ht
          obtain ⟨M, e1, e2, e3⟩ := ih k (L ++ [t]) R hk2 h
          refine ⟨t :: M, ?_, ⟨(bk s i).1, k, hb1, hk1, hk2, ht, e2⟩, by simp; omega⟩
          rw [e1]
          simp
/-- What Lex reads: tokens in order, and the end behind them. -/
theorem lexM_shape {s : ByteArray} {R : List TkR} (h : lexM s = .ok R) : ckE s = 0 ∧ ∃ M, R = M ++ [⟨0, ⟨#[]⟩, s.size⟩] ∧ Toks s 0 M ∧ M.length ≤ 1024 := by
  unfold lexM at h
  split at h
  · cases h
  · rename_i h0
    obtain ⟨M, e1, e2, e3⟩ := lexF_shape 1024 0 [] R (Nat.zero_le _) h
    exact ⟨by omega, M, by rw [e1]; rfl, e2, e3⟩
/-- Their places rise, and lie ahead of the end. -/
theorem toks_at {s : ByteArray} : ∀ (M : List TkR) (i k : Nat), Toks s i M → k < M.length → (i : Int) ≤ (gt M k).a ∧ (gt M k).a < s.size ∧ (∀ k', k' < k → (gt M k').a < (gt M k).a) ∧ ((gt M k).k = 1 ∨ (gt M k).k = 2 ∨ (gt M k).k = 3 ∨ (gt M k).k = 4)
  | [], _, k, _, hk => absurd hk (Nat.not_lt_zero k)
  | t :: r, i, 0, h, _ => by
    obtain ⟨j, k, h1, h2, h3, h4, h5⟩ := h
    obtain ⟨ha, hk⟩ := tok_at h4
    have e : gt (t :: r) 0 = t := rfl
    rw [e, ha]
    exact ⟨by omega, by omega, fun k' hk' => absurd hk' (Nat.not_lt_zero k'), hk⟩
  | t :: r, i, n + 1, h, hn => by
    obtain ⟨j, k, h1, h2, h3, h4, h5⟩ := h
    obtain ⟨ha, _⟩ := tok_at h4
    have hn' : n < r.length := by simpa using hn
    obtain ⟨q1, q2, q3, q4⟩ := toks_at r k n h5 hn'
    have e : gt (t :: r) (n + 1) = gt r n := rfl
    rw [e]
    refine ⟨by omega, q2, fun k' hk' => ?_, q4⟩
    cases k' with
    | zero =>
      have e0 : gt (t :: r) 0 = t := rfl
      rw [e0, ha]
      omega
    | succ m =>
      have e0 : gt (t :: r) (m + 1) = gt r m := rfl
      rw [e0]
      exact q3 m (by omega)
end Go.Proofs.YtmkkckhfdafjnaaGreatDoor
/- Layer 17, plain: what is read may be. -/
namespace Go.Proofs.YtmkkckhfdafjnaaGreatDoor
open Go.RowKit Go.Maps
theorem wd_mem {s : ByteArray} : ∀ (n j : Nat), s.size - j ≤ n → ∀ k, j ≤ k → k < wd s j → wcI (byt s k) = true := by
  intro n
  induction n with
  | zero =>
    intro j hn k h1 h2
    by_cases h : wcI (byt s j) = true
    · have hj : j < s.size := byt_in (by intro e; rw [e] at h; exact absurd h (by decide))
      omega
    · rw [wd_stop (by simpa using h)] at h2
      omega
  | succ n ih =>
    intro j hn k h1 h2
    by_cases h : wcI (byt s j) = true
    · have hj : j < s.size := byt_in (by intro e; rw [e] at h; exact absurd h (by decide))
      by_cases hk : k = j
      · rw [hk]; exact h
      · rw [wd_step h] at h2
        exact ih (j + 1) (by omega) k (by omega) h2
    · rw [wd_stop (by simpa using h)] at h2
      omega
theorem nm_of {t : ByteArray} (h0 : 0 < t.size) (h1 : ltI (byt t 0) = true) (h2 : ∀ k, k < t.size → wcI (byt t k) = true) : nmB t = true := by
  rw [nm_iff]
  refine ⟨by omega, fun i hi => ?_⟩
  have e := byt_eq t i hi
  have hw := h2 i hi
  unfold okAt
  by_cases hi0 : i = 0
  · subst hi0
    rw [← e, ← ltI_eq] at h1
    rw [h1]
    rfl
  · unfold wcI at hw
    rw [← e, ← ltI_eq, ← dgI_eq] at hw
    simp [hi0]
    simpa using hw
theorem read_txt {t : ByteArray} {M : List CR} (h34 : byt t 0 = 34) (h : readM t = .ok M) : ckE t = 0 ∧ ∃ x, strM t 0 = .ok x ∧ (gl M 0).tx = mkB x.1 := by
  have hbl : bl t 0 = 0 := bl_stop (by rw [h34]; decide)
  unfold readM at h
  by_cases hc : ckE t = 0
  · rw [if_neg (by omega), hbl] at h
    unfold valM at h
    rw [h34, if_neg (by decide), if_neg (by rintro ⟨e, _⟩; rcases e with e | e <;> cases e), if_neg (by decide), if_neg (by decide), if_neg (by decide), if_pos rfl] at h
    cases hx : strM t 0 with
    | bad m => rw [hx] at h; cases h
    | ok x =>
      rw [hx] at h
      simp only [Rs.bind_ok] at h
      split at h
      · cases h
      · cases h
        exact ⟨hc, x, rfl, rfl⟩
  · rw [if_pos hc] at h
    cases h
theorem ck_tw {t : ByteArray} (h : ckE t = 0) : t.size ≤ 16384 ∧ Tw t 0 t.size := by
  refine ⟨ckE_size h, ?_⟩
  unfold ckE at h
  rw [if_neg (by have := ckE_size h; omega)] at h
  cases e : isTx t with
  | false => rw [e] at h; cases h
  | true => exact isTx_tw e
theorem txt_ck {T : ByteArray} {M : List CR} (hs : T.size ≤ 2000) (hf : byt T 0 = 34) (hr : readM T = .ok M) : ckE ((gl M 0).tx) = 0 := by
  obtain ⟨hck, x, hx, htx⟩ := read_txt hf hr
  obtain ⟨y, hy⟩ := ck_tw hck
  have hp := strM_pt hy hx
  obtain ⟨m, k⟩ := x
  have hl := strM_len hx
  have hok := strM_ok hx
  have ht := hp.1.tx
  dsimp only at htx ht
  rw [htx]
  unfold ckE
  rw [if_neg (by rw [mkB_size]; omega), ht]
  rfl
theorem tok_okT {s : ByteArray} {a k : Nat} {t : TkR} (ha : a < s.size) (hs : s.size ≤ 1000) (h : tokM s a = some (t, k)) : okT t = true := by
  unfold tokM at h
  cases h1 : namR s a with
  | bad => rw [h1] at h; cases h
  | ok t' k' =>
    rw [h1] at h
    cases h
    unfold namR at h1
    split at h1
    · rename_i hl
      cases h1
      obtain ⟨w1, w2⟩ := wd_range (s := s) s.size (a + 1) (by omega) (by omega)
      show nmB (s.extract a (wd s (a + 1))) = true
      obtain ⟨z, hz⟩ : ∃ z, wd s (a + 1) = a + z := ⟨wd s (a + 1) - a, by omega⟩
      have hm := wd_mem (s := s) s.size (a + 1) (by omega)
      rw [hz] at w1 w2 hm ⊢
      have hsz : (s.extract a (a + z)).size = z := by simp; omega
      refine nm_of (by omega) ?_ (fun j hj => ?_)
      · rw [byt_extract w2 0 (by omega)]
        exact hl
      · rw [byt_extract w2 j (by omega)]
        by_cases hj0 : j = 0
        · subst hj0
          rw [Nat.add_zero]
          unfold wcI
          rw [hl]
          rfl
        · exact hm (a + j) (by omega) (by omega)
    · cases h1
  | no =>
    rw [h1] at h
    cases h2 : intR s a with
    | bad => rw [h2] at h; cases h
    | ok t' k' =>
      rw [h2] at h
      cases h
      unfold intR at h2
      split at h2
      · split at h2
        · cases h2
        · rename_i hn
          cases h2
          show intB _ = true
          cases e : intB (s.extract a (dg s (a + 1))) with
          | true => rfl
          | false => exact absurd (.inr (.inr e)) hn
      · cases h2
    | no =>
      rw [h2] at h
      cases h3 : txtR s a with
      | bad => rw [h3] at h; cases h
      | ok t' k' =>
        rw [h3] at h
        cases h
        unfold txtR at h3
        split at h3
        · rename_i h34
          cases hq : quM s a with
          | none => rw [hq] at h3; cases h3
          | some n =>
            rw [hq] at h3
            obtain ⟨q1, q2⟩ := quM_ok hq
            have hf := tab_first (s := s) (a := a) (n := n) h34 (by omega) q2
            have hts := tabT_size (s.extract a n)
            have hxs : (s.extract a n).size ≤ s.size := ba_cut
            unfold txt1 at h3
            cases hr : readM (tabT (s.extract a n)) with
            | bad m => dsimp only at h3; rw [hr] at h3; cases h3
            | ok M =>
              dsimp only at h3
              rw [hr] at h3
              have hc := txt_ck (by omega) hf hr
              unfold txt2 at h3
              dsimp only at h3
              split at h3
              · cases h3
              · cases h3
                show (ckE ((gl M 0).tx) == 0) = true
                rw [hc]
                rfl
        · cases h3
      | no =>
        rw [h3] at h
        cases h4 : mrkR s a with
        | bad => rw [h4] at h; cases h
        | no => rw [h4] at h; cases h
        | ok t' k' =>
          rw [h4] at h
          cases h
          unfold mrkR at h4
          split at h4
          · cases h4
            show pmB ⟨#[46, 46, 46]⟩ = true
            exact mk_dots (by decide +kernel)
          · split at h4
            · rename_i hp
              cases h4
              exact hp
            · cases h4
end Go.Proofs.YtmkkckhfdafjnaaGreatDoor
