import Derived.Test.YtmkkckhfdafjnaaGreatDoorK9
import Derived.Test.YtmkkckhfdafjnaaGreatDoorK8
import Derived.Lib.Replace
import Derived.Lib.IndexLaws
import Derived.Lib.IndexBytes
import Derived.Lib.SplitLaws
/- Layer 17, Lex: what a text's tokens are (plain). -/
namespace Go.Proofs.YtmkkckhfdafjnaaGreatDoor
open Go.RowKit
def ltI (b : Int) : Bool := decide (b = 95) || (decide (97 ≤ b) && decide (b ≤ 122)) || (decide (65 ≤ b) && decide (b ≤ 90))
def wcI (b : Int) : Bool := ltI b || isDg b
def wdF (s : ByteArray) : Nat → Nat → Nat
  | 0, j => j
  | f + 1, j => if wcI (byt s j) then wdF s f (j + 1) else j
/-- Behind letters and digits. -/
def wd (s : ByteArray) (j : Nat) : Nat := wdF s (s.size - j) j
theorem wd_step {s : ByteArray} {j : Nat} (h : wcI (byt s j) = true) : wd s j = wd s (j + 1) := by
  have hj : j < s.size := byt_in (by intro e; rw [e] at h; exact absurd h (by decide))
  unfold wd
  rw [show s.size - j = (s.size - (j + 1)) + 1 by omega]
  show (if wcI (byt s j) then wdF s (s.size - (j + 1)) (j + 1) else j) = _
  rw [if_pos h]
theorem wd_stop {s : ByteArray} {j : Nat} (h : wcI (byt s j) = false) : wd s j = j := by
  unfold wd
  cases s.size - j with
  | zero => rfl
  | succ f => show (if wcI (byt s j) then wdF s f (j + 1) else j) = j; rw [h]; rfl
def quF (s : ByteArray) : Nat → Nat → Option Nat
  | 0, _ => none
  | f + 1, j => if s.size ≤ j then none else if byt s j = 34 then some (j + 1) else if byt s j = 92 ∧ 32 ≤ byt s (j + 1) then quF s f (j + 2) else if byt s j = 92 ∨ (byt s j < 32 ∧ byt s j ≠ 9) then none else quF s f (j + 1)
/-- Behind the quoted text that begins there. -/
def quM (s : ByteArray) (a : Nat) : Option Nat := quF s (s.size - a) (a + 1)
def tabL : List Int → List Int
  | [] => []
  | c :: r => if c = 9 then 92 :: 116 :: tabL r else c :: tabL r
/-- A text with \t for each tab. -/
def tabT (t : ByteArray) : ByteArray := mkB (tabL (bI t))
/-- What a reader tells: nothing of its kind begins there; what may not be; a token, and the place behind it. -/
inductive Rq where
  | no : Rq
  | bad : Rq
  | ok (t : TkR) (n : Nat) : Rq
def namR (s : ByteArray) (a : Nat) : Rq := if ltI (byt s a) then .ok ⟨1, s.extract a (wd s (a + 1)), a⟩ (wd s (a + 1)) else .no
def intR (s : ByteArray) (a : Nat) : Rq :=
  if byt s a = 45 ∨ isDg (byt s a) = true then
    (if byt s (dg s (a + 1)) = 46 ∨ ltI (byt s (dg s (a + 1))) = true ∨ intB (s.extract a (dg s (a + 1))) = false then .bad else .ok ⟨2, s.extract a (dg s (a + 1)), a⟩ (dg s (a + 1)))
  else .no
/-- What a quoted text's bytes end in. -/
def txt2 (s : ByteArray) (a n : Nat) (Z : Rs (List CR)) : Rq := match Z with
  | .bad _ => .bad
  | .ok M => if (gl M 0).tx = ⟨#[]⟩ ∧ byt s n = 34 then .bad else .ok ⟨3, (gl M 0).tx, a⟩ n
def txt1 (s : ByteArray) (a : Nat) (o : Option Nat) : Rq := match o with
  | none => .bad
  | some n => txt2 s a n (readM (tabT (s.extract a n)))
def txtR (s : ByteArray) (a : Nat) : Rq := if byt s a = 34 then txt1 s a (quM s a) else .no
def mrkR (s : ByteArray) (a : Nat) : Rq :=
  if byt s a = 46 ∧ byt s (a + 1) = 46 ∧ byt s (a + 2) = 46 then .ok ⟨4, ⟨#[46, 46, 46]⟩, a⟩ (a + 3)
  else if pmB (s.extract a (a + 1)) = true then .ok ⟨4, s.extract a (a + 1), a⟩ (a + 1) else .no
def Rq.tok (x : Rq) (y : Option (TkR × Nat)) : Option (TkR × Nat) := match x with
  | .ok t n => some (t, n)
  | .bad => none
  | .no => y
/-- The token that begins at a place. -/
def tokM (s : ByteArray) (a : Nat) : Option (TkR × Nat) := (namR s a).tok ((intR s a).tok ((txtR s a).tok ((mrkR s a).tok none)))
def bkF (s : ByteArray) : Nat → Nat → Bool → Nat × Bool
  | 0, j, _ => (j, false)
  | f + 1, j, ins =>
    if s.size ≤ j then (j, false)
    else if byt s j = 10 ∨ byt s j = 13 then bkF s f (j + 1) false
    else if ins = true ∧ byt s j < 32 ∧ byt s j ≠ 9 then (j, true)
    else if ins = true ∨ byt s j = 32 ∨ byt s j = 9 ∨ byt s j = 44 then bkF s f (j + 1) ins
    else if byt s j = 35 then bkF s f (j + 1) true
    else if byt s j = 239 ∧ byt s (j + 1) = 187 ∧ byt s (j + 2) = 191 then bkF s f (j + 3) ins
    else (j, false)
/-- Behind all that counts for nothing; or where there is what may not be. -/
def bk (s : ByteArray) (j : Nat) : Nat × Bool := bkF s (s.size - j + 1) j false
inductive LxR where
  | ok (l : List TkR) : LxR
  | bad (at' : Nat) (e : Int) : LxR
def lexK (j : Nat) (x : Option (TkR × Nat)) (k : TkR → Nat → LxR) : LxR := match x with
  | none => .bad j 170
  | some y => k y.1 y.2
def lexF (s : ByteArray) : Nat → Nat → List TkR → LxR
  | 0, i, l => if (bk s i).2 = true then .bad (bk s i).1 170 else if (bk s i).1 = s.size then .ok (l ++ [⟨0, ⟨#[]⟩, (bk s i).1⟩]) else .bad (bk s i).1 171
  | n + 1, i, l => if (bk s i).2 = true then .bad (bk s i).1 170 else if (bk s i).1 = s.size then .ok (l ++ [⟨0, ⟨#[]⟩, (bk s i).1⟩]) else
    lexK (bk s i).1 (tokM s (bk s i).1) (fun t k => lexF s n k (l ++ [t]))
/-- A text's tokens, or the place where none stands. -/
def lexM (s : ByteArray) : LxR := if ckE s ≠ 0 then .bad 0 (ckE s) else lexF s 1024 0 []
/-- What a reader's call ends in. -/
def RdQ (a : Nat) (w : World) (x : Rq) (e : Ending) (w' : World) : Prop := Below w.heap.size w w' ∧ match x with
  | .no => ∃ (t : TkR) (n : Int), e = .returned (.tuple #[.agg #[.int .u8 t.k, .string t.s, .int .i64 t.a], .int .i64 n, .bool false])
  | .bad => ∃ t : TkR, e = .returned (.tuple #[.agg #[.int .u8 t.k, .string t.s, .int .i64 t.a], .int .i64 a, .bool true])
  | .ok t n => e = .returned (.tuple #[.agg #[.int .u8 t.k, .string t.s, .int .i64 t.a], .int .i64 n, .bool true])
theorem results_ctt {fn : Func} {p u v : Tmp} {ty : TypeId} (h : fn.results = #[.cell p ty, .tmp u, .tmp v]) (tmps : Array Value) (P : Program) (w : World) :
    (results fn tmps).run P w =
      ((asAddr (tmps.getD p undef)).run P w).andThen fun a w₁ => ((loadVar ty a).run P w₁).andThen fun x w₂ => .ok (.tuple #[x, tmps.getD u undef, tmps.getD v undef]) w₂ := by
  simp only [results, h]
  simp [Sem.run_bind, Result.andThen]
theorem load_tok {w : World} {N : Nat} {a c : Int} {b : ByteArray} (c0 : w.cell? ⟨N, 0, none⟩ = some (.int .u8 a)) (c1 : w.cell? ⟨N, 1, none⟩ = some (.string b)) (c2 : w.cell? ⟨N, 2, none⟩ = some (.int .i64 c)) : (loadVar 59 ⟨N, 0, none⟩).run Tryz.prog w = .ok (.agg #[.int .u8 a, .string b, .int .i64 c]) w := by
  simp [loadVar, go_sem, c0, c1, c2]
theorem ret_rd {fn : Func} (hr : fn.results = #[.cell 6 59, .tmp 7, .tmp 8]) {Q : Ending → World → Prop} {tmps : Array Value} {w : World} {N : Nat} {a c n : Int} {b : ByteArray} {g : Bool} (h6 : tmps.getD 6 undef = .pointer (some ⟨N, 0, none⟩)) (h7 : tmps.getD 7 undef = .int .i64 n) (h8 : tmps.getD 8 undef = .bool g) (c0 : w.cell? ⟨N, 0, none⟩ = some (.int .u8 a)) (c1 : w.cell? ⟨N, 1, none⟩ = some (.string b)) (c2 : w.cell? ⟨N, 2, none⟩ = some (.int .i64 c))
    (hQ : Q (.returned (.tuple #[.agg #[.int .u8 a, .string b, .int .i64 c], .int .i64 n, .bool g])) w) : bodyPost Tryz.prog fn Q .ret ⟨tmps, []⟩ w := by
  refine bodyPost_ret (v := .tuple #[.agg #[.int .u8 a, .string b, .int .i64 c], .int .i64 n, .bool g]) ?_ rfl hQ
  rw [results_ctt (p := 6) (u := 7) (v := 8) (ty := 59) hr, h6, h7, h8]
  simp [asAddr, Result.andThen, load_tok c0 c1 c2]
theorem all_eq (p : UInt8 → Bool) (q : Int → Bool) (h : (List.range 256).all (fun n => p (UInt8.ofNat n) == q (n : Nat)) = true) (x : UInt8) : p x = q (x.toNat : Nat) := by
  have hx := UInt8.toNat_lt x
  have k := List.all_eq_true.1 h x.toNat (List.mem_range.2 (by omega))
  have e : UInt8.ofNat x.toNat = x := by simp
  rw [e] at k
  exact eq_of_beq k
theorem ltI_eq (x : UInt8) : letB x = ltI (x.toNat : Nat) := all_eq (fun c => letB c) (fun b => ltI b) (by decide +kernel) x
theorem dgI_eq (x : UInt8) : dgB x = isDg (x.toNat : Nat) := all_eq (fun c => dgB c) (fun b => isDg b) (by decide +kernel) x
theorem isl_any (b : Int) (w : World) (h0 : 0 ≤ b) (h1 : b < 256) : Calls Tryz.prog 68 #[.int .u8 b] w fun e w' => e = .returned (.bool (ltI b)) ∧ w' = w := by
  have h := isletter_any (UInt8.ofNat b.toNat) w
  have e : (((UInt8.ofNat b.toNat).toNat : Nat) : Int) = b := by simp; omega
  rw [ltI_eq, e] at h
  exact h
theorem isd_any (b : Int) (w : World) (h0 : 0 ≤ b) (h1 : b < 256) : Calls Tryz.prog 69 #[.int .u8 b] w fun e w' => e = .returned (.bool (isDg b)) ∧ w' = w := by
  have h := isdigit_any (UInt8.ofNat b.toNat) w
  have e : (((UInt8.ofNat b.toNat).toNat : Nat) : Int) = b := by simp; omega
  rw [dgI_eq, e] at h
  exact h
end Go.Proofs.YtmkkckhfdafjnaaGreatDoor
/- Layer 17, Lex: names. -/
namespace Go.Proofs.YtmkkckhfdafjnaaGreatDoor
open Go.RowKit Go.Maps
/-- How far a name has been gone through. -/
def NmP (s : ByteArray) (a j : Nat) : Prop := j = a ∨ (a < j ∧ ltI (byt s a) = true ∧ wd s (a + 1) = wd s j)
theorem NmP.step {s : ByteArray} {a j : Nat} (h : NmP s a j) (k : (j = a ∧ ltI (byt s j) = true) ∨ wcI (byt s j) = true ∧ a < j) : NmP s a (j + 1) := by
  rcases h with rfl | ⟨h1, h2, h3⟩
  · rcases k with ⟨_, k⟩ | ⟨_, k⟩
    · exact .inr ⟨by omega, k, rfl⟩
    · omega
  · rcases k with ⟨k, _⟩ | ⟨k, _⟩
    · omega
    · exact .inr ⟨by omega, h2, by rw [h3, wd_step k]⟩
theorem NmP.fin {s : ByteArray} {a j : Nat} (h : NmP s a j) (k : a < j) (hw : wcI (byt s j) = false) : namR s a = .ok ⟨1, s.extract a j, a⟩ j := by
  rcases h with rfl | ⟨_, h2, h3⟩
  · omega
  · unfold namR
    rw [if_pos h2, h3, wd_stop hw]
/-- A reader's end, where its result has been laid last. -/
theorem rd_end {fn : Func} (hr : fn.results = #[.cell 6 59, .tmp 7, .tmp 8]) {Q : Ending → World → Prop} {tmps : Array Value} {w : World} {o1 : Obj} {a c n : Int} {b : ByteArray} {g : Bool} (h6 : tmps.getD 6 undef = .pointer (some ⟨w.heap.size + 1, 0, none⟩)) (h7 : tmps.getD 7 undef = .int .i64 n) (h8 : tmps.getD 8 undef = .bool g)
    (hQ : Q (.returned (.tuple #[.agg #[.int .u8 a, .string b, .int .i64 c], .int .i64 n, .bool g])) ((w.alloc o1).alloc (.cells #[.int .u8 a, .string b, .int .i64 c] 59))) : bodyPost Tryz.prog fn Q .ret ⟨tmps, []⟩ ((w.alloc o1).alloc (.cells #[.int .u8 a, .string b, .int .i64 c] 59)) := by
  have hg : ((w.alloc o1).alloc (.cells #[.int .u8 a, .string b, .int .i64 c] 59)).heap[w.heap.size + 1]? = some (.cells #[.int .u8 a, .string b, .int .i64 c] 59) := by
    have e := heap_alloc_new (w.alloc o1) (.cells #[.int .u8 a, .string b, .int .i64 c] 59)
    simpa using e
  refine ret_rd hr h6 h7 h8 ?_ ?_ ?_ hQ <;> (unfold World.cell?; dsimp only; rw [hg]; rfl)
set_option maxRecDepth 20000 in
set_option maxHeartbeats 2000000 in
theorem names_any (s : ByteArray) (a : Nat) (w : World) (ha : a < s.size) (hs : s.size ≤ 1000000) : Calls Tryz.prog 144 #[.agg #[], .string s, .int .i64 a] w (RdQ a w (namR s a)) := by
  obtain ⟨X, hX⟩ : ∃ X, X = namR s a := ⟨_, rfl⟩
  rw [← hX]
  have HX := Lib.hid hX
  have HB : Hid (∀ o1 o2, Below w.heap.size w ((w.alloc o1).alloc o2)) := Lib.hid (fun o1 o2 => ((Below.refl _ _).alloc (Nat.le_refl _) _).alloc (by simp) _)
  have hsi : (s.size : Int) ≤ 1000000 := by omega
  have ha0 : (0 : Int) ≤ a := by omega
  clear hX
  go_enter Tryz.func144, Tryz.ntmps144
  go_wp2_with fail
  go_loopg [9] (s.size + 1) (fun f v9 wr => ∃ j : Nat, s.size + 1 - j ≤ f ∧ a ≤ j ∧ j ≤ s.size ∧ v9 = .int .i64 j ∧ Hid (NmP s a j) ∧ Hid (wr = (w.alloc (.cells #[] 135)).alloc (.cells #[.int .u8 0, .string ⟨#[]⟩, .int .i64 0] 59)))
  case atStart => exact ⟨a, by omega, Nat.le_refl _, by omega, rfl, Lib.hid (.inl rfl), Lib.hid rfl⟩
  case round =>
    obtain ⟨j, hf, haj, hj, rfl, HP, HW⟩ := hrel
    obtain rfl := HW.out
    have hj0 : (0 : Int) ≤ j := by omega
    by_cases hlt : j < s.size
    · have hji : (j : Int) < s.size := by omega
      have hbe : (s[j].toNat : Int) = byt s j := byt_eq s j hlt
      have hx := UInt8.toNat_lt s[j]
      have HL := Lib.hid (fun W => isl_any (s[j].toNat : Nat) W (by omega) (by omega))
      have HD := Lib.hid (fun W => isd_any (s[j].toNat : Nat) W (by omega) (by omega))
      rw [hbe] at HL HD
      rw [← hbe] at HL HD
      cases hl : ltI (s[j].toNat : Nat) with
      | true =>
        rw [hl] at HL
        rw [hbe] at hl
        have HN : Hid (NmP s a (j + 1)) := Lib.hid (HP.out.step (by
          by_cases e : j = a
          · exact .inl ⟨e, hl⟩
          · exact .inr ⟨by unfold wcI; rw [hl]; rfl, by omega⟩))
        clear hl hbe hx
        go_wp2_with fail
        refine (HL.out _).mono ?_
        rintro e w1 ⟨rfl, hw⟩
        obtain rfl := hw.symm
        go_wp2_with fail
        go_roundg (gk - 1)
        case rel => exact ⟨j + 1, by omega, by omega, by omega, by go_num, HN, Lib.hid rfl⟩
        case measure => omega
      | false =>
        rw [hl] at HL
        rw [hbe] at hl
        by_cases hja : a < j
        · have hjai : (a : Int) < j := by omega
          cases hd : isDg (s[j].toNat : Nat) with
          | true =>
            rw [hd] at HD
            rw [hbe] at hd
            have HN : Hid (NmP s a (j + 1)) := Lib.hid (HP.out.step (.inr ⟨by unfold wcI; rw [hl, hd]; rfl, hja⟩))
            clear hl hd hbe hx
            go_wp2_with fail
            refine (HL.out _).mono ?_
            rintro e w1 ⟨rfl, hw⟩
            obtain rfl := hw.symm
            go_wp2_with fail
            refine (HD.out _).mono ?_
            rintro e w1 ⟨rfl, hw⟩
            obtain rfl := hw.symm
            go_wp2_with fail
            go_roundg (gk - 1)
            case rel => exact ⟨j + 1, by omega, by omega, by omega, by go_num, HN, Lib.hid rfl⟩
            case measure => omega
          | false =>
            rw [hd] at HD
            rw [hbe] at hd
            have HF := Lib.hid (HP.out.fin hja (by unfold wcI; rw [hl, hd]; rfl))
            clear hl hd hbe hx
            go_wp2_with fail
            refine (HL.out _).mono ?_
            rintro e w1 ⟨rfl, hw⟩
            obtain rfl := hw.symm
            go_wp2_with fail
            refine (HD.out _).mono ?_
            rintro e w1 ⟨rfl, hw⟩
            obtain rfl := hw.symm
            go_wp2_with fail
            refine rd_end Tryz.results144 rfl rfl rfl ?_
            refine ⟨HB.out _ _, ?_⟩
            rw [HX.out, HF.out]
        · have hjai : ¬ (a : Int) < j := by omega
          obtain rfl : j = a := by omega
          have HF : Hid (X = .no) := Lib.hid (by rw [HX.out]; unfold namR; rw [hl]; rfl)
          clear hl hbe hx
          go_wp2_with fail
          refine (HL.out _).mono ?_
          rintro e w1 ⟨rfl, hw⟩
          obtain rfl := hw.symm
          go_wp2_with fail
          refine rd_end Tryz.results144 rfl rfl rfl ?_
          refine ⟨HB.out _ _, ?_⟩
          rw [HF.out]
          exact ⟨⟨1, _, _⟩, _, rfl⟩
    · obtain rfl : j = s.size := by omega
      have HF := Lib.hid (HP.out.fin (by omega) (by rw [byt_end (Nat.le_refl _)]; rfl))
      have hjai : (a : Int) < s.size := by omega
      go_wp2_with fail
      refine rd_end Tryz.results144 rfl rfl rfl ?_
      refine ⟨HB.out _ _, ?_⟩
      rw [HX.out, HF.out]
end Go.Proofs.YtmkkckhfdafjnaaGreatDoor
/- Layer 17, Lex: a text with \t for each tab; beginnings of three bytes (plain). -/
namespace Go.Proofs.YtmkkckhfdafjnaaGreatDoor
open Go.RowKit
def tabB : List UInt8 → List UInt8
  | [] => []
  | c :: r => if c = 9 then 92 :: 116 :: tabB r else c :: tabB r
theorem tabB_app (b : List UInt8) : ∀ a : List UInt8, tabB (a ++ b) = tabB a ++ tabB b
  | [] => rfl
  | c :: r => by
    by_cases h : c = 9
    · simp [tabB, h, tabB_app b r]
    · simp [tabB, h, tabB_app b r]
theorem tabB_none : ∀ l : List UInt8, (∀ x ∈ l, x ≠ 9) → tabB l = l
  | [], _ => rfl
  | c :: r, h => by
    unfold tabB
    rw [if_neg (h c (by simp)), tabB_none r (fun x hx => h x (by simp [hx]))]
theorem repK_tab : ∀ (k : Nat) (l : List UInt8), l.count 9 ≤ k → Lib.replaceK [9] [92, 116] k l = tabB l
  | 0, l, h => by
    have h0 : l.count 9 = 0 := by omega
    exact (tabB_none l (fun x hx e => by subst e; exact absurd (List.count_pos_iff.2 hx) (by omega))).symm
  | k + 1, l, h => by
    rcases Lib.index_spec l [9] with ⟨h1, _⟩ | ⟨i, h1, _, _⟩
    · have h0 : l.count 9 = 0 := by rw [← Lib.count_one]; exact Lib.count_miss h1
      rw [tabB_none l (fun x hx e => by subst e; exact absurd (List.count_pos_iff.2 hx) (by omega))]
      unfold Lib.replaceK
      rw [h1]
      rfl
    · rw [Lib.replaceK_hit _ _ _ _ _ h1]
      have h2 := h1
      rw [Lib.index_one] at h2
      obtain ⟨e1, e2⟩ := Lib.indexByte_some h2
      have hc := Lib.count_hit (s := l) (sub := [9]) (by simp) h1
      rw [Lib.count_one, Lib.count_one] at hc
      simp only [List.length_singleton] at hc ⊢
      rw [repK_tab k _ (by omega)]
      have hi : i < l.length := (List.getElem?_eq_some_iff.1 e1).1
      have hl : l = l.take i ++ (9 :: l.drop (i + 1)) := by
        have q := List.drop_eq_getElem_cons hi
        have q2 : l[i] = 9 := by rw [List.getElem?_eq_getElem hi] at e1; exact Option.some.inj e1
        rw [q2] at q
        rw [← q, List.take_append_drop]
      conv => rhs; rw [hl]
      rw [tabB_app, tabB_none (l.take i) (fun x hx e => by
        obtain ⟨j, hj, q⟩ := List.mem_iff_getElem.1 hx
        rw [List.length_take] at hj
        rw [List.getElem_take] at q
        exact e2 j (by omega) (by rw [List.getElem?_eq_getElem (by omega), q, e]))]
      show _ = l.take i ++ tabB (9 :: l.drop (i + 1))
      conv => rhs; unfold tabB
      rw [if_pos rfl]
      simp
theorem tabB_L : ∀ l : List UInt8, (tabB l).map (fun b => ((b.toNat : Nat) : Int)) = tabL (l.map fun b => ((b.toNat : Nat) : Int))
  | [] => rfl
  | c :: r => by
    unfold tabB
    rw [List.map_cons, tabL]
    by_cases h : c = 9
    · subst h
      rw [if_pos rfl, if_pos (by rfl), ← tabB_L r]
      rfl
    · rw [if_neg h, if_neg (fun e => h (by
        have : c.toNat = 9 := by omega
        exact UInt8.toNat_inj.1 this)), ← tabB_L r]
      rfl
theorem rep_tab (s : ByteArray) : (⟨(Lib.replaceAll s.data.toList [9] [92, 116]).toArray⟩ : ByteArray) = tabT s := by
  have e : Lib.replaceAll s.data.toList [9] [92, 116] = tabB s.data.toList := by
    unfold Lib.replaceAll Lib.replace
    rw [if_neg (by decide)]
    have hn : Lib.replaceNum s.data.toList [9] (-1) = Lib.count s.data.toList [9] := by unfold Lib.replaceNum; rw [if_pos (.inl (by decide))]
    rw [hn]
    exact repK_tab _ _ (by rw [Lib.count_one]; exact Nat.le_refl _)
  rw [e]
  unfold tabT
  have hb : bI s = s.data.toList.map fun b => ((b.toNat : Nat) : Int) := rfl
  rw [hb, ← tabB_L, mkB, List.map_map]
  congr 2
  conv => lhs; rw [← List.map_id (tabB s.data.toList)]
  apply List.map_congr_left
  intro x _
  simp
theorem tail_at (s : ByteArray) (a : Nat) : (s.extract a s.size).data.toList = s.data.toList.drop a := by
  simp [ByteArray.data_extract]
  apply List.take_of_length_le
  rw [List.length_drop, Array.length_toList]
  exact Nat.le_refl _
theorem drop_at (s : ByteArray) (a : Nat) (h : a < s.size) : s.data.toList.drop a = s[a] :: s.data.toList.drop (a + 1) := by
  have hl : a < s.data.toList.length := by simpa using h
  rw [List.drop_eq_getElem_cons hl]
  rfl
theorem pre3 (s : ByteArray) (a : Nat) (x y z : UInt8) (h0 : x ≠ 0 ∧ y ≠ 0 ∧ z ≠ 0) : Lib.hasPrefix (s.extract a s.size).data.toList [x, y, z] = decide (byt s a = x.toNat ∧ byt s (a + 1) = y.toNat ∧ byt s (a + 2) = z.toNat) := by
  have key : ∀ (i : Nat) (c : UInt8) (p : List UInt8), c ≠ 0 → (c :: p).isPrefixOf (s.data.toList.drop i) = (decide (byt s i = c.toNat) && p.isPrefixOf (s.data.toList.drop (i + 1))) := by
    intro i c p hc
    by_cases h : i < s.size
    · rw [drop_at s i h, List.isPrefixOf]
      have hb := byt_eq s i h
      have e : (c == s[i]) = decide (byt s i = c.toNat) := by
        rw [← hb, Bool.eq_iff_iff, beq_iff_eq, decide_eq_true_eq]
        constructor
        · intro e; rw [e]
        · intro e; exact (UInt8.toNat_inj.1 (by omega)).symm
      rw [e]
    · have hd : s.data.toList.drop i = [] := List.drop_eq_nil_of_le (by simpa using (by omega : s.size ≤ i))
      have hb : byt s i = 0 := by unfold byt; rw [dif_neg h]
      rw [hd, hb]
      have : ¬ ((0 : Int) = (c.toNat : Nat)) := fun e => hc (by
        have h2 : c.toNat = 0 := by omega
        exact UInt8.toNat_inj.1 (by rw [h2]; rfl))
      rw [decide_eq_false this]
      rfl
  unfold Lib.hasPrefix
  rw [tail_at, key a x _ h0.1, key (a + 1) y _ h0.2.1, key (a + 1 + 1) z _ h0.2.2]
  rw [Bool.eq_iff_iff]
  simp
end Go.Proofs.YtmkkckhfdafjnaaGreatDoor
/- Layer 17, Lex: Ints. -/
namespace Go.Proofs.YtmkkckhfdafjnaaGreatDoor
open Go.RowKit Go.Maps
/-- What the lexer's callees do: isInt; json.Read of quoted texts; \t for each tab. -/
structure LxC (w : World) : Prop where
  intc : ∀ W, Below w.heap.size w W → ∀ x : ByteArray, x.size ≤ 1000000 → Calls Tryz.prog 100 #[.string x] W fun e w' => e = .returned (.bool (intB x)) ∧ Below W.heap.size W w'
  rdc : ∀ W, Below w.heap.size w W → ∀ x : ByteArray, byt x 0 = 34 → x.size ≤ 10000000 → Calls Tryz.prog 148 #[.string x] W (RdP W (readM x))
  rpc : ∀ W, Below w.heap.size w W → ∀ x : ByteArray, x.size ≤ 1000000 → Calls Tryz.prog 149 #[.string x, .string ⟨#[9]⟩, .string ⟨#[92, 116]⟩] W fun e w' => e = .returned (.string (tabT x)) ∧ Below W.heap.size W w'
theorem LxC.up {w w' : World} (h : LxC w) (b : Below w.heap.size w w') : LxC w' :=
  ⟨fun W k => h.intc W (b.trans (k.mono b.size)), fun W k => h.rdc W (b.trans (k.mono b.size)), fun W k => h.rpc W (b.trans (k.mono b.size))⟩
theorem ba_cut {s : ByteArray} {a n : Nat} : (s.extract a n).size ≤ s.size := by simp; omega
/-- A reader's token block, behind a callee. -/
theorem tok_kept {w w2 : World} {o1 : Obj} {cs : Array Value} (b : Below ((w.alloc o1).alloc (.cells cs 59)).heap.size ((w.alloc o1).alloc (.cells cs 59)) w2) : w2.heap[w.heap.size + 1]? = some (.cells cs 59) := by
  rw [b.block _ (by simp)]
  have e := heap_alloc_new (w.alloc o1) (.cells cs 59)
  simpa using e
theorem tok_cells {w2 : World} {N : Nat} {x y z : Value} (hg : w2.heap[N]? = some (.cells #[x, y, z] 59)) : w2.cell? ⟨N, 0, none⟩ = some x ∧ w2.cell? ⟨N, 1, none⟩ = some y ∧ w2.cell? ⟨N, 2, none⟩ = some z ∧ ∀ o, w2.frozen? ⟨N, o, none⟩ = false := by
  refine ⟨?_, ?_, ?_, fun o => ?_⟩
  · unfold World.cell?; dsimp only; rw [hg]; rfl
  · unfold World.cell?; dsimp only; rw [hg]; rfl
  · unfold World.cell?; dsimp only; rw [hg]; rfl
  · simp [World.frozen?, hg]
theorem set3_heap {w2 : World} {N : Nat} {x y z p q r : Value} (hg : w2.heap[N]? = some (.cells #[x, y, z] 59)) : (((w2.setCell ⟨N, 0, none⟩ p).setCell ⟨N, 1, none⟩ q).setCell ⟨N, 2, none⟩ r).heap[N]? = some (.cells #[p, q, r] 59) := by
  simp [World.setCell, Array.getElem?_modify, hg]
theorem set3_below {w2 : World} {N B : Nat} {p q r : Value} (h : B ≤ N) : Below B w2 (((w2.setCell ⟨N, 0, none⟩ p).setCell ⟨N, 1, none⟩ q).setCell ⟨N, 2, none⟩ r) :=
  ⟨rfl, rfl, rfl, by simp, fun k hk => by
    rw [Below.heap_setCell _ ⟨N, 2, none⟩ _ k (by dsimp only; omega), Below.heap_setCell _ ⟨N, 1, none⟩ _ k (by dsimp only; omega), Below.heap_setCell _ ⟨N, 0, none⟩ _ k (by dsimp only; omega)]⟩
/-- A reader's end, where its result has been stored. -/
theorem rd_set {fn : Func} (hr : fn.results = #[.cell 6 59, .tmp 7, .tmp 8]) {Q : Ending → World → Prop} {tmps : Array Value} {w2 : World} {N : Nat} {x y z : Value} {a c n : Int} {b : ByteArray} {g : Bool} (hg : w2.heap[N]? = some (.cells #[x, y, z] 59)) (h6 : tmps.getD 6 undef = .pointer (some ⟨N, 0, none⟩)) (h7 : tmps.getD 7 undef = .int .i64 n) (h8 : tmps.getD 8 undef = .bool g)
    (hQ : Q (.returned (.tuple #[.agg #[.int .u8 a, .string b, .int .i64 c], .int .i64 n, .bool g])) (((w2.setCell ⟨N, 0, none⟩ (.int .u8 a)).setCell ⟨N, 1, none⟩ (.string b)).setCell ⟨N, 2, none⟩ (.int .i64 c))) : bodyPost Tryz.prog fn Q .ret ⟨tmps, []⟩ (((w2.setCell ⟨N, 0, none⟩ (.int .u8 a)).setCell ⟨N, 1, none⟩ (.string b)).setCell ⟨N, 2, none⟩ (.int .i64 c)) := by
  obtain ⟨d0, d1, d2, _⟩ := tok_cells (set3_heap (p := .int .u8 a) (q := .string b) (r := .int .i64 c) hg)
  exact ret_rd hr h6 h7 h8 d0 d1 d2 hQ
theorem rd_below {w w2 : World} {o1 o2 : Obj} {p q r : Value} (b : Below ((w.alloc o1).alloc o2).heap.size ((w.alloc o1).alloc o2) w2) : Below w.heap.size w (((w2.setCell ⟨w.heap.size + 1, 0, none⟩ p).setCell ⟨w.heap.size + 1, 1, none⟩ q).setCell ⟨w.heap.size + 1, 2, none⟩ r) :=
  ((((Below.refl _ _).alloc (Nat.le_refl _) _).alloc (by simp) _).trans (b.mono (by simp; omega))).trans (set3_below (by omega))
set_option maxRecDepth 20000 in
set_option maxHeartbeats 4000000 in
theorem ints_any (s : ByteArray) (a : Nat) (w : World) (hc : LxC w) (ha : a < s.size) (hs : s.size ≤ 1000000) : Calls Tryz.prog 145 #[.agg #[], .string s, .int .i64 a] w (RdQ a w (intR s a)) := by
  obtain ⟨X, hX⟩ : ∃ X, X = intR s a := ⟨_, rfl⟩
  rw [← hX]
  have HX := Lib.hid hX
  have HB : Hid (∀ o1 o2, Below w.heap.size w ((w.alloc o1).alloc o2)) := Lib.hid (fun o1 o2 => ((Below.refl _ _).alloc (Nat.le_refl _) _).alloc (by simp) _)
  have HC := Lib.hid hc.intc
  have hsi : (s.size : Int) ≤ 1000000 := by omega
  have ha0 : (0 : Int) ≤ a := by omega
  have hai : (a : Int) < s.size := by omega
  have hbe : (s[a].toNat : Int) = byt s a := byt_eq s a ha
  have hx := UInt8.toNat_lt s[a]
  have HD := Lib.hid (fun W => isd_any (s[a].toNat : Nat) W (by omega) (by omega))
  clear hX hc
  by_cases hst : byt s a = 45 ∨ isDg (byt s a) = true
  · have HQQ : Hid (((s[a].toNat : Int) != 45) = false ∨ (((s[a].toNat : Int) != 45) = true ∧ isDg (s[a].toNat : Nat) = true)) := Lib.hid (by
      rw [hbe]
      by_cases e : byt s a = 45
      · rw [e]; exact .inl rfl
      · exact .inr ⟨by simp [e], hst.elim (fun k => absurd k e) id⟩)
    have HXX : Hid (X = (if byt s (dg s (a + 1)) = 46 ∨ ltI (byt s (dg s (a + 1))) = true ∨ intB (s.extract a (dg s (a + 1))) = false then .bad else .ok ⟨2, s.extract a (dg s (a + 1)), a⟩ (dg s (a + 1)))) := Lib.hid (by rw [HX.out]; unfold intR; rw [if_pos hst])
    have hdge := dg_ge s (a + 1)
    have hdle : dg s (a + 1) ≤ s.size := dg_le (by omega)
    obtain ⟨N, hN⟩ : ∃ N, N = dg s (a + 1) := ⟨_, rfl⟩
    have HN := Lib.hid hN
    rw [← hN] at HXX hdge hdle
    clear hN hst hbe hx HX
    rcases HQQ.out with q1 | ⟨q1, q2⟩
    · go_enter Tryz.func145, Tryz.ntmps145
      go_wp2_with fail
      go_loopg [9] (s.size + 1) (fun f v9 wr => ∃ j : Nat, s.size + 1 - j ≤ f ∧ a < j ∧ j ≤ s.size ∧ v9 = .int .i64 j ∧ Hid (dg s j = N) ∧ Hid (wr = (w.alloc (.cells #[] 136)).alloc (.cells #[.int .u8 0, .string ⟨#[]⟩, .int .i64 0] 59)))
      case atStart => exact ⟨a + 1, by omega, by omega, by omega, by go_num, Lib.hid HN.out.symm, Lib.hid rfl⟩
      case round =>
        obtain ⟨j, hf, haj, hj, rfl, HJ, HW⟩ := hrel
        obtain rfl := HW.out
        have hj0 : (0 : Int) ≤ j := by omega
        have haji : (a : Int) ≤ j := by omega
        have HIN := Lib.hid (HC.out _ (HB.out (.cells #[] 136) (.cells #[.int .u8 0, .string ⟨#[]⟩, .int .i64 0] 59)) (s.extract a N) (Nat.le_trans ba_cut hs))
        by_cases hlt : j < s.size
        · have hji : (j : Int) < s.size := by omega
          have hbj : (s[j].toNat : Int) = byt s j := byt_eq s j hlt
          have hxj := UInt8.toNat_lt s[j]
          have HDJ := Lib.hid (fun W => isd_any (s[j].toNat : Nat) W (by omega) (by omega))
          have HLJ := Lib.hid (fun W => isl_any (s[j].toNat : Nat) W (by omega) (by omega))
          cases hd : isDg (s[j].toNat : Nat) with
          | true =>
            rw [hd] at HDJ
            rw [hbj] at hd
            have HJN : Hid (dg s (j + 1) = N) := Lib.hid (by rw [← HJ.out]; exact (dg_step hd).symm)
            clear hd hbj hxj
            go_wp2_with fail
            refine (HDJ.out _).mono ?_
            rintro e w1 ⟨rfl, hw⟩
            obtain rfl := hw.symm
            go_wp2_with fail
            go_roundg (gk - 1)
            case rel => exact ⟨j + 1, by omega, by omega, by omega, by go_num, HJN, Lib.hid rfl⟩
            case measure => omega
          | false =>
            rw [hd] at HDJ
            rw [hbj] at hd
            obtain rfl : j = N := by rw [← HJ.out]; exact (dg_stop hd).symm
            by_cases h46 : byt s j = 46
            · have q46 : ((s[j].toNat : Int) == 46) = true := by rw [hbj, h46]; rfl
              have HF : Hid (X = .bad) := Lib.hid (by rw [HXX.out, if_pos (.inl h46)])
              clear hd hbj hxj h46
              go_wp2_with fail
              refine (HDJ.out _).mono ?_
              rintro e w1 ⟨rfl, hw⟩
              obtain rfl := hw.symm
              go_wp2_with fail
              (try simp only [Exit.inBlock, Exit.then])
              refine rd_end Tryz.results145 rfl rfl rfl ?_
              refine ⟨HB.out _ _, ?_⟩
              rw [HF.out]
              exact ⟨⟨0, _, 0⟩, rfl⟩
            have q46 : ((s[j].toNat : Int) == 46) = false := by rw [hbj]; exact beq_eq_false_iff_ne.2 h46
            cases hl : ltI (s[j].toNat : Nat) with
            | true =>
              rw [hl] at HLJ
              have HF : Hid (X = .bad) := Lib.hid (by rw [HXX.out, if_pos (.inr (.inl (by rw [← hbj]; exact hl)))])
              clear hd hbj hxj h46 hl
              go_wp2_with fail
              refine (HDJ.out _).mono ?_
              rintro e w1 ⟨rfl, hw⟩
              obtain rfl := hw.symm
              go_wp2_with fail
              refine (HLJ.out _).mono ?_
              rintro e w1 ⟨rfl, hw⟩
              obtain rfl := hw.symm
              go_wp2_with fail
              (try simp only [Exit.inBlock, Exit.then])
              refine rd_end Tryz.results145 rfl rfl rfl ?_
              refine ⟨HB.out _ _, ?_⟩
              rw [HF.out]
              exact ⟨⟨0, _, 0⟩, rfl⟩
            | false =>
              rw [hl] at HLJ
              rw [hbj] at hl
              have HXY : Hid (X = if intB (s.extract a j) = false then .bad else .ok ⟨2, s.extract a j, a⟩ j) := Lib.hid (by
                rw [HXX.out]
                by_cases e : intB (s.extract a j) = false
                · rw [if_pos (.inr (.inr e)), if_pos e]
                · rw [if_neg (by rintro (k | k | k); exact h46 k; rw [hl] at k; cases k; exact e k), if_neg e])
              clear hd hbj hxj h46 hl HXX
              go_wp2_with fail
              refine (HDJ.out _).mono ?_
              rintro e w1 ⟨rfl, hw⟩
              obtain rfl := hw.symm
              go_wp2_with fail
              refine (HLJ.out _).mono ?_
              rintro e w1 ⟨rfl, hw⟩
              obtain rfl := hw.symm
              go_wp2_with fail
              refine HIN.out.mono ?_
              rintro e w2 ⟨rfl, b2⟩
              have hg := tok_kept b2
              obtain ⟨d0, d1, d2, dz⟩ := tok_cells hg
              have dz0 := dz 0
              have dz1 := dz 1
              have dz2 := dz 2
              have HG := Lib.hid (And.intro hg b2)
              clear hg b2 dz
              cases hi : intB (s.extract a j) with
              | true =>
                have HF : Hid (X = .ok ⟨2, s.extract a j, a⟩ j) := Lib.hid (by rw [HXY.out, if_neg (by rw [hi]; decide)])
                go_wp2_with fail
                refine rd_set Tryz.results145 HG.out.1 rfl rfl rfl ?_
                refine ⟨rd_below HG.out.2, ?_⟩
                rw [HF.out]
              | false =>
                have HF : Hid (X = .bad) := Lib.hid (by rw [HXY.out, if_pos hi])
                go_wp2_with fail
                (try simp only [Exit.inBlock, Exit.then])
                refine rd_set Tryz.results145 HG.out.1 rfl rfl rfl ?_
                refine ⟨rd_below HG.out.2, ?_⟩
                rw [HF.out]
                exact ⟨⟨0, _, 0⟩, rfl⟩
        · obtain rfl : j = s.size := by omega
          obtain rfl : s.size = N := by rw [← HJ.out]; exact (dg_stop (by rw [byt_end (Nat.le_refl _)]; rfl)).symm
          have HXY : Hid (X = if intB (s.extract a s.size) = false then .bad else .ok ⟨2, s.extract a s.size, a⟩ s.size) := Lib.hid (by
            rw [HXX.out, byt_end (Nat.le_refl _)]
            by_cases e : intB (s.extract a s.size) = false
            · rw [if_pos (.inr (.inr e)), if_pos e]
            · rw [if_neg (by rintro (k | k | k); cases k; cases k; exact e k), if_neg e])
          clear HXX
          go_wp2_with fail
          refine HIN.out.mono ?_
          rintro e w2 ⟨rfl, b2⟩
          have hg := tok_kept b2
          obtain ⟨d0, d1, d2, dz⟩ := tok_cells hg
          have dz0 := dz 0
          have dz1 := dz 1
          have dz2 := dz 2
          have HG := Lib.hid (And.intro hg b2)
          clear hg b2 dz
          cases hi : intB (s.extract a s.size) with
          | true =>
            have HF : Hid (X = .ok ⟨2, s.extract a s.size, a⟩ s.size) := Lib.hid (by rw [HXY.out, if_neg (by rw [hi]; decide)])
            go_wp2_with fail
            refine rd_set Tryz.results145 HG.out.1 rfl rfl rfl ?_
            refine ⟨rd_below HG.out.2, ?_⟩
            rw [HF.out]
          | false =>
            have HF : Hid (X = .bad) := Lib.hid (by rw [HXY.out, if_pos hi])
            go_wp2_with fail
            (try simp only [Exit.inBlock, Exit.then])
            refine rd_set Tryz.results145 HG.out.1 rfl rfl rfl ?_
            refine ⟨rd_below HG.out.2, ?_⟩
            rw [HF.out]
            exact ⟨⟨0, _, 0⟩, rfl⟩
    · rw [q2] at HD
      go_enter Tryz.func145, Tryz.ntmps145
      go_wp2_with fail
      refine (HD.out _).mono ?_
      rintro e w1 ⟨rfl, hw⟩
      obtain rfl := hw.symm
      go_wp2_with fail
      go_loopg [9] (s.size + 1) (fun f v9 wr => ∃ j : Nat, s.size + 1 - j ≤ f ∧ a < j ∧ j ≤ s.size ∧ v9 = .int .i64 j ∧ Hid (dg s j = N) ∧ Hid (wr = (w.alloc (.cells #[] 136)).alloc (.cells #[.int .u8 0, .string ⟨#[]⟩, .int .i64 0] 59)))
      case atStart => exact ⟨a + 1, by omega, by omega, by omega, by go_num, Lib.hid HN.out.symm, Lib.hid rfl⟩
      case round =>
        obtain ⟨j, hf, haj, hj, rfl, HJ, HW⟩ := hrel
        obtain rfl := HW.out
        have hj0 : (0 : Int) ≤ j := by omega
        have haji : (a : Int) ≤ j := by omega
        have HIN := Lib.hid (HC.out _ (HB.out (.cells #[] 136) (.cells #[.int .u8 0, .string ⟨#[]⟩, .int .i64 0] 59)) (s.extract a N) (Nat.le_trans ba_cut hs))
        by_cases hlt : j < s.size
        · have hji : (j : Int) < s.size := by omega
          have hbj : (s[j].toNat : Int) = byt s j := byt_eq s j hlt
          have hxj := UInt8.toNat_lt s[j]
          have HDJ := Lib.hid (fun W => isd_any (s[j].toNat : Nat) W (by omega) (by omega))
          have HLJ := Lib.hid (fun W => isl_any (s[j].toNat : Nat) W (by omega) (by omega))
          cases hd : isDg (s[j].toNat : Nat) with
          | true =>
            rw [hd] at HDJ
            rw [hbj] at hd
            have HJN : Hid (dg s (j + 1) = N) := Lib.hid (by rw [← HJ.out]; exact (dg_step hd).symm)
            clear hd hbj hxj
            go_wp2_with fail
            refine (HDJ.out _).mono ?_
            rintro e w1 ⟨rfl, hw⟩
            obtain rfl := hw.symm
            go_wp2_with fail
            go_roundg (gk - 1)
            case rel => exact ⟨j + 1, by omega, by omega, by omega, by go_num, HJN, Lib.hid rfl⟩
            case measure => omega
          | false =>
            rw [hd] at HDJ
            rw [hbj] at hd
            obtain rfl : j = N := by rw [← HJ.out]; exact (dg_stop hd).symm
            by_cases h46 : byt s j = 46
            · have q46 : ((s[j].toNat : Int) == 46) = true := by rw [hbj, h46]; rfl
              have HF : Hid (X = .bad) := Lib.hid (by rw [HXX.out, if_pos (.inl h46)])
              clear hd hbj hxj h46
              go_wp2_with fail
              refine (HDJ.out _).mono ?_
              rintro e w1 ⟨rfl, hw⟩
              obtain rfl := hw.symm
              go_wp2_with fail
              (try simp only [Exit.inBlock, Exit.then])
              refine rd_end Tryz.results145 rfl rfl rfl ?_
              refine ⟨HB.out _ _, ?_⟩
              rw [HF.out]
              exact ⟨⟨0, _, 0⟩, rfl⟩
            have q46 : ((s[j].toNat : Int) == 46) = false := by rw [hbj]; exact beq_eq_false_iff_ne.2 h46
            cases hl : ltI (s[j].toNat : Nat) with
            | true =>
              rw [hl] at HLJ
              have HF : Hid (X = .bad) := Lib.hid (by rw [HXX.out, if_pos (.inr (.inl (by rw [← hbj]; exact hl)))])
              clear hd hbj hxj h46 hl
              go_wp2_with fail
              refine (HDJ.out _).mono ?_
              rintro e w1 ⟨rfl, hw⟩
              obtain rfl := hw.symm
              go_wp2_with fail
              refine (HLJ.out _).mono ?_
              rintro e w1 ⟨rfl, hw⟩
              obtain rfl := hw.symm
              go_wp2_with fail
              (try simp only [Exit.inBlock, Exit.then])
              refine rd_end Tryz.results145 rfl rfl rfl ?_
              refine ⟨HB.out _ _, ?_⟩
              rw [HF.out]
              exact ⟨⟨0, _, 0⟩, rfl⟩
            | false =>
              rw [hl] at HLJ
              rw [hbj] at hl
              have HXY : Hid (X = if intB (s.extract a j) = false then .bad else .ok ⟨2, s.extract a j, a⟩ j) := Lib.hid (by
                rw [HXX.out]
                by_cases e : intB (s.extract a j) = false
                · rw [if_pos (.inr (.inr e)), if_pos e]
                · rw [if_neg (by rintro (k | k | k); exact h46 k; rw [hl] at k; cases k; exact e k), if_neg e])
              clear hd hbj hxj h46 hl HXX
              go_wp2_with fail
              refine (HDJ.out _).mono ?_
              rintro e w1 ⟨rfl, hw⟩
              obtain rfl := hw.symm
              go_wp2_with fail
              refine (HLJ.out _).mono ?_
              rintro e w1 ⟨rfl, hw⟩
              obtain rfl := hw.symm
              go_wp2_with fail
              refine HIN.out.mono ?_
              rintro e w2 ⟨rfl, b2⟩
              have hg := tok_kept b2
              obtain ⟨d0, d1, d2, dz⟩ := tok_cells hg
              have dz0 := dz 0
              have dz1 := dz 1
              have dz2 := dz 2
              have HG := Lib.hid (And.intro hg b2)
              clear hg b2 dz
              cases hi : intB (s.extract a j) with
              | true =>
                have HF : Hid (X = .ok ⟨2, s.extract a j, a⟩ j) := Lib.hid (by rw [HXY.out, if_neg (by rw [hi]; decide)])
                go_wp2_with fail
                refine rd_set Tryz.results145 HG.out.1 rfl rfl rfl ?_
                refine ⟨rd_below HG.out.2, ?_⟩
                rw [HF.out]
              | false =>
                have HF : Hid (X = .bad) := Lib.hid (by rw [HXY.out, if_pos hi])
                go_wp2_with fail
                (try simp only [Exit.inBlock, Exit.then])
                refine rd_set Tryz.results145 HG.out.1 rfl rfl rfl ?_
                refine ⟨rd_below HG.out.2, ?_⟩
                rw [HF.out]
                exact ⟨⟨0, _, 0⟩, rfl⟩
        · obtain rfl : j = s.size := by omega
          obtain rfl : s.size = N := by rw [← HJ.out]; exact (dg_stop (by rw [byt_end (Nat.le_refl _)]; rfl)).symm
          have HXY : Hid (X = if intB (s.extract a s.size) = false then .bad else .ok ⟨2, s.extract a s.size, a⟩ s.size) := Lib.hid (by
            rw [HXX.out, byt_end (Nat.le_refl _)]
            by_cases e : intB (s.extract a s.size) = false
            · rw [if_pos (.inr (.inr e)), if_pos e]
            · rw [if_neg (by rintro (k | k | k); cases k; cases k; exact e k), if_neg e])
          clear HXX
          go_wp2_with fail
          refine HIN.out.mono ?_
          rintro e w2 ⟨rfl, b2⟩
          have hg := tok_kept b2
          obtain ⟨d0, d1, d2, dz⟩ := tok_cells hg
          have dz0 := dz 0
          have dz1 := dz 1
          have dz2 := dz 2
          have HG := Lib.hid (And.intro hg b2)
          clear hg b2 dz
          cases hi : intB (s.extract a s.size) with
          | true =>
            have HF : Hid (X = .ok ⟨2, s.extract a s.size, a⟩ s.size) := Lib.hid (by rw [HXY.out, if_neg (by rw [hi]; decide)])
            go_wp2_with fail
            refine rd_set Tryz.results145 HG.out.1 rfl rfl rfl ?_
            refine ⟨rd_below HG.out.2, ?_⟩
            rw [HF.out]
          | false =>
            have HF : Hid (X = .bad) := Lib.hid (by rw [HXY.out, if_pos hi])
            go_wp2_with fail
            (try simp only [Exit.inBlock, Exit.then])
            refine rd_set Tryz.results145 HG.out.1 rfl rfl rfl ?_
            refine ⟨rd_below HG.out.2, ?_⟩
            rw [HF.out]
            exact ⟨⟨0, _, 0⟩, rfl⟩
  · have q1 : ((s[a].toNat : Int) != 45) = true := by rw [hbe]; simp; exact fun e => hst (.inl e)
    have q2 : isDg (s[a].toNat : Nat) = false := by
      rw [hbe]
      cases e : isDg (byt s a) with
      | true => exact absurd (.inr e) hst
      | false => rfl
    rw [q2] at HD
    have HF : Hid (X = .no) := Lib.hid (by rw [HX.out]; unfold intR; rw [if_neg hst])
    clear hst hbe hx
    go_enter Tryz.func145, Tryz.ntmps145
    go_wp2_with fail
    refine (HD.out _).mono ?_
    rintro e w1 ⟨rfl, hw⟩
    obtain rfl := hw.symm
    go_wp2_with fail
    (try simp only [Exit.inBlock, Exit.then])
    refine rd_end Tryz.results145 rfl rfl rfl ?_
    refine ⟨HB.out _ _, ?_⟩
    rw [HF.out]
    exact ⟨⟨0, _, 0⟩, a, rfl⟩
end Go.Proofs.YtmkkckhfdafjnaaGreatDoor
/- Layer 17, Lex: quoted. -/
namespace Go.Proofs.YtmkkckhfdafjnaaGreatDoor
open Go.RowKit Go.Maps
theorem quF_step {s : ByteArray} {f j : Nat} (h : 1 ≤ f) : quF s f j = if s.size ≤ j then none else if byt s j = 34 then some (j + 1) else if byt s j = 92 ∧ 32 ≤ byt s (j + 1) then quF s (f - 1) (j + 2) else if byt s j = 92 ∨ (byt s j < 32 ∧ byt s j ≠ 9) then none else quF s (f - 1) (j + 1) := by
  match f, h with
  | f + 1, _ => rfl
def quV (a : Nat) (x : Option Nat) : Int := match x with
  | none => a
  | some n => n
set_option maxRecDepth 20000 in
set_option maxHeartbeats 2000000 in
theorem quoted_any (s : ByteArray) (a : Nat) (w : World) (ha : a < s.size) (hs : s.size ≤ 1000000) : Calls Tryz.prog 147 #[.string s, .int .i64 a] w fun e w' => e = .returned (.int .i64 (quV a (quM s a))) ∧ w' = w := by
  obtain ⟨X, hX⟩ : ∃ X, X = quM s a := ⟨_, rfl⟩
  rw [← hX]
  have HX : Hid (quF s (s.size - a) (a + 1) = X) := Lib.hid hX.symm
  have hsi : (s.size : Int) ≤ 1000000 := by omega
  have ha0 : (0 : Int) ≤ a := by omega
  have ha1 : (a : Int) < s.size := by omega
  clear hX
  go_enter Tryz.func147, Tryz.ntmps147
  go_wp2_with fail
  go_loopg [5, 6] (s.size - a) (fun f v5 _ wr => ∃ j : Nat, s.size - j + 1 ≤ f ∧ a < j ∧ j ≤ s.size ∧ v5 = .int .i64 j ∧ Hid (quF s f j = X) ∧ Hid (wr = w))
  case atStart => exact ⟨a + 1, by omega, by omega, by omega, by go_num, HX, Lib.hid rfl⟩
  case round =>
    obtain ⟨j, hf, haj, hj, rfl, HQ, HW⟩ := hrel
    obtain rfl := HW.out
    have hj0 : (0 : Int) ≤ j := by omega
    have hst := HQ.out
    rw [quF_step (by omega)] at hst
    by_cases hlt : j < s.size
    · have hji : (j : Int) < s.size := by omega
      have hbe : (s[j].toNat : Int) = byt s j := byt_eq s j hlt
      rw [if_neg (by omega)] at hst
      by_cases h34 : byt s j = 34
      · rw [if_pos h34] at hst
        have HO := Lib.hid hst
        have q1 : ((s[j].toNat : Int) == 34) = true := by rw [hbe, h34]; rfl
        clear hst h34 hbe
        go_wp2_with fail
        go_ret
        rw [← HO.out]
        exact ⟨by unfold quV; rfl, rfl⟩
      rw [if_neg h34] at hst
      have q1 : ((s[j].toNat : Int) == 34) = false := by rw [hbe]; exact beq_eq_false_iff_ne.2 h34
      by_cases h92 : byt s j = 92
      · have q2 : ((s[j].toNat : Int) == 92) = true := by rw [hbe, h92]; rfl
        by_cases hl2 : j + 1 < s.size
        · have hji2 : (j : Int) + 1 < s.size := by omega
          have hbe2 : (s[j + 1].toNat : Int) = byt s (j + 1) := byt_eq s (j + 1) hl2
          by_cases h32 : 32 ≤ byt s (j + 1)
          · rw [if_pos ⟨h92, h32⟩] at hst
            have HO := Lib.hid hst
            have q3 : 32 ≤ (s[j + 1].toNat : Int) := by rw [hbe2]; exact h32
            clear hst h34 hbe hbe2 h92 h32
            go_wp2_with fail
            go_roundg (gk - 1)
            case rel => exact ⟨j + 2, by omega, by omega, by omega, by go_num, HO, Lib.hid rfl⟩
            case measure => omega
          · rw [if_neg (fun e => h32 e.2), if_pos (.inl h92)] at hst
            have HO := Lib.hid hst
            have q3 : ¬ 32 ≤ (s[j + 1].toNat : Int) := by rw [hbe2]; exact h32
            clear hst h34 hbe hbe2 h92 h32
            go_wp2_with fail
            go_ret
            rw [← HO.out]
            exact ⟨rfl, rfl⟩
        · have hji2 : ¬ (j : Int) + 1 < s.size := by omega
          have h0 : byt s (j + 1) = 0 := by unfold byt; rw [dif_neg hl2]
          rw [if_neg (fun e => by omega), if_pos (.inl h92)] at hst
          have HO := Lib.hid hst
          clear hst h34 hbe h92 h0
          go_wp2_with fail
          go_ret
          rw [← HO.out]
          exact ⟨rfl, rfl⟩
      have q2 : ((s[j].toNat : Int) == 92) = false := by rw [hbe]; exact beq_eq_false_iff_ne.2 h92
      rw [if_neg (fun e => h92 e.1)] at hst
      by_cases hc : byt s j < 32
      · have q4 : (s[j].toNat : Int) < 32 := by rw [hbe]; exact hc
        by_cases h9 : byt s j = 9
        · rw [if_neg (by rintro (e | e); exact h92 e; exact e.2 h9)] at hst
          have q5 : ((s[j].toNat : Int) != 9) = false := by rw [hbe, h9]; rfl
          have HO := Lib.hid hst
          clear hst h34 hbe h92 hc h9
          go_wp2_with fail
          go_roundg (gk - 1)
          case rel => exact ⟨j + 1, by omega, by omega, by omega, by go_num, HO, Lib.hid rfl⟩
          case measure => omega
        · rw [if_pos (.inr ⟨hc, h9⟩)] at hst
          have q5 : ((s[j].toNat : Int) != 9) = true := by rw [hbe]; simp [h9]
          have HO := Lib.hid hst
          clear hst h34 hbe h92 hc h9
          go_wp2_with fail
          go_ret
          rw [← HO.out]
          exact ⟨rfl, rfl⟩
      · rw [if_neg (by rintro (e | e); exact h92 e; exact hc e.1)] at hst
        have q4 : ¬ (s[j].toNat : Int) < 32 := by rw [hbe]; exact hc
        have HO := Lib.hid hst
        clear hst h34 hbe h92 hc
        go_wp2_with fail
        go_roundg (gk - 1)
        case rel => exact ⟨j + 1, by omega, by omega, by omega, by go_num, HO, Lib.hid rfl⟩
        case measure => omega
    · obtain rfl : j = s.size := by omega
      rw [if_pos (Nat.le_refl _)] at hst
      have HO := Lib.hid hst
      clear hst
      go_wp2_with fail
      go_ret
      rw [← HO.out]
      exact ⟨rfl, rfl⟩
end Go.Proofs.YtmkkckhfdafjnaaGreatDoor
/- Layer 17: no error of json.Read is 0 (as in layer 4). -/
namespace Go.Proofs.YtmkkckhfdafjnaaGreatDoor
open Go.RowKit Go.Maps
/-- No error is 0. -/
def NZ {α : Type} (x : Rs α) : Prop := ∀ e, x = .bad e → e ≠ 0
theorem nz_ok {α : Type} (a : α) : NZ (Rs.ok a) := fun e h => by cases h
theorem nz_bad {α : Type} {e : Int} (h : e ≠ 0) : NZ (Rs.bad e : Rs α) := fun e' h' => by cases h'; exact h
theorem nz_bind {α β : Type} {x : Rs α} {f : α → Rs β} (h : NZ x) (k : ∀ a, NZ (f a)) : NZ (x.bind f) := by
  cases x with
  | ok a => exact k a
  | bad e => exact fun e' h' => by cases h'; exact h e rfl
theorem nz_ite {α : Type} {c : Prop} [Decidable c] {x y : Rs α} (h : NZ x) (k : NZ y) : NZ (if c then x else y) := by
  split
  · exact h
  · exact k
theorem nz_word (s : ByteArray) : ∀ (l : List Int) (i : Nat), NZ (wordM s l i)
  | [], i => nz_ok _
  | c :: l, i => nz_ite (nz_word s l (i + 1)) (nz_bad (by decide))
theorem nz_four (s : ByteArray) : ∀ (k i : Nat) (n : Int), NZ (fourF s k i n)
  | 0, _, _ => nz_ok _
  | k + 1, _, _ => nz_ite (nz_bad (by decide)) (nz_four s k _ _)
theorem nz_point (s : ByteArray) (i : Nat) : NZ (pointM s i) := nz_bind (nz_four s 4 i 0) fun x => nz_ite (nz_bind (nz_word s _ _) fun j => nz_bind (nz_four s 4 j 0) fun y => nz_ite (nz_bad (by decide)) (nz_ok _)) (nz_ite (nz_ok _) (nz_bad (by decide)))
theorem nz_esc (s : ByteArray) (i : Nat) : NZ (escM s i) := by
  unfold escM
  dsimp only
  exact nz_ite (nz_ok _) (nz_ite (nz_ok _) (nz_ite (nz_ok _) (nz_ite (nz_ok _) (nz_ite (nz_ok _) (nz_ite (nz_ok _) (nz_ite (nz_bind (nz_point s _) fun x => nz_ok _) (nz_bad (by decide))))))))
theorem nz_strF (s : ByteArray) : ∀ (f j : Nat) (l : List Int), NZ (strF s f j l)
  | 0, _, _ => nz_bad (by decide)
  | f + 1, j, l => nz_ite (nz_ok _) (nz_ite (nz_bind (nz_esc s _) fun x => nz_strF s f _ _) (nz_ite (nz_bad (by decide)) (nz_strF s f _ _)))
theorem nz_str (s : ByteArray) (i : Nat) : NZ (strM s i) := nz_bind (nz_word s _ _) fun j => nz_strF s _ _ _
theorem nz_num (s : ByteArray) (i : Nat) : NZ (numM s i) := by
  unfold numM intM
  exact nz_bind (nz_ite (nz_ok _) (nz_ite (nz_bad (by decide)) (nz_ok _))) fun b => nz_ite (nz_ok _) (nz_bad (by decide))
theorem nz_lstF {s : ByteArray} {V : Nat → List CR → Rs Out} (hV : ∀ i L, NZ (V i L)) (h : Nat) : ∀ (f i : Nat) (L : List CR), NZ (lstF s V h f i L)
  | 0, _, _ => nz_bad (by decide)
  | f + 1, _, _ => nz_ite (nz_bind (hV _ _) fun x => nz_lstF hV h f _ _) (nz_bind (nz_word s _ _) fun j => nz_ok _)
theorem nz_lst {s : ByteArray} {V : Nat → List CR → Rs Out} (hV : ∀ i L, NZ (V i L)) (h i : Nat) (L : List CR) : NZ (lstM s V h i L) := nz_ite (nz_ok _) (nz_bind (hV _ _) fun x => nz_lstF hV h _ _ _)
theorem nz_mem {s : ByteArray} {V : ByteArray → Nat → List CR → Rs Out} (hV : ∀ nm i L, NZ (V nm i L)) (h i : Nat) (ns : List ByteArray) (L : List CR) : NZ (memM s V h i ns L) := nz_bind (nz_str s i) fun x => nz_ite (nz_bad (by decide)) (nz_ite (nz_bad (by decide)) (nz_bind (nz_word s _ _) fun k => nz_bind (hV _ _ _) fun y => nz_ok _))
theorem nz_objF {s : ByteArray} {V : ByteArray → Nat → List CR → Rs Out} (hV : ∀ nm i L, NZ (V nm i L)) (h : Nat) : ∀ (f i : Nat) (ns : List ByteArray) (L : List CR), NZ (objF s V h f i ns L)
  | 0, _, _, _ => nz_bad (by decide)
  | f + 1, _, _, _ => nz_ite (nz_bind (nz_mem hV h _ _ _) fun x => nz_objF hV h f _ _ _) (nz_bind (nz_word s _ _) fun j => nz_ok _)
theorem nz_obj {s : ByteArray} {V : ByteArray → Nat → List CR → Rs Out} (hV : ∀ nm i L, NZ (V nm i L)) (h i : Nat) (L : List CR) : NZ (objM s V h i L) := nz_ite (nz_ok _) (nz_bind (nz_mem hV h _ _ _) fun x => nz_objF hV h _ _ _ _)
theorem nz_val (s : ByteArray) : ∀ (f : Nat) (nm : ByteArray) (op i : Nat) (L : List CR), NZ (valM s f nm op i L)
  | 0, _, _, _, _ => nz_bad (by decide)
  | f + 1, nm, op, i, L => by
    have ih := nz_val s f
    unfold valM
    exact nz_ite (nz_bad (by decide)) (nz_ite (nz_bad (by decide)) (nz_ite (nz_bad (by decide)) (nz_ite (nz_obj (fun _ _ _ => ih _ _ _ _) _ _ _) (nz_ite (nz_lst (fun _ _ => ih _ _ _ _) _ _ _) (nz_ite (nz_bind (nz_str s i) fun x => nz_ok _) (nz_ite (nz_bind (nz_word s _ _) fun x => nz_ok _) (nz_ite (nz_bind (nz_word s _ _) fun x => nz_ok _) (nz_ite (nz_bind (nz_word s _ _) fun x => nz_ok _) (nz_bind (nz_num s i) fun x => nz_ok _)))))))))
theorem bad_ne {s : ByteArray} {m : Int} (h : readM s = .bad m) : m ≠ 0 := by
  unfold readM at h
  split at h
  · cases h
    assumption
  · exact nz_bind (nz_val s _ _ _ _ _) (fun x => nz_ite (nz_bad (by decide)) (nz_ok _)) m h
theorem own_len {w : World} {B n : Nat} {v : Value} {xs : List Value} {e : TypeId} {sz : Nat} (h : w.ownsRow B e sz v n xs) : n ≤ maxLen := by
  rcases h.2 with ⟨_, hn⟩ | ⟨g, cap, cur, rfl, hb, hg, h1, h2, h3, h4⟩
  · rw [hn]; exact Nat.zero_le _
  · exact Nat.le_trans h1 h2
end Go.Proofs.YtmkkckhfdafjnaaGreatDoor
/- Layer 17, Lex: texts. -/
namespace Go.Proofs.YtmkkckhfdafjnaaGreatDoor
open Go.RowKit Go.Maps
theorem quF_ok {s : ByteArray} : ∀ (f j n : Nat), quF s f j = some n → j < n ∧ n ≤ s.size
  | 0, j, n, e => by cases e
  | f + 1, j, n, e => by
    unfold quF at e
    split at e
    · cases e
    split at e
    · cases e; omega
    split at e
    · have := quF_ok f _ _ e; omega
    split at e
    · cases e
    · have := quF_ok f _ _ e; omega
theorem quM_ok {s : ByteArray} {a n : Nat} (e : quM s a = some n) : a < n ∧ n ≤ s.size := by
  have := quF_ok _ _ _ e
  omega
theorem tab_first {s : ByteArray} {a n : Nat} (h : byt s a = 34) (ha : a < n) (hn : n ≤ s.size) : byt (tabT (s.extract a n)) 0 = 34 := by
  have hz : (s.extract a n).size = n - a := by simp; omega
  have h0 : byt (s.extract a n) 0 = 34 := by
    rw [show n = a + (n - a) by omega, byt_extract (by omega) 0 (by omega), Nat.add_zero]; exact h
  have hb := bI_at (s.extract a n) 0 (by omega)
  rw [h0] at hb
  obtain ⟨r, hr⟩ : ∃ r, bI (s.extract a n) = 34 :: r := by
    cases hl : bI (s.extract a n) with
    | nil => rw [hl] at hb; cases hb
    | cons c r => rw [hl] at hb; simp at hb; exact ⟨r, by rw [hb]⟩
  unfold tabT
  rw [hr, tabL, if_neg (by decide), mkB_byt _ 0 (by simp) (by simp)]
  rfl
theorem tabL_len : ∀ l : List Int, (tabL l).length ≤ 2 * l.length
  | [] => Nat.zero_le _
  | c :: r => by
    have := tabL_len r
    unfold tabL
    split <;> simp <;> omega
theorem tabT_size (s : ByteArray) : (tabT s).size ≤ 2 * s.size := by
  unfold tabT
  rw [mkB_size]
  have := tabL_len (bI s)
  rw [bI_len] at this
  exact this
theorem readM_pos {t : ByteArray} {M : List CR} (e : readM t = .ok M) : 0 < M.length := by
  unfold readM at e
  split at e
  · cases e
  · rename_i hc
    have hs := ckE_size (Decidable.not_not.1 hc)
    cases hv : valM t 17 ⟨#[]⟩ 0 (bl t 0) [] with
    | bad m => rw [hv] at e; cases e
    | ok y =>
      obtain ⟨j, L⟩ := y
      rw [hv] at e
      simp only [Rs.bind_ok] at e
      split at e
      · cases e
      · cases e
        have := valM_ok t 17 0 ⟨#[]⟩ (bl t 0) [] j M (bl_le (Nat.zero_le _)) (by simp) hv
        simpa using this.2.2.1
theorem size_zero {s : ByteArray} (h : s.size = 0) : s = ⟨#[]⟩ := by
  cases s with
  | mk d =>
    have h3 : d.size = 0 := h
    rw [Array.eq_empty_of_size_eq_zero h3]
theorem below_step {w w2 w3 : World} (h : Below w.heap.size w w2) (k : Below w2.heap.size w2 w3) : Below w.heap.size w w3 := h.trans (k.mono h.size)
set_option maxRecDepth 20000 in
set_option maxHeartbeats 4000000 in
theorem texts_any (s : ByteArray) (a : Nat) (w : World) (hc : LxC w) (ha : a < s.size) (hs : s.size ≤ 1000000) : Calls Tryz.prog 146 #[.agg #[], .string s, .int .i64 a] w (RdQ a w (txtR s a)) := by
  obtain ⟨X, hX⟩ : ∃ X, X = txtR s a := ⟨_, rfl⟩
  rw [← hX]
  have HX := Lib.hid hX
  have HB : Hid (∀ o1 o2, Below w.heap.size w ((w.alloc o1).alloc o2)) := Lib.hid (fun o1 o2 => ((Below.refl _ _).alloc (Nat.le_refl _) _).alloc (by simp) _)
  have HC := Lib.hid hc
  have hsi : (s.size : Int) ≤ 1000000 := by omega
  have ha0 : (0 : Int) ≤ a := by omega
  have hai : (a : Int) < s.size := by omega
  have hbe : (s[a].toNat : Int) = byt s a := byt_eq s a ha
  clear hX hc
  by_cases h34 : byt s a = 34
  · have q1 : ((s[a].toNat : Int) != 34) = false := by rw [hbe, h34]; rfl
    have HQ := Lib.hid (fun W => quoted_any s a W ha hs)
    have HTF := Lib.hid (fun n (h1 : a < n) (h2 : n ≤ s.size) => tab_first h34 h1 h2)
    have HX1 : Hid (X = txt1 s a (quM s a)) := Lib.hid (by rw [HX.out]; unfold txtR; rw [if_pos h34])
    clear h34 hbe HX
    cases hq : quM s a with
    | none =>
      rw [hq] at HQ HX1
      have HF : Hid (X = .bad) := HX1
      have HQ1 : Hid (∀ W, Calls Tryz.prog 147 #[.string s, .int .i64 a] W fun e w' => e = .returned (.int .i64 a) ∧ w' = W) := HQ
      clear hq HX1 HQ
      go_enter Tryz.func146, Tryz.ntmps146
      go_wp2_with fail
      refine (HQ1.out _).mono ?_
      rintro e w1 ⟨rfl, hw⟩
      obtain rfl := hw.symm
      go_wp2_with fail
      (try simp only [Exit.inBlock, Exit.then])
      refine rd_end Tryz.results146 rfl rfl rfl ?_
      refine ⟨HB.out _ _, ?_⟩
      rw [HF.out]
      exact ⟨⟨0, _, 0⟩, rfl⟩
    | some n =>
      obtain ⟨hn1, hn2⟩ := quM_ok hq
      rw [hq] at HQ HX1
      unfold txt1 at HX1
      dsimp only at HX1
      have HQ1 : Hid (∀ W, Calls Tryz.prog 147 #[.string s, .int .i64 a] W fun e w' => e = .returned (.int .i64 n) ∧ w' = W) := HQ
      have hna : ((n : Int) == a) = false := beq_eq_false_iff_ne.2 (by omega)
      have hni : (a : Int) ≤ n := by omega
      have hni2 : (n : Int) ≤ s.size := by omega
      have htf := HTF.out n hn1 hn2
      have hcs : (s.extract a n).size ≤ 1000000 := Nat.le_trans ba_cut hs
      have hts := tabT_size (s.extract a n)
      obtain ⟨T, hT⟩ : ∃ T, T = tabT (s.extract a n) := ⟨_, rfl⟩
      have HRP := Lib.hid (fun W b => HC.out.rpc W b (s.extract a n) hcs)
      rw [← hT] at HRP HX1 htf hts
      have HRD := Lib.hid (fun W b => HC.out.rdc W b T htf (by omega))
      have HNE := Lib.hid (fun m => bad_ne (s := T) (m := m))
      have HPO := Lib.hid (fun M => readM_pos (t := T) (M := M))
      clear hq HQ HTF hT htf hts hcs HC
      obtain ⟨Z, hZ⟩ : ∃ Z, Z = readM T := ⟨_, rfl⟩
      rw [← hZ] at HRD HX1 HNE HPO
      clear hZ
      go_enter Tryz.func146, Tryz.ntmps146
      go_wp2_with fail
      refine (HQ1.out _).mono ?_
      rintro e w1 ⟨rfl, hw⟩
      obtain rfl := hw.symm
      go_wp2_with fail
      refine (HRP.out _ (HB.out _ _)).mono ?_
      rintro e w2 ⟨rfl, b2⟩
      have B2 := Lib.hid b2
      have B2w := Lib.hid (below_step (HB.out _ _) b2)
      clear b2
      go_wp2_with fail
      cases Z with
      | bad m =>
        have hm : (m != 0) = true := by have := HNE.out m rfl; simp [this]
        have HF : Hid (X = .bad) := HX1
        have HRD1 : Hid (∀ W (_ : Below w.heap.size w W), Calls Tryz.prog 148 #[.string T] W fun e w' => e = .returned (.tuple #[.slice none 0 0, .int .i64 m]) ∧ Below W.heap.size W w') := HRD
        refine (HRD1.out _ B2w.out).mono ?_
        rintro e w3 ⟨rfl, b3⟩
        have b03 := below_step B2.out b3
        have hg := tok_kept b03
        obtain ⟨d0, d1, d2, dz⟩ := tok_cells hg
        have dz0 := dz 0
        have dz1 := dz 1
        have dz2 := dz 2
        have HG := Lib.hid (And.intro hg b03)
        clear hg b03 b3 dz
        go_wp2_with fail
        (try simp only [Exit.inBlock, Exit.then])
        refine rd_set Tryz.results146 HG.out.1 rfl rfl rfl ?_
        refine ⟨rd_below HG.out.2, ?_⟩
        rw [HF.out]
        exact ⟨⟨0, _, 0⟩, rfl⟩
      | ok M =>
        have hMp := HPO.out M rfl
        have HXM : Hid (X = if (gl M 0).tx = ⟨#[]⟩ ∧ byt s n = 34 then .bad else .ok ⟨3, (gl M 0).tx, a⟩ n) := HX1
        have HRD1 : Hid (∀ W (_ : Below w.heap.size w W), Calls Tryz.prog 148 #[.string T] W fun e w' => ∃ v, e = .returned (.tuple #[v, .int .i64 0]) ∧ w'.ownsRow W.heap.size 46 5 v M.length (rw5 M) ∧ Below W.heap.size W w') := HRD
        refine (HRD1.out _ B2w.out).mono ?_
        rintro e w3 ⟨v3, rfl, o3, b3⟩
        have b03 := below_step B2.out b3
        have hg := tok_kept b03
        obtain ⟨d0, d1, d2, dz⟩ := tok_cells hg
        have dz0 := dz 0
        have dz1 := dz 1
        have dz2 := dz 2
        have HG := Lib.hid (And.intro hg b03)
        obtain ⟨q, cap, rfl, _, _⟩ := own_addr o3 hMp
        have cx : w3.cell? ⟨q, 2, none⟩ = some (.string (gl M 0).tx) := by
          have e1 := (rw5_at M 0 hMp).2.2.1
          rw [Nat.zero_mul, Nat.zero_add] at e1
          rw [o3.cellAt 2 (by omega)]
          exact e1
        have hMi : (0 : Int) < M.length := by omega
        obtain ⟨x, hx⟩ : ∃ x, x = (gl M 0).tx := ⟨_, rfl⟩
        rw [← hx] at cx HXM
        clear hg b03 b3 dz o3 hx
        by_cases hxe : x = ⟨#[]⟩
        · subst hxe
          by_cases hns : n < s.size
          · have hnsi : (n : Int) < s.size := by omega
            have hn0 : (0 : Int) ≤ n := by omega
            have hbn : (s[n].toNat : Int) = byt s n := byt_eq s n hns
            by_cases hn34 : byt s n = 34
            · have q2 : ((s[n].toNat : Int) == 34) = true := by rw [hbn, hn34]; rfl
              have HF : Hid (X = .bad) := Lib.hid (by rw [HXM.out, if_pos ⟨rfl, hn34⟩])
              clear hbn hn34
              go_wp2_with fail
              (try simp only [Exit.inBlock, Exit.then])
              refine rd_set Tryz.results146 HG.out.1 rfl rfl rfl ?_
              refine ⟨rd_below HG.out.2, ?_⟩
              rw [HF.out]
              exact ⟨⟨0, _, 0⟩, rfl⟩
            · have q2 : ((s[n].toNat : Int) == 34) = false := by rw [hbn]; exact beq_eq_false_iff_ne.2 hn34
              have HF : Hid (X = .ok ⟨3, ⟨#[]⟩, a⟩ n) := Lib.hid (by rw [HXM.out, if_neg (fun e => hn34 e.2)])
              clear hbn hn34
              go_wp2_with fail
              refine rd_set Tryz.results146 HG.out.1 rfl rfl rfl ?_
              refine ⟨rd_below HG.out.2, ?_⟩
              rw [HF.out]
          · have hnsi : ¬ (n : Int) < s.size := by omega
            have HF : Hid (X = .ok ⟨3, ⟨#[]⟩, a⟩ n) := Lib.hid (by rw [HXM.out, if_neg (fun e => by have := e.2; rw [byt_end (by omega)] at this; cases this)])
            go_wp2_with fail
            refine rd_set Tryz.results146 HG.out.1 rfl rfl rfl ?_
            refine ⟨rd_below HG.out.2, ?_⟩
            rw [HF.out]
        · have q3 : x.toList.isEmpty = false := full_lst (fun e => hxe (size_zero e))
          have HF : Hid (X = .ok ⟨3, x, a⟩ n) := Lib.hid (by rw [HXM.out, if_neg (fun e => hxe e.1)])
          clear hxe
          go_wp2_with fail
          refine rd_set Tryz.results146 HG.out.1 rfl rfl rfl ?_
          refine ⟨rd_below HG.out.2, ?_⟩
          rw [HF.out]
  · have q1 : ((s[a].toNat : Int) != 34) = true := by rw [hbe]; simp [h34]
    have HF : Hid (X = .no) := Lib.hid (by rw [HX.out]; unfold txtR; rw [if_neg h34])
    clear h34 hbe
    go_enter Tryz.func146, Tryz.ntmps146
    go_wp2_with fail
    (try simp only [Exit.inBlock, Exit.then])
    refine rd_end Tryz.results146 rfl rfl rfl ?_
    refine ⟨HB.out _ _, ?_⟩
    rw [HF.out]
    exact ⟨⟨0, _, 0⟩, a, rfl⟩
end Go.Proofs.YtmkkckhfdafjnaaGreatDoor
/- Layer 17, Lex: marks. -/
namespace Go.Proofs.YtmkkckhfdafjnaaGreatDoor
open Go.RowKit Go.Maps
theorem one_size {s : ByteArray} {a : Nat} (h : a < s.size) : (s.extract a (a + 1)).size = 1 := by simp; omega
theorem pre1 (s : ByteArray) (a : Nat) (h : a < s.size) : Lib.hasPrefix (s.extract a s.size).data.toList (s.extract a (a + 1)).data.toList = true := by
  unfold Lib.hasPrefix
  rw [tail_at, drop_at s a h]
  have e : (s.extract a (a + 1)).data.toList = [s[a]] := by
    have q : (s.extract a (a + 1)).data.toList = (s.data.toList.drop a).take 1 := by
      simp [ByteArray.data_extract, List.take_drop]
    rw [q, drop_at s a h]
    rfl
  rw [e]
  simp [List.isPrefixOf]
theorem rd_end3 {fn : Func} (hr : fn.results = #[.cell 6 59, .tmp 7, .tmp 8]) {Q : Ending → World → Prop} {tmps : Array Value} {w : World} {o1 o3 : Obj} {a c n : Int} {b : ByteArray} {g : Bool} (h6 : tmps.getD 6 undef = .pointer (some ⟨w.heap.size + 1, 0, none⟩)) (h7 : tmps.getD 7 undef = .int .i64 n) (h8 : tmps.getD 8 undef = .bool g)
    (hQ : Q (.returned (.tuple #[.agg #[.int .u8 a, .string b, .int .i64 c], .int .i64 n, .bool g])) (((w.alloc o1).alloc (.cells #[.int .u8 a, .string b, .int .i64 c] 59)).alloc o3)) : bodyPost Tryz.prog fn Q .ret ⟨tmps, []⟩ (((w.alloc o1).alloc (.cells #[.int .u8 a, .string b, .int .i64 c] 59)).alloc o3) := by
  have hg : (((w.alloc o1).alloc (.cells #[.int .u8 a, .string b, .int .i64 c] 59)).alloc o3).heap[w.heap.size + 1]? = some (.cells #[.int .u8 a, .string b, .int .i64 c] 59) := by
    rw [heap_alloc_old _ _ (by simp)]
    have e := heap_alloc_new (w.alloc o1) (.cells #[.int .u8 a, .string b, .int .i64 c] 59)
    simpa using e
  obtain ⟨d0, d1, d2, _⟩ := tok_cells hg
  exact ret_rd hr h6 h7 h8 d0 d1 d2 hQ
set_option maxRecDepth 20000 in
set_option maxHeartbeats 4000000 in
theorem marks_any (s : ByteArray) (a : Nat) (w : World) (ha : a < s.size) (hs : s.size ≤ 1000000) : Calls Tryz.prog 189 #[.agg #[], .string s, .int .i64 a] w (RdQ a w (mrkR s a)) := by
  obtain ⟨X, hX⟩ : ∃ X, X = mrkR s a := ⟨_, rfl⟩
  rw [← hX]
  have HX := Lib.hid hX
  have hsi : (s.size : Int) ≤ 1000000 := by omega
  have ha0 : (0 : Int) ≤ a := by omega
  have hai : (a : Int) < s.size := by omega
  have hai2 : (a : Int) + 1 ≤ s.size := by omega
  have HPA := Lib.hid (fun W => Tryz.strings_HasPrefix (s.extract a s.size) ⟨#[46, 46, 46]⟩ W)
  have h3 : Lib.hasPrefix (s.extract a s.size).data.toList (⟨#[46, 46, 46]⟩ : ByteArray).data.toList = decide (byt s a = 46 ∧ byt s (a + 1) = 46 ∧ byt s (a + 2) = 46) := pre3 s a 46 46 46 (by decide)
  rw [h3] at HPA
  have HPB := Lib.hid (fun W => Tryz.strings_HasPrefix (s.extract a s.size) (s.extract a (a + 1)) W)
  rw [pre1 s a ha] at HPB
  have HMA := Lib.hid (fun W => lmark_any ⟨#[46, 46, 46]⟩ W)
  have hm3 : pmB ⟨#[46, 46, 46]⟩ = true := mk_dots (by rw [Lib.toList_data])
  rw [hm3] at HMA
  have HMB := Lib.hid (fun W => lmark_any (s.extract a (a + 1)) W)
  have h1z : ((s.extract a (a + 1)).size : Int) = 1 := by rw [one_size ha]; rfl
  have HB : Hid (∀ o1 o2 o3, Below w.heap.size w (((w.alloc o1).alloc o2).alloc o3)) := Lib.hid (fun o1 o2 o3 => (((Below.refl _ _).alloc (Nat.le_refl _) _).alloc (by simp) _).alloc (by simp; omega) _)
  have HX1 : Hid (X = if byt s a = 46 ∧ byt s (a + 1) = 46 ∧ byt s (a + 2) = 46 then .ok ⟨4, ⟨#[46, 46, 46]⟩, a⟩ (a + 3) else if pmB (s.extract a (a + 1)) = true then .ok ⟨4, s.extract a (a + 1), a⟩ (a + 1) else .no) := HX
  obtain ⟨t, ht⟩ : ∃ t, t = s.extract a (a + 1) := ⟨_, rfl⟩
  rw [← ht] at HPB HMB h1z HX1
  have HT := Lib.hid ht
  clear hX h3 hm3 HX ht
  by_cases hd : byt s a = 46 ∧ byt s (a + 1) = 46 ∧ byt s (a + 2) = 46
  · rw [decide_eq_true hd] at HPA
    have HF : Hid (X = .ok ⟨4, ⟨#[46, 46, 46]⟩, a⟩ (a + 3)) := Lib.hid (by rw [HX1.out, if_pos hd])
    clear hd HX1
    go_enter Tryz.func189, Tryz.ntmps189
    go_wp2_with fail
    refine wp_loop_rounds 1 ?_
    rw [rounds_succ]
    go_wp2_with fail
    refine (HPA.out _).mono ?_
    rintro e w1 ⟨rfl, hw⟩
    obtain rfl := hw.symm
    go_wp2_with fail
    refine (HMA.out _).mono ?_
    rintro e w1 ⟨rfl, hw⟩
    obtain rfl := hw.symm
    go_wp2_with fail
    (try simp only [Exit.inBlock, Exit.then])
    refine rd_end3 Tryz.results189 rfl rfl rfl ?_
    refine ⟨HB.out _ _ _, ?_⟩
    rw [HF.out]
    rfl
  · rw [decide_eq_false hd] at HPA
    rw [if_neg hd] at HX1
    clear hd
    cases hm : pmB t with
    | true =>
      rw [hm] at HMB
      have HF : Hid (X = .ok ⟨4, t, a⟩ (a + 1)) := Lib.hid (by rw [HX1.out, if_pos hm])
      clear hm HX1
      go_enter Tryz.func189, Tryz.ntmps189
      go_wp2_with fail
      rw [← HT.out]
      refine wp_loop_rounds 3 ?_
      rw [rounds_succ]
      go_wp2_with fail
      refine (HPA.out _).mono ?_
      rintro e w1 ⟨rfl, hw⟩
      obtain rfl := hw.symm
      go_wp2_with fail
      rw [rounds_succ]
      go_wp2_with fail
      refine (HPB.out _).mono ?_
      rintro e w1 ⟨rfl, hw⟩
      obtain rfl := hw.symm
      go_wp2_with fail
      refine (HMB.out _).mono ?_
      rintro e w1 ⟨rfl, hw⟩
      obtain rfl := hw.symm
      go_wp2_with fail
      (try simp only [Exit.inBlock, Exit.then])
      refine rd_end3 Tryz.results189 rfl rfl rfl ?_
      refine ⟨HB.out _ _ _, ?_⟩
      rw [HF.out]
      rfl
    | false =>
      rw [hm] at HMB
      have HF : Hid (X = .no) := Lib.hid (by rw [HX1.out, if_neg (by rw [hm]; decide)])
      clear hm HX1
      go_enter Tryz.func189, Tryz.ntmps189
      go_wp2_with fail
      rw [← HT.out]
      refine wp_loop_rounds 3 ?_
      rw [rounds_succ]
      go_wp2_with fail
      refine (HPA.out _).mono ?_
      rintro e w1 ⟨rfl, hw⟩
      obtain rfl := hw.symm
      go_wp2_with fail
      rw [rounds_succ]
      go_wp2_with fail
      refine (HPB.out _).mono ?_
      rintro e w1 ⟨rfl, hw⟩
      obtain rfl := hw.symm
      go_wp2_with fail
      refine (HMB.out _).mono ?_
      rintro e w1 ⟨rfl, hw⟩
      obtain rfl := hw.symm
      go_wp2_with fail
      rw [rounds_succ]
      go_wp2_with fail
      refine rd_end3 Tryz.results189 rfl rfl rfl ?_
      refine ⟨HB.out _ _ _, ?_⟩
      rw [HF.out]
      exact ⟨⟨0, _, 0⟩, a, rfl⟩
end Go.Proofs.YtmkkckhfdafjnaaGreatDoor
/- Layer 17, Lex: token. -/
namespace Go.Proofs.YtmkkckhfdafjnaaGreatDoor
open Go.RowKit Go.Maps
def tk3 (s : ByteArray) (a : Nat) : Option (TkR × Nat) := (mrkR s a).tok none
def tk2 (s : ByteArray) (a : Nat) : Option (TkR × Nat) := (txtR s a).tok (tk3 s a)
def tk1 (s : ByteArray) (a : Nat) : Option (TkR × Nat) := (intR s a).tok (tk2 s a)
theorem tok_0 (s : ByteArray) (a : Nat) : tokM s a = (namR s a).tok (tk1 s a) := rfl
theorem m88 (v : Value) (w : World) : (method 334 135 v "provost/lex.read").run Tryz.prog w = .ok (144, v) w := by kernel_rfl
theorem m89 (v : Value) (w : World) : (method 334 136 v "provost/lex.read").run Tryz.prog w = .ok (145, v) w := by kernel_rfl
theorem m90 (v : Value) (w : World) : (method 334 137 v "provost/lex.read").run Tryz.prog w = .ok (146, v) w := by kernel_rfl
theorem m91 (v : Value) (w : World) : (method 334 138 v "provost/lex.read").run Tryz.prog w = .ok (189, v) w := by kernel_rfl
def rdrs : Array Value := #[.iface 135 (.agg #[]), .iface 136 (.agg #[]), .iface 137 (.agg #[]), .iface 138 (.agg #[])]
set_option maxRecDepth 20000 in
theorem readers_any (w : World) : Calls Tryz.prog 50 #[] w fun e w' => e = .returned (.slice (some ⟨w.heap.size, 0, none⟩) 4 4) ∧ w' = w.alloc (.cells rdrs 111) := by
  go_enter Tryz.func50, Tryz.ntmps50
  go_wp2_with fail
  go_ret
  exact ⟨rfl, rfl⟩
/-- What token ends in. -/
def TkQ (a : Nat) (w : World) (x : Option (TkR × Nat)) (e : Ending) (w' : World) : Prop := Below w.heap.size w w' ∧ match x with
  | none => ∃ t : TkR, e = .returned (.tuple #[.agg #[.int .u8 t.k, .string t.s, .int .i64 t.a], .int .i64 a])
  | some y => e = .returned (.tuple #[.agg #[.int .u8 y.1.k, .string y.1.s, .int .i64 y.1.a], .int .i64 y.2])
/-- Within token: its result's block, and the readers'. -/
structure TkS (w W : World) : Prop where
  b : Below w.heap.size w W
  h0 : W.heap[w.heap.size]? = some (.cells #[.int .u8 0, .string ⟨#[]⟩, .int .i64 0] 59)
  h1 : W.heap[w.heap.size + 1]? = some (.cells rdrs 111)
theorem TkS.up {w W W' : World} (h : TkS w W) (b : Below W.heap.size W W') : TkS w W' :=
  ⟨h.b.trans (b.mono h.b.size), by rw [b.block _ (Array.getElem?_eq_some_iff.1 h.h0).1]; exact h.h0, by rw [b.block _ (Array.getElem?_eq_some_iff.1 h.h1).1]; exact h.h1⟩
theorem TkS.box {w W : World} (h : TkS w W) (o : Obj) : TkS w (W.alloc o) := h.up ((Below.refl _ _).alloc (Nat.le_refl _) _)
theorem ret_tk {fn : Func} (hr : fn.results = #[.cell 4 59, .tmp 5]) {Q : Ending → World → Prop} {tmps : Array Value} {W : World} {N : Nat} {a c n : Int} {b : ByteArray} {x y z : Value} (hg : W.heap[N]? = some (.cells #[x, y, z] 59)) (h4 : tmps.getD 4 undef = .pointer (some ⟨N, 0, none⟩)) (h5 : tmps.getD 5 undef = .int .i64 n)
    (hQ : Q (.returned (.tuple #[.agg #[.int .u8 a, .string b, .int .i64 c], .int .i64 n])) (((W.setCell ⟨N, 0, none⟩ (.int .u8 a)).setCell ⟨N, 1, none⟩ (.string b)).setCell ⟨N, 2, none⟩ (.int .i64 c))) : bodyPost Tryz.prog fn Q .ret ⟨tmps, []⟩ (((W.setCell ⟨N, 0, none⟩ (.int .u8 a)).setCell ⟨N, 1, none⟩ (.string b)).setCell ⟨N, 2, none⟩ (.int .i64 c)) := by
  obtain ⟨d0, d1, d2, _⟩ := tok_cells (set3_heap (p := .int .u8 a) (q := .string b) (r := .int .i64 c) hg)
  refine bodyPost_ret (v := .tuple #[.agg #[.int .u8 a, .string b, .int .i64 c], .int .i64 n]) ?_ rfl hQ
  rw [results_cell_tmp (p := 4) (u := 5) (ty := 59) hr, h4, h5]
  simp [asAddr, Result.andThen, load_tok d0 d1 d2]
theorem tk_below {w W : World} {p q r : Value} (h : Below w.heap.size w W) : Below w.heap.size w (((W.setCell ⟨w.heap.size, 0, none⟩ p).setCell ⟨w.heap.size, 1, none⟩ q).setCell ⟨w.heap.size, 2, none⟩ r) := h.trans (set3_below (Nat.le_refl _))
set_option maxRecDepth 20000 in
set_option maxHeartbeats 0 in
theorem token_any (s : ByteArray) (a : Nat) (w : World) (hc : LxC w) (ha : a < s.size) (hs : s.size ≤ 1000000) : Calls Tryz.prog 31 #[.string s, .int .i64 a] w (TkQ a w (tokM s a)) := by
  obtain ⟨X, hX⟩ : ∃ X, X = tokM s a := ⟨_, rfl⟩
  rw [← hX]
  have HX : Hid (tokM s a = X) := Lib.hid hX.symm
  have HRD := Lib.hid (fun W => readers_any W)
  have H0 := Lib.hid (fun W => names_any s a W ha hs)
  have H1 := Lib.hid (fun W (b : Below w.heap.size w W) => ints_any s a W (hc.up b) ha hs)
  have H2 := Lib.hid (fun W (b : Below w.heap.size w W) => texts_any s a W (hc.up b) ha hs)
  have H3 := Lib.hid (fun W => marks_any s a W ha hs)
  have HS0 : Hid (TkS w ((w.alloc (.cells #[.int .u8 0, .string ⟨#[]⟩, .int .i64 0] 59)).alloc (.cells rdrs 111))) := Lib.hid ⟨((Below.refl _ _).alloc (Nat.le_refl _) _).alloc (by simp) _, by rw [heap_alloc_old _ _ (by simp), heap_alloc_new], by
    have e := heap_alloc_new (w.alloc (.cells #[.int .u8 0, .string ⟨#[]⟩, .int .i64 0] 59)) (.cells rdrs 111)
    simpa using e⟩
  clear hX hc
  go_enter Tryz.func31, Tryz.ntmps31
  go_wp2_with fail
  refine (HRD.out _).mono ?_
  rintro e w1 ⟨rfl, rfl⟩
  have hsz : (w.alloc (.cells #[.int .u8 0, .string ⟨#[]⟩, .int .i64 0] 59)).heap.size = w.heap.size + 1 := by simp
  rw [hsz]
  clear hsz
  go_wp2_with fail
  go_loopg [7, 8, 9, 10, 13] 5 (fun f _ _ _ _ v13 wr => ∃ i : Nat, 5 - i ≤ f ∧ v13 = .int .i64 i ∧ Hid (TkS w wr) ∧ ((i = 0 ∧ Hid (tokM s a = X)) ∨ (i = 1 ∧ Hid (tk1 s a = X)) ∨ (i = 2 ∧ Hid (tk2 s a = X)) ∨ (i = 3 ∧ Hid (tk3 s a = X)) ∨ (i = 4 ∧ Hid (X = none))))
  case atStart => exact ⟨0, by omega, rfl, HS0, .inl ⟨rfl, HX⟩⟩
  case round =>
    obtain ⟨i, hf, rfl, HS, hcase⟩ := hrel
    rcases hcase with ⟨rfl, HE⟩ | ⟨rfl, HE⟩ | ⟨rfl, HE⟩ | ⟨rfl, HE⟩ | ⟨rfl, HE⟩
    · have HR := Lib.hid (H0.out wr)
      have HEE := HE.out
      rw [tok_0] at HEE
      cases hr : namR s a with
      | no =>
        rw [hr] at HR HEE
        have HN : Hid (tk1 s a = X) := Lib.hid HEE
        clear hr HEE
        have cr : wr.cell? ⟨w.heap.size + 1, 0, none⟩ = some (.iface 135 (.agg #[])) := by unfold World.cell?; dsimp only; rw [HS.out.h1]; rfl
        have mt := m88
        go_wp2_with fail
        refine HR.out.mono ?_
        rintro e w2 ⟨b2, ⟨t, n, rfl⟩⟩
        have S2 := Lib.hid ((HS.out.up b2).box (.cells #[.int .u8 t.k, .string t.s, .int .i64 t.a] 59))
        clear b2 cr mt
        go_wp2_with fail
        go_roundg (gk - 1)
        case rel => exact ⟨1, by omega, by go_num, S2, .inr (.inl ⟨rfl, HN⟩)⟩
        case measure => omega
      | bad =>
        rw [hr] at HR HEE
        have HN : Hid (X = none) := Lib.hid HEE.symm
        clear hr HEE
        have cr : wr.cell? ⟨w.heap.size + 1, 0, none⟩ = some (.iface 135 (.agg #[])) := by unfold World.cell?; dsimp only; rw [HS.out.h1]; rfl
        have mt := m88
        go_wp2_with fail
        refine HR.out.mono ?_
        rintro e w2 ⟨b2, ⟨t, rfl⟩⟩
        have S2 := Lib.hid ((HS.out.up b2).box (.cells #[.int .u8 t.k, .string t.s, .int .i64 t.a] 59))
        clear b2 cr mt
        obtain ⟨d0, d1, d2, dz⟩ := tok_cells S2.out.h0
        have dz0 := dz 0
        have dz1 := dz 1
        have dz2 := dz 2
        clear dz
        go_wp2_with fail
        (try simp only [Exit.inBlock, Exit.then])
        refine ret_tk Tryz.results31 S2.out.h0 rfl rfl ?_
        refine ⟨tk_below S2.out.b, ?_⟩
        rw [HN.out]
        exact ⟨t, rfl⟩
      | ok t n =>
        rw [hr] at HR HEE
        have HN : Hid (X = some (t, n)) := Lib.hid HEE.symm
        clear hr HEE
        have cr : wr.cell? ⟨w.heap.size + 1, 0, none⟩ = some (.iface 135 (.agg #[])) := by unfold World.cell?; dsimp only; rw [HS.out.h1]; rfl
        have mt := m88
        go_wp2_with fail
        refine HR.out.mono ?_
        rintro e w2 ⟨b2, rfl⟩
        have S2 := Lib.hid ((HS.out.up b2).box (.cells #[.int .u8 t.k, .string t.s, .int .i64 t.a] 59))
        clear b2 cr mt
        obtain ⟨d0, d1, d2, dz⟩ := tok_cells S2.out.h0
        have dz0 := dz 0
        have dz1 := dz 1
        have dz2 := dz 2
        clear dz
        go_wp2_with fail
        (try simp only [Exit.inBlock, Exit.then])
        refine ret_tk Tryz.results31 S2.out.h0 rfl rfl ?_
        refine ⟨tk_below S2.out.b, ?_⟩
        rw [HN.out]
    · have HR := Lib.hid (H1.out wr HS.out.b)
      have HEE := HE.out
      unfold tk1 at HEE
      cases hr : intR s a with
      | no =>
        rw [hr] at HR HEE
        have HN : Hid (tk2 s a = X) := Lib.hid HEE
        clear hr HEE
        have cr : wr.cell? ⟨w.heap.size + 1, 1, none⟩ = some (.iface 136 (.agg #[])) := by unfold World.cell?; dsimp only; rw [HS.out.h1]; rfl
        have mt := m89
        go_wp2_with fail
        refine HR.out.mono ?_
        rintro e w2 ⟨b2, ⟨t, n, rfl⟩⟩
        have S2 := Lib.hid ((HS.out.up b2).box (.cells #[.int .u8 t.k, .string t.s, .int .i64 t.a] 59))
        clear b2 cr mt
        go_wp2_with fail
        go_roundg (gk - 1)
        case rel => exact ⟨2, by omega, by go_num, S2, .inr (.inr (.inl ⟨rfl, HN⟩))⟩
        case measure => omega
      | bad =>
        rw [hr] at HR HEE
        have HN : Hid (X = none) := Lib.hid HEE.symm
        clear hr HEE
        have cr : wr.cell? ⟨w.heap.size + 1, 1, none⟩ = some (.iface 136 (.agg #[])) := by unfold World.cell?; dsimp only; rw [HS.out.h1]; rfl
        have mt := m89
        go_wp2_with fail
        refine HR.out.mono ?_
        rintro e w2 ⟨b2, ⟨t, rfl⟩⟩
        have S2 := Lib.hid ((HS.out.up b2).box (.cells #[.int .u8 t.k, .string t.s, .int .i64 t.a] 59))
        clear b2 cr mt
        obtain ⟨d0, d1, d2, dz⟩ := tok_cells S2.out.h0
        have dz0 := dz 0
        have dz1 := dz 1
        have dz2 := dz 2
        clear dz
        go_wp2_with fail
        (try simp only [Exit.inBlock, Exit.then])
        refine ret_tk Tryz.results31 S2.out.h0 rfl rfl ?_
        refine ⟨tk_below S2.out.b, ?_⟩
        rw [HN.out]
        exact ⟨t, rfl⟩
      | ok t n =>
        rw [hr] at HR HEE
        have HN : Hid (X = some (t, n)) := Lib.hid HEE.symm
        clear hr HEE
        have cr : wr.cell? ⟨w.heap.size + 1, 1, none⟩ = some (.iface 136 (.agg #[])) := by unfold World.cell?; dsimp only; rw [HS.out.h1]; rfl
        have mt := m89
        go_wp2_with fail
        refine HR.out.mono ?_
        rintro e w2 ⟨b2, rfl⟩
        have S2 := Lib.hid ((HS.out.up b2).box (.cells #[.int .u8 t.k, .string t.s, .int .i64 t.a] 59))
        clear b2 cr mt
        obtain ⟨d0, d1, d2, dz⟩ := tok_cells S2.out.h0
        have dz0 := dz 0
        have dz1 := dz 1
        have dz2 := dz 2
        clear dz
        go_wp2_with fail
        (try simp only [Exit.inBlock, Exit.then])
        refine ret_tk Tryz.results31 S2.out.h0 rfl rfl ?_
        refine ⟨tk_below S2.out.b, ?_⟩
        rw [HN.out]
    · have HR := Lib.hid (H2.out wr HS.out.b)
      have HEE := HE.out
      unfold tk2 at HEE
      cases hr : txtR s a with
      | no =>
        rw [hr] at HR HEE
        have HN : Hid (tk3 s a = X) := Lib.hid HEE
        clear hr HEE
        have cr : wr.cell? ⟨w.heap.size + 1, 2, none⟩ = some (.iface 137 (.agg #[])) := by unfold World.cell?; dsimp only; rw [HS.out.h1]; rfl
        have mt := m90
        go_wp2_with fail
        refine HR.out.mono ?_
        rintro e w2 ⟨b2, ⟨t, n, rfl⟩⟩
        have S2 := Lib.hid ((HS.out.up b2).box (.cells #[.int .u8 t.k, .string t.s, .int .i64 t.a] 59))
        clear b2 cr mt
        go_wp2_with fail
        go_roundg (gk - 1)
        case rel => exact ⟨3, by omega, by go_num, S2, .inr (.inr (.inr (.inl ⟨rfl, HN⟩)))⟩
        case measure => omega
      | bad =>
        rw [hr] at HR HEE
        have HN : Hid (X = none) := Lib.hid HEE.symm
        clear hr HEE
        have cr : wr.cell? ⟨w.heap.size + 1, 2, none⟩ = some (.iface 137 (.agg #[])) := by unfold World.cell?; dsimp only; rw [HS.out.h1]; rfl
        have mt := m90
        go_wp2_with fail
        refine HR.out.mono ?_
        rintro e w2 ⟨b2, ⟨t, rfl⟩⟩
        have S2 := Lib.hid ((HS.out.up b2).box (.cells #[.int .u8 t.k, .string t.s, .int .i64 t.a] 59))
        clear b2 cr mt
        obtain ⟨d0, d1, d2, dz⟩ := tok_cells S2.out.h0
        have dz0 := dz 0
        have dz1 := dz 1
        have dz2 := dz 2
        clear dz
        go_wp2_with fail
        (try simp only [Exit.inBlock, Exit.then])
        refine ret_tk Tryz.results31 S2.out.h0 rfl rfl ?_
        refine ⟨tk_below S2.out.b, ?_⟩
        rw [HN.out]
        exact ⟨t, rfl⟩
      | ok t n =>
        rw [hr] at HR HEE
        have HN : Hid (X = some (t, n)) := Lib.hid HEE.symm
        clear hr HEE
        have cr : wr.cell? ⟨w.heap.size + 1, 2, none⟩ = some (.iface 137 (.agg #[])) := by unfold World.cell?; dsimp only; rw [HS.out.h1]; rfl
        have mt := m90
        go_wp2_with fail
        refine HR.out.mono ?_
        rintro e w2 ⟨b2, rfl⟩
        have S2 := Lib.hid ((HS.out.up b2).box (.cells #[.int .u8 t.k, .string t.s, .int .i64 t.a] 59))
        clear b2 cr mt
        obtain ⟨d0, d1, d2, dz⟩ := tok_cells S2.out.h0
        have dz0 := dz 0
        have dz1 := dz 1
        have dz2 := dz 2
        clear dz
        go_wp2_with fail
        (try simp only [Exit.inBlock, Exit.then])
        refine ret_tk Tryz.results31 S2.out.h0 rfl rfl ?_
        refine ⟨tk_below S2.out.b, ?_⟩
        rw [HN.out]
    · have HR := Lib.hid (H3.out wr)
      have HEE := HE.out
      unfold tk3 at HEE
      cases hr : mrkR s a with
      | no =>
        rw [hr] at HR HEE
        have HN : Hid (none = X) := Lib.hid HEE
        clear hr HEE
        have cr : wr.cell? ⟨w.heap.size + 1, 3, none⟩ = some (.iface 138 (.agg #[])) := by unfold World.cell?; dsimp only; rw [HS.out.h1]; rfl
        have mt := m91
        go_wp2_with fail
        refine HR.out.mono ?_
        rintro e w2 ⟨b2, ⟨t, n, rfl⟩⟩
        have S2 := Lib.hid ((HS.out.up b2).box (.cells #[.int .u8 t.k, .string t.s, .int .i64 t.a] 59))
        clear b2 cr mt
        go_wp2_with fail
        go_roundg (gk - 1)
        case rel => exact ⟨4, by omega, by go_num, S2, .inr (.inr (.inr (.inr ⟨rfl, Lib.hid HN.out.symm⟩)))⟩
        case measure => omega
      | bad =>
        rw [hr] at HR HEE
        have HN : Hid (X = none) := Lib.hid HEE.symm
        clear hr HEE
        have cr : wr.cell? ⟨w.heap.size + 1, 3, none⟩ = some (.iface 138 (.agg #[])) := by unfold World.cell?; dsimp only; rw [HS.out.h1]; rfl
        have mt := m91
        go_wp2_with fail
        refine HR.out.mono ?_
        rintro e w2 ⟨b2, ⟨t, rfl⟩⟩
        have S2 := Lib.hid ((HS.out.up b2).box (.cells #[.int .u8 t.k, .string t.s, .int .i64 t.a] 59))
        clear b2 cr mt
        obtain ⟨d0, d1, d2, dz⟩ := tok_cells S2.out.h0
        have dz0 := dz 0
        have dz1 := dz 1
        have dz2 := dz 2
        clear dz
        go_wp2_with fail
        (try simp only [Exit.inBlock, Exit.then])
        refine ret_tk Tryz.results31 S2.out.h0 rfl rfl ?_
        refine ⟨tk_below S2.out.b, ?_⟩
        rw [HN.out]
        exact ⟨t, rfl⟩
      | ok t n =>
        rw [hr] at HR HEE
        have HN : Hid (X = some (t, n)) := Lib.hid HEE.symm
        clear hr HEE
        have cr : wr.cell? ⟨w.heap.size + 1, 3, none⟩ = some (.iface 138 (.agg #[])) := by unfold World.cell?; dsimp only; rw [HS.out.h1]; rfl
        have mt := m91
        go_wp2_with fail
        refine HR.out.mono ?_
        rintro e w2 ⟨b2, rfl⟩
        have S2 := Lib.hid ((HS.out.up b2).box (.cells #[.int .u8 t.k, .string t.s, .int .i64 t.a] 59))
        clear b2 cr mt
        obtain ⟨d0, d1, d2, dz⟩ := tok_cells S2.out.h0
        have dz0 := dz 0
        have dz1 := dz 1
        have dz2 := dz 2
        clear dz
        go_wp2_with fail
        (try simp only [Exit.inBlock, Exit.then])
        refine ret_tk Tryz.results31 S2.out.h0 rfl rfl ?_
        refine ⟨tk_below S2.out.b, ?_⟩
        rw [HN.out]
    · obtain ⟨d0, d1, d2, dz⟩ := tok_cells HS.out.h0
      have dz0 := dz 0
      have dz1 := dz 1
      have dz2 := dz 2
      clear dz
      go_wp2_with fail
      refine ret_tk Tryz.results31 HS.out.h0 rfl rfl ?_
      refine ⟨tk_below HS.out.b, ?_⟩
      rw [HE.out]
      exact ⟨⟨0, _, 0⟩, rfl⟩
end Go.Proofs.YtmkkckhfdafjnaaGreatDoor
