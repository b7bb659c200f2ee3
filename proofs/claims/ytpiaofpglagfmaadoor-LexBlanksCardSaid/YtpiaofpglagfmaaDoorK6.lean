import Derived.Test.YtpiaofpglagfmaaDoorK5
import Derived.Defers
import Derived.Recover
import Derived.Test.YtpiaofpglagfmaaDoorK2
import Derived.Laws.AppendOwn
import Derived.Below
import Derived.Deep.LoopGhost
import Derived.Deep.RegionLaw
import Derived.Lib.Hide
import Derived.Outline
import Derived.WalkKit
import Derived.WalkLawsBesides
import Derived.WalkSpells
/- Layer 4, Read: a value, the walk. -/
namespace Go.Proofs.YtpiaofpglagfmaaDoor
open Go.RowKit Go.Maps
set_option maxRecDepth 20000 in
set_option maxHeartbeats 8000000 in
theorem value_step {s : ByteArray} {f : Nat} (hV : 1 ≤ f → VC s f) (hs : s.size ≤ 100000) : VC s (f + 1) := by
  intro p i op v L nm w hop h hl hi hL
  rw [valM_eq]
  have HP := Lib.hid (peek_any w h (by omega) (by omega))
  have HBG := Lib.hid (fun W (r : RdB W p s i op v L) => begin_any nm W r (by omega) (by omega) (by omega) hL)
  have HGO := Lib.hid (fun x => begM_ok (s := s) (nm := nm) (op := op) (i := i) (L := L) (x := x))
  have HK1 := Lib.hid (fun (hb : byt s i = 123) (h1 : op ≠ 16) (h2 : L.length < 2048) => kc_obj (p := p) (nm := nm) hV hop h1 h2 hs hb)
  have HK2 := Lib.hid (fun (hb : byt s i = 91) (h1 : op ≠ 16) (h2 : L.length < 2048) => kc_lst (p := p) (nm := nm) hV hop h1 h2 hs hb)
  have HK3 := Lib.hid (fun (hb : byt s i = 34) (h2 : L.length < 2048) => kc_str (p := p) (op := op) (f := f) (nm := nm) h2 hs hi hb)
  have HK4 := Lib.hid (fun (hb : byt s i = 116) => kc_true (p := p) (op := op) (L := L) (f := f) (nm := nm) hs hi hb)
  have HK5 := Lib.hid (fun (hb : byt s i = 102) => kc_false (p := p) (op := op) (L := L) (f := f) (nm := nm) hs hi hb)
  have HK6 := Lib.hid (fun (hb : byt s i = 110) => kc_null (p := p) (op := op) (L := L) (f := f) (nm := nm) hs hi hb)
  have HK7 := Lib.hid (fun (hb : byt s i = 45 ∨ (48 ≤ byt s i ∧ byt s i ≤ 57)) (h2 : L.length < 2048) => kc_num (p := p) (op := op) (f := f) (nm := nm) h2 hs hi hb)
  obtain ⟨R, hR⟩ : ∃ R, R = bodyM s f nm op i L := ⟨_, rfl⟩
  rw [← hR] at HK1 HK2 HK3 HK4 HK5 HK6 HK7 ⊢
  obtain ⟨G, hG⟩ : ∃ G, G = begM s nm op i L := ⟨_, rfl⟩
  rw [← hG] at HBG HGO ⊢
  obtain ⟨b, hb⟩ : ∃ b, b = byt s i := ⟨_, rfl⟩
  rw [← hb] at HP HGO HK1 HK2 HK3 HK4 HK5 HK6 HK7 ⊢
  obtain ⟨Z, hZ⟩ : ∃ Z, Z = if isSt b = false then Rs.bad 40 else G.bind fun _ => R := ⟨_, rfl⟩
  rw [← hZ]
  have HF := Lib.hid h.far
  have HLT := Lib.hid h.lt
  have HL := Lib.hid hl
  have H := Lib.hid h
  have hL0 : L.length ≤ 2048 := hL
  clear hR hG hb hV hop hs hi hL hl h
  by_cases k123 : b = 123
  · subst k123
    have HGX := Lib.hid (fun x (e : G = .ok x) => have h := HGO.out x e; And.intro h.1 (And.intro h.2.1 (fun (e16 : op = 16) => h.2.2 ⟨.inl rfl, e16⟩)))
    have HKX := Lib.hid (HK1.out rfl)
    clear HGO HK1 HK2 HK3 HK4 HK5 HK6 HK7
    have HZ : Hid (Z = G.bind fun _ => R) := Lib.hid (by rw [hZ, if_neg (by decide)])
    clear hZ
    go_enter Tryd.func89, Tryd.ntmps89
    go_wp2_with (go_at_call 92; refine HP.out.mono ?_; rintro e w1 ⟨rfl, d⟩; have R1 := Lib.hid (H.out.dr d); clear d)
    have HB1 := Lib.hid (HBG.out w1 R1.out.1)
    cases G with
    | bad m =>
      have HZ2 : Hid (Z = .bad m) := Lib.hid HZ.out
      have HB2 : Hid (Calls Tryd.prog 98 #[.pointer (some ⟨p, 0, none⟩), .string nm] w1 fun e w' => e = thr m ∧ Below p w1 w') := Lib.hid HB1.out
      refine HB2.out.mono ?_
      rintro e w8 ⟨he, b8⟩
      unfold thr at he
      subst he
      (try go_wp2_with fail)
      rw [HZ2.out]
      simp only [bodyPost]
      exact ⟨trivial, rfl, (R1.out.2.below HF.out (Nat.le_of_lt HLT.out)).trans b8⟩
    | ok x =>
      obtain ⟨rfl, h4, h16⟩ := HGX.out x rfl
      have HZ2 : Hid (Z = R) := Lib.hid HZ.out
      have HC := Lib.hid (HKX.out h16 (by omega))
      have HB2 : Hid (Calls Tryd.prog 98 #[.pointer (some ⟨p, 0, none⟩), .string nm] w1 fun e w' => e = .returned (.tuple #[]) ∧ ∃ v', RdB w' p s i op v' (L ++ [(⟨0, nm, ⟨#[]⟩, 0, 0⟩ : CR)]) ∧ Fr p v v' w1 w') := Lib.hid HB1.out
      clear h16
      refine HB2.out.mono ?_
      rintro e w2 ⟨rfl, v2, r2, f2⟩
      obtain ⟨q, cap, rfl, hpq, _⟩ := r2.addr (by simp)
      have c3 := r2.c3
      have HFR := Lib.hid (R1.out.2.trans f2)
      have HFA := Lib.hid r2.far
      have HPL := Lib.hid r2.lt
      have HC2 := Lib.hid (HC.out w2 q cap hpq r2 (HL.out.fr HFR.out (Nat.le_of_lt HLT.out) HF.out))
      clear r2 f2 HC HB1 HB2 HZ
      go_wp2_with fail
      refine HC2.out.mono ?_
      intro e w3 h3
      cases R with
      | bad m =>
        obtain ⟨he, b3⟩ : e = thr m ∧ Below p w2 w3 := h3
        unfold thr at he
        subst he
        (try go_wp2_with fail)
        rw [HZ2.out]
        simp only [bodyPost]
        exact ⟨trivial, rfl, (HFR.out.below HF.out (Nat.le_of_lt HLT.out)).trans b3⟩
      | ok y =>
        obtain ⟨j, M⟩ := y
        obtain ⟨rfl, v3, r3, f3⟩ : e = .returned (.tuple #[]) ∧ ∃ v', RdB w3 p s j op v' M ∧ Fr p _ v' w2 w3 := h3
        have R3 := Lib.hid (And.intro r3 (HFR.out.trans f3))
        clear r3 f3
        go_wp2_with fail
        go_end0
        rw [HZ2.out]
        exact ⟨rfl, _, R3.out.1, R3.out.2⟩
  by_cases k91 : b = 91
  · subst k91
    have HGX := Lib.hid (fun x (e : G = .ok x) => have h := HGO.out x e; And.intro h.1 (And.intro h.2.1 (fun (e16 : op = 16) => h.2.2 ⟨.inr rfl, e16⟩)))
    have HKX := Lib.hid (HK2.out rfl)
    clear HGO HK1 HK2 HK3 HK4 HK5 HK6 HK7
    have HZ : Hid (Z = G.bind fun _ => R) := Lib.hid (by rw [hZ, if_neg (by decide)])
    clear hZ
    go_enter Tryd.func89, Tryd.ntmps89
    go_wp2_with (go_at_call 92; refine HP.out.mono ?_; rintro e w1 ⟨rfl, d⟩; have R1 := Lib.hid (H.out.dr d); clear d)
    have HB1 := Lib.hid (HBG.out w1 R1.out.1)
    cases G with
    | bad m =>
      have HZ2 : Hid (Z = .bad m) := Lib.hid HZ.out
      have HB2 : Hid (Calls Tryd.prog 98 #[.pointer (some ⟨p, 0, none⟩), .string nm] w1 fun e w' => e = thr m ∧ Below p w1 w') := Lib.hid HB1.out
      refine HB2.out.mono ?_
      rintro e w8 ⟨he, b8⟩
      unfold thr at he
      subst he
      (try go_wp2_with fail)
      rw [HZ2.out]
      simp only [bodyPost]
      exact ⟨trivial, rfl, (R1.out.2.below HF.out (Nat.le_of_lt HLT.out)).trans b8⟩
    | ok x =>
      obtain ⟨rfl, h4, h16⟩ := HGX.out x rfl
      have HZ2 : Hid (Z = R) := Lib.hid HZ.out
      have HC := Lib.hid (HKX.out h16 (by omega))
      have HB2 : Hid (Calls Tryd.prog 98 #[.pointer (some ⟨p, 0, none⟩), .string nm] w1 fun e w' => e = .returned (.tuple #[]) ∧ ∃ v', RdB w' p s i op v' (L ++ [(⟨0, nm, ⟨#[]⟩, 0, 0⟩ : CR)]) ∧ Fr p v v' w1 w') := Lib.hid HB1.out
      clear h16
      refine HB2.out.mono ?_
      rintro e w2 ⟨rfl, v2, r2, f2⟩
      obtain ⟨q, cap, rfl, hpq, _⟩ := r2.addr (by simp)
      have c3 := r2.c3
      have HFR := Lib.hid (R1.out.2.trans f2)
      have HFA := Lib.hid r2.far
      have HPL := Lib.hid r2.lt
      have HC2 := Lib.hid (HC.out w2 q cap hpq r2 (HL.out.fr HFR.out (Nat.le_of_lt HLT.out) HF.out))
      clear r2 f2 HC HB1 HB2 HZ
      go_wp2_with fail
      refine HC2.out.mono ?_
      intro e w3 h3
      cases R with
      | bad m =>
        obtain ⟨he, b3⟩ : e = thr m ∧ Below p w2 w3 := h3
        unfold thr at he
        subst he
        (try go_wp2_with fail)
        rw [HZ2.out]
        simp only [bodyPost]
        exact ⟨trivial, rfl, (HFR.out.below HF.out (Nat.le_of_lt HLT.out)).trans b3⟩
      | ok y =>
        obtain ⟨j, M⟩ := y
        obtain ⟨rfl, v3, r3, f3⟩ : e = .returned (.tuple #[]) ∧ ∃ v', RdB w3 p s j op v' M ∧ Fr p _ v' w2 w3 := h3
        have R3 := Lib.hid (And.intro r3 (HFR.out.trans f3))
        clear r3 f3
        go_wp2_with fail
        go_end0
        rw [HZ2.out]
        exact ⟨rfl, _, R3.out.1, R3.out.2⟩
  by_cases k34 : b = 34
  · subst k34
    have HGX := Lib.hid (fun x (e : G = .ok x) => have h := HGO.out x e; And.intro h.1 (And.intro h.2.1 trivial))
    have HKX := Lib.hid (HK3.out rfl)
    clear HGO HK1 HK2 HK3 HK4 HK5 HK6 HK7
    have HZ : Hid (Z = G.bind fun _ => R) := Lib.hid (by rw [hZ, if_neg (by decide)])
    clear hZ
    go_enter Tryd.func89, Tryd.ntmps89
    go_wp2_with (go_at_call 92; refine HP.out.mono ?_; rintro e w1 ⟨rfl, d⟩; have R1 := Lib.hid (H.out.dr d); clear d)
    have HB1 := Lib.hid (HBG.out w1 R1.out.1)
    cases G with
    | bad m =>
      have HZ2 : Hid (Z = .bad m) := Lib.hid HZ.out
      have HB2 : Hid (Calls Tryd.prog 98 #[.pointer (some ⟨p, 0, none⟩), .string nm] w1 fun e w' => e = thr m ∧ Below p w1 w') := Lib.hid HB1.out
      refine HB2.out.mono ?_
      rintro e w8 ⟨he, b8⟩
      unfold thr at he
      subst he
      (try go_wp2_with fail)
      rw [HZ2.out]
      simp only [bodyPost]
      exact ⟨trivial, rfl, (R1.out.2.below HF.out (Nat.le_of_lt HLT.out)).trans b8⟩
    | ok x =>
      obtain ⟨rfl, h4, h16⟩ := HGX.out x rfl
      have HZ2 : Hid (Z = R) := Lib.hid HZ.out
      have HC := Lib.hid (HKX.out (by omega))
      have HB2 : Hid (Calls Tryd.prog 98 #[.pointer (some ⟨p, 0, none⟩), .string nm] w1 fun e w' => e = .returned (.tuple #[]) ∧ ∃ v', RdB w' p s i op v' (L ++ [(⟨0, nm, ⟨#[]⟩, 0, 0⟩ : CR)]) ∧ Fr p v v' w1 w') := Lib.hid HB1.out
      clear h16
      refine HB2.out.mono ?_
      rintro e w2 ⟨rfl, v2, r2, f2⟩
      obtain ⟨q, cap, rfl, hpq, _⟩ := r2.addr (by simp)
      have c3 := r2.c3
      have HFR := Lib.hid (R1.out.2.trans f2)
      have HFA := Lib.hid r2.far
      have HPL := Lib.hid r2.lt
      have HC2 := Lib.hid (HC.out w2 q cap hpq r2 (HL.out.fr HFR.out (Nat.le_of_lt HLT.out) HF.out))
      clear r2 f2 HC HB1 HB2 HZ
      go_wp2_with fail
      refine HC2.out.mono ?_
      intro e w3 h3
      cases R with
      | bad m =>
        obtain ⟨he, b3⟩ : e = thr m ∧ Below p w2 w3 := h3
        unfold thr at he
        subst he
        (try go_wp2_with fail)
        rw [HZ2.out]
        simp only [bodyPost]
        exact ⟨trivial, rfl, (HFR.out.below HF.out (Nat.le_of_lt HLT.out)).trans b3⟩
      | ok y =>
        obtain ⟨j, M⟩ := y
        obtain ⟨rfl, v3, r3, f3⟩ : e = .returned (.tuple #[]) ∧ ∃ v', RdB w3 p s j op v' M ∧ Fr p _ v' w2 w3 := h3
        have R3 := Lib.hid (And.intro r3 (HFR.out.trans f3))
        clear r3 f3
        go_wp2_with fail
        go_end0
        rw [HZ2.out]
        exact ⟨rfl, _, R3.out.1, R3.out.2⟩
  by_cases k116 : b = 116
  · subst k116
    have HGX := Lib.hid (fun x (e : G = .ok x) => have h := HGO.out x e; And.intro h.1 (And.intro h.2.1 trivial))
    have HKX := Lib.hid (HK4.out rfl)
    clear HGO HK1 HK2 HK3 HK4 HK5 HK6 HK7
    have HZ : Hid (Z = G.bind fun _ => R) := Lib.hid (by rw [hZ, if_neg (by decide)])
    clear hZ
    go_enter Tryd.func89, Tryd.ntmps89
    go_wp2_with (go_at_call 92; refine HP.out.mono ?_; rintro e w1 ⟨rfl, d⟩; have R1 := Lib.hid (H.out.dr d); clear d)
    have HB1 := Lib.hid (HBG.out w1 R1.out.1)
    cases G with
    | bad m =>
      have HZ2 : Hid (Z = .bad m) := Lib.hid HZ.out
      have HB2 : Hid (Calls Tryd.prog 98 #[.pointer (some ⟨p, 0, none⟩), .string nm] w1 fun e w' => e = thr m ∧ Below p w1 w') := Lib.hid HB1.out
      refine HB2.out.mono ?_
      rintro e w8 ⟨he, b8⟩
      unfold thr at he
      subst he
      (try go_wp2_with fail)
      rw [HZ2.out]
      simp only [bodyPost]
      exact ⟨trivial, rfl, (R1.out.2.below HF.out (Nat.le_of_lt HLT.out)).trans b8⟩
    | ok x =>
      obtain ⟨rfl, h4, h16⟩ := HGX.out x rfl
      have HZ2 : Hid (Z = R) := Lib.hid HZ.out
      have HC := Lib.hid (HKX.out )
      have HB2 : Hid (Calls Tryd.prog 98 #[.pointer (some ⟨p, 0, none⟩), .string nm] w1 fun e w' => e = .returned (.tuple #[]) ∧ ∃ v', RdB w' p s i op v' (L ++ [(⟨0, nm, ⟨#[]⟩, 0, 0⟩ : CR)]) ∧ Fr p v v' w1 w') := Lib.hid HB1.out
      clear h16
      refine HB2.out.mono ?_
      rintro e w2 ⟨rfl, v2, r2, f2⟩
      obtain ⟨q, cap, rfl, hpq, _⟩ := r2.addr (by simp)
      have c3 := r2.c3
      have HFR := Lib.hid (R1.out.2.trans f2)
      have HFA := Lib.hid r2.far
      have HPL := Lib.hid r2.lt
      have HC2 := Lib.hid (HC.out w2 q cap hpq r2 (HL.out.fr HFR.out (Nat.le_of_lt HLT.out) HF.out))
      clear r2 f2 HC HB1 HB2 HZ
      go_wp2_with fail
      refine HC2.out.mono ?_
      intro e w3 h3
      cases R with
      | bad m =>
        obtain ⟨he, b3⟩ : e = thr m ∧ Below p w2 w3 := h3
        unfold thr at he
        subst he
        (try go_wp2_with fail)
        rw [HZ2.out]
        simp only [bodyPost]
        exact ⟨trivial, rfl, (HFR.out.below HF.out (Nat.le_of_lt HLT.out)).trans b3⟩
      | ok y =>
        obtain ⟨j, M⟩ := y
        obtain ⟨rfl, v3, r3, f3⟩ : e = .returned (.tuple #[]) ∧ ∃ v', RdB w3 p s j op v' M ∧ Fr p _ v' w2 w3 := h3
        have R3 := Lib.hid (And.intro r3 (HFR.out.trans f3))
        clear r3 f3
        go_wp2_with fail
        go_end0
        rw [HZ2.out]
        exact ⟨rfl, _, R3.out.1, R3.out.2⟩
  by_cases k102 : b = 102
  · subst k102
    have HGX := Lib.hid (fun x (e : G = .ok x) => have h := HGO.out x e; And.intro h.1 (And.intro h.2.1 trivial))
    have HKX := Lib.hid (HK5.out rfl)
    clear HGO HK1 HK2 HK3 HK4 HK5 HK6 HK7
    have HZ : Hid (Z = G.bind fun _ => R) := Lib.hid (by rw [hZ, if_neg (by decide)])
    clear hZ
    go_enter Tryd.func89, Tryd.ntmps89
    go_wp2_with (go_at_call 92; refine HP.out.mono ?_; rintro e w1 ⟨rfl, d⟩; have R1 := Lib.hid (H.out.dr d); clear d)
    have HB1 := Lib.hid (HBG.out w1 R1.out.1)
    cases G with
    | bad m =>
      have HZ2 : Hid (Z = .bad m) := Lib.hid HZ.out
      have HB2 : Hid (Calls Tryd.prog 98 #[.pointer (some ⟨p, 0, none⟩), .string nm] w1 fun e w' => e = thr m ∧ Below p w1 w') := Lib.hid HB1.out
      refine HB2.out.mono ?_
      rintro e w8 ⟨he, b8⟩
      unfold thr at he
      subst he
      (try go_wp2_with fail)
      rw [HZ2.out]
      simp only [bodyPost]
      exact ⟨trivial, rfl, (R1.out.2.below HF.out (Nat.le_of_lt HLT.out)).trans b8⟩
    | ok x =>
      obtain ⟨rfl, h4, h16⟩ := HGX.out x rfl
      have HZ2 : Hid (Z = R) := Lib.hid HZ.out
      have HC := Lib.hid (HKX.out )
      have HB2 : Hid (Calls Tryd.prog 98 #[.pointer (some ⟨p, 0, none⟩), .string nm] w1 fun e w' => e = .returned (.tuple #[]) ∧ ∃ v', RdB w' p s i op v' (L ++ [(⟨0, nm, ⟨#[]⟩, 0, 0⟩ : CR)]) ∧ Fr p v v' w1 w') := Lib.hid HB1.out
      clear h16
      refine HB2.out.mono ?_
      rintro e w2 ⟨rfl, v2, r2, f2⟩
      obtain ⟨q, cap, rfl, hpq, _⟩ := r2.addr (by simp)
      have c3 := r2.c3
      have HFR := Lib.hid (R1.out.2.trans f2)
      have HFA := Lib.hid r2.far
      have HPL := Lib.hid r2.lt
      have HC2 := Lib.hid (HC.out w2 q cap hpq r2 (HL.out.fr HFR.out (Nat.le_of_lt HLT.out) HF.out))
      clear r2 f2 HC HB1 HB2 HZ
      go_wp2_with fail
      refine HC2.out.mono ?_
      intro e w3 h3
      cases R with
      | bad m =>
        obtain ⟨he, b3⟩ : e = thr m ∧ Below p w2 w3 := h3
        unfold thr at he
        subst he
        (try go_wp2_with fail)
        rw [HZ2.out]
        simp only [bodyPost]
        exact ⟨trivial, rfl, (HFR.out.below HF.out (Nat.le_of_lt HLT.out)).trans b3⟩
      | ok y =>
        obtain ⟨j, M⟩ := y
        obtain ⟨rfl, v3, r3, f3⟩ : e = .returned (.tuple #[]) ∧ ∃ v', RdB w3 p s j op v' M ∧ Fr p _ v' w2 w3 := h3
        have R3 := Lib.hid (And.intro r3 (HFR.out.trans f3))
        clear r3 f3
        go_wp2_with fail
        go_end0
        rw [HZ2.out]
        exact ⟨rfl, _, R3.out.1, R3.out.2⟩
  by_cases k110 : b = 110
  · subst k110
    have HGX := Lib.hid (fun x (e : G = .ok x) => have h := HGO.out x e; And.intro h.1 (And.intro h.2.1 trivial))
    have HKX := Lib.hid (HK6.out rfl)
    clear HGO HK1 HK2 HK3 HK4 HK5 HK6 HK7
    have HZ : Hid (Z = G.bind fun _ => R) := Lib.hid (by rw [hZ, if_neg (by decide)])
    clear hZ
    go_enter Tryd.func89, Tryd.ntmps89
    go_wp2_with (go_at_call 92; refine HP.out.mono ?_; rintro e w1 ⟨rfl, d⟩; have R1 := Lib.hid (H.out.dr d); clear d)
    have HB1 := Lib.hid (HBG.out w1 R1.out.1)
    cases G with
    | bad m =>
      have HZ2 : Hid (Z = .bad m) := Lib.hid HZ.out
      have HB2 : Hid (Calls Tryd.prog 98 #[.pointer (some ⟨p, 0, none⟩), .string nm] w1 fun e w' => e = thr m ∧ Below p w1 w') := Lib.hid HB1.out
      refine HB2.out.mono ?_
      rintro e w8 ⟨he, b8⟩
      unfold thr at he
      subst he
      (try go_wp2_with fail)
      rw [HZ2.out]
      simp only [bodyPost]
      exact ⟨trivial, rfl, (R1.out.2.below HF.out (Nat.le_of_lt HLT.out)).trans b8⟩
    | ok x =>
      obtain ⟨rfl, h4, h16⟩ := HGX.out x rfl
      have HZ2 : Hid (Z = R) := Lib.hid HZ.out
      have HC := Lib.hid (HKX.out )
      have HB2 : Hid (Calls Tryd.prog 98 #[.pointer (some ⟨p, 0, none⟩), .string nm] w1 fun e w' => e = .returned (.tuple #[]) ∧ ∃ v', RdB w' p s i op v' (L ++ [(⟨0, nm, ⟨#[]⟩, 0, 0⟩ : CR)]) ∧ Fr p v v' w1 w') := Lib.hid HB1.out
      clear h16
      refine HB2.out.mono ?_
      rintro e w2 ⟨rfl, v2, r2, f2⟩
      obtain ⟨q, cap, rfl, hpq, _⟩ := r2.addr (by simp)
      have c3 := r2.c3
      have HFR := Lib.hid (R1.out.2.trans f2)
      have HFA := Lib.hid r2.far
      have HPL := Lib.hid r2.lt
      have HC2 := Lib.hid (HC.out w2 q cap hpq r2 (HL.out.fr HFR.out (Nat.le_of_lt HLT.out) HF.out))
      clear r2 f2 HC HB1 HB2 HZ
      go_wp2_with fail
      refine HC2.out.mono ?_
      intro e w3 h3
      cases R with
      | bad m =>
        obtain ⟨he, b3⟩ : e = thr m ∧ Below p w2 w3 := h3
        unfold thr at he
        subst he
        (try go_wp2_with fail)
        rw [HZ2.out]
        simp only [bodyPost]
        exact ⟨trivial, rfl, (HFR.out.below HF.out (Nat.le_of_lt HLT.out)).trans b3⟩
      | ok y =>
        obtain ⟨j, M⟩ := y
        obtain ⟨rfl, v3, r3, f3⟩ : e = .returned (.tuple #[]) ∧ ∃ v', RdB w3 p s j op v' M ∧ Fr p _ v' w2 w3 := h3
        have R3 := Lib.hid (And.intro r3 (HFR.out.trans f3))
        clear r3 f3
        go_wp2_with fail
        go_end0
        rw [HZ2.out]
        exact ⟨rfl, _, R3.out.1, R3.out.2⟩
  by_cases k45 : b = 45
  · subst k45
    have HGX := Lib.hid (fun x (e : G = .ok x) => have h := HGO.out x e; And.intro h.1 (And.intro h.2.1 trivial))
    have HKX := Lib.hid (HK7.out (.inl rfl))
    clear HGO HK1 HK2 HK3 HK4 HK5 HK6 HK7
    have HZ : Hid (Z = G.bind fun _ => R) := Lib.hid (by rw [hZ, if_neg (by decide)])
    clear hZ
    go_enter Tryd.func89, Tryd.ntmps89
    go_wp2_with (go_at_call 92; refine HP.out.mono ?_; rintro e w1 ⟨rfl, d⟩; have R1 := Lib.hid (H.out.dr d); clear d)
    have HB1 := Lib.hid (HBG.out w1 R1.out.1)
    cases G with
    | bad m =>
      have HZ2 : Hid (Z = .bad m) := Lib.hid HZ.out
      have HB2 : Hid (Calls Tryd.prog 98 #[.pointer (some ⟨p, 0, none⟩), .string nm] w1 fun e w' => e = thr m ∧ Below p w1 w') := Lib.hid HB1.out
      refine HB2.out.mono ?_
      rintro e w8 ⟨he, b8⟩
      unfold thr at he
      subst he
      (try go_wp2_with fail)
      rw [HZ2.out]
      simp only [bodyPost]
      exact ⟨trivial, rfl, (R1.out.2.below HF.out (Nat.le_of_lt HLT.out)).trans b8⟩
    | ok x =>
      obtain ⟨rfl, h4, h16⟩ := HGX.out x rfl
      have HZ2 : Hid (Z = R) := Lib.hid HZ.out
      have HC := Lib.hid (HKX.out (by omega))
      have HB2 : Hid (Calls Tryd.prog 98 #[.pointer (some ⟨p, 0, none⟩), .string nm] w1 fun e w' => e = .returned (.tuple #[]) ∧ ∃ v', RdB w' p s i op v' (L ++ [(⟨0, nm, ⟨#[]⟩, 0, 0⟩ : CR)]) ∧ Fr p v v' w1 w') := Lib.hid HB1.out
      clear h16
      refine HB2.out.mono ?_
      rintro e w2 ⟨rfl, v2, r2, f2⟩
      obtain ⟨q, cap, rfl, hpq, _⟩ := r2.addr (by simp)
      have c3 := r2.c3
      have HFR := Lib.hid (R1.out.2.trans f2)
      have HFA := Lib.hid r2.far
      have HPL := Lib.hid r2.lt
      have HC2 := Lib.hid (HC.out w2 q cap hpq r2 (HL.out.fr HFR.out (Nat.le_of_lt HLT.out) HF.out))
      clear r2 f2 HC HB1 HB2 HZ
      go_wp2_with fail
      refine HC2.out.mono ?_
      intro e w3 h3
      cases R with
      | bad m =>
        obtain ⟨he, b3⟩ : e = thr m ∧ Below p w2 w3 := h3
        unfold thr at he
        subst he
        (try go_wp2_with fail)
        rw [HZ2.out]
        simp only [bodyPost]
        exact ⟨trivial, rfl, (HFR.out.below HF.out (Nat.le_of_lt HLT.out)).trans b3⟩
      | ok y =>
        obtain ⟨j, M⟩ := y
        obtain ⟨rfl, v3, r3, f3⟩ : e = .returned (.tuple #[]) ∧ ∃ v', RdB w3 p s j op v' M ∧ Fr p _ v' w2 w3 := h3
        have R3 := Lib.hid (And.intro r3 (HFR.out.trans f3))
        clear r3 f3
        go_wp2_with fail
        go_end0
        rw [HZ2.out]
        exact ⟨rfl, _, R3.out.1, R3.out.2⟩
  by_cases k48 : b = 48
  · subst k48
    have HGX := Lib.hid (fun x (e : G = .ok x) => have h := HGO.out x e; And.intro h.1 (And.intro h.2.1 trivial))
    have HKX := Lib.hid (HK7.out (.inr (by decide)))
    clear HGO HK1 HK2 HK3 HK4 HK5 HK6 HK7
    have HZ : Hid (Z = G.bind fun _ => R) := Lib.hid (by rw [hZ, if_neg (by decide)])
    clear hZ
    go_enter Tryd.func89, Tryd.ntmps89
    go_wp2_with (go_at_call 92; refine HP.out.mono ?_; rintro e w1 ⟨rfl, d⟩; have R1 := Lib.hid (H.out.dr d); clear d)
    have HB1 := Lib.hid (HBG.out w1 R1.out.1)
    cases G with
    | bad m =>
      have HZ2 : Hid (Z = .bad m) := Lib.hid HZ.out
      have HB2 : Hid (Calls Tryd.prog 98 #[.pointer (some ⟨p, 0, none⟩), .string nm] w1 fun e w' => e = thr m ∧ Below p w1 w') := Lib.hid HB1.out
      refine HB2.out.mono ?_
      rintro e w8 ⟨he, b8⟩
      unfold thr at he
      subst he
      (try go_wp2_with fail)
      rw [HZ2.out]
      simp only [bodyPost]
      exact ⟨trivial, rfl, (R1.out.2.below HF.out (Nat.le_of_lt HLT.out)).trans b8⟩
    | ok x =>
      obtain ⟨rfl, h4, h16⟩ := HGX.out x rfl
      have HZ2 : Hid (Z = R) := Lib.hid HZ.out
      have HC := Lib.hid (HKX.out (by omega))
      have HB2 : Hid (Calls Tryd.prog 98 #[.pointer (some ⟨p, 0, none⟩), .string nm] w1 fun e w' => e = .returned (.tuple #[]) ∧ ∃ v', RdB w' p s i op v' (L ++ [(⟨0, nm, ⟨#[]⟩, 0, 0⟩ : CR)]) ∧ Fr p v v' w1 w') := Lib.hid HB1.out
      clear h16
      refine HB2.out.mono ?_
      rintro e w2 ⟨rfl, v2, r2, f2⟩
      obtain ⟨q, cap, rfl, hpq, _⟩ := r2.addr (by simp)
      have c3 := r2.c3
      have HFR := Lib.hid (R1.out.2.trans f2)
      have HFA := Lib.hid r2.far
      have HPL := Lib.hid r2.lt
      have HC2 := Lib.hid (HC.out w2 q cap hpq r2 (HL.out.fr HFR.out (Nat.le_of_lt HLT.out) HF.out))
      clear r2 f2 HC HB1 HB2 HZ
      go_wp2_with fail
      refine HC2.out.mono ?_
      intro e w3 h3
      cases R with
      | bad m =>
        obtain ⟨he, b3⟩ : e = thr m ∧ Below p w2 w3 := h3
        unfold thr at he
        subst he
        (try go_wp2_with fail)
        rw [HZ2.out]
        simp only [bodyPost]
        exact ⟨trivial, rfl, (HFR.out.below HF.out (Nat.le_of_lt HLT.out)).trans b3⟩
      | ok y =>
        obtain ⟨j, M⟩ := y
        obtain ⟨rfl, v3, r3, f3⟩ : e = .returned (.tuple #[]) ∧ ∃ v', RdB w3 p s j op v' M ∧ Fr p _ v' w2 w3 := h3
        have R3 := Lib.hid (And.intro r3 (HFR.out.trans f3))
        clear r3 f3
        go_wp2_with fail
        go_end0
        rw [HZ2.out]
        exact ⟨rfl, _, R3.out.1, R3.out.2⟩
  by_cases k49 : b = 49
  · subst k49
    have HGX := Lib.hid (fun x (e : G = .ok x) => have h := HGO.out x e; And.intro h.1 (And.intro h.2.1 trivial))
    have HKX := Lib.hid (HK7.out (.inr (by decide)))
    clear HGO HK1 HK2 HK3 HK4 HK5 HK6 HK7
    have HZ : Hid (Z = G.bind fun _ => R) := Lib.hid (by rw [hZ, if_neg (by decide)])
    clear hZ
    go_enter Tryd.func89, Tryd.ntmps89
    go_wp2_with (go_at_call 92; refine HP.out.mono ?_; rintro e w1 ⟨rfl, d⟩; have R1 := Lib.hid (H.out.dr d); clear d)
    have HB1 := Lib.hid (HBG.out w1 R1.out.1)
    cases G with
    | bad m =>
      have HZ2 : Hid (Z = .bad m) := Lib.hid HZ.out
      have HB2 : Hid (Calls Tryd.prog 98 #[.pointer (some ⟨p, 0, none⟩), .string nm] w1 fun e w' => e = thr m ∧ Below p w1 w') := Lib.hid HB1.out
      refine HB2.out.mono ?_
      rintro e w8 ⟨he, b8⟩
      unfold thr at he
      subst he
      (try go_wp2_with fail)
      rw [HZ2.out]
      simp only [bodyPost]
      exact ⟨trivial, rfl, (R1.out.2.below HF.out (Nat.le_of_lt HLT.out)).trans b8⟩
    | ok x =>
      obtain ⟨rfl, h4, h16⟩ := HGX.out x rfl
      have HZ2 : Hid (Z = R) := Lib.hid HZ.out
      have HC := Lib.hid (HKX.out (by omega))
      have HB2 : Hid (Calls Tryd.prog 98 #[.pointer (some ⟨p, 0, none⟩), .string nm] w1 fun e w' => e = .returned (.tuple #[]) ∧ ∃ v', RdB w' p s i op v' (L ++ [(⟨0, nm, ⟨#[]⟩, 0, 0⟩ : CR)]) ∧ Fr p v v' w1 w') := Lib.hid HB1.out
      clear h16
      refine HB2.out.mono ?_
      rintro e w2 ⟨rfl, v2, r2, f2⟩
      obtain ⟨q, cap, rfl, hpq, _⟩ := r2.addr (by simp)
      have c3 := r2.c3
      have HFR := Lib.hid (R1.out.2.trans f2)
      have HFA := Lib.hid r2.far
      have HPL := Lib.hid r2.lt
      have HC2 := Lib.hid (HC.out w2 q cap hpq r2 (HL.out.fr HFR.out (Nat.le_of_lt HLT.out) HF.out))
      clear r2 f2 HC HB1 HB2 HZ
      go_wp2_with fail
      refine HC2.out.mono ?_
      intro e w3 h3
      cases R with
      | bad m =>
        obtain ⟨he, b3⟩ : e = thr m ∧ Below p w2 w3 := h3
        unfold thr at he
        subst he
        (try go_wp2_with fail)
        rw [HZ2.out]
        simp only [bodyPost]
        exact ⟨trivial, rfl, (HFR.out.below HF.out (Nat.le_of_lt HLT.out)).trans b3⟩
      | ok y =>
        obtain ⟨j, M⟩ := y
        obtain ⟨rfl, v3, r3, f3⟩ : e = .returned (.tuple #[]) ∧ ∃ v', RdB w3 p s j op v' M ∧ Fr p _ v' w2 w3 := h3
        have R3 := Lib.hid (And.intro r3 (HFR.out.trans f3))
        clear r3 f3
        go_wp2_with fail
        go_end0
        rw [HZ2.out]
        exact ⟨rfl, _, R3.out.1, R3.out.2⟩
  by_cases k50 : b = 50
  · subst k50
    have HGX := Lib.hid (fun x (e : G = .ok x) => have h := HGO.out x e; And.intro h.1 (And.intro h.2.1 trivial))
    have HKX := Lib.hid (HK7.out (.inr (by decide)))
    clear HGO HK1 HK2 HK3 HK4 HK5 HK6 HK7
    have HZ : Hid (Z = G.bind fun _ => R) := Lib.hid (by rw [hZ, if_neg (by decide)])
    clear hZ
    go_enter Tryd.func89, Tryd.ntmps89
    go_wp2_with (go_at_call 92; refine HP.out.mono ?_; rintro e w1 ⟨rfl, d⟩; have R1 := Lib.hid (H.out.dr d); clear d)
    have HB1 := Lib.hid (HBG.out w1 R1.out.1)
    cases G with
    | bad m =>
      have HZ2 : Hid (Z = .bad m) := Lib.hid HZ.out
      have HB2 : Hid (Calls Tryd.prog 98 #[.pointer (some ⟨p, 0, none⟩), .string nm] w1 fun e w' => e = thr m ∧ Below p w1 w') := Lib.hid HB1.out
      refine HB2.out.mono ?_
      rintro e w8 ⟨he, b8⟩
      unfold thr at he
      subst he
      (try go_wp2_with fail)
      rw [HZ2.out]
      simp only [bodyPost]
      exact ⟨trivial, rfl, (R1.out.2.below HF.out (Nat.le_of_lt HLT.out)).trans b8⟩
    | ok x =>
      obtain ⟨rfl, h4, h16⟩ := HGX.out x rfl
      have HZ2 : Hid (Z = R) := Lib.hid HZ.out
      have HC := Lib.hid (HKX.out (by omega))
      have HB2 : Hid (Calls Tryd.prog 98 #[.pointer (some ⟨p, 0, none⟩), .string nm] w1 fun e w' => e = .returned (.tuple #[]) ∧ ∃ v', RdB w' p s i op v' (L ++ [(⟨0, nm, ⟨#[]⟩, 0, 0⟩ : CR)]) ∧ Fr p v v' w1 w') := Lib.hid HB1.out
      clear h16
      refine HB2.out.mono ?_
      rintro e w2 ⟨rfl, v2, r2, f2⟩
      obtain ⟨q, cap, rfl, hpq, _⟩ := r2.addr (by simp)
      have c3 := r2.c3
      have HFR := Lib.hid (R1.out.2.trans f2)
      have HFA := Lib.hid r2.far
      have HPL := Lib.hid r2.lt
      have HC2 := Lib.hid (HC.out w2 q cap hpq r2 (HL.out.fr HFR.out (Nat.le_of_lt HLT.out) HF.out))
      clear r2 f2 HC HB1 HB2 HZ
      go_wp2_with fail
      refine HC2.out.mono ?_
      intro e w3 h3
      cases R with
      | bad m =>
        obtain ⟨he, b3⟩ : e = thr m ∧ Below p w2 w3 := h3
        unfold thr at he
        subst he
        (try go_wp2_with fail)
        rw [HZ2.out]
        simp only [bodyPost]
        exact ⟨trivial, rfl, (HFR.out.below HF.out (Nat.le_of_lt HLT.out)).trans b3⟩
      | ok y =>
        obtain ⟨j, M⟩ := y
        obtain ⟨rfl, v3, r3, f3⟩ : e = .returned (.tuple #[]) ∧ ∃ v', RdB w3 p s j op v' M ∧ Fr p _ v' w2 w3 := h3
        have R3 := Lib.hid (And.intro r3 (HFR.out.trans f3))
        clear r3 f3
        go_wp2_with fail
        go_end0
        rw [HZ2.out]
        exact ⟨rfl, _, R3.out.1, R3.out.2⟩
  by_cases k51 : b = 51
  · subst k51
    have HGX := Lib.hid (fun x (e : G = .ok x) => have h := HGO.out x e; And.intro h.1 (And.intro h.2.1 trivial))
    have HKX := Lib.hid (HK7.out (.inr (by decide)))
    clear HGO HK1 HK2 HK3 HK4 HK5 HK6 HK7
    have HZ : Hid (Z = G.bind fun _ => R) := Lib.hid (by rw [hZ, if_neg (by decide)])
    clear hZ
    go_enter Tryd.func89, Tryd.ntmps89
    go_wp2_with (go_at_call 92; refine HP.out.mono ?_; rintro e w1 ⟨rfl, d⟩; have R1 := Lib.hid (H.out.dr d); clear d)
    have HB1 := Lib.hid (HBG.out w1 R1.out.1)
    cases G with
    | bad m =>
      have HZ2 : Hid (Z = .bad m) := Lib.hid HZ.out
      have HB2 : Hid (Calls Tryd.prog 98 #[.pointer (some ⟨p, 0, none⟩), .string nm] w1 fun e w' => e = thr m ∧ Below p w1 w') := Lib.hid HB1.out
      refine HB2.out.mono ?_
      rintro e w8 ⟨he, b8⟩
      unfold thr at he
      subst he
      (try go_wp2_with fail)
      rw [HZ2.out]
      simp only [bodyPost]
      exact ⟨trivial, rfl, (R1.out.2.below HF.out (Nat.le_of_lt HLT.out)).trans b8⟩
    | ok x =>
      obtain ⟨rfl, h4, h16⟩ := HGX.out x rfl
      have HZ2 : Hid (Z = R) := Lib.hid HZ.out
      have HC := Lib.hid (HKX.out (by omega))
      have HB2 : Hid (Calls Tryd.prog 98 #[.pointer (some ⟨p, 0, none⟩), .string nm] w1 fun e w' => e = .returned (.tuple #[]) ∧ ∃ v', RdB w' p s i op v' (L ++ [(⟨0, nm, ⟨#[]⟩, 0, 0⟩ : CR)]) ∧ Fr p v v' w1 w') := Lib.hid HB1.out
      clear h16
      refine HB2.out.mono ?_
      rintro e w2 ⟨rfl, v2, r2, f2⟩
      obtain ⟨q, cap, rfl, hpq, _⟩ := r2.addr (by simp)
      have c3 := r2.c3
      have HFR := Lib.hid (R1.out.2.trans f2)
      have HFA := Lib.hid r2.far
      have HPL := Lib.hid r2.lt
      have HC2 := Lib.hid (HC.out w2 q cap hpq r2 (HL.out.fr HFR.out (Nat.le_of_lt HLT.out) HF.out))
      clear r2 f2 HC HB1 HB2 HZ
      go_wp2_with fail
      refine HC2.out.mono ?_
      intro e w3 h3
      cases R with
      | bad m =>
        obtain ⟨he, b3⟩ : e = thr m ∧ Below p w2 w3 := h3
        unfold thr at he
        subst he
        (try go_wp2_with fail)
        rw [HZ2.out]
        simp only [bodyPost]
        exact ⟨trivial, rfl, (HFR.out.below HF.out (Nat.le_of_lt HLT.out)).trans b3⟩
      | ok y =>
        obtain ⟨j, M⟩ := y
        obtain ⟨rfl, v3, r3, f3⟩ : e = .returned (.tuple #[]) ∧ ∃ v', RdB w3 p s j op v' M ∧ Fr p _ v' w2 w3 := h3
        have R3 := Lib.hid (And.intro r3 (HFR.out.trans f3))
        clear r3 f3
        go_wp2_with fail
        go_end0
        rw [HZ2.out]
        exact ⟨rfl, _, R3.out.1, R3.out.2⟩
  by_cases k52 : b = 52
  · subst k52
    have HGX := Lib.hid (fun x (e : G = .ok x) => have h := HGO.out x e; And.intro h.1 (And.intro h.2.1 trivial))
    have HKX := Lib.hid (HK7.out (.inr (by decide)))
    clear HGO HK1 HK2 HK3 HK4 HK5 HK6 HK7
    have HZ : Hid (Z = G.bind fun _ => R) := Lib.hid (by rw [hZ, if_neg (by decide)])
    clear hZ
    go_enter Tryd.func89, Tryd.ntmps89
    go_wp2_with (go_at_call 92; refine HP.out.mono ?_; rintro e w1 ⟨rfl, d⟩; have R1 := Lib.hid (H.out.dr d); clear d)
    have HB1 := Lib.hid (HBG.out w1 R1.out.1)
    cases G with
    | bad m =>
      have HZ2 : Hid (Z = .bad m) := Lib.hid HZ.out
      have HB2 : Hid (Calls Tryd.prog 98 #[.pointer (some ⟨p, 0, none⟩), .string nm] w1 fun e w' => e = thr m ∧ Below p w1 w') := Lib.hid HB1.out
      refine HB2.out.mono ?_
      rintro e w8 ⟨he, b8⟩
      unfold thr at he
      subst he
      (try go_wp2_with fail)
      rw [HZ2.out]
      simp only [bodyPost]
      exact ⟨trivial, rfl, (R1.out.2.below HF.out (Nat.le_of_lt HLT.out)).trans b8⟩
    | ok x =>
      obtain ⟨rfl, h4, h16⟩ := HGX.out x rfl
      have HZ2 : Hid (Z = R) := Lib.hid HZ.out
      have HC := Lib.hid (HKX.out (by omega))
      have HB2 : Hid (Calls Tryd.prog 98 #[.pointer (some ⟨p, 0, none⟩), .string nm] w1 fun e w' => e = .returned (.tuple #[]) ∧ ∃ v', RdB w' p s i op v' (L ++ [(⟨0, nm, ⟨#[]⟩, 0, 0⟩ : CR)]) ∧ Fr p v v' w1 w') := Lib.hid HB1.out
      clear h16
      refine HB2.out.mono ?_
      rintro e w2 ⟨rfl, v2, r2, f2⟩
      obtain ⟨q, cap, rfl, hpq, _⟩ := r2.addr (by simp)
      have c3 := r2.c3
      have HFR := Lib.hid (R1.out.2.trans f2)
      have HFA := Lib.hid r2.far
      have HPL := Lib.hid r2.lt
      have HC2 := Lib.hid (HC.out w2 q cap hpq r2 (HL.out.fr HFR.out (Nat.le_of_lt HLT.out) HF.out))
      clear r2 f2 HC HB1 HB2 HZ
      go_wp2_with fail
      refine HC2.out.mono ?_
      intro e w3 h3
      cases R with
      | bad m =>
        obtain ⟨he, b3⟩ : e = thr m ∧ Below p w2 w3 := h3
        unfold thr at he
        subst he
        (try go_wp2_with fail)
        rw [HZ2.out]
        simp only [bodyPost]
        exact ⟨trivial, rfl, (HFR.out.below HF.out (Nat.le_of_lt HLT.out)).trans b3⟩
      | ok y =>
        obtain ⟨j, M⟩ := y
        obtain ⟨rfl, v3, r3, f3⟩ : e = .returned (.tuple #[]) ∧ ∃ v', RdB w3 p s j op v' M ∧ Fr p _ v' w2 w3 := h3
        have R3 := Lib.hid (And.intro r3 (HFR.out.trans f3))
        clear r3 f3
        go_wp2_with fail
        go_end0
        rw [HZ2.out]
        exact ⟨rfl, _, R3.out.1, R3.out.2⟩
  by_cases k53 : b = 53
  · subst k53
    have HGX := Lib.hid (fun x (e : G = .ok x) => have h := HGO.out x e; And.intro h.1 (And.intro h.2.1 trivial))
    have HKX := Lib.hid (HK7.out (.inr (by decide)))
    clear HGO HK1 HK2 HK3 HK4 HK5 HK6 HK7
    have HZ : Hid (Z = G.bind fun _ => R) := Lib.hid (by rw [hZ, if_neg (by decide)])
    clear hZ
    go_enter Tryd.func89, Tryd.ntmps89
    go_wp2_with (go_at_call 92; refine HP.out.mono ?_; rintro e w1 ⟨rfl, d⟩; have R1 := Lib.hid (H.out.dr d); clear d)
    have HB1 := Lib.hid (HBG.out w1 R1.out.1)
    cases G with
    | bad m =>
      have HZ2 : Hid (Z = .bad m) := Lib.hid HZ.out
      have HB2 : Hid (Calls Tryd.prog 98 #[.pointer (some ⟨p, 0, none⟩), .string nm] w1 fun e w' => e = thr m ∧ Below p w1 w') := Lib.hid HB1.out
      refine HB2.out.mono ?_
      rintro e w8 ⟨he, b8⟩
      unfold thr at he
      subst he
      (try go_wp2_with fail)
      rw [HZ2.out]
      simp only [bodyPost]
      exact ⟨trivial, rfl, (R1.out.2.below HF.out (Nat.le_of_lt HLT.out)).trans b8⟩
    | ok x =>
      obtain ⟨rfl, h4, h16⟩ := HGX.out x rfl
      have HZ2 : Hid (Z = R) := Lib.hid HZ.out
      have HC := Lib.hid (HKX.out (by omega))
      have HB2 : Hid (Calls Tryd.prog 98 #[.pointer (some ⟨p, 0, none⟩), .string nm] w1 fun e w' => e = .returned (.tuple #[]) ∧ ∃ v', RdB w' p s i op v' (L ++ [(⟨0, nm, ⟨#[]⟩, 0, 0⟩ : CR)]) ∧ Fr p v v' w1 w') := Lib.hid HB1.out
      clear h16
      refine HB2.out.mono ?_
      rintro e w2 ⟨rfl, v2, r2, f2⟩
      obtain ⟨q, cap, rfl, hpq, _⟩ := r2.addr (by simp)
      have c3 := r2.c3
      have HFR := Lib.hid (R1.out.2.trans f2)
      have HFA := Lib.hid r2.far
      have HPL := Lib.hid r2.lt
      have HC2 := Lib.hid (HC.out w2 q cap hpq r2 (HL.out.fr HFR.out (Nat.le_of_lt HLT.out) HF.out))
      clear r2 f2 HC HB1 HB2 HZ
      go_wp2_with fail
      refine HC2.out.mono ?_
      intro e w3 h3
      cases R with
      | bad m =>
        obtain ⟨he, b3⟩ : e = thr m ∧ Below p w2 w3 := h3
        unfold thr at he
        subst he
        (try go_wp2_with fail)
        rw [HZ2.out]
        simp only [bodyPost]
        exact ⟨trivial, rfl, (HFR.out.below HF.out (Nat.le_of_lt HLT.out)).trans b3⟩
      | ok y =>
        obtain ⟨j, M⟩ := y
        obtain ⟨rfl, v3, r3, f3⟩ : e = .returned (.tuple #[]) ∧ ∃ v', RdB w3 p s j op v' M ∧ Fr p _ v' w2 w3 := h3
        have R3 := Lib.hid (And.intro r3 (HFR.out.trans f3))
        clear r3 f3
        go_wp2_with fail
        go_end0
        rw [HZ2.out]
        exact ⟨rfl, _, R3.out.1, R3.out.2⟩
  by_cases k54 : b = 54
  · subst k54
    have HGX := Lib.hid (fun x (e : G = .ok x) => have h := HGO.out x e; And.intro h.1 (And.intro h.2.1 trivial))
    have HKX := Lib.hid (HK7.out (.inr (by decide)))
    clear HGO HK1 HK2 HK3 HK4 HK5 HK6 HK7
    have HZ : Hid (Z = G.bind fun _ => R) := Lib.hid (by rw [hZ, if_neg (by decide)])
    clear hZ
    go_enter Tryd.func89, Tryd.ntmps89
    go_wp2_with (go_at_call 92; refine HP.out.mono ?_; rintro e w1 ⟨rfl, d⟩; have R1 := Lib.hid (H.out.dr d); clear d)
    have HB1 := Lib.hid (HBG.out w1 R1.out.1)
    cases G with
    | bad m =>
      have HZ2 : Hid (Z = .bad m) := Lib.hid HZ.out
      have HB2 : Hid (Calls Tryd.prog 98 #[.pointer (some ⟨p, 0, none⟩), .string nm] w1 fun e w' => e = thr m ∧ Below p w1 w') := Lib.hid HB1.out
      refine HB2.out.mono ?_
      rintro e w8 ⟨he, b8⟩
      unfold thr at he
      subst he
      (try go_wp2_with fail)
      rw [HZ2.out]
      simp only [bodyPost]
      exact ⟨trivial, rfl, (R1.out.2.below HF.out (Nat.le_of_lt HLT.out)).trans b8⟩
    | ok x =>
      obtain ⟨rfl, h4, h16⟩ := HGX.out x rfl
      have HZ2 : Hid (Z = R) := Lib.hid HZ.out
      have HC := Lib.hid (HKX.out (by omega))
      have HB2 : Hid (Calls Tryd.prog 98 #[.pointer (some ⟨p, 0, none⟩), .string nm] w1 fun e w' => e = .returned (.tuple #[]) ∧ ∃ v', RdB w' p s i op v' (L ++ [(⟨0, nm, ⟨#[]⟩, 0, 0⟩ : CR)]) ∧ Fr p v v' w1 w') := Lib.hid HB1.out
      clear h16
      refine HB2.out.mono ?_
      rintro e w2 ⟨rfl, v2, r2, f2⟩
      obtain ⟨q, cap, rfl, hpq, _⟩ := r2.addr (by simp)
      have c3 := r2.c3
      have HFR := Lib.hid (R1.out.2.trans f2)
      have HFA := Lib.hid r2.far
      have HPL := Lib.hid r2.lt
      have HC2 := Lib.hid (HC.out w2 q cap hpq r2 (HL.out.fr HFR.out (Nat.le_of_lt HLT.out) HF.out))
      clear r2 f2 HC HB1 HB2 HZ
      go_wp2_with fail
      refine HC2.out.mono ?_
      intro e w3 h3
      cases R with
      | bad m =>
        obtain ⟨he, b3⟩ : e = thr m ∧ Below p w2 w3 := h3
        unfold thr at he
        subst he
        (try go_wp2_with fail)
        rw [HZ2.out]
        simp only [bodyPost]
        exact ⟨trivial, rfl, (HFR.out.below HF.out (Nat.le_of_lt HLT.out)).trans b3⟩
      | ok y =>
        obtain ⟨j, M⟩ := y
        obtain ⟨rfl, v3, r3, f3⟩ : e = .returned (.tuple #[]) ∧ ∃ v', RdB w3 p s j op v' M ∧ Fr p _ v' w2 w3 := h3
        have R3 := Lib.hid (And.intro r3 (HFR.out.trans f3))
        clear r3 f3
        go_wp2_with fail
        go_end0
        rw [HZ2.out]
        exact ⟨rfl, _, R3.out.1, R3.out.2⟩
  by_cases k55 : b = 55
  · subst k55
    have HGX := Lib.hid (fun x (e : G = .ok x) => have h := HGO.out x e; And.intro h.1 (And.intro h.2.1 trivial))
    have HKX := Lib.hid (HK7.out (.inr (by decide)))
    clear HGO HK1 HK2 HK3 HK4 HK5 HK6 HK7
    have HZ : Hid (Z = G.bind fun _ => R) := Lib.hid (by rw [hZ, if_neg (by decide)])
    clear hZ
    go_enter Tryd.func89, Tryd.ntmps89
    go_wp2_with (go_at_call 92; refine HP.out.mono ?_; rintro e w1 ⟨rfl, d⟩; have R1 := Lib.hid (H.out.dr d); clear d)
    have HB1 := Lib.hid (HBG.out w1 R1.out.1)
    cases G with
    | bad m =>
      have HZ2 : Hid (Z = .bad m) := Lib.hid HZ.out
      have HB2 : Hid (Calls Tryd.prog 98 #[.pointer (some ⟨p, 0, none⟩), .string nm] w1 fun e w' => e = thr m ∧ Below p w1 w') := Lib.hid HB1.out
      refine HB2.out.mono ?_
      rintro e w8 ⟨he, b8⟩
      unfold thr at he
      subst he
      (try go_wp2_with fail)
      rw [HZ2.out]
      simp only [bodyPost]
      exact ⟨trivial, rfl, (R1.out.2.below HF.out (Nat.le_of_lt HLT.out)).trans b8⟩
    | ok x =>
      obtain ⟨rfl, h4, h16⟩ := HGX.out x rfl
      have HZ2 : Hid (Z = R) := Lib.hid HZ.out
      have HC := Lib.hid (HKX.out (by omega))
      have HB2 : Hid (Calls Tryd.prog 98 #[.pointer (some ⟨p, 0, none⟩), .string nm] w1 fun e w' => e = .returned (.tuple #[]) ∧ ∃ v', RdB w' p s i op v' (L ++ [(⟨0, nm, ⟨#[]⟩, 0, 0⟩ : CR)]) ∧ Fr p v v' w1 w') := Lib.hid HB1.out
      clear h16
      refine HB2.out.mono ?_
      rintro e w2 ⟨rfl, v2, r2, f2⟩
      obtain ⟨q, cap, rfl, hpq, _⟩ := r2.addr (by simp)
      have c3 := r2.c3
      have HFR := Lib.hid (R1.out.2.trans f2)
      have HFA := Lib.hid r2.far
      have HPL := Lib.hid r2.lt
      have HC2 := Lib.hid (HC.out w2 q cap hpq r2 (HL.out.fr HFR.out (Nat.le_of_lt HLT.out) HF.out))
      clear r2 f2 HC HB1 HB2 HZ
      go_wp2_with fail
      refine HC2.out.mono ?_
      intro e w3 h3
      cases R with
      | bad m =>
        obtain ⟨he, b3⟩ : e = thr m ∧ Below p w2 w3 := h3
        unfold thr at he
        subst he
        (try go_wp2_with fail)
        rw [HZ2.out]
        simp only [bodyPost]
        exact ⟨trivial, rfl, (HFR.out.below HF.out (Nat.le_of_lt HLT.out)).trans b3⟩
      | ok y =>
        obtain ⟨j, M⟩ := y
        obtain ⟨rfl, v3, r3, f3⟩ : e = .returned (.tuple #[]) ∧ ∃ v', RdB w3 p s j op v' M ∧ Fr p _ v' w2 w3 := h3
        have R3 := Lib.hid (And.intro r3 (HFR.out.trans f3))
        clear r3 f3
        go_wp2_with fail
        go_end0
        rw [HZ2.out]
        exact ⟨rfl, _, R3.out.1, R3.out.2⟩
  by_cases k56 : b = 56
  · subst k56
    have HGX := Lib.hid (fun x (e : G = .ok x) => have h := HGO.out x e; And.intro h.1 (And.intro h.2.1 trivial))
    have HKX := Lib.hid (HK7.out (.inr (by decide)))
    clear HGO HK1 HK2 HK3 HK4 HK5 HK6 HK7
    have HZ : Hid (Z = G.bind fun _ => R) := Lib.hid (by rw [hZ, if_neg (by decide)])
    clear hZ
    go_enter Tryd.func89, Tryd.ntmps89
    go_wp2_with (go_at_call 92; refine HP.out.mono ?_; rintro e w1 ⟨rfl, d⟩; have R1 := Lib.hid (H.out.dr d); clear d)
    have HB1 := Lib.hid (HBG.out w1 R1.out.1)
    cases G with
    | bad m =>
      have HZ2 : Hid (Z = .bad m) := Lib.hid HZ.out
      have HB2 : Hid (Calls Tryd.prog 98 #[.pointer (some ⟨p, 0, none⟩), .string nm] w1 fun e w' => e = thr m ∧ Below p w1 w') := Lib.hid HB1.out
      refine HB2.out.mono ?_
      rintro e w8 ⟨he, b8⟩
      unfold thr at he
      subst he
      (try go_wp2_with fail)
      rw [HZ2.out]
      simp only [bodyPost]
      exact ⟨trivial, rfl, (R1.out.2.below HF.out (Nat.le_of_lt HLT.out)).trans b8⟩
    | ok x =>
      obtain ⟨rfl, h4, h16⟩ := HGX.out x rfl
      have HZ2 : Hid (Z = R) := Lib.hid HZ.out
      have HC := Lib.hid (HKX.out (by omega))
      have HB2 : Hid (Calls Tryd.prog 98 #[.pointer (some ⟨p, 0, none⟩), .string nm] w1 fun e w' => e = .returned (.tuple #[]) ∧ ∃ v', RdB w' p s i op v' (L ++ [(⟨0, nm, ⟨#[]⟩, 0, 0⟩ : CR)]) ∧ Fr p v v' w1 w') := Lib.hid HB1.out
      clear h16
      refine HB2.out.mono ?_
      rintro e w2 ⟨rfl, v2, r2, f2⟩
      obtain ⟨q, cap, rfl, hpq, _⟩ := r2.addr (by simp)
      have c3 := r2.c3
      have HFR := Lib.hid (R1.out.2.trans f2)
      have HFA := Lib.hid r2.far
      have HPL := Lib.hid r2.lt
      have HC2 := Lib.hid (HC.out w2 q cap hpq r2 (HL.out.fr HFR.out (Nat.le_of_lt HLT.out) HF.out))
      clear r2 f2 HC HB1 HB2 HZ
      go_wp2_with fail
      refine HC2.out.mono ?_
      intro e w3 h3
      cases R with
      | bad m =>
        obtain ⟨he, b3⟩ : e = thr m ∧ Below p w2 w3 := h3
        unfold thr at he
        subst he
        (try go_wp2_with fail)
        rw [HZ2.out]
        simp only [bodyPost]
        exact ⟨trivial, rfl, (HFR.out.below HF.out (Nat.le_of_lt HLT.out)).trans b3⟩
      | ok y =>
        obtain ⟨j, M⟩ := y
        obtain ⟨rfl, v3, r3, f3⟩ : e = .returned (.tuple #[]) ∧ ∃ v', RdB w3 p s j op v' M ∧ Fr p _ v' w2 w3 := h3
        have R3 := Lib.hid (And.intro r3 (HFR.out.trans f3))
        clear r3 f3
        go_wp2_with fail
        go_end0
        rw [HZ2.out]
        exact ⟨rfl, _, R3.out.1, R3.out.2⟩
  by_cases k57 : b = 57
  · subst k57
    have HGX := Lib.hid (fun x (e : G = .ok x) => have h := HGO.out x e; And.intro h.1 (And.intro h.2.1 trivial))
    have HKX := Lib.hid (HK7.out (.inr (by decide)))
    clear HGO HK1 HK2 HK3 HK4 HK5 HK6 HK7
    have HZ : Hid (Z = G.bind fun _ => R) := Lib.hid (by rw [hZ, if_neg (by decide)])
    clear hZ
    go_enter Tryd.func89, Tryd.ntmps89
    go_wp2_with (go_at_call 92; refine HP.out.mono ?_; rintro e w1 ⟨rfl, d⟩; have R1 := Lib.hid (H.out.dr d); clear d)
    have HB1 := Lib.hid (HBG.out w1 R1.out.1)
    cases G with
    | bad m =>
      have HZ2 : Hid (Z = .bad m) := Lib.hid HZ.out
      have HB2 : Hid (Calls Tryd.prog 98 #[.pointer (some ⟨p, 0, none⟩), .string nm] w1 fun e w' => e = thr m ∧ Below p w1 w') := Lib.hid HB1.out
      refine HB2.out.mono ?_
      rintro e w8 ⟨he, b8⟩
      unfold thr at he
      subst he
      (try go_wp2_with fail)
      rw [HZ2.out]
      simp only [bodyPost]
      exact ⟨trivial, rfl, (R1.out.2.below HF.out (Nat.le_of_lt HLT.out)).trans b8⟩
    | ok x =>
      obtain ⟨rfl, h4, h16⟩ := HGX.out x rfl
      have HZ2 : Hid (Z = R) := Lib.hid HZ.out
      have HC := Lib.hid (HKX.out (by omega))
      have HB2 : Hid (Calls Tryd.prog 98 #[.pointer (some ⟨p, 0, none⟩), .string nm] w1 fun e w' => e = .returned (.tuple #[]) ∧ ∃ v', RdB w' p s i op v' (L ++ [(⟨0, nm, ⟨#[]⟩, 0, 0⟩ : CR)]) ∧ Fr p v v' w1 w') := Lib.hid HB1.out
      clear h16
      refine HB2.out.mono ?_
      rintro e w2 ⟨rfl, v2, r2, f2⟩
      obtain ⟨q, cap, rfl, hpq, _⟩ := r2.addr (by simp)
      have c3 := r2.c3
      have HFR := Lib.hid (R1.out.2.trans f2)
      have HFA := Lib.hid r2.far
      have HPL := Lib.hid r2.lt
      have HC2 := Lib.hid (HC.out w2 q cap hpq r2 (HL.out.fr HFR.out (Nat.le_of_lt HLT.out) HF.out))
      clear r2 f2 HC HB1 HB2 HZ
      go_wp2_with fail
      refine HC2.out.mono ?_
      intro e w3 h3
      cases R with
      | bad m =>
        obtain ⟨he, b3⟩ : e = thr m ∧ Below p w2 w3 := h3
        unfold thr at he
        subst he
        (try go_wp2_with fail)
        rw [HZ2.out]
        simp only [bodyPost]
        exact ⟨trivial, rfl, (HFR.out.below HF.out (Nat.le_of_lt HLT.out)).trans b3⟩
      | ok y =>
        obtain ⟨j, M⟩ := y
        obtain ⟨rfl, v3, r3, f3⟩ : e = .returned (.tuple #[]) ∧ ∃ v', RdB w3 p s j op v' M ∧ Fr p _ v' w2 w3 := h3
        have R3 := Lib.hid (And.intro r3 (HFR.out.trans f3))
        clear r3 f3
        go_wp2_with fail
        go_end0
        rw [HZ2.out]
        exact ⟨rfl, _, R3.out.1, R3.out.2⟩
  have HZ : Hid (Z = .bad 40) := Lib.hid (by rw [hZ, if_pos]; unfold isSt isDg; simp only [Bool.or_eq_false_iff, Bool.and_eq_false_iff, decide_eq_false_iff_not]; omega)
  have q123 : (b == 123) = false := beq_eq_false_iff_ne.2 k123
  have q91 : (b == 91) = false := beq_eq_false_iff_ne.2 k91
  have q34 : (b == 34) = false := beq_eq_false_iff_ne.2 k34
  have q116 : (b == 116) = false := beq_eq_false_iff_ne.2 k116
  have q102 : (b == 102) = false := beq_eq_false_iff_ne.2 k102
  have q110 : (b == 110) = false := beq_eq_false_iff_ne.2 k110
  have q45 : (b == 45) = false := beq_eq_false_iff_ne.2 k45
  have q48 : (b == 48) = false := beq_eq_false_iff_ne.2 k48
  have q49 : (b == 49) = false := beq_eq_false_iff_ne.2 k49
  have q50 : (b == 50) = false := beq_eq_false_iff_ne.2 k50
  have q51 : (b == 51) = false := beq_eq_false_iff_ne.2 k51
  have q52 : (b == 52) = false := beq_eq_false_iff_ne.2 k52
  have q53 : (b == 53) = false := beq_eq_false_iff_ne.2 k53
  have q54 : (b == 54) = false := beq_eq_false_iff_ne.2 k54
  have q55 : (b == 55) = false := beq_eq_false_iff_ne.2 k55
  have q56 : (b == 56) = false := beq_eq_false_iff_ne.2 k56
  have q57 : (b == 57) = false := beq_eq_false_iff_ne.2 k57
  clear hZ
  go_enter Tryd.func89, Tryd.ntmps89
  go_wp2_with (go_at_call 92; refine HP.out.mono ?_; rintro e w1 ⟨rfl, d⟩; have R1 := Lib.hid (H.out.dr d); clear d)
  rw [HZ.out]
  simp only [bodyPost]
  exact ⟨trivial, rfl, R1.out.2.below HF.out (Nat.le_of_lt HLT.out)⟩
theorem value_all {s : ByteArray} (hs : s.size ≤ 100000) : ∀ f, VC s (f + 1)
  | 0 => value_step (fun h => absurd h (by decide)) hs
  | f + 1 => value_step (fun _ => value_all hs f) hs
end Go.Proofs.YtpiaofpglagfmaaDoor
/- Layer 4, Read: the deferred closure. -/
namespace Go.Proofs.YtpiaofpglagfmaaDoor
open Go.RowKit Go.Maps
theorem rcatchI (p q : Addr) (w : World) : CallsD Tryd.prog 87 #[.pointer (some p), .pointer (some q)] .returning w fun e u' w' => e = .returned (.tuple #[]) ∧ u' = .returning ∧ w' = w := by
  have hnil : ∀ w : World, (binOp BinOp.eql 20 .nilIface .nilIface).run Tryd.prog w = .ok (.bool true) w := fun _ => by kernel_rfl
  refine callsD_of_wpS Tryd.func87 rfl fun c₀ cs hu => ?_
  apply wpS_seq
  apply wpS_region
  simp [wpOpsS, go_sem, recoverD, hu, Tryd.ntmps87, Exit.thenS]
  refine wpS_of_wp ?_
  simp only [Array.replicate, List.replicate, List.setIfInBounds_toArray, List.set, List.append_toArray, List.cons_append, List.nil_append]
  go_wp2_with fail
  cases c₀
  simp_all [bodyPostS, results, Tryd.results87]
set_option maxRecDepth 20000 in
theorem rcatchP (a b : Nat) (e : Int) (v0 e0 : Value) (older : List PanicEntry) (w : World) (hp : w.cell? ⟨a, 0, none⟩ = some v0) (hzp : w.frozen? ⟨a, 0, none⟩ = false) (hq : w.cell? ⟨b, 0, none⟩ = some e0) (hzq : w.frozen? ⟨b, 0, none⟩ = false) (hpq : a ≠ b) : CallsD Tryd.prog 87 #[.pointer (some ⟨a, 0, none⟩), .pointer (some ⟨b, 0, none⟩)] (.panicking ({ v := .iface 130 (.int .i64 e), recovered := false } :: older)) w fun x u' w' => x = .returned (.tuple #[]) ∧ u' = .panicking ({ v := .iface 130 (.int .i64 e), recovered := true } :: older) ∧ w' = (w.setCell ⟨a, 0, none⟩ (.slice none 0 0)).setCell ⟨b, 0, none⟩ (.int .i64 e) := by
  have hnil : ∀ w : World, (binOp BinOp.eql 20 (.iface 130 (.int .i64 e)) .nilIface).run Tryd.prog w = .ok (.bool false) w := fun _ => by kernel_rfl
  have hta : ∀ w : World, (Instr.typeAssert (.iface 130 (.int .i64 e)) 20 130 true).run Tryd.prog w = .ok (.tuple #[.int .i64 e, .bool true]) w := fun _ => by kernel_rfl
  refine callsD_of_wpS Tryd.func87 rfl fun c₀ cs hu => ?_
  apply wpS_seq
  apply wpS_region
  simp [wpOpsS, go_sem, recoverD, hu, Tryd.ntmps87, Exit.thenS]
  refine wpS_of_wp ?_
  simp only [Array.replicate, List.replicate, List.setIfInBounds_toArray, List.set, List.append_toArray, List.cons_append, List.nil_append]
  clear hu
  go_wp2_with fail
  cases c₀
  simp_all [bodyPostS, results, Tryd.results87]
end Go.Proofs.YtpiaofpglagfmaaDoor
/- Layer 4, Read: read. -/
namespace Go.Proofs.YtpiaofpglagfmaaDoor
open Go.RowKit Go.Maps
/-- What a text that is not too long tells. -/
def readN (s : ByteArray) : Rs (List CR) := (valM s 17 ⟨#[]⟩ 0 (bl s 0) []).bind fun x => if bl s x.1 < s.size then .bad 40 else .ok x.2
/-- Cells are told, or an error. -/
def RdP (w : World) (x : Rs (List CR)) (e : Ending) (w' : World) : Prop := match x with
  | .ok M => ∃ v, e = .returned (.tuple #[v, .int .i64 0]) ∧ w'.ownsRow w.heap.size 128 5 v M.length (rw5 M) ∧ Below w.heap.size w w'
  | .bad m => e = .returned (.tuple #[.slice none 0 0, .int .i64 m]) ∧ Below w.heap.size w w'
set_option maxRecDepth 20000 in
set_option maxHeartbeats 4000000 in
theorem jread_any (s : ByteArray) (w : World) (hl : LimP w.heap.size w) (hs : s.size ≤ 100000) : Calls Tryd.prog 85 #[.string s] w (RdP w (readN s)) := by
  have hmf : ∀ (fn : Fn) (first cap : Array Value) (w : World), (Instr.makeFunc fn first cap).run Tryd.prog w = .ok (.func fn first cap) w := fun _ _ _ _ => rfl
  obtain ⟨W1, hW1⟩ : ∃ W1, W1 = ((w.alloc (.cells #[.slice none 0 0] 123)).alloc (.cells #[.int .i64 0] 25)).alloc (.cells #[.string s, .int .i64 0, .int .i64 0, .slice none 0 0] 133) := ⟨_, rfl⟩
  have hB1 : W1.heap.size = w.heap.size + 3 := by rw [hW1]; simp
  have b1 : Below w.heap.size w W1 := by rw [hW1]; exact (((Below.refl _ _).alloc (Nat.le_refl _) _).alloc (by simp) _).alloc (by simp; omega) _
  have n0 : W1.heap[w.heap.size]? = some (.cells #[.slice none 0 0] 123) := by rw [hW1, heap_alloc_old _ _ (by simp; omega), heap_alloc_old _ _ (by simp), heap_alloc_new]
  have n1 : W1.heap[w.heap.size + 1]? = some (.cells #[.int .i64 0] 25) := by
    have e := heap_alloc_new (w.alloc (.cells #[.slice none 0 0] 123)) (.cells #[.int .i64 0] 25)
    rw [hW1, heap_alloc_old _ _ (by simp)]; simpa using e
  have n2 : W1.heap[w.heap.size + 1 + 1]? = some (.cells #[.string s, .int .i64 0, .int .i64 0, .slice none 0 0] 133) := by
    have e := heap_alloc_new ((w.alloc (.cells #[.slice none 0 0] 123)).alloc (.cells #[.int .i64 0] 25)) (.cells #[.string s, .int .i64 0, .int .i64 0, .slice none 0 0] 133)
    rw [hW1]; simpa using e
  have HR1 : Hid (RdB W1 (w.heap.size + 1 + 1) s 0 0 (.slice none 0 0) []) := Lib.hid ⟨n2, World.ownsRow_nil _ _ _ _⟩
  have HL1 : Hid (LimP (w.heap.size + 1 + 1) W1) := Lib.hid (by
    have e := b1.block _ hl.1
    refine ⟨by have := hl.1; omega, ?_, ?_⟩
    · rw [← hl.2.1]; unfold World.cell?; dsimp only; rw [e]
    · rw [← hl.2.2]; unfold World.cell?; dsimp only; rw [e])
  have HN := Lib.hid (And.intro n0 n1)
  have HB := Lib.hid b1
  have HFA : Hid (∀ k, (Value.slice none 0 0).ownBlock = some k → w.heap.size + 1 + 1 + 1 ≤ k) := Lib.hid (fun k e => by cases e)
  have hbl : bl s 0 ≤ s.size := bl_le (Nat.zero_le _)
  have HBK := Lib.hid (blanks_any W1 HR1.out (by omega) (by omega))
  obtain ⟨Z, hZ⟩ : ∃ Z, Z = readN s := ⟨_, rfl⟩
  rw [← hZ]
  unfold readN at hZ
  obtain ⟨i0, hi0⟩ : ∃ i0, i0 = bl s 0 := ⟨_, rfl⟩
  rw [← hi0] at hbl HBK hZ
  have HV := Lib.hid (fun W (r : RdB W (w.heap.size + 1 + 1) s i0 0 (.slice none 0 0) []) (l : LimP (w.heap.size + 1 + 1) W) => value_all hs 16 (w.heap.size + 1 + 1) i0 0 (.slice none 0 0) [] ⟨#[]⟩ W rfl r l hbl (by decide))
  have HOK := Lib.hid (fun j N => valM_ok s 17 0 ⟨#[]⟩ i0 [] j N hbl (by decide))
  dsimp only at HOK
  obtain ⟨X, hX⟩ : ∃ X, X = valM s 17 ⟨#[]⟩ 0 i0 [] := ⟨_, rfl⟩
  rw [← hX] at HV HOK hZ
  have HZ := Lib.hid hZ
  clear hX hi0 hZ n0 n1 n2 b1 hl hbl
  go_enter_defers Tryd.func85, Tryd.ntmps85
  go_wp2_with fail
  rw [← hW1]
  clear hW1
  refine HBK.out.mono ?_
  rintro e w2 ⟨rfl, r2, f2⟩
  have HV2 := Lib.hid (HV.out w2 r2 (HL1.out.fr f2 (by omega) HFA.out))
  have HF2 := Lib.hid (f2.below HFA.out (by omega))
  clear r2 f2 HV HBK
  go_wp2_with fail
  cases X with
  | bad m =>
    have HV3 : Hid (Calls Tryd.prog 89 #[.pointer (some ⟨w.heap.size + 1 + 1, 0, none⟩), .string ⟨#[]⟩] w2 fun e w' => e = thr m ∧ Below (w.heap.size + 1 + 1) w2 w') := Lib.hid HV2.out
    have HZ2 : Hid (Z = .bad m) := Lib.hid HZ.out
    refine HV3.out.mono ?_
    rintro e w3 ⟨he, b3⟩
    unfold thr at he
    subst he
    have HB3 := Lib.hid (HF2.out.trans b3)
    clear b3
    (try go_wp2_with fail)
    have n0 : w3.heap[w.heap.size]? = some (.cells #[.slice none 0 0] 123) := (HB3.out.block _ (by omega)).trans HN.out.1
    have n1 : w3.heap[w.heap.size + 1]? = some (.cells #[.int .i64 0] 25) := (HB3.out.block _ (by omega)).trans HN.out.2
    refine leaves_cons (f := 87) (args := #[.pointer (some ⟨w.heap.size, 0, none⟩), .pointer (some ⟨w.heap.size + 1, 0, none⟩)]) (by simp) (by simp [go_sem]) ?_
    refine (rcatchP w.heap.size (w.heap.size + 1) m (.slice none 0 0) (.int .i64 0) [] w3 (by simp [World.cell?, n0]) (by simp [World.frozen?, n0]) (by simp [World.cell?, n1]) (by simp [World.frozen?, n1]) (by omega)).mono ?_
    rintro e u' w'' ⟨rfl, rfl, hw⟩
    rw [HZ2.out]
    have m0 : w''.heap[w.heap.size]? = some (.cells #[.slice none 0 0] 123) := by
      rw [hw, Below.heap_setCell _ ⟨w.heap.size + 1, 0, none⟩ _ _ (show w.heap.size ≠ w.heap.size + 1 by omega)]
      simp [World.setCell, Array.getElem?_modify, n0]
    have m1 : w''.heap[w.heap.size + 1]? = some (.cells #[.int .i64 m] 25) := by
      rw [hw]
      simp [World.setCell, Array.getElem?_modify, n1]
    have d0 : w''.cell? ⟨w.heap.size, 0, none⟩ = some (.slice none 0 0) := by simp [World.cell?, m0]
    have d1 : w''.cell? ⟨w.heap.size + 1, 0, none⟩ = some (.int .i64 m) := by simp [World.cell?, m1]
    have bw : Below w.heap.size w w'' := by rw [hw]; exact ((HB.out.trans (HB3.out.mono (by omega))).setCell (by simp) _).setCell (by simp) _
    clear hw
    simp [Leaves, settle, results, Tryd.results85, go_sem, d0, d1]
    exact ⟨rfl, bw⟩
  | ok x =>
    obtain ⟨j, M⟩ := x
    have HV3 : Hid (Calls Tryd.prog 89 #[.pointer (some ⟨w.heap.size + 1 + 1, 0, none⟩), .string ⟨#[]⟩] w2 fun e w' => e = .returned (.tuple #[]) ∧ ∃ v', RdB w' (w.heap.size + 1 + 1) s j 0 v' M ∧ Fr (w.heap.size + 1 + 1) (.slice none 0 0) v' w2 w') := Lib.hid HV2.out
    obtain ⟨g1, g2, g3, g4, g5⟩ := HOK.out j M rfl
    have HZ1 : Hid (Z = if bl s j < s.size then .bad 40 else .ok M) := Lib.hid HZ.out
    clear HV2 HOK HZ g5
    refine HV3.out.mono ?_
    rintro e w3 ⟨rfl, v3, r3, f3⟩
    have hb1 := bl_ge s j
    have hb2 : bl s j ≤ s.size := bl_le g2
    have HB3' := Lib.hid (HF2.out.trans (f3.below HFA.out (by have := HF2.out.size; omega)))
    have HBK := Lib.hid (blanks_any w3 r3 (by omega) (by omega))
    have HR3 := Lib.hid r3
    clear r3 f3
    go_wp2_with fail
    refine HBK.out.mono ?_
    rintro e w4 ⟨rfl, r4, f4⟩
    have HB4 := Lib.hid (HB3'.out.trans (f4.below HR3.out.far (Nat.le_of_lt HR3.out.lt)))
    have c1 := r4.c1
    have c3 := r4.c3
    have HR4 := Lib.hid r4
    obtain ⟨j1, hj1⟩ : ∃ j1, j1 = bl s j := ⟨_, rfl⟩
    rw [← hj1] at c1 hb1 hb2 HZ1 HR4
    clear hj1 r4 f4 HBK
    by_cases hlt : j1 < s.size
    · have hlt2 : (j1 : Int) < s.size := by omega
      have HZ2 : Hid (Z = .bad 40) := Lib.hid (by rw [HZ1.out, if_pos hlt])
      go_wp2_with fail
      have HB3 := HB4
      clear HB4 HB3'
      have n0 : w4.heap[w.heap.size]? = some (.cells #[.slice none 0 0] 123) := (HB3.out.block _ (by omega)).trans HN.out.1
      have n1 : w4.heap[w.heap.size + 1]? = some (.cells #[.int .i64 0] 25) := (HB3.out.block _ (by omega)).trans HN.out.2
      refine leaves_cons (f := 87) (args := #[.pointer (some ⟨w.heap.size, 0, none⟩), .pointer (some ⟨w.heap.size + 1, 0, none⟩)]) (by simp) (by simp [go_sem]) ?_
      refine (rcatchP w.heap.size (w.heap.size + 1) 40 (.slice none 0 0) (.int .i64 0) [] w4 (by simp [World.cell?, n0]) (by simp [World.frozen?, n0]) (by simp [World.cell?, n1]) (by simp [World.frozen?, n1]) (by omega)).mono ?_
      rintro e u' w'' ⟨rfl, rfl, hw⟩
      rw [HZ2.out]
      have m0 : w''.heap[w.heap.size]? = some (.cells #[.slice none 0 0] 123) := by
        rw [hw, Below.heap_setCell _ ⟨w.heap.size + 1, 0, none⟩ _ _ (show w.heap.size ≠ w.heap.size + 1 by omega)]
        simp [World.setCell, Array.getElem?_modify, n0]
      have m1 : w''.heap[w.heap.size + 1]? = some (.cells #[.int .i64 40] 25) := by
        rw [hw]
        simp [World.setCell, Array.getElem?_modify, n1]
      have d0 : w''.cell? ⟨w.heap.size, 0, none⟩ = some (.slice none 0 0) := by simp [World.cell?, m0]
      have d1 : w''.cell? ⟨w.heap.size + 1, 0, none⟩ = some (.int .i64 40) := by simp [World.cell?, m1]
      have bw : Below w.heap.size w w'' := by rw [hw]; exact ((HB.out.trans (HB3.out.mono (by omega))).setCell (by simp) _).setCell (by simp) _
      clear hw
      simp [Leaves, settle, results, Tryd.results85, go_sem, d0, d1]
      exact ⟨rfl, bw⟩
    · have hlt2 : ¬ (j1 : Int) < s.size := by omega
      have HZ2 : Hid (Z = .ok M) := Lib.hid (by rw [HZ1.out, if_neg hlt])
      obtain ⟨q, cap, rfl, hpq, hqs⟩ := HR4.out.addr (by omega)
      have n0 : w4.heap[w.heap.size]? = some (.cells #[.slice none 0 0] 123) := (HB4.out.block _ (by omega)).trans HN.out.1
      have n1 : w4.heap[w.heap.size + 1]? = some (.cells #[.int .i64 0] 25) := (HB4.out.block _ (by omega)).trans HN.out.2
      have k0 : w4.cell? ⟨w.heap.size, 0, none⟩ = some (.slice none 0 0) := by simp [World.cell?, n0]
      have k1 : w4.cell? ⟨w.heap.size + 1, 0, none⟩ = some (.int .i64 0) := by simp [World.cell?, n1]
      have z0 : w4.frozen? ⟨w.heap.size, 0, none⟩ = false := by simp [World.frozen?, n0]
      have z1 : w4.frozen? ⟨w.heap.size + 1, 0, none⟩ = false := by simp [World.frozen?, n1]
      obtain ⟨Wf, hWf⟩ : ∃ Wf, Wf = (w4.setCell ⟨w.heap.size, 0, none⟩ (.slice (some ⟨q, 0, none⟩) M.length cap)).setCell ⟨w.heap.size + 1, 0, none⟩ (.int .i64 0) := ⟨_, rfl⟩
      have m0 : Wf.heap[w.heap.size]? = some (.cells #[.slice (some ⟨q, 0, none⟩) M.length cap] 123) := by
        rw [hWf, Below.heap_setCell _ ⟨w.heap.size + 1, 0, none⟩ _ _ (show w.heap.size ≠ w.heap.size + 1 by omega)]
        simp [World.setCell, Array.getElem?_modify, n0]
      have m1 : Wf.heap[w.heap.size + 1]? = some (.cells #[.int .i64 0] 25) := by
        rw [hWf]
        simp [World.setCell, Array.getElem?_modify, n1]
      have bw : Hid (Below w.heap.size w Wf) := Lib.hid (by rw [hWf]; exact ((HB.out.trans (HB4.out.mono (by omega))).setCell (by simp) _).setCell (by simp) _)
      have hrow : Hid (Wf.ownsRow w.heap.size 128 5 (.slice (some ⟨q, 0, none⟩) M.length cap) M.length (rw5 M)) := Lib.hid (own_base (own_move HR4.out.row (fun j hj => by
        cases hj
        rw [hWf, Below.heap_setCell _ ⟨w.heap.size + 1, 0, none⟩ _ _ (show q ≠ w.heap.size + 1 by omega), Below.heap_setCell _ ⟨w.heap.size, 0, none⟩ _ _ (show q ≠ w.heap.size by omega)])) (by omega))
      have M01 := Lib.hid (And.intro m0 m1)
      have HWF := Lib.hid hWf
      clear n0 n1 m0 m1 hWf
      go_wp2_with fail
      rw [← HWF.out]
      clear HWF
      refine leaves_cons (f := 87) (args := #[.pointer (some ⟨w.heap.size, 0, none⟩), .pointer (some ⟨w.heap.size + 1, 0, none⟩)]) (by simp) (by simp [go_sem]) ?_
      refine (rcatchI _ _ Wf).mono ?_
      rintro e u' w'' ⟨rfl, rfl, rfl⟩
      have d0 : w''.cell? ⟨w.heap.size, 0, none⟩ = some (.slice (some ⟨q, 0, none⟩) M.length cap) := by simp [World.cell?, M01.out.1]
      have d1 : w''.cell? ⟨w.heap.size + 1, 0, none⟩ = some (.int .i64 0) := by simp [World.cell?, M01.out.2]
      rw [HZ2.out]
      simp [Leaves, settle, results, Tryd.results85, go_sem, d0, d1]
      exact ⟨_, rfl, hrow.out, bw.out⟩
end Go.Proofs.YtpiaofpglagfmaaDoor
/- Layer 4: Read. -/
namespace Go.Proofs.YtpiaofpglagfmaaDoor
open Go.RowKit Go.Maps
theorem ckE_size {s : ByteArray} (h : ckE s = 0) : s.size ≤ 16384 := by
  unfold ckE at h
  split at h
  · cases h
  · omega
theorem LimP.up {w w' : World} (l : LimP w.heap.size w) (b : Below w.heap.size w w') : LimP w'.heap.size w' := by
  have e := b.block _ l.1
  refine ⟨Nat.lt_of_lt_of_le l.1 b.size, ?_, ?_⟩
  · rw [← l.2.1]; unfold World.cell?; dsimp only; rw [e]
  · rw [← l.2.2]; unfold World.cell?; dsimp only; rw [e]
set_option maxRecDepth 20000 in
theorem Read_any (s : ByteArray) (w : World) (hl : LimP w.heap.size w) (hs : s.size ≤ maxLen) : Calls Tryd.prog 83 #[.string s] w (RdP w (readM s)) := by
  have HC := Lib.hid (check_any s w hs)
  have HR := Lib.hid (fun (h : ckE s = 0) W (b : Below w.heap.size w W) => jread_any s W (hl.up b) (by have := ckE_size h; omega))
  have HE : Hid (ckE s = 0 → readM s = readN s) := Lib.hid (fun h => by unfold readM readN; rw [if_neg (by omega)])
  have HE2 : Hid (ckE s ≠ 0 → readM s = .bad (ckE s)) := Lib.hid (fun h => by unfold readM; rw [if_pos h])
  obtain ⟨c, hc⟩ : ∃ c, c = ckE s := ⟨_, rfl⟩
  rw [← hc] at HC HR HE HE2
  clear hc hl
  obtain ⟨Z, hZ⟩ : ∃ Z, Z = readM s := ⟨_, rfl⟩
  rw [← hZ] at HE HE2 ⊢
  clear hZ
  by_cases h0 : c = 0
  · have HZ := Lib.hid (HE.out h0)
    have HR1 := Lib.hid (HR.out h0)
    clear HR HE HE2
    subst h0
    obtain ⟨X, hX⟩ : ∃ X, X = readN s := ⟨_, rfl⟩
    rw [← hX] at HZ HR1
    clear hX
    go_enter Tryd.func83, Tryd.ntmps83
    go_wp2_with fail
    refine HC.out.mono ?_
    rintro e w1 ⟨rfl, b1⟩
    have HR2 := Lib.hid (HR1.out w1 b1)
    have HB1 := Lib.hid b1
    clear b1 HR1
    go_wp2_with fail
    refine HR2.out.mono ?_
    intro e w2 h2
    cases X with
    | bad m =>
      obtain ⟨rfl, b2⟩ : e = .returned (.tuple #[.slice none 0 0, .int .i64 m]) ∧ Below w1.heap.size w1 w2 := h2
      have HB2 := Lib.hid (HB1.out.trans (b2.mono HB1.out.size))
      clear b2
      go_wp2_with fail
      go_ret2
      rw [HZ.out]
      exact ⟨rfl, HB2.out⟩
    | ok M =>
      obtain ⟨v, rfl, o2, b2⟩ : ∃ v, e = .returned (.tuple #[v, .int .i64 0]) ∧ w2.ownsRow w1.heap.size 128 5 v M.length (rw5 M) ∧ Below w1.heap.size w1 w2 := h2
      have HB2 := Lib.hid (HB1.out.trans (b2.mono HB1.out.size))
      have HO := Lib.hid (own_base o2 HB1.out.size)
      clear b2 o2
      go_wp2_with fail
      go_ret2
      rw [HZ.out]
      exact ⟨_, rfl, HO.out, HB2.out⟩
  · have HZ := Lib.hid (HE2.out h0)
    have hb : (c != 0) = true := by simp [bne, beq_eq_false_iff_ne.2 h0]
    clear HR HE HE2 h0
    go_enter Tryd.func83, Tryd.ntmps83
    go_wp2_with fail
    refine HC.out.mono ?_
    rintro e w1 ⟨rfl, b1⟩
    have HB1 := Lib.hid b1
    clear b1
    go_wp2_with fail
    go_ret2
    rw [HZ.out]
    exact ⟨rfl, HB1.out⟩
end Go.Proofs.YtpiaofpglagfmaaDoor
/- Layer 3: the document's One, Name, among. -/
namespace Go.Proofs.YtpiaofpglagfmaaDoor
open Go.RowKit Go.Maps
theorem let_or (b : UInt8) : letB b = true ↔ (b.toNat = 95 ∨ (97 ≤ b.toNat ∧ b.toNat ≤ 122) ∨ (65 ≤ b.toNat ∧ b.toNat ≤ 90)) := by
  unfold letB
  simp [UInt8.le_iff_toNat_le, ← UInt8.toNat_inj, or_assoc]
theorem dg_or (b : UInt8) : dgB b = true ↔ (48 ≤ b.toNat ∧ b.toNat ≤ 57) := by
  unfold dgB
  simp [UInt8.le_iff_toNat_le]

end Go.Proofs.YtpiaofpglagfmaaDoor
/- Layer 31, ServeWrites: a text quoted (plain), and appends of bytes. -/
namespace Go.Proofs.YtpiaofpglagfmaaDoor
open Go.RowKit
def hexI (x : Int) : Int := if x < 10 then 48 + x else 87 + x
def shortI (x : Int) : Int := if x = 34 then 34 else if x = 92 then 92 else if x = 8 then 98 else if x = 9 then 116 else if x = 10 then 110 else if x = 12 then 102 else if x = 13 then 114 else 0
def escI (x : Int) : List Int := if shortI x ≠ 0 then [92, shortI x] else if x < 32 then [92, 117, 48, 48, hexI (x / 16), hexI (x % 16)] else [x]
def quL (s : ByteArray) : Nat → List Int
  | 0 => [34]
  | k + 1 => quL s k ++ escI (byt s k)
theorem esc_len (x : Int) : (escI x).length ≤ 6 := by unfold escI; split <;> (try split) <;> simp
theorem quL_len (s : ByteArray) (k : Nat) : (quL s k).length ≤ 6 * k + 1 := by
  induction k with
  | zero => exact Nat.le_refl _
  | succ k ih => unfold quL; rw [List.length_append]; have := esc_len (byt s k); omega
theorem short_range (x : Int) : 0 ≤ shortI x ∧ shortI x < 256 := by unfold shortI; repeat' split <;> (try omega)
theorem esc_range (x : Int) (h0 : 0 ≤ x) (h1 : x < 256) : ∀ y ∈ escI x, 0 ≤ y ∧ y < 256 := by
  have hs := short_range x
  unfold escI
  split
  · intro y hy; simp at hy; rcases hy with rfl | rfl <;> omega
  · split
    · intro y hy
      simp at hy
      unfold hexI at hy
      rcases hy with rfl | rfl | rfl | rfl | rfl <;> (first | omega | (split <;> omega))
    · intro y hy; simp at hy; omega
theorem quL_range (s : ByteArray) (k : Nat) : ∀ y ∈ quL s k, 0 ≤ y ∧ y < 256 := by
  induction k with
  | zero => intro y hy; simp [quL] at hy; omega
  | succ k ih =>
    intro y hy
    unfold quL at hy
    rcases List.mem_append.1 hy with hy | hy
    · exact ih y hy
    · exact esc_range _ (byt_range s k).1 (byt_range s k).2 y hy
/-- A text, quoted. -/
def quT (s : ByteArray) : ByteArray := mkB (quL s s.size ++ [34])
theorem qu_end (s : ByteArray) : ∀ y ∈ quL s s.size ++ [34], 0 ≤ y ∧ y < 256 := by
  intro y hy
  rcases List.mem_append.1 hy with hy | hy
  · exact quL_range s _ y hy
  · simp at hy; omega
theorem infoB : ∃ i, Tryd.prog.info? 5 = some i ∧ i.zero = some (.int .u8 0) ∧ i.size = 1 ∧ i.bytes = 1 := by
  have h := Tryd.typeInfo5 default
  unfold typeInfo at h
  cases hq : Tryd.prog.info? 5 with
  | none => simp [hq] at h
  | some i =>
    simp [hq] at h
    exact ⟨i, rfl, by rw [h]; rfl, by rw [h]; rfl, by rw [h]; rfl⟩
def BO (w0 w : World) (v : Value) (L : List Int) : Prop := w.ownsRow w0.heap.size 5 1 v L.length (L.map (Value.int .u8)) ∧ Below w0.heap.size w0 w
theorem BO.nil (w : World) : BO w w (.slice none 0 0) [] := ⟨World.ownsRow_nil _ _ _ _, Below.refl _ _⟩
theorem BO.alloc {w0 w : World} {v : Value} {L : List Int} (h : BO w0 w v L) (o : Obj) : BO w0 (w.alloc o) v L := ⟨h.1.alloc o, h.2.alloc h.2.size o⟩
theorem BO.drew {w0 w : World} {v : Value} {L : List Int} (h : BO w0 w v L) : BO w0 w.drew v L := ⟨h.1.drew, h.2.drew⟩
theorem BO.slice {w0 w : World} {v : Value} {L : List Int} (h : BO w0 w v L) : ∃ ad c, v = .slice ad L.length c := by
  rcases h.1.2 with ⟨rfl, hn⟩ | ⟨g, cap, cur, rfl, _⟩
  · exact ⟨none, 0, by rw [hn]⟩
  · exact ⟨_, _, rfl⟩
theorem news_bytes {w : World} {b : Nat} {M : List Int} (hb : w.heap[b]? = some (.cells (M.map (Value.int .u8)).toArray 5)) : ∀ j u, (M.map (Value.int .u8))[j]? = some u → w.cell? ((⟨b, 0, none⟩ : Addr).add j) = some u := fun j u hj => by
  rw [Addr.add_lit]
  simp [World.cell?, hb]
  simpa using hj
theorem bo_run {w0 w : World} {v : Value} {L M : List Int} {b : Nat} (ty : TypeId) (hO : BO w0 w v L) (hb : w.heap[b]? = some (.cells (M.map (Value.int .u8)).toArray 5)) (hL : L.length + M.length ≤ 1000000000) :
    ∃ v' w', (Builtin.append_ #[53, 53] ty #[v, .slice (some ⟨b, 0, none⟩) M.length M.length]).run Tryd.prog w = .ok v' w' ∧ BO w0 w' v' (L ++ M) := by
  obtain ⟨i, h2, h3, h4, h5⟩ := infoB
  obtain ⟨v', w', hrun, r1, r2, _⟩ := run_append_own (P := Tryd.prog) (w := w) w0.heap.size 53 ty 5 i _ 1 1 Tryd.underlying53 h2 h3 h4 h5 rfl (by decide) v L.length (L.map (Value.int .u8)) hO.1 ⟨b, 0, none⟩ M.length M.length (M.map (Value.int .u8)) (by simp) (news_bytes hb) (by intro u hu; obtain ⟨x, _, rfl⟩ := List.mem_map.1 hu; rfl) (by unfold maxLen; omega) (by omega) hO.2.size
  refine ⟨v', w', hrun, ?_, hO.2.grown r2 hO.2.size (fun k hk => ?_)⟩
  · rw [List.length_append, List.map_append]; exact r1
  · rcases hO.1.2 with ⟨rfl, _⟩ | ⟨g, cap, cur, rfl, hg, _⟩
    · cases hk
    · simp only [Value.ownBlock, Option.some.injEq] at hk
      subst hk; exact hg
theorem app_bytes {ops : Array Oper} {rest : List Oper} {o : Oper} {a : Act} {w0 w : World} {Q : Exit → Act → World → Prop} (hgd : o.guard = none) (s x : Operand)
    (ho : o.op = .call { callee := .builtin .append, args := #[s, x], argTypes := #[53, 53] }) (v : Value) (L M : List Int) (b : Nat) (hs : a.eval s = v) (hx : a.eval x = .slice (some ⟨b, 0, none⟩) M.length M.length) (hO : BO w0 w v L) (hb : w.heap[b]? = some (.cells (M.map (Value.int .u8)).toArray 5)) (hL : L.length + M.length ≤ 1000000000)
    (h : ∀ v' w', BO w0 w' v' (L ++ M) → wpList Tryd.prog ops Q rest (a.put o.dst v') w') : wpList Tryd.prog ops Q (o :: rest) a w := by
  obtain ⟨v', w', hrun, hB⟩ := bo_run o.type hO hb hL
  refine wpList_plain hgd fun K hK => ?_
  unfold Oper.wp
  simp [execOp, ho, resolve, invoke, builtin, hs, hx, hrun, Result.andThen]
  exact hK _ _ (h v' w' hB)
theorem step_bytes {ops : Array Oper} {o : Oper} {a : Act} {w0 w : World} {K : Act → World → Prop} {Q : Exit → Act → World → Prop} {E : Prop} (hgd : o.guard = none) (s x : Operand)
    (ho : o.op = .call { callee := .builtin .append, args := #[s, x], argTypes := #[53, 53] }) (v : Value) (L M : List Int) (b : Nat) (hs : a.eval s = v) (hx : a.eval x = .slice (some ⟨b, 0, none⟩) M.length M.length) (hO : BO w0 w v L) (hb : w.heap[b]? = some (.cells (M.map (Value.int .u8)).toArray 5)) (hL : L.length + M.length ≤ 1000000000)
    (hK : ∀ v' w', BO w0 w' v' (L ++ M) → K (a.put o.dst v') w') : if Region.wanted o (yielded ops a.tmps) = true then Oper.wp Tryd.prog o a w K Q else E := by
  have hw : Region.wanted o (yielded ops a.tmps) = true := by simp [Region.wanted, hgd]
  rw [if_pos hw]
  obtain ⟨v', w', hrun, hB⟩ := bo_run o.type hO hb hL
  unfold Oper.wp
  simp [execOp, ho, resolve, invoke, builtin, hs, hx, hrun, Result.andThen]
  exact hK v' w' hB
end Go.Proofs.YtpiaofpglagfmaaDoor
/- Layer 31, ServeWrites: a text quoted, by the program and by the document. -/
namespace Go.Proofs.YtpiaofpglagfmaaDoor
open Go.RowKit
set_option maxRecDepth 20000 in
theorem short_any (x : Int) (w : World) : Calls Tryd.prog 37 #[.int .u8 x] w fun e w' => e = .returned (.int .u8 (shortI x)) ∧ w' = w := by
  by_cases h1 : x = 34
  · subst h1; go_enter Tryd.func37, Tryd.ntmps37; go_wp2_with fail; go_ret; exact ⟨rfl, rfl⟩
  by_cases h2 : x = 92
  · subst h2; go_enter Tryd.func37, Tryd.ntmps37; go_wp2_with fail; go_ret; exact ⟨rfl, rfl⟩
  by_cases h3 : x = 8
  · subst h3; go_enter Tryd.func37, Tryd.ntmps37; go_wp2_with fail; go_ret; exact ⟨rfl, rfl⟩
  by_cases h4 : x = 9
  · subst h4; go_enter Tryd.func37, Tryd.ntmps37; go_wp2_with fail; go_ret; exact ⟨rfl, rfl⟩
  by_cases h5 : x = 10
  · subst h5; go_enter Tryd.func37, Tryd.ntmps37; go_wp2_with fail; go_ret; exact ⟨rfl, rfl⟩
  by_cases h6 : x = 12
  · subst h6; go_enter Tryd.func37, Tryd.ntmps37; go_wp2_with fail; go_ret; exact ⟨rfl, rfl⟩
  by_cases h7 : x = 13
  · subst h7; go_enter Tryd.func37, Tryd.ntmps37; go_wp2_with fail; go_ret; exact ⟨rfl, rfl⟩
  have HX : Hid (shortI x = 0) := Lib.hid (by unfold shortI; rw [if_neg h1, if_neg h2, if_neg h3, if_neg h4, if_neg h5, if_neg h6, if_neg h7])
  have g1 : (x == 34) = false := by rw [beq_eq_false_iff_ne]; exact h1
  have g2 : (x == 92) = false := by rw [beq_eq_false_iff_ne]; exact h2
  have g3 : (x == 8) = false := by rw [beq_eq_false_iff_ne]; exact h3
  have g4 : (x == 9) = false := by rw [beq_eq_false_iff_ne]; exact h4
  have g5 : (x == 10) = false := by rw [beq_eq_false_iff_ne]; exact h5
  have g6 : (x == 12) = false := by rw [beq_eq_false_iff_ne]; exact h6
  have g7 : (x == 13) = false := by rw [beq_eq_false_iff_ne]; exact h7
  clear h1 h2 h3 h4 h5 h6 h7
  go_enter Tryd.func37, Tryd.ntmps37
  go_wp2_with fail
  go_ret
  exact ⟨by rw [HX.out]; rfl, rfl⟩
theorem byt_nat {s : ByteArray} {i : Nat} (h : i < s.size) : byt s i = (s[i].toNat : Int) := by unfold byt; rw [dif_pos h]
theorem esc_short {x : Int} (h : shortI x ≠ 0) : escI x = [92, shortI x] := by unfold escI; rw [if_pos h]
theorem esc_low {x : Int} (h : shortI x = 0) (h2 : x < 32) : escI x = [92, 117, 48, 48, hexI (x / 16), hexI (x % 16)] := by unfold escI; rw [if_neg (by simpa using h), if_pos h2]
theorem esc_own {x : Int} (h : shortI x = 0) (h2 : ¬ x < 32) : escI x = [x] := by unfold escI; rw [if_neg (by simpa using h), if_neg h2]
theorem andF (x : Int) (h0 : 0 ≤ x) (h1 : x < 256) : bits BinOp.and IntKind.u8 x 15 = x % 16 := by
  have h : ∀ n : Fin 256, bits BinOp.and IntKind.u8 (n.val : Int) 15 = (n.val : Int) % 16 := by decide +kernel
  have := h ⟨x.toNat, by omega⟩
  rw [show ((⟨x.toNat, by omega⟩ : Fin 256).val : Int) = x by simp; omega] at this
  exact this
theorem hexL_at (n : Int) (h0 : 0 ≤ n) (h : n < 16) (w : World) (k : IntKind) : (Instr.index 9 (.string ⟨#[48, 49, 50, 51, 52, 53, 54, 55, 56, 57, 97, 98, 99, 100, 101, 102]⟩) (.int k n)).run Tryd.prog w = .ok (.int .u8 (hexI n)) w := by
  rw [run_index_string _ _ _ _ _ Tryd.underlying9]
  rcases (show n = 0 ∨ n = 1 ∨ n = 2 ∨ n = 3 ∨ n = 4 ∨ n = 5 ∨ n = 6 ∨ n = 7 ∨ n = 8 ∨ n = 9 ∨ n = 10 ∨ n = 11 ∨ n = 12 ∨ n = 13 ∨ n = 14 ∨ n = 15 by omega) with rfl | rfl | rfl | rfl | rfl | rfl | rfl | rfl | rfl | rfl | rfl | rfl | rfl | rfl | rfl | rfl <;> rfl
set_option maxRecDepth 20000 in
set_option maxHeartbeats 2000000 in
theorem jquote_any (s : ByteArray) (w : World) (hs : s.size ≤ 100000000) : Calls Tryd.prog 24 #[.slice none 0 0, .string s] w fun e w' => ∃ v, e = .returned v ∧ BO w w' v (quL s s.size ++ [34]) := by
  have hs1 : (s.size : Int) ≤ 100000000 := by omega
  go_enter Tryd.func24, Tryd.ntmps24
  go_wp2_with (at_builtin; refine app_bytes rfl (.tmp 8) (.tmp 9) rfl (.slice none 0 0) [] [34] w.heap.size (by simp [Act.eval, Act.put]) (by simp [Act.eval, Act.put]) ((BO.nil w).alloc _) (heap_alloc_new _ _) (by simp) ?_; intro v1 w1 b1; have B1 := Lib.hid b1; clear b1)
  go_loopw [0, 5, 6, 7] (fun v0 v5 _ _ wr => ∃ (i : Nat) (v : Value), i ≤ s.size ∧ v5 = .int .i64 i ∧ v = v0 ∧ Hid (BO w wr v (quL s i))) (fun _ v5 _ _ _ => s.size - (intOf v5).toNat)
  case atStart => exact ⟨0, _, Nat.zero_le _, rfl, rfl, B1⟩
  case round =>
    obtain ⟨i, v, hi, rfl, rfl, HB⟩ := hrel
    have HL := Lib.hid (quL_len s i)
    by_cases hlt : i < s.size
    · have hlt' : (i : Int) < s.size := by omega
      have hge : (0 : Int) ≤ i := by omega
      have HQ : Hid (quL s (i + 1) = quL s i ++ escI (byt s i)) := Lib.hid rfl
      rw [byt_nat hlt] at HQ
      have hx1 := UInt8.toNat_lt s[i]
      go_wp2_with fail
      obtain ⟨x, hx⟩ : ∃ x : Int, x = (s[i].toNat : Int) := ⟨_, rfl⟩
      rw [← hx] at HQ ⊢
      have hx0 : 0 ≤ x := by omega
      have hx2 : x < 256 := by omega
      clear hx hx1
      refine (short_any x wr).mono ?_
      rintro e w2 ⟨rfl, h2⟩
      obtain rfl : wr = w2 := h2.symm
      obtain ⟨y, hy⟩ : ∃ y, y = shortI x := ⟨_, rfl⟩
      rw [← hy]
      by_cases hy0 : y = 0
      · subst hy0
        by_cases hlo : x < 32
        · rw [esc_low hy.symm hlo] at HQ
          clear hy
          have HBD := Lib.hid HB.out.drew
          have i1 := fun W => hexL_at (x / 16) (by omega) (by omega) W .u8
          have i2 := fun W => hexL_at (x % 16) (by omega) (by omega) W .u8
          have i3 := andF x hx0 hx2
          go_wp2_with fail
          go_region_law (first
            | (refine step_bytes rfl (.tmp 36) (.tmp 43) rfl v (quL s i) [92, 117, 48, 48, hexI (x / 16), hexI (x % 16)] wr.heap.size (by simp [Act.eval, Act.put]) (by simp [Act.eval, Act.put]) (HBD.out.alloc _) (heap_alloc_new _ _) (by have := HL.out; simp; omega) ?_; intro v2 w2 b2; rw [← HQ.out] at b2; have B2 := Lib.hid b2; clear b2))
          all_goals
            go_wp2_with fail
            go_roundw
            case rel => exact ⟨i + 1, _, by omega, by go_num, rfl, B2⟩
            case measure => simp [intOf]; omega
        · rw [esc_own hy.symm hlo] at HQ
          clear hy
          go_wp2_with (at_builtin; refine app_bytes rfl (.tmp 22) (.tmp 24) rfl v (quL s i) [x] wr.heap.size (by simp [Act.eval, Act.put]) (by simp [Act.eval, Act.put]) (HB.out.alloc _) (heap_alloc_new _ _) (by have := HL.out; simp; omega) ?_; intro v2 w2 b2; rw [← HQ.out] at b2; have B2 := Lib.hid b2; clear b2)
          go_roundw
          case rel => exact ⟨i + 1, _, by omega, by go_num, rfl, B2⟩
          case measure => simp [intOf]; omega
      · rw [esc_short (by rw [← hy]; exact hy0), ← hy] at HQ
        have g0 : (y != 0) = true := by simpa using hy0
        clear hy hy0
        go_wp2_with (at_builtin; refine app_bytes rfl (.tmp 29) (.tmp 31) rfl v (quL s i) [92, y] wr.heap.size (by simp [Act.eval, Act.put]) (by simp [Act.eval, Act.put]) (HB.out.alloc _) (heap_alloc_new _ _) (by have := HL.out; simp; omega) ?_; intro v2 w2 b2; rw [← HQ.out] at b2; have B2 := Lib.hid b2; clear b2)
        go_roundw
        case rel => exact ⟨i + 1, _, by omega, by go_num, rfl, B2⟩
        case measure => simp [intOf]; omega
    · have him : i = s.size := by omega
      subst him
      have hz : ¬ ((s.size : Int) < (s.size : Int)) := by omega
      go_wp2_with (at_builtin; refine app_bytes rfl (.tmp 45) (.tmp 46) rfl v (quL s s.size) [34] wr.heap.size (by simp [Act.eval, Act.put]) (by simp [Act.eval, Act.put]) (HB.out.alloc _) (heap_alloc_new _ _) (by have := HL.out; simp; omega) ?_; intro v2 w2 b2; have B2 := Lib.hid b2; clear b2)
      go_ret
      exact ⟨_, rfl, B2.out⟩
end Go.Proofs.YtpiaofpglagfmaaDoor
/- Layer 31, ServeWrites: the document's Quoted. -/
namespace Go.Proofs.YtpiaofpglagfmaaDoor
open Go.RowKit
theorem bo_lit (w : World) (x : Int) : BO w (w.alloc (.cells #[.int .u8 x] 5)) (.slice (some ⟨w.heap.size, 0, none⟩) 1 1) [x] :=
  ⟨⟨rfl, .inr ⟨w.heap.size, 1, #[.int .u8 x], rfl, Nat.le_refl _, heap_alloc_new w _, Nat.le_refl _, by unfold maxLen; omega, rfl, rfl⟩⟩, (Below.refl _ _).alloc (Nat.le_refl _) _⟩
theorem short_no {x : Int} (h1 : x ≠ 34) (h2 : x ≠ 92) (h3 : x ≠ 8) (h4 : x ≠ 9) (h5 : x ≠ 10) (h6 : x ≠ 12) (h7 : x ≠ 13) : shortI x = 0 := by unfold shortI; rw [if_neg h1, if_neg h2, if_neg h3, if_neg h4, if_neg h5, if_neg h6, if_neg h7]
end Go.Proofs.YtpiaofpglagfmaaDoor
/- Layer 31, ServeWrites: a text quoted, what is no text as the empty one. -/
namespace Go.Proofs.YtpiaofpglagfmaaDoor
open Go.RowKit
def sqT (s : ByteArray) : ByteArray := if isTx s then quT s else ⟨#[34, 34]⟩
theorem ck_small {s : ByteArray} (h : s.size ≤ 16384) : ckE s = if isTx s = true then 0 else 10 := by unfold ckE; rw [if_neg (by omega)]
theorem quT_nil : quT ⟨#[]⟩ = ⟨#[34, 34]⟩ := by rfl
set_option maxRecDepth 20000 in
theorem jQuote_any (s : ByteArray) (w : World) (hs : s.size ≤ 16384) : Calls Tryd.prog 14 #[.string s] w fun e w' => e = .returned (.tuple #[.string (if isTx s then quT s else ⟨#[]⟩), .int .i64 (ckE s)]) ∧ Below w.heap.size w w' := by
  have HC := Lib.hid (check_any s w (by unfold maxLen; omega))
  have HJ := Lib.hid (fun W => jquote_any s W (by omega))
  obtain ⟨b, hb⟩ : ∃ b, b = isTx s := ⟨_, rfl⟩
  have HE : Hid (ckE s = if b = true then 0 else 10) := Lib.hid (by rw [hb]; exact ck_small hs)
  rw [HE.out] at HC ⊢
  rw [← hb]
  clear hb HE
  cases b with
  | false =>
    go_enter Tryd.func14, Tryd.ntmps14
    go_wp2_with fail
    refine HC.out.mono ?_
    rintro e w1 ⟨rfl, b1⟩
    have B1 := Lib.hid b1
    clear b1
    go_wp2_with fail
    go_ret2
    exact ⟨rfl, B1.out⟩
  | true =>
    go_enter Tryd.func14, Tryd.ntmps14
    go_wp2_with fail
    refine HC.out.mono ?_
    rintro e w1 ⟨rfl, b1⟩
    have B1 := Lib.hid b1
    clear b1
    go_wp2_with fail
    refine (HJ.out w1).mono ?_
    rintro e w2 ⟨v, rfl, bo⟩
    have hcv := conv_own bo.1 (qu_end s)
    have B2 := Lib.hid (B1.out.trans (bo.2.mono B1.out.size))
    clear bo HJ HC
    go_wp2_with fail
    go_ret2
    exact ⟨rfl, B2.out⟩
end Go.Proofs.YtpiaofpglagfmaaDoor
