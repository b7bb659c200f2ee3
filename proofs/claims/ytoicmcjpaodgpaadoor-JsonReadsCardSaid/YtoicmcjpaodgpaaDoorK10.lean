import Derived.Test.YtoicmcjpaodgpaaDoorK9
import Derived.Defers
import Derived.Recover
import Derived.Test.YtoicmcjpaodgpaaDoorK5
import Derived.Test.YtoicmcjpaodgpaaDoorK6
/- Layer 4, Read: a value, the walk. -/
namespace Go.Proofs.YtoicmcjpaodgpaaDoor
open Go.RowKit Go.Maps
set_option maxRecDepth 20000 in
set_option maxHeartbeats 8000000 in
theorem value_step {s : ByteArray} {f : Nat} (hV : 1 ≤ f → VC s f) (hs : s.size ≤ 100000) : VC s (f + 1) := by
  intro p i op v L nm w hop h hl hi hL
  rw [valM_eq]
  have HP := Lib.hid (peek_any w h (by omega) (by omega))
  have HBG := Lib.hid (fun W (r : RdB W p s i op v L) => begin_any nm W r (by omega) (by omega) (by omega) hL)
  have HGO := Lib.hid (fun x => begM_ok (s := s) (nm := nm) (op := op) (i := i) (L := L) (x := x))
  have HK1 := Lib.hid (fun (hb : byt s i = 123) (h1 : op ≠ 16) (h2 : L.length < 2048) => kc_obj (p := p) (nm := nm) hV hop h1 h2 hs hb)
  have HK2 := Lib.hid (fun (hb : byt s i = 91) (h1 : op ≠ 16) (h2 : L.length < 2048) => kc_lst (p := p) (nm := nm) hV hop h1 h2 hs hb)
  have HK3 := Lib.hid (fun (hb : byt s i = 34) (h2 : L.length < 2048) => kc_str (p := p) (op := op) (f := f) (nm := nm) h2 hs hi hb)
  have HK4 := Lib.hid (fun (hb : byt s i = 116) => kc_true (p := p) (op := op) (L := L) (f := f) (nm := nm) hs hi hb)
  have HK5 := Lib.hid (fun (hb : byt s i = 102) => kc_false (p := p) (op := op) (L := L) (f := f) (nm := nm) hs hi hb)
  have HK6 := Lib.hid (fun (hb : byt s i = 110) => kc_null (p := p) (op := op) (L := L) (f := f) (nm := nm) hs hi hb)
  have HK7 := Lib.hid (fun (hb : byt s i = 45 ∨ (48 ≤ byt s i ∧ byt s i ≤ 57)) (h2 : L.length < 2048) => kc_num (p := p) (op := op) (f := f) (nm := nm) h2 hs hi hb)
  obtain ⟨R, hR⟩ : ∃ R, R = bodyM s f nm op i L := ⟨_, rfl⟩
  rw [← hR] at HK1 HK2 HK3 HK4 HK5 HK6 HK7 ⊢
  obtain ⟨G, hG⟩ : ∃ G, G = begM s nm op i L := ⟨_, rfl⟩
  rw [← hG] at HBG HGO ⊢
  obtain ⟨b, hb⟩ : ∃ b, b = byt s i := ⟨_, rfl⟩
  rw [← hb] at HP HGO HK1 HK2 HK3 HK4 HK5 HK6 HK7 ⊢
  obtain ⟨Z, hZ⟩ : ∃ Z, Z = if isSt b = false then Rs.bad 40 else G.bind fun _ => R := ⟨_, rfl⟩
  rw [← hZ]
  have HF := Lib.hid h.far
  have HLT := Lib.hid h.lt
  have HL := Lib.hid hl
  have H := Lib.hid h
  have hL0 : L.length ≤ 2048 := hL
  clear hR hG hb hV hop hs hi hL hl h
  by_cases k123 : b = 123
  · subst k123
    have HGX := Lib.hid (fun x (e : G = .ok x) => have h := HGO.out x e; And.intro h.1 (And.intro h.2.1 (fun (e16 : op = 16) => h.2.2 ⟨.inl rfl, e16⟩)))
    have HKX := Lib.hid (HK1.out rfl)
    clear HGO HK1 HK2 HK3 HK4 HK5 HK6 HK7
    have HZ : Hid (Z = G.bind fun _ => R) := Lib.hid (by rw [hZ, if_neg (by decide)])
    clear hZ
    go_enter Tryd.func33, Tryd.ntmps33
    go_wp2_with (go_at_call 51; refine HP.out.mono ?_; rintro e w1 ⟨rfl, d⟩; have R1 := Lib.hid (H.out.dr d); clear d)
    have HB1 := Lib.hid (HBG.out w1 R1.out.1)
    cases G with
    | bad m =>
      have HZ2 : Hid (Z = .bad m) := Lib.hid HZ.out
      have HB2 : Hid (Calls Tryd.prog 57 #[.pointer (some ⟨p, 0, none⟩), .string nm] w1 fun e w' => e = thr m ∧ Below p w1 w') := Lib.hid HB1.out
      refine HB2.out.mono ?_
      rintro e w8 ⟨he, b8⟩
      unfold thr at he
      subst he
      (try go_wp2_with fail)
      rw [HZ2.out]
      simp only [bodyPost]
      exact ⟨trivial, rfl, (R1.out.2.below HF.out (Nat.le_of_lt HLT.out)).trans b8⟩
    | ok x =>
      obtain ⟨rfl, h4, h16⟩ := HGX.out x rfl
      have HZ2 : Hid (Z = R) := Lib.hid HZ.out
      have HC := Lib.hid (HKX.out h16 (by omega))
      have HB2 : Hid (Calls Tryd.prog 57 #[.pointer (some ⟨p, 0, none⟩), .string nm] w1 fun e w' => e = .returned (.tuple #[]) ∧ ∃ v', RdB w' p s i op v' (L ++ [(⟨0, nm, ⟨#[]⟩, 0, 0⟩ : CR)]) ∧ Fr p v v' w1 w') := Lib.hid HB1.out
      clear h16
      refine HB2.out.mono ?_
      rintro e w2 ⟨rfl, v2, r2, f2⟩
      obtain ⟨q, cap, rfl, hpq, _⟩ := r2.addr (by simp)
      have c3 := r2.c3
      have HFR := Lib.hid (R1.out.2.trans f2)
      have HFA := Lib.hid r2.far
      have HPL := Lib.hid r2.lt
      have HC2 := Lib.hid (HC.out w2 q cap hpq r2 (HL.out.fr HFR.out (Nat.le_of_lt HLT.out) HF.out))
      clear r2 f2 HC HB1 HB2 HZ
      go_wp2_with fail
      refine HC2.out.mono ?_
      intro e w3 h3
      cases R with
      | bad m =>
        obtain ⟨he, b3⟩ : e = thr m ∧ Below p w2 w3 := h3
        unfold thr at he
        subst he
        (try go_wp2_with fail)
        rw [HZ2.out]
        simp only [bodyPost]
        exact ⟨trivial, rfl, (HFR.out.below HF.out (Nat.le_of_lt HLT.out)).trans b3⟩
      | ok y =>
        obtain ⟨j, M⟩ := y
        obtain ⟨rfl, v3, r3, f3⟩ : e = .returned (.tuple #[]) ∧ ∃ v', RdB w3 p s j op v' M ∧ Fr p _ v' w2 w3 := h3
        have R3 := Lib.hid (And.intro r3 (HFR.out.trans f3))
        clear r3 f3
        go_wp2_with fail
        go_end0
        rw [HZ2.out]
        exact ⟨rfl, _, R3.out.1, R3.out.2⟩
  by_cases k91 : b = 91
  · subst k91
    have HGX := Lib.hid (fun x (e : G = .ok x) => have h := HGO.out x e; And.intro h.1 (And.intro h.2.1 (fun (e16 : op = 16) => h.2.2 ⟨.inr rfl, e16⟩)))
    have HKX := Lib.hid (HK2.out rfl)
    clear HGO HK1 HK2 HK3 HK4 HK5 HK6 HK7
    have HZ : Hid (Z = G.bind fun _ => R) := Lib.hid (by rw [hZ, if_neg (by decide)])
    clear hZ
    go_enter Tryd.func33, Tryd.ntmps33
    go_wp2_with (go_at_call 51; refine HP.out.mono ?_; rintro e w1 ⟨rfl, d⟩; have R1 := Lib.hid (H.out.dr d); clear d)
    have HB1 := Lib.hid (HBG.out w1 R1.out.1)
    cases G with
    | bad m =>
      have HZ2 : Hid (Z = .bad m) := Lib.hid HZ.out
      have HB2 : Hid (Calls Tryd.prog 57 #[.pointer (some ⟨p, 0, none⟩), .string nm] w1 fun e w' => e = thr m ∧ Below p w1 w') := Lib.hid HB1.out
      refine HB2.out.mono ?_
      rintro e w8 ⟨he, b8⟩
      unfold thr at he
      subst he
      (try go_wp2_with fail)
      rw [HZ2.out]
      simp only [bodyPost]
      exact ⟨trivial, rfl, (R1.out.2.below HF.out (Nat.le_of_lt HLT.out)).trans b8⟩
    | ok x =>
      obtain ⟨rfl, h4, h16⟩ := HGX.out x rfl
      have HZ2 : Hid (Z = R) := Lib.hid HZ.out
      have HC := Lib.hid (HKX.out h16 (by omega))
      have HB2 : Hid (Calls Tryd.prog 57 #[.pointer (some ⟨p, 0, none⟩), .string nm] w1 fun e w' => e = .returned (.tuple #[]) ∧ ∃ v', RdB w' p s i op v' (L ++ [(⟨0, nm, ⟨#[]⟩, 0, 0⟩ : CR)]) ∧ Fr p v v' w1 w') := Lib.hid HB1.out
      clear h16
      refine HB2.out.mono ?_
      rintro e w2 ⟨rfl, v2, r2, f2⟩
      obtain ⟨q, cap, rfl, hpq, _⟩ := r2.addr (by simp)
      have c3 := r2.c3
      have HFR := Lib.hid (R1.out.2.trans f2)
      have HFA := Lib.hid r2.far
      have HPL := Lib.hid r2.lt
      have HC2 := Lib.hid (HC.out w2 q cap hpq r2 (HL.out.fr HFR.out (Nat.le_of_lt HLT.out) HF.out))
      clear r2 f2 HC HB1 HB2 HZ
      go_wp2_with fail
      refine HC2.out.mono ?_
      intro e w3 h3
      cases R with
      | bad m =>
        obtain ⟨he, b3⟩ : e = thr m ∧ Below p w2 w3 := h3
        unfold thr at he
        subst he
        (try go_wp2_with fail)
        rw [HZ2.out]
        simp only [bodyPost]
        exact ⟨trivial, rfl, (HFR.out.below HF.out (Nat.le_of_lt HLT.out)).trans b3⟩
      | ok y =>
        obtain ⟨j, M⟩ := y
        obtain ⟨rfl, v3, r3, f3⟩ : e = .returned (.tuple #[]) ∧ ∃ v', RdB w3 p s j op v' M ∧ Fr p _ v' w2 w3 := h3
        have R3 := Lib.hid (And.intro r3 (HFR.out.trans f3))
        clear r3 f3
        go_wp2_with fail
        go_end0
        rw [HZ2.out]
        exact ⟨rfl, _, R3.out.1, R3.out.2⟩
  by_cases k34 : b = 34
  · subst k34
    have HGX := Lib.hid (fun x (e : G = .ok x) => have h := HGO.out x e; And.intro h.1 (And.intro h.2.1 trivial))
    have HKX := Lib.hid (HK3.out rfl)
    clear HGO HK1 HK2 HK3 HK4 HK5 HK6 HK7
    have HZ : Hid (Z = G.bind fun _ => R) := Lib.hid (by rw [hZ, if_neg (by decide)])
    clear hZ
    go_enter Tryd.func33, Tryd.ntmps33
    go_wp2_with (go_at_call 51; refine HP.out.mono ?_; rintro e w1 ⟨rfl, d⟩; have R1 := Lib.hid (H.out.dr d); clear d)
    have HB1 := Lib.hid (HBG.out w1 R1.out.1)
    cases G with
    | bad m =>
      have HZ2 : Hid (Z = .bad m) := Lib.hid HZ.out
      have HB2 : Hid (Calls Tryd.prog 57 #[.pointer (some ⟨p, 0, none⟩), .string nm] w1 fun e w' => e = thr m ∧ Below p w1 w') := Lib.hid HB1.out
      refine HB2.out.mono ?_
      rintro e w8 ⟨he, b8⟩
      unfold thr at he
      subst he
      (try go_wp2_with fail)
      rw [HZ2.out]
      simp only [bodyPost]
      exact ⟨trivial, rfl, (R1.out.2.below HF.out (Nat.le_of_lt HLT.out)).trans b8⟩
    | ok x =>
      obtain ⟨rfl, h4, h16⟩ := HGX.out x rfl
      have HZ2 : Hid (Z = R) := Lib.hid HZ.out
      have HC := Lib.hid (HKX.out (by omega))
      have HB2 : Hid (Calls Tryd.prog 57 #[.pointer (some ⟨p, 0, none⟩), .string nm] w1 fun e w' => e = .returned (.tuple #[]) ∧ ∃ v', RdB w' p s i op v' (L ++ [(⟨0, nm, ⟨#[]⟩, 0, 0⟩ : CR)]) ∧ Fr p v v' w1 w') := Lib.hid HB1.out
      clear h16
      refine HB2.out.mono ?_
      rintro e w2 ⟨rfl, v2, r2, f2⟩
      obtain ⟨q, cap, rfl, hpq, _⟩ := r2.addr (by simp)
      have c3 := r2.c3
      have HFR := Lib.hid (R1.out.2.trans f2)
      have HFA := Lib.hid r2.far
      have HPL := Lib.hid r2.lt
      have HC2 := Lib.hid (HC.out w2 q cap hpq r2 (HL.out.fr HFR.out (Nat.le_of_lt HLT.out) HF.out))
      clear r2 f2 HC HB1 HB2 HZ
      go_wp2_with fail
      refine HC2.out.mono ?_
      intro e w3 h3
      cases R with
      | bad m =>
        obtain ⟨he, b3⟩ : e = thr m ∧ Below p w2 w3 := h3
        unfold thr at he
        subst he
        (try go_wp2_with fail)
        rw [HZ2.out]
        simp only [bodyPost]
        exact ⟨trivial, rfl, (HFR.out.below HF.out (Nat.le_of_lt HLT.out)).trans b3⟩
      | ok y =>
        obtain ⟨j, M⟩ := y
        obtain ⟨rfl, v3, r3, f3⟩ : e = .returned (.tuple #[]) ∧ ∃ v', RdB w3 p s j op v' M ∧ Fr p _ v' w2 w3 := h3
        have R3 := Lib.hid (And.intro r3 (HFR.out.trans f3))
        clear r3 f3
        go_wp2_with fail
        go_end0
        rw [HZ2.out]
        exact ⟨rfl, _, R3.out.1, R3.out.2⟩
  by_cases k116 : b = 116
  · subst k116
    have HGX := Lib.hid (fun x (e : G = .ok x) => have h := HGO.out x e; And.intro h.1 (And.intro h.2.1 trivial))
    have HKX := Lib.hid (HK4.out rfl)
    clear HGO HK1 HK2 HK3 HK4 HK5 HK6 HK7
    have HZ : Hid (Z = G.bind fun _ => R) := Lib.hid (by rw [hZ, if_neg (by decide)])
    clear hZ
    go_enter Tryd.func33, Tryd.ntmps33
    go_wp2_with (go_at_call 51; refine HP.out.mono ?_; rintro e w1 ⟨rfl, d⟩; have R1 := Lib.hid (H.out.dr d); clear d)
    have HB1 := Lib.hid (HBG.out w1 R1.out.1)
    cases G with
    | bad m =>
      have HZ2 : Hid (Z = .bad m) := Lib.hid HZ.out
      have HB2 : Hid (Calls Tryd.prog 57 #[.pointer (some ⟨p, 0, none⟩), .string nm] w1 fun e w' => e = thr m ∧ Below p w1 w') := Lib.hid HB1.out
      refine HB2.out.mono ?_
      rintro e w8 ⟨he, b8⟩
      unfold thr at he
      subst he
      (try go_wp2_with fail)
      rw [HZ2.out]
      simp only [bodyPost]
      exact ⟨trivial, rfl, (R1.out.2.below HF.out (Nat.le_of_lt HLT.out)).trans b8⟩
    | ok x =>
      obtain ⟨rfl, h4, h16⟩ := HGX.out x rfl
      have HZ2 : Hid (Z = R) := Lib.hid HZ.out
      have HC := Lib.hid (HKX.out )
      have HB2 : Hid (Calls Tryd.prog 57 #[.pointer (some ⟨p, 0, none⟩), .string nm] w1 fun e w' => e = .returned (.tuple #[]) ∧ ∃ v', RdB w' p s i op v' (L ++ [(⟨0, nm, ⟨#[]⟩, 0, 0⟩ : CR)]) ∧ Fr p v v' w1 w') := Lib.hid HB1.out
      clear h16
      refine HB2.out.mono ?_
      rintro e w2 ⟨rfl, v2, r2, f2⟩
      obtain ⟨q, cap, rfl, hpq, _⟩ := r2.addr (by simp)
      have c3 := r2.c3
      have HFR := Lib.hid (R1.out.2.trans f2)
      have HFA := Lib.hid r2.far
      have HPL := Lib.hid r2.lt
      have HC2 := Lib.hid (HC.out w2 q cap hpq r2 (HL.out.fr HFR.out (Nat.le_of_lt HLT.out) HF.out))
      clear r2 f2 HC HB1 HB2 HZ
      go_wp2_with fail
      refine HC2.out.mono ?_
      intro e w3 h3
      cases R with
      | bad m =>
        obtain ⟨he, b3⟩ : e = thr m ∧ Below p w2 w3 := h3
        unfold thr at he
        subst he
        (try go_wp2_with fail)
        rw [HZ2.out]
        simp only [bodyPost]
        exact ⟨trivial, rfl, (HFR.out.below HF.out (Nat.le_of_lt HLT.out)).trans b3⟩
      | ok y =>
        obtain ⟨j, M⟩ := y
        obtain ⟨rfl, v3, r3, f3⟩ : e = .returned (.tuple #[]) ∧ ∃ v', RdB w3 p s j op v' M ∧ Fr p _ v' w2 w3 := h3
        have R3 := Lib.hid (And.intro r3 (HFR.out.trans f3))
        clear r3 f3
        go_wp2_with fail
        go_end0
        rw [HZ2.out]
        exact ⟨rfl, _, R3.out.1, R3.out.2⟩
  by_cases k102 : b = 102
  · subst k102
    have HGX := Lib.hid (fun x (e : G = .ok x) => have h := HGO.out x e; And.intro h.1 (And.intro h.2.1 trivial))
    have HKX := Lib.hid (HK5.out rfl)
    clear HGO HK1 HK2 HK3 HK4 HK5 HK6 HK7
    have HZ : Hid (Z = G.bind fun _ => R) := Lib.hid (by rw [hZ, if_neg (by decide)])
    clear hZ
    go_enter Tryd.func33, Tryd.ntmps33
    go_wp2_with (go_at_call 51; refine HP.out.mono ?_; rintro e w1 ⟨rfl, d⟩; have R1 := Lib.hid (H.out.dr d); clear d)
    have HB1 := Lib.hid (HBG.out w1 R1.out.1)
    cases G with
    | bad m =>
      have HZ2 : Hid (Z = .bad m) := Lib.hid HZ.out
      have HB2 : Hid (Calls Tryd.prog 57 #[.pointer (some ⟨p, 0, none⟩), .string nm] w1 fun e w' => e = thr m ∧ Below p w1 w') := Lib.hid HB1.out
      refine HB2.out.mono ?_
      rintro e w8 ⟨he, b8⟩
      unfold thr at he
      subst he
      (try go_wp2_with fail)
      rw [HZ2.out]
      simp only [bodyPost]
      exact ⟨trivial, rfl, (R1.out.2.below HF.out (Nat.le_of_lt HLT.out)).trans b8⟩
    | ok x =>
      obtain ⟨rfl, h4, h16⟩ := HGX.out x rfl
      have HZ2 : Hid (Z = R) := Lib.hid HZ.out
      have HC := Lib.hid (HKX.out )
      have HB2 : Hid (Calls Tryd.prog 57 #[.pointer (some ⟨p, 0, none⟩), .string nm] w1 fun e w' => e = .returned (.tuple #[]) ∧ ∃ v', RdB w' p s i op v' (L ++ [(⟨0, nm, ⟨#[]⟩, 0, 0⟩ : CR)]) ∧ Fr p v v' w1 w') := Lib.hid HB1.out
      clear h16
      refine HB2.out.mono ?_
      rintro e w2 ⟨rfl, v2, r2, f2⟩
      obtain ⟨q, cap, rfl, hpq, _⟩ := r2.addr (by simp)
      have c3 := r2.c3
      have HFR := Lib.hid (R1.out.2.trans f2)
      have HFA := Lib.hid r2.far
      have HPL := Lib.hid r2.lt
      have HC2 := Lib.hid (HC.out w2 q cap hpq r2 (HL.out.fr HFR.out (Nat.le_of_lt HLT.out) HF.out))
      clear r2 f2 HC HB1 HB2 HZ
      go_wp2_with fail
      refine HC2.out.mono ?_
      intro e w3 h3
      cases R with
      | bad m =>
        obtain ⟨he, b3⟩ : e = thr m ∧ Below p w2 w3 := h3
        unfold thr at he
        subst he
        (try go_wp2_with fail)
        rw [HZ2.out]
        simp only [bodyPost]
        exact ⟨trivial, rfl, (HFR.out.below HF.out (Nat.le_of_lt HLT.out)).trans b3⟩
      | ok y =>
        obtain ⟨j, M⟩ := y
        obtain ⟨rfl, v3, r3, f3⟩ : e = .returned (.tuple #[]) ∧ ∃ v', RdB w3 p s j op v' M ∧ Fr p _ v' w2 w3 := h3
        have R3 := Lib.hid (And.intro r3 (HFR.out.trans f3))
        clear r3 f3
        go_wp2_with fail
        go_end0
        rw [HZ2.out]
        exact ⟨rfl, _, R3.out.1, R3.out.2⟩
  by_cases k110 : b = 110
  · subst k110
    have HGX := Lib.hid (fun x (e : G = .ok x) => have h := HGO.out x e; And.intro h.1 (And.intro h.2.1 trivial))
    have HKX := Lib.hid (HK6.out rfl)
    clear HGO HK1 HK2 HK3 HK4 HK5 HK6 HK7
    have HZ : Hid (Z = G.bind fun _ => R) := Lib.hid (by rw [hZ, if_neg (by decide)])
    clear hZ
    go_enter Tryd.func33, Tryd.ntmps33
    go_wp2_with (go_at_call 51; refine HP.out.mono ?_; rintro e w1 ⟨rfl, d⟩; have R1 := Lib.hid (H.out.dr d); clear d)
    have HB1 := Lib.hid (HBG.out w1 R1.out.1)
    cases G with
    | bad m =>
      have HZ2 : Hid (Z = .bad m) := Lib.hid HZ.out
      have HB2 : Hid (Calls Tryd.prog 57 #[.pointer (some ⟨p, 0, none⟩), .string nm] w1 fun e w' => e = thr m ∧ Below p w1 w') := Lib.hid HB1.out
      refine HB2.out.mono ?_
      rintro e w8 ⟨he, b8⟩
      unfold thr at he
      subst he
      (try go_wp2_with fail)
      rw [HZ2.out]
      simp only [bodyPost]
      exact ⟨trivial, rfl, (R1.out.2.below HF.out (Nat.le_of_lt HLT.out)).trans b8⟩
    | ok x =>
      obtain ⟨rfl, h4, h16⟩ := HGX.out x rfl
      have HZ2 : Hid (Z = R) := Lib.hid HZ.out
      have HC := Lib.hid (HKX.out )
      have HB2 : Hid (Calls Tryd.prog 57 #[.pointer (some ⟨p, 0, none⟩), .string nm] w1 fun e w' => e = .returned (.tuple #[]) ∧ ∃ v', RdB w' p s i op v' (L ++ [(⟨0, nm, ⟨#[]⟩, 0, 0⟩ : CR)]) ∧ Fr p v v' w1 w') := Lib.hid HB1.out
      clear h16
      refine HB2.out.mono ?_
      rintro e w2 ⟨rfl, v2, r2, f2⟩
      obtain ⟨q, cap, rfl, hpq, _⟩ := r2.addr (by simp)
      have c3 := r2.c3
      have HFR := Lib.hid (R1.out.2.trans f2)
      have HFA := Lib.hid r2.far
      have HPL := Lib.hid r2.lt
      have HC2 := Lib.hid (HC.out w2 q cap hpq r2 (HL.out.fr HFR.out (Nat.le_of_lt HLT.out) HF.out))
      clear r2 f2 HC HB1 HB2 HZ
      go_wp2_with fail
      refine HC2.out.mono ?_
      intro e w3 h3
      cases R with
      | bad m =>
        obtain ⟨he, b3⟩ : e = thr m ∧ Below p w2 w3 := h3
        unfold thr at he
        subst he
        (try go_wp2_with fail)
        rw [HZ2.out]
        simp only [bodyPost]
        exact ⟨trivial, rfl, (HFR.out.below HF.out (Nat.le_of_lt HLT.out)).trans b3⟩
      | ok y =>
        obtain ⟨j, M⟩ := y
        obtain ⟨rfl, v3, r3, f3⟩ : e = .returned (.tuple #[]) ∧ ∃ v', RdB w3 p s j op v' M ∧ Fr p _ v' w2 w3 := h3
        have R3 := Lib.hid (And.intro r3 (HFR.out.trans f3))
        clear r3 f3
        go_wp2_with fail
        go_end0
        rw [HZ2.out]
        exact ⟨rfl, _, R3.out.1, R3.out.2⟩
  by_cases k45 : b = 45
  · subst k45
    have HGX := Lib.hid (fun x (e : G = .ok x) => have h := HGO.out x e; And.intro h.1 (And.intro h.2.1 trivial))
    have HKX := Lib.hid (HK7.out (.inl rfl))
    clear HGO HK1 HK2 HK3 HK4 HK5 HK6 HK7
    have HZ : Hid (Z = G.bind fun _ => R) := Lib.hid (by rw [hZ, if_neg (by decide)])
    clear hZ
    go_enter Tryd.func33, Tryd.ntmps33
    go_wp2_with (go_at_call 51; refine HP.out.mono ?_; rintro e w1 ⟨rfl, d⟩; have R1 := Lib.hid (H.out.dr d); clear d)
    have HB1 := Lib.hid (HBG.out w1 R1.out.1)
    cases G with
    | bad m =>
      have HZ2 : Hid (Z = .bad m) := Lib.hid HZ.out
      have HB2 : Hid (Calls Tryd.prog 57 #[.pointer (some ⟨p, 0, none⟩), .string nm] w1 fun e w' => e = thr m ∧ Below p w1 w') := Lib.hid HB1.out
      refine HB2.out.mono ?_
      rintro e w8 ⟨he, b8⟩
      unfold thr at he
      subst he
      (try go_wp2_with fail)
      rw [HZ2.out]
      simp only [bodyPost]
      exact ⟨trivial, rfl, (R1.out.2.below HF.out (Nat.le_of_lt HLT.out)).trans b8⟩
    | ok x =>
      obtain ⟨rfl, h4, h16⟩ := HGX.out x rfl
      have HZ2 : Hid (Z = R) := Lib.hid HZ.out
      have HC := Lib.hid (HKX.out (by omega))
      have HB2 : Hid (Calls Tryd.prog 57 #[.pointer (some ⟨p, 0, none⟩), .string nm] w1 fun e w' => e = .returned (.tuple #[]) ∧ ∃ v', RdB w' p s i op v' (L ++ [(⟨0, nm, ⟨#[]⟩, 0, 0⟩ : CR)]) ∧ Fr p v v' w1 w') := Lib.hid HB1.out
      clear h16
      refine HB2.out.mono ?_
      rintro e w2 ⟨rfl, v2, r2, f2⟩
      obtain ⟨q, cap, rfl, hpq, _⟩ := r2.addr (by simp)
      have c3 := r2.c3
      have HFR := Lib.hid (R1.out.2.trans f2)
      have HFA := Lib.hid r2.far
      have HPL := Lib.hid r2.lt
      have HC2 := Lib.hid (HC.out w2 q cap hpq r2 (HL.out.fr HFR.out (Nat.le_of_lt HLT.out) HF.out))
      clear r2 f2 HC HB1 HB2 HZ
      go_wp2_with fail
      refine HC2.out.mono ?_
      intro e w3 h3
      cases R with
      | bad m =>
        obtain ⟨he, b3⟩ : e = thr m ∧ Below p w2 w3 := h3
        unfold thr at he
        subst he
        (try go_wp2_with fail)
        rw [HZ2.out]
        simp only [bodyPost]
        exact ⟨trivial, rfl, (HFR.out.below HF.out (Nat.le_of_lt HLT.out)).trans b3⟩
      | ok y =>
        obtain ⟨j, M⟩ := y
        obtain ⟨rfl, v3, r3, f3⟩ : e = .returned (.tuple #[]) ∧ ∃ v', RdB w3 p s j op v' M ∧ Fr p _ v' w2 w3 := h3
        have R3 := Lib.hid (And.intro r3 (HFR.out.trans f3))
        clear r3 f3
        go_wp2_with fail
        go_end0
        rw [HZ2.out]
        exact ⟨rfl, _, R3.out.1, R3.out.2⟩
  by_cases k48 : b = 48
  · subst k48
    have HGX := Lib.hid (fun x (e : G = .ok x) => have h := HGO.out x e; And.intro h.1 (And.intro h.2.1 trivial))
    have HKX := Lib.hid (HK7.out (.inr (by decide)))
    clear HGO HK1 HK2 HK3 HK4 HK5 HK6 HK7
    have HZ : Hid (Z = G.bind fun _ => R) := Lib.hid (by rw [hZ, if_neg (by decide)])
    clear hZ
    go_enter Tryd.func33, Tryd.ntmps33
    go_wp2_with (go_at_call 51; refine HP.out.mono ?_; rintro e w1 ⟨rfl, d⟩; have R1 := Lib.hid (H.out.dr d); clear d)
    have HB1 := Lib.hid (HBG.out w1 R1.out.1)
    cases G with
    | bad m =>
      have HZ2 : Hid (Z = .bad m) := Lib.hid HZ.out
      have HB2 : Hid (Calls Tryd.prog 57 #[.pointer (some ⟨p, 0, none⟩), .string nm] w1 fun e w' => e = thr m ∧ Below p w1 w') := Lib.hid HB1.out
      refine HB2.out.mono ?_
      rintro e w8 ⟨he, b8⟩
      unfold thr at he
      subst he
      (try go_wp2_with fail)
      rw [HZ2.out]
      simp only [bodyPost]
      exact ⟨trivial, rfl, (R1.out.2.below HF.out (Nat.le_of_lt HLT.out)).trans b8⟩
    | ok x =>
      obtain ⟨rfl, h4, h16⟩ := HGX.out x rfl
      have HZ2 : Hid (Z = R) := Lib.hid HZ.out
      have HC := Lib.hid (HKX.out (by omega))
      have HB2 : Hid (Calls Tryd.prog 57 #[.pointer (some ⟨p, 0, none⟩), .string nm] w1 fun e w' => e = .returned (.tuple #[]) ∧ ∃ v', RdB w' p s i op v' (L ++ [(⟨0, nm, ⟨#[]⟩, 0, 0⟩ : CR)]) ∧ Fr p v v' w1 w') := Lib.hid HB1.out
      clear h16
      refine HB2.out.mono ?_
      rintro e w2 ⟨rfl, v2, r2, f2⟩
      obtain ⟨q, cap, rfl, hpq, _⟩ := r2.addr (by simp)
      have c3 := r2.c3
      have HFR := Lib.hid (R1.out.2.trans f2)
      have HFA := Lib.hid r2.far
      have HPL := Lib.hid r2.lt
      have HC2 := Lib.hid (HC.out w2 q cap hpq r2 (HL.out.fr HFR.out (Nat.le_of_lt HLT.out) HF.out))
      clear r2 f2 HC HB1 HB2 HZ
      go_wp2_with fail
      refine HC2.out.mono ?_
      intro e w3 h3
      cases R with
      | bad m =>
        obtain ⟨he, b3⟩ : e = thr m ∧ Below p w2 w3 := h3
        unfold thr at he
        subst he
        (try go_wp2_with fail)
        rw [HZ2.out]
        simp only [bodyPost]
        exact ⟨trivial, rfl, (HFR.out.below HF.out (Nat.le_of_lt HLT.out)).trans b3⟩
      | ok y =>
        obtain ⟨j, M⟩ := y
        obtain ⟨rfl, v3, r3, f3⟩ : e = .returned (.tuple #[]) ∧ ∃ v', RdB w3 p s j op v' M ∧ Fr p _ v' w2 w3 := h3
        have R3 := Lib.hid (And.intro r3 (HFR.out.trans f3))
        clear r3 f3
        go_wp2_with fail
        go_end0
        rw [HZ2.out]
        exact ⟨rfl, _, R3.out.1, R3.out.2⟩
  by_cases k49 : b = 49
  · subst k49
    have HGX := Lib.hid (fun x (e : G = .ok x) => have h := HGO.out x e; And.intro h.1 (And.intro h.2.1 trivial))
    have HKX := Lib.hid (HK7.out (.inr (by decide)))
    clear HGO HK1 HK2 HK3 HK4 HK5 HK6 HK7
    have HZ : Hid (Z = G.bind fun _ => R) := Lib.hid (by rw [hZ, if_neg (by decide)])
    clear hZ
    go_enter Tryd.func33, Tryd.ntmps33
    go_wp2_with (go_at_call 51; refine HP.out.mono ?_; rintro e w1 ⟨rfl, d⟩; have R1 := Lib.hid (H.out.dr d); clear d)
    have HB1 := Lib.hid (HBG.out w1 R1.out.1)
    cases G with
    | bad m =>
      have HZ2 : Hid (Z = .bad m) := Lib.hid HZ.out
      have HB2 : Hid (Calls Tryd.prog 57 #[.pointer (some ⟨p, 0, none⟩), .string nm] w1 fun e w' => e = thr m ∧ Below p w1 w') := Lib.hid HB1.out
      refine HB2.out.mono ?_
      rintro e w8 ⟨he, b8⟩
      unfold thr at he
      subst he
      (try go_wp2_with fail)
      rw [HZ2.out]
      simp only [bodyPost]
      exact ⟨trivial, rfl, (R1.out.2.below HF.out (Nat.le_of_lt HLT.out)).trans b8⟩
    | ok x =>
      obtain ⟨rfl, h4, h16⟩ := HGX.out x rfl
      have HZ2 : Hid (Z = R) := Lib.hid HZ.out
      have HC := Lib.hid (HKX.out (by omega))
      have HB2 : Hid (Calls Tryd.prog 57 #[.pointer (some ⟨p, 0, none⟩), .string nm] w1 fun e w' => e = .returned (.tuple #[]) ∧ ∃ v', RdB w' p s i op v' (L ++ [(⟨0, nm, ⟨#[]⟩, 0, 0⟩ : CR)]) ∧ Fr p v v' w1 w') := Lib.hid HB1.out
      clear h16
      refine HB2.out.mono ?_
      rintro e w2 ⟨rfl, v2, r2, f2⟩
      obtain ⟨q, cap, rfl, hpq, _⟩ := r2.addr (by simp)
      have c3 := r2.c3
      have HFR := Lib.hid (R1.out.2.trans f2)
      have HFA := Lib.hid r2.far
      have HPL := Lib.hid r2.lt
      have HC2 := Lib.hid (HC.out w2 q cap hpq r2 (HL.out.fr HFR.out (Nat.le_of_lt HLT.out) HF.out))
      clear r2 f2 HC HB1 HB2 HZ
      go_wp2_with fail
      refine HC2.out.mono ?_
      intro e w3 h3
      cases R with
      | bad m =>
        obtain ⟨he, b3⟩ : e = thr m ∧ Below p w2 w3 := h3
        unfold thr at he
        subst he
        (try go_wp2_with fail)
        rw [HZ2.out]
        simp only [bodyPost]
        exact ⟨trivial, rfl, (HFR.out.below HF.out (Nat.le_of_lt HLT.out)).trans b3⟩
      | ok y =>
        obtain ⟨j, M⟩ := y
        obtain ⟨rfl, v3, r3, f3⟩ : e = .returned (.tuple #[]) ∧ ∃ v', RdB w3 p s j op v' M ∧ Fr p _ v' w2 w3 := h3
        have R3 := Lib.hid (And.intro r3 (HFR.out.trans f3))
        clear r3 f3
        go_wp2_with fail
        go_end0
        rw [HZ2.out]
        exact ⟨rfl, _, R3.out.1, R3.out.2⟩
  by_cases k50 : b = 50
  · subst k50
    have HGX := Lib.hid (fun x (e : G = .ok x) => have h := HGO.out x e; And.intro h.1 (And.intro h.2.1 trivial))
    have HKX := Lib.hid (HK7.out (.inr (by decide)))
    clear HGO HK1 HK2 HK3 HK4 HK5 HK6 HK7
    have HZ : Hid (Z = G.bind fun _ => R) := Lib.hid (by rw [hZ, if_neg (by decide)])
    clear hZ
    go_enter Tryd.func33, Tryd.ntmps33
    go_wp2_with (go_at_call 51; refine HP.out.mono ?_; rintro e w1 ⟨rfl, d⟩; have R1 := Lib.hid (H.out.dr d); clear d)
    have HB1 := Lib.hid (HBG.out w1 R1.out.1)
    cases G with
    | bad m =>
      have HZ2 : Hid (Z = .bad m) := Lib.hid HZ.out
      have HB2 : Hid (Calls Tryd.prog 57 #[.pointer (some ⟨p, 0, none⟩), .string nm] w1 fun e w' => e = thr m ∧ Below p w1 w') := Lib.hid HB1.out
      refine HB2.out.mono ?_
      rintro e w8 ⟨he, b8⟩
      unfold thr at he
      subst he
      (try go_wp2_with fail)
      rw [HZ2.out]
      simp only [bodyPost]
      exact ⟨trivial, rfl, (R1.out.2.below HF.out (Nat.le_of_lt HLT.out)).trans b8⟩
    | ok x =>
      obtain ⟨rfl, h4, h16⟩ := HGX.out x rfl
      have HZ2 : Hid (Z = R) := Lib.hid HZ.out
      have HC := Lib.hid (HKX.out (by omega))
      have HB2 : Hid (Calls Tryd.prog 57 #[.pointer (some ⟨p, 0, none⟩), .string nm] w1 fun e w' => e = .returned (.tuple #[]) ∧ ∃ v', RdB w' p s i op v' (L ++ [(⟨0, nm, ⟨#[]⟩, 0, 0⟩ : CR)]) ∧ Fr p v v' w1 w') := Lib.hid HB1.out
      clear h16
      refine HB2.out.mono ?_
      rintro e w2 ⟨rfl, v2, r2, f2⟩
      obtain ⟨q, cap, rfl, hpq, _⟩ := r2.addr (by simp)
      have c3 := r2.c3
      have HFR := Lib.hid (R1.out.2.trans f2)
      have HFA := Lib.hid r2.far
      have HPL := Lib.hid r2.lt
      have HC2 := Lib.hid (HC.out w2 q cap hpq r2 (HL.out.fr HFR.out (Nat.le_of_lt HLT.out) HF.out))
      clear r2 f2 HC HB1 HB2 HZ
      go_wp2_with fail
      refine HC2.out.mono ?_
      intro e w3 h3
      cases R with
      | bad m =>
        obtain ⟨he, b3⟩ : e = thr m ∧ Below p w2 w3 := h3
        unfold thr at he
        subst he
        (try go_wp2_with fail)
        rw [HZ2.out]
        simp only [bodyPost]
        exact ⟨trivial, rfl, (HFR.out.below HF.out (Nat.le_of_lt HLT.out)).trans b3⟩
      | ok y =>
        obtain ⟨j, M⟩ := y
        obtain ⟨rfl, v3, r3, f3⟩ : e = .returned (.tuple #[]) ∧ ∃ v', RdB w3 p s j op v' M ∧ Fr p _ v' w2 w3 := h3
        have R3 := Lib.hid (And.intro r3 (HFR.out.trans f3))
        clear r3 f3
        go_wp2_with fail
        go_end0
        rw [HZ2.out]
        exact ⟨rfl, _, R3.out.1, R3.out.2⟩
  by_cases k51 : b = 51
  · subst k51
    have HGX := Lib.hid (fun x (e : G = .ok x) => have h := HGO.out x e; And.intro h.1 (And.intro h.2.1 trivial))
    have HKX := Lib.hid (HK7.out (.inr (by decide)))
    clear HGO HK1 HK2 HK3 HK4 HK5 HK6 HK7
    have HZ : Hid (Z = G.bind fun _ => R) := Lib.hid (by rw [hZ, if_neg (by decide)])
    clear hZ
    go_enter Tryd.func33, Tryd.ntmps33
    go_wp2_with (go_at_call 51; refine HP.out.mono ?_; rintro e w1 ⟨rfl, d⟩; have R1 := Lib.hid (H.out.dr d); clear d)
    have HB1 := Lib.hid (HBG.out w1 R1.out.1)
    cases G with
    | bad m =>
      have HZ2 : Hid (Z = .bad m) := Lib.hid HZ.out
      have HB2 : Hid (Calls Tryd.prog 57 #[.pointer (some ⟨p, 0, none⟩), .string nm] w1 fun e w' => e = thr m ∧ Below p w1 w') := Lib.hid HB1.out
      refine HB2.out.mono ?_
      rintro e w8 ⟨he, b8⟩
      unfold thr at he
      subst he
      (try go_wp2_with fail)
      rw [HZ2.out]
      simp only [bodyPost]
      exact ⟨trivial, rfl, (R1.out.2.below HF.out (Nat.le_of_lt HLT.out)).trans b8⟩
    | ok x =>
      obtain ⟨rfl, h4, h16⟩ := HGX.out x rfl
      have HZ2 : Hid (Z = R) := Lib.hid HZ.out
      have HC := Lib.hid (HKX.out (by omega))
      have HB2 : Hid (Calls Tryd.prog 57 #[.pointer (some ⟨p, 0, none⟩), .string nm] w1 fun e w' => e = .returned (.tuple #[]) ∧ ∃ v', RdB w' p s i op v' (L ++ [(⟨0, nm, ⟨#[]⟩, 0, 0⟩ : CR)]) ∧ Fr p v v' w1 w') := Lib.hid HB1.out
      clear h16
      refine HB2.out.mono ?_
      rintro e w2 ⟨rfl, v2, r2, f2⟩
      obtain ⟨q, cap, rfl, hpq, _⟩ := r2.addr (by simp)
      have c3 := r2.c3
      have HFR := Lib.hid (R1.out.2.trans f2)
      have HFA := Lib.hid r2.far
      have HPL := Lib.hid r2.lt
      have HC2 := Lib.hid (HC.out w2 q cap hpq r2 (HL.out.fr HFR.out (Nat.le_of_lt HLT.out) HF.out))
      clear r2 f2 HC HB1 HB2 HZ
      go_wp2_with fail
      refine HC2.out.mono ?_
      intro e w3 h3
      cases R with
      | bad m =>
        obtain ⟨he, b3⟩ : e = thr m ∧ Below p w2 w3 := h3
        unfold thr at he
        subst he
        (try go_wp2_with fail)
        rw [HZ2.out]
        simp only [bodyPost]
        exact ⟨trivial, rfl, (HFR.out.below HF.out (Nat.le_of_lt HLT.out)).trans b3⟩
      | ok y =>
        obtain ⟨j, M⟩ := y
        obtain ⟨rfl, v3, r3, f3⟩ : e = .returned (.tuple #[]) ∧ ∃ v', RdB w3 p s j op v' M ∧ Fr p _ v' w2 w3 := h3
        have R3 := Lib.hid (And.intro r3 (HFR.out.trans f3))
        clear r3 f3
        go_wp2_with fail
        go_end0
        rw [HZ2.out]
        exact ⟨rfl, _, R3.out.1, R3.out.2⟩
  by_cases k52 : b = 52
  · subst k52
    have HGX := Lib.hid (fun x (e : G = .ok x) => have h := HGO.out x e; And.intro h.1 (And.intro h.2.1 trivial))
    have HKX := Lib.hid (HK7.out (.inr (by decide)))
    clear HGO HK1 HK2 HK3 HK4 HK5 HK6 HK7
    have HZ : Hid (Z = G.bind fun _ => R) := Lib.hid (by rw [hZ, if_neg (by decide)])
    clear hZ
    go_enter Tryd.func33, Tryd.ntmps33
    go_wp2_with (go_at_call 51; refine HP.out.mono ?_; rintro e w1 ⟨rfl, d⟩; have R1 := Lib.hid (H.out.dr d); clear d)
    have HB1 := Lib.hid (HBG.out w1 R1.out.1)
    cases G with
    | bad m =>
      have HZ2 : Hid (Z = .bad m) := Lib.hid HZ.out
      have HB2 : Hid (Calls Tryd.prog 57 #[.pointer (some ⟨p, 0, none⟩), .string nm] w1 fun e w' => e = thr m ∧ Below p w1 w') := Lib.hid HB1.out
      refine HB2.out.mono ?_
      rintro e w8 ⟨he, b8⟩
      unfold thr at he
      subst he
      (try go_wp2_with fail)
      rw [HZ2.out]
      simp only [bodyPost]
      exact ⟨trivial, rfl, (R1.out.2.below HF.out (Nat.le_of_lt HLT.out)).trans b8⟩
    | ok x =>
      obtain ⟨rfl, h4, h16⟩ := HGX.out x rfl
      have HZ2 : Hid (Z = R) := Lib.hid HZ.out
      have HC := Lib.hid (HKX.out (by omega))
      have HB2 : Hid (Calls Tryd.prog 57 #[.pointer (some ⟨p, 0, none⟩), .string nm] w1 fun e w' => e = .returned (.tuple #[]) ∧ ∃ v', RdB w' p s i op v' (L ++ [(⟨0, nm, ⟨#[]⟩, 0, 0⟩ : CR)]) ∧ Fr p v v' w1 w') := Lib.hid HB1.out
      clear h16
      refine HB2.out.mono ?_
      rintro e w2 ⟨rfl, v2, r2, f2⟩
      obtain ⟨q, cap, rfl, hpq, _⟩ := r2.addr (by simp)
      have c3 := r2.c3
      have HFR := Lib.hid (R1.out.2.trans f2)
      have HFA := Lib.hid r2.far
      have HPL := Lib.hid r2.lt
      have HC2 := Lib.hid (HC.out w2 q cap hpq r2 (HL.out.fr HFR.out (Nat.le_of_lt HLT.out) HF.out))
      clear r2 f2 HC HB1 HB2 HZ
      go_wp2_with fail
      refine HC2.out.mono ?_
      intro e w3 h3
      cases R with
      | bad m =>
        obtain ⟨he, b3⟩ : e = thr m ∧ Below p w2 w3 := h3
        unfold thr at he
        subst he
        (try go_wp2_with fail)
        rw [HZ2.out]
        simp only [bodyPost]
        exact ⟨trivial, rfl, (HFR.out.below HF.out (Nat.le_of_lt HLT.out)).trans b3⟩
      | ok y =>
        obtain ⟨j, M⟩ := y
        obtain ⟨rfl, v3, r3, f3⟩ : e = .returned (.tuple #[]) ∧ ∃ v', RdB w3 p s j op v' M ∧ Fr p _ v' w2 w3 := h3
        have R3 := Lib.hid (And.intro r3 (HFR.out.trans f3))
        clear r3 f3
        go_wp2_with fail
        go_end0
        rw [HZ2.out]
        exact ⟨rfl, _, R3.out.1, R3.out.2⟩
  by_cases k53 : b = 53
  · subst k53
    have HGX := Lib.hid (fun x (e : G = .ok x) => have h := HGO.out x e; And.intro h.1 (And.intro h.2.1 trivial))
    have HKX := Lib.hid (HK7.out (.inr (by decide)))
    clear HGO HK1 HK2 HK3 HK4 HK5 HK6 HK7
    have HZ : Hid (Z = G.bind fun _ => R) := Lib.hid (by rw [hZ, if_neg (by decide)])
    clear hZ
    go_enter Tryd.func33, Tryd.ntmps33
    go_wp2_with (go_at_call 51; refine HP.out.mono ?_; rintro e w1 ⟨rfl, d⟩; have R1 := Lib.hid (H.out.dr d); clear d)
    have HB1 := Lib.hid (HBG.out w1 R1.out.1)
    cases G with
    | bad m =>
      have HZ2 : Hid (Z = .bad m) := Lib.hid HZ.out
      have HB2 : Hid (Calls Tryd.prog 57 #[.pointer (some ⟨p, 0, none⟩), .string nm] w1 fun e w' => e = thr m ∧ Below p w1 w') := Lib.hid HB1.out
      refine HB2.out.mono ?_
      rintro e w8 ⟨he, b8⟩
      unfold thr at he
      subst he
      (try go_wp2_with fail)
      rw [HZ2.out]
      simp only [bodyPost]
      exact ⟨trivial, rfl, (R1.out.2.below HF.out (Nat.le_of_lt HLT.out)).trans b8⟩
    | ok x =>
      obtain ⟨rfl, h4, h16⟩ := HGX.out x rfl
      have HZ2 : Hid (Z = R) := Lib.hid HZ.out
      have HC := Lib.hid (HKX.out (by omega))
      have HB2 : Hid (Calls Tryd.prog 57 #[.pointer (some ⟨p, 0, none⟩), .string nm] w1 fun e w' => e = .returned (.tuple #[]) ∧ ∃ v', RdB w' p s i op v' (L ++ [(⟨0, nm, ⟨#[]⟩, 0, 0⟩ : CR)]) ∧ Fr p v v' w1 w') := Lib.hid HB1.out
      clear h16
      refine HB2.out.mono ?_
      rintro e w2 ⟨rfl, v2, r2, f2⟩
      obtain ⟨q, cap, rfl, hpq, _⟩ := r2.addr (by simp)
      have c3 := r2.c3
      have HFR := Lib.hid (R1.out.2.trans f2)
      have HFA := Lib.hid r2.far
      have HPL := Lib.hid r2.lt
      have HC2 := Lib.hid (HC.out w2 q cap hpq r2 (HL.out.fr HFR.out (Nat.le_of_lt HLT.out) HF.out))
      clear r2 f2 HC HB1 HB2 HZ
      go_wp2_with fail
      refine HC2.out.mono ?_
      intro e w3 h3
      cases R with
      | bad m =>
        obtain ⟨he, b3⟩ : e = thr m ∧ Below p w2 w3 := h3
        unfold thr at he
        subst he
        (try go_wp2_with fail)
        rw [HZ2.out]
        simp only [bodyPost]
        exact ⟨trivial, rfl, (HFR.out.below HF.out (Nat.le_of_lt HLT.out)).trans b3⟩
      | ok y =>
        obtain ⟨j, M⟩ := y
        obtain ⟨rfl, v3, r3, f3⟩ : e = .returned (.tuple #[]) ∧ ∃ v', RdB w3 p s j op v' M ∧ Fr p _ v' w2 w3 := h3
        have R3 := Lib.hid (And.intro r3 (HFR.out.trans f3))
        clear r3 f3
        go_wp2_with fail
        go_end0
        rw [HZ2.out]
        exact ⟨rfl, _, R3.out.1, R3.out.2⟩
  by_cases k54 : b = 54
  · subst k54
    have HGX := Lib.hid (fun x (e : G = .ok x) => have h := HGO.out x e; And.intro h.1 (And.intro h.2.1 trivial))
    have HKX := Lib.hid (HK7.out (.inr (by decide)))
    clear HGO HK1 HK2 HK3 HK4 HK5 HK6 HK7
    have HZ : Hid (Z = G.bind fun _ => R) := Lib.hid (by rw [hZ, if_neg (by decide)])
    clear hZ
    go_enter Tryd.func33, Tryd.ntmps33
    go_wp2_with (go_at_call 51; refine HP.out.mono ?_; rintro e w1 ⟨rfl, d⟩; have R1 := Lib.hid (H.out.dr d); clear d)
    have HB1 := Lib.hid (HBG.out w1 R1.out.1)
    cases G with
    | bad m =>
      have HZ2 : Hid (Z = .bad m) := Lib.hid HZ.out
      have HB2 : Hid (Calls Tryd.prog 57 #[.pointer (some ⟨p, 0, none⟩), .string nm] w1 fun e w' => e = thr m ∧ Below p w1 w') := Lib.hid HB1.out
      refine HB2.out.mono ?_
      rintro e w8 ⟨he, b8⟩
      unfold thr at he
      subst he
      (try go_wp2_with fail)
      rw [HZ2.out]
      simp only [bodyPost]
      exact ⟨trivial, rfl, (R1.out.2.below HF.out (Nat.le_of_lt HLT.out)).trans b8⟩
    | ok x =>
      obtain ⟨rfl, h4, h16⟩ := HGX.out x rfl
      have HZ2 : Hid (Z = R) := Lib.hid HZ.out
      have HC := Lib.hid (HKX.out (by omega))
      have HB2 : Hid (Calls Tryd.prog 57 #[.pointer (some ⟨p, 0, none⟩), .string nm] w1 fun e w' => e = .returned (.tuple #[]) ∧ ∃ v', RdB w' p s i op v' (L ++ [(⟨0, nm, ⟨#[]⟩, 0, 0⟩ : CR)]) ∧ Fr p v v' w1 w') := Lib.hid HB1.out
      clear h16
      refine HB2.out.mono ?_
      rintro e w2 ⟨rfl, v2, r2, f2⟩
      obtain ⟨q, cap, rfl, hpq, _⟩ := r2.addr (by simp)
      have c3 := r2.c3
      have HFR := Lib.hid (R1.out.2.trans f2)
      have HFA := Lib.hid r2.far
      have HPL := Lib.hid r2.lt
      have HC2 := Lib.hid (HC.out w2 q cap hpq r2 (HL.out.fr HFR.out (Nat.le_of_lt HLT.out) HF.out))
      clear r2 f2 HC HB1 HB2 HZ
      go_wp2_with fail
      refine HC2.out.mono ?_
      intro e w3 h3
      cases R with
      | bad m =>
        obtain ⟨he, b3⟩ : e = thr m ∧ Below p w2 w3 := h3
        unfold thr at he
        subst he
        (try go_wp2_with fail)
        rw [HZ2.out]
        simp only [bodyPost]
        exact ⟨trivial, rfl, (HFR.out.below HF.out (Nat.le_of_lt HLT.out)).trans b3⟩
      | ok y =>
        obtain ⟨j, M⟩ := y
        obtain ⟨rfl, v3, r3, f3⟩ : e = .returned (.tuple #[]) ∧ ∃ v', RdB w3 p s j op v' M ∧ Fr p _ v' w2 w3 := h3
        have R3 := Lib.hid (And.intro r3 (HFR.out.trans f3))
        clear r3 f3
        go_wp2_with fail
        go_end0
        rw [HZ2.out]
        exact ⟨rfl, _, R3.out.1, R3.out.2⟩
  by_cases k55 : b = 55
  · subst k55
    have HGX := Lib.hid (fun x (e : G = .ok x) => have h := HGO.out x e; And.intro h.1 (And.intro h.2.1 trivial))
    have HKX := Lib.hid (HK7.out (.inr (by decide)))
    clear HGO HK1 HK2 HK3 HK4 HK5 HK6 HK7
    have HZ : Hid (Z = G.bind fun _ => R) := Lib.hid (by rw [hZ, if_neg (by decide)])
    clear hZ
    go_enter Tryd.func33, Tryd.ntmps33
    go_wp2_with (go_at_call 51; refine HP.out.mono ?_; rintro e w1 ⟨rfl, d⟩; have R1 := Lib.hid (H.out.dr d); clear d)
    have HB1 := Lib.hid (HBG.out w1 R1.out.1)
    cases G with
    | bad m =>
      have HZ2 : Hid (Z = .bad m) := Lib.hid HZ.out
      have HB2 : Hid (Calls Tryd.prog 57 #[.pointer (some ⟨p, 0, none⟩), .string nm] w1 fun e w' => e = thr m ∧ Below p w1 w') := Lib.hid HB1.out
      refine HB2.out.mono ?_
      rintro e w8 ⟨he, b8⟩
      unfold thr at he
      subst he
      (try go_wp2_with fail)
      rw [HZ2.out]
      simp only [bodyPost]
      exact ⟨trivial, rfl, (R1.out.2.below HF.out (Nat.le_of_lt HLT.out)).trans b8⟩
    | ok x =>
      obtain ⟨rfl, h4, h16⟩ := HGX.out x rfl
      have HZ2 : Hid (Z = R) := Lib.hid HZ.out
      have HC := Lib.hid (HKX.out (by omega))
      have HB2 : Hid (Calls Tryd.prog 57 #[.pointer (some ⟨p, 0, none⟩), .string nm] w1 fun e w' => e = .returned (.tuple #[]) ∧ ∃ v', RdB w' p s i op v' (L ++ [(⟨0, nm, ⟨#[]⟩, 0, 0⟩ : CR)]) ∧ Fr p v v' w1 w') := Lib.hid HB1.out
      clear h16
      refine HB2.out.mono ?_
      rintro e w2 ⟨rfl, v2, r2, f2⟩
      obtain ⟨q, cap, rfl, hpq, _⟩ := r2.addr (by simp)
      have c3 := r2.c3
      have HFR := Lib.hid (R1.out.2.trans f2)
      have HFA := Lib.hid r2.far
      have HPL := Lib.hid r2.lt
      have HC2 := Lib.hid (HC.out w2 q cap hpq r2 (HL.out.fr HFR.out (Nat.le_of_lt HLT.out) HF.out))
      clear r2 f2 HC HB1 HB2 HZ
      go_wp2_with fail
      refine HC2.out.mono ?_
      intro e w3 h3
      cases R with
      | bad m =>
        obtain ⟨he, b3⟩ : e = thr m ∧ Below p w2 w3 := h3
        unfold thr at he
        subst he
        (try go_wp2_with fail)
        rw [HZ2.out]
        simp only [bodyPost]
        exact ⟨trivial, rfl, (HFR.out.below HF.out (Nat.le_of_lt HLT.out)).trans b3⟩
      | ok y =>
        obtain ⟨j, M⟩ := y
        obtain ⟨rfl, v3, r3, f3⟩ : e = .returned (.tuple #[]) ∧ ∃ v', RdB w3 p s j op v' M ∧ Fr p _ v' w2 w3 := h3
        have R3 := Lib.hid (And.intro r3 (HFR.out.trans f3))
        clear r3 f3
        go_wp2_with fail
        go_end0
        rw [HZ2.out]
        exact ⟨rfl, _, R3.out.1, R3.out.2⟩
  by_cases k56 : b = 56
  · subst k56
    have HGX := Lib.hid (fun x (e : G = .ok x) => have h := HGO.out x e; And.intro h.1 (And.intro h.2.1 trivial))
    have HKX := Lib.hid (HK7.out (.inr (by decide)))
    clear HGO HK1 HK2 HK3 HK4 HK5 HK6 HK7
    have HZ : Hid (Z = G.bind fun _ => R) := Lib.hid (by rw [hZ, if_neg (by decide)])
    clear hZ
    go_enter Tryd.func33, Tryd.ntmps33
    go_wp2_with (go_at_call 51; refine HP.out.mono ?_; rintro e w1 ⟨rfl, d⟩; have R1 := Lib.hid (H.out.dr d); clear d)
    have HB1 := Lib.hid (HBG.out w1 R1.out.1)
    cases G with
    | bad m =>
      have HZ2 : Hid (Z = .bad m) := Lib.hid HZ.out
      have HB2 : Hid (Calls Tryd.prog 57 #[.pointer (some ⟨p, 0, none⟩), .string nm] w1 fun e w' => e = thr m ∧ Below p w1 w') := Lib.hid HB1.out
      refine HB2.out.mono ?_
      rintro e w8 ⟨he, b8⟩
      unfold thr at he
      subst he
      (try go_wp2_with fail)
      rw [HZ2.out]
      simp only [bodyPost]
      exact ⟨trivial, rfl, (R1.out.2.below HF.out (Nat.le_of_lt HLT.out)).trans b8⟩
    | ok x =>
      obtain ⟨rfl, h4, h16⟩ := HGX.out x rfl
      have HZ2 : Hid (Z = R) := Lib.hid HZ.out
      have HC := Lib.hid (HKX.out (by omega))
      have HB2 : Hid (Calls Tryd.prog 57 #[.pointer (some ⟨p, 0, none⟩), .string nm] w1 fun e w' => e = .returned (.tuple #[]) ∧ ∃ v', RdB w' p s i op v' (L ++ [(⟨0, nm, ⟨#[]⟩, 0, 0⟩ : CR)]) ∧ Fr p v v' w1 w') := Lib.hid HB1.out
      clear h16
      refine HB2.out.mono ?_
      rintro e w2 ⟨rfl, v2, r2, f2⟩
      obtain ⟨q, cap, rfl, hpq, _⟩ := r2.addr (by simp)
      have c3 := r2.c3
      have HFR := Lib.hid (R1.out.2.trans f2)
      have HFA := Lib.hid r2.far
      have HPL := Lib.hid r2.lt
      have HC2 := Lib.hid (HC.out w2 q cap hpq r2 (HL.out.fr HFR.out (Nat.le_of_lt HLT.out) HF.out))
      clear r2 f2 HC HB1 HB2 HZ
      go_wp2_with fail
      refine HC2.out.mono ?_
      intro e w3 h3
      cases R with
      | bad m =>
        obtain ⟨he, b3⟩ : e = thr m ∧ Below p w2 w3 := h3
        unfold thr at he
        subst he
        (try go_wp2_with fail)
        rw [HZ2.out]
        simp only [bodyPost]
        exact ⟨trivial, rfl, (HFR.out.below HF.out (Nat.le_of_lt HLT.out)).trans b3⟩
      | ok y =>
        obtain ⟨j, M⟩ := y
        obtain ⟨rfl, v3, r3, f3⟩ : e = .returned (.tuple #[]) ∧ ∃ v', RdB w3 p s j op v' M ∧ Fr p _ v' w2 w3 := h3
        have R3 := Lib.hid (And.intro r3 (HFR.out.trans f3))
        clear r3 f3
        go_wp2_with fail
        go_end0
        rw [HZ2.out]
        exact ⟨rfl, _, R3.out.1, R3.out.2⟩
  by_cases k57 : b = 57
  · subst k57
    have HGX := Lib.hid (fun x (e : G = .ok x) => have h := HGO.out x e; And.intro h.1 (And.intro h.2.1 trivial))
    have HKX := Lib.hid (HK7.out (.inr (by decide)))
    clear HGO HK1 HK2 HK3 HK4 HK5 HK6 HK7
    have HZ : Hid (Z = G.bind fun _ => R) := Lib.hid (by rw [hZ, if_neg (by decide)])
    clear hZ
    go_enter Tryd.func33, Tryd.ntmps33
    go_wp2_with (go_at_call 51; refine HP.out.mono ?_; rintro e w1 ⟨rfl, d⟩; have R1 := Lib.hid (H.out.dr d); clear d)
    have HB1 := Lib.hid (HBG.out w1 R1.out.1)
    cases G with
    | bad m =>
      have HZ2 : Hid (Z = .bad m) := Lib.hid HZ.out
      have HB2 : Hid (Calls Tryd.prog 57 #[.pointer (some ⟨p, 0, none⟩), .string nm] w1 fun e w' => e = thr m ∧ Below p w1 w') := Lib.hid HB1.out
      refine HB2.out.mono ?_
      rintro e w8 ⟨he, b8⟩
      unfold thr at he
      subst he
      (try go_wp2_with fail)
      rw [HZ2.out]
      simp only [bodyPost]
      exact ⟨trivial, rfl, (R1.out.2.below HF.out (Nat.le_of_lt HLT.out)).trans b8⟩
    | ok x =>
      obtain ⟨rfl, h4, h16⟩ := HGX.out x rfl
      have HZ2 : Hid (Z = R) := Lib.hid HZ.out
      have HC := Lib.hid (HKX.out (by omega))
      have HB2 : Hid (Calls Tryd.prog 57 #[.pointer (some ⟨p, 0, none⟩), .string nm] w1 fun e w' => e = .returned (.tuple #[]) ∧ ∃ v', RdB w' p s i op v' (L ++ [(⟨0, nm, ⟨#[]⟩, 0, 0⟩ : CR)]) ∧ Fr p v v' w1 w') := Lib.hid HB1.out
      clear h16
      refine HB2.out.mono ?_
      rintro e w2 ⟨rfl, v2, r2, f2⟩
      obtain ⟨q, cap, rfl, hpq, _⟩ := r2.addr (by simp)
      have c3 := r2.c3
      have HFR := Lib.hid (R1.out.2.trans f2)
      have HFA := Lib.hid r2.far
      have HPL := Lib.hid r2.lt
      have HC2 := Lib.hid (HC.out w2 q cap hpq r2 (HL.out.fr HFR.out (Nat.le_of_lt HLT.out) HF.out))
      clear r2 f2 HC HB1 HB2 HZ
      go_wp2_with fail
      refine HC2.out.mono ?_
      intro e w3 h3
      cases R with
      | bad m =>
        obtain ⟨he, b3⟩ : e = thr m ∧ Below p w2 w3 := h3
        unfold thr at he
        subst he
        (try go_wp2_with fail)
        rw [HZ2.out]
        simp only [bodyPost]
        exact ⟨trivial, rfl, (HFR.out.below HF.out (Nat.le_of_lt HLT.out)).trans b3⟩
      | ok y =>
        obtain ⟨j, M⟩ := y
        obtain ⟨rfl, v3, r3, f3⟩ : e = .returned (.tuple #[]) ∧ ∃ v', RdB w3 p s j op v' M ∧ Fr p _ v' w2 w3 := h3
        have R3 := Lib.hid (And.intro r3 (HFR.out.trans f3))
        clear r3 f3
        go_wp2_with fail
        go_end0
        rw [HZ2.out]
        exact ⟨rfl, _, R3.out.1, R3.out.2⟩
  have HZ : Hid (Z = .bad 40) := Lib.hid (by rw [hZ, if_pos]; unfold isSt isDg; simp only [Bool.or_eq_false_iff, Bool.and_eq_false_iff, decide_eq_false_iff_not]; omega)
  have q123 : (b == 123) = false := beq_eq_false_iff_ne.2 k123
  have q91 : (b == 91) = false := beq_eq_false_iff_ne.2 k91
  have q34 : (b == 34) = false := beq_eq_false_iff_ne.2 k34
  have q116 : (b == 116) = false := beq_eq_false_iff_ne.2 k116
  have q102 : (b == 102) = false := beq_eq_false_iff_ne.2 k102
  have q110 : (b == 110) = false := beq_eq_false_iff_ne.2 k110
  have q45 : (b == 45) = false := beq_eq_false_iff_ne.2 k45
  have q48 : (b == 48) = false := beq_eq_false_iff_ne.2 k48
  have q49 : (b == 49) = false := beq_eq_false_iff_ne.2 k49
  have q50 : (b == 50) = false := beq_eq_false_iff_ne.2 k50
  have q51 : (b == 51) = false := beq_eq_false_iff_ne.2 k51
  have q52 : (b == 52) = false := beq_eq_false_iff_ne.2 k52
  have q53 : (b == 53) = false := beq_eq_false_iff_ne.2 k53
  have q54 : (b == 54) = false := beq_eq_false_iff_ne.2 k54
  have q55 : (b == 55) = false := beq_eq_false_iff_ne.2 k55
  have q56 : (b == 56) = false := beq_eq_false_iff_ne.2 k56
  have q57 : (b == 57) = false := beq_eq_false_iff_ne.2 k57
  clear hZ
  go_enter Tryd.func33, Tryd.ntmps33
  go_wp2_with (go_at_call 51; refine HP.out.mono ?_; rintro e w1 ⟨rfl, d⟩; have R1 := Lib.hid (H.out.dr d); clear d)
  rw [HZ.out]
  simp only [bodyPost]
  exact ⟨trivial, rfl, R1.out.2.below HF.out (Nat.le_of_lt HLT.out)⟩
theorem value_all {s : ByteArray} (hs : s.size ≤ 100000) : ∀ f, VC s (f + 1)
  | 0 => value_step (fun h => absurd h (by decide)) hs
  | f + 1 => value_step (fun _ => value_all hs f) hs
end Go.Proofs.YtoicmcjpaodgpaaDoor
/- Layer 4, Read: the deferred closure. -/
namespace Go.Proofs.YtoicmcjpaodgpaaDoor
open Go.RowKit Go.Maps
theorem rcatchI (p q : Addr) (w : World) : CallsD Tryd.prog 31 #[.pointer (some p), .pointer (some q)] .returning w fun e u' w' => e = .returned (.tuple #[]) ∧ u' = .returning ∧ w' = w := by
  have hnil : ∀ w : World, (binOp BinOp.eql 20 .nilIface .nilIface).run Tryd.prog w = .ok (.bool true) w := fun _ => by kernel_rfl
  refine callsD_of_wpS Tryd.func31 rfl fun c₀ cs hu => ?_
  apply wpS_seq
  apply wpS_region
  simp [wpOpsS, go_sem, recoverD, hu, Tryd.ntmps31, Exit.thenS]
  refine wpS_of_wp ?_
  simp only [Array.replicate, List.replicate, List.setIfInBounds_toArray, List.set, List.append_toArray, List.cons_append, List.nil_append]
  go_wp2_with fail
  cases c₀
  simp_all [bodyPostS, results, Tryd.results31]
set_option maxRecDepth 20000 in
theorem rcatchP (a b : Nat) (e : Int) (v0 e0 : Value) (older : List PanicEntry) (w : World) (hp : w.cell? ⟨a, 0, none⟩ = some v0) (hzp : w.frozen? ⟨a, 0, none⟩ = false) (hq : w.cell? ⟨b, 0, none⟩ = some e0) (hzq : w.frozen? ⟨b, 0, none⟩ = false) (hpq : a ≠ b) : CallsD Tryd.prog 31 #[.pointer (some ⟨a, 0, none⟩), .pointer (some ⟨b, 0, none⟩)] (.panicking ({ v := .iface 60 (.int .i64 e), recovered := false } :: older)) w fun x u' w' => x = .returned (.tuple #[]) ∧ u' = .panicking ({ v := .iface 60 (.int .i64 e), recovered := true } :: older) ∧ w' = (w.setCell ⟨a, 0, none⟩ (.slice none 0 0)).setCell ⟨b, 0, none⟩ (.int .i64 e) := by
  have hnil : ∀ w : World, (binOp BinOp.eql 20 (.iface 60 (.int .i64 e)) .nilIface).run Tryd.prog w = .ok (.bool false) w := fun _ => by kernel_rfl
  have hta : ∀ w : World, (Instr.typeAssert (.iface 60 (.int .i64 e)) 20 60 true).run Tryd.prog w = .ok (.tuple #[.int .i64 e, .bool true]) w := fun _ => by kernel_rfl
  refine callsD_of_wpS Tryd.func31 rfl fun c₀ cs hu => ?_
  apply wpS_seq
  apply wpS_region
  simp [wpOpsS, go_sem, recoverD, hu, Tryd.ntmps31, Exit.thenS]
  refine wpS_of_wp ?_
  simp only [Array.replicate, List.replicate, List.setIfInBounds_toArray, List.set, List.append_toArray, List.cons_append, List.nil_append]
  clear hu
  go_wp2_with fail
  cases c₀
  simp_all [bodyPostS, results, Tryd.results31]
end Go.Proofs.YtoicmcjpaodgpaaDoor
/- Layer 4, Read: read. -/
namespace Go.Proofs.YtoicmcjpaodgpaaDoor
open Go.RowKit Go.Maps
/-- What a text that is not too long tells. -/
def readN (s : ByteArray) : Rs (List CR) := (valM s 17 ⟨#[]⟩ 0 (bl s 0) []).bind fun x => if bl s x.1 < s.size then .bad 40 else .ok x.2
/-- Cells are told, or an error. -/
def RdP (w : World) (x : Rs (List CR)) (e : Ending) (w' : World) : Prop := match x with
  | .ok M => ∃ v, e = .returned (.tuple #[v, .int .i64 0]) ∧ w'.ownsRow w.heap.size 42 5 v M.length (rw5 M) ∧ Below w.heap.size w w'
  | .bad m => e = .returned (.tuple #[.slice none 0 0, .int .i64 m]) ∧ Below w.heap.size w w'
set_option maxRecDepth 20000 in
set_option maxHeartbeats 4000000 in
theorem jread_any (s : ByteArray) (w : World) (hl : LimP w.heap.size w) (hs : s.size ≤ 100000) : Calls Tryd.prog 21 #[.string s] w (RdP w (readN s)) := by
  have hmf : ∀ (fn : Fn) (first cap : Array Value) (w : World), (Instr.makeFunc fn first cap).run Tryd.prog w = .ok (.func fn first cap) w := fun _ _ _ _ => rfl
  obtain ⟨W1, hW1⟩ : ∃ W1, W1 = ((w.alloc (.cells #[.slice none 0 0] 26)).alloc (.cells #[.int .i64 0] 23)).alloc (.cells #[.string s, .int .i64 0, .int .i64 0, .slice none 0 0] 63) := ⟨_, rfl⟩
  have hB1 : W1.heap.size = w.heap.size + 3 := by rw [hW1]; simp
  have b1 : Below w.heap.size w W1 := by rw [hW1]; exact (((Below.refl _ _).alloc (Nat.le_refl _) _).alloc (by simp) _).alloc (by simp; omega) _
  have n0 : W1.heap[w.heap.size]? = some (.cells #[.slice none 0 0] 26) := by rw [hW1, heap_alloc_old _ _ (by simp; omega), heap_alloc_old _ _ (by simp), heap_alloc_new]
  have n1 : W1.heap[w.heap.size + 1]? = some (.cells #[.int .i64 0] 23) := by
    have e := heap_alloc_new (w.alloc (.cells #[.slice none 0 0] 26)) (.cells #[.int .i64 0] 23)
    rw [hW1, heap_alloc_old _ _ (by simp)]; simpa using e
  have n2 : W1.heap[w.heap.size + 1 + 1]? = some (.cells #[.string s, .int .i64 0, .int .i64 0, .slice none 0 0] 63) := by
    have e := heap_alloc_new ((w.alloc (.cells #[.slice none 0 0] 26)).alloc (.cells #[.int .i64 0] 23)) (.cells #[.string s, .int .i64 0, .int .i64 0, .slice none 0 0] 63)
    rw [hW1]; simpa using e
  have HR1 : Hid (RdB W1 (w.heap.size + 1 + 1) s 0 0 (.slice none 0 0) []) := Lib.hid ⟨n2, World.ownsRow_nil _ _ _ _⟩
  have HL1 : Hid (LimP (w.heap.size + 1 + 1) W1) := Lib.hid (by
    have e := b1.block _ hl.1
    refine ⟨by have := hl.1; omega, ?_, ?_⟩
    · rw [← hl.2.1]; unfold World.cell?; dsimp only; rw [e]
    · rw [← hl.2.2]; unfold World.cell?; dsimp only; rw [e])
  have HN := Lib.hid (And.intro n0 n1)
  have HB := Lib.hid b1
  have HFA : Hid (∀ k, (Value.slice none 0 0).ownBlock = some k → w.heap.size + 1 + 1 + 1 ≤ k) := Lib.hid (fun k e => by cases e)
  have hbl : bl s 0 ≤ s.size := bl_le (Nat.zero_le _)
  have HBK := Lib.hid (blanks_any W1 HR1.out (by omega) (by omega))
  obtain ⟨Z, hZ⟩ : ∃ Z, Z = readN s := ⟨_, rfl⟩
  rw [← hZ]
  unfold readN at hZ
  obtain ⟨i0, hi0⟩ : ∃ i0, i0 = bl s 0 := ⟨_, rfl⟩
  rw [← hi0] at hbl HBK hZ
  have HV := Lib.hid (fun W (r : RdB W (w.heap.size + 1 + 1) s i0 0 (.slice none 0 0) []) (l : LimP (w.heap.size + 1 + 1) W) => value_all hs 16 (w.heap.size + 1 + 1) i0 0 (.slice none 0 0) [] ⟨#[]⟩ W rfl r l hbl (by decide))
  have HOK := Lib.hid (fun j N => valM_ok s 17 0 ⟨#[]⟩ i0 [] j N hbl (by decide))
  dsimp only at HOK
  obtain ⟨X, hX⟩ : ∃ X, X = valM s 17 ⟨#[]⟩ 0 i0 [] := ⟨_, rfl⟩
  rw [← hX] at HV HOK hZ
  have HZ := Lib.hid hZ
  clear hX hi0 hZ n0 n1 n2 b1 hl hbl
  go_enter_defers Tryd.func21, Tryd.ntmps21
  go_wp2_with fail
  rw [← hW1]
  clear hW1
  refine HBK.out.mono ?_
  rintro e w2 ⟨rfl, r2, f2⟩
  have HV2 := Lib.hid (HV.out w2 r2 (HL1.out.fr f2 (by omega) HFA.out))
  have HF2 := Lib.hid (f2.below HFA.out (by omega))
  clear r2 f2 HV HBK
  go_wp2_with fail
  cases X with
  | bad m =>
    have HV3 : Hid (Calls Tryd.prog 33 #[.pointer (some ⟨w.heap.size + 1 + 1, 0, none⟩), .string ⟨#[]⟩] w2 fun e w' => e = thr m ∧ Below (w.heap.size + 1 + 1) w2 w') := Lib.hid HV2.out
    have HZ2 : Hid (Z = .bad m) := Lib.hid HZ.out
    refine HV3.out.mono ?_
    rintro e w3 ⟨he, b3⟩
    unfold thr at he
    subst he
    have HB3 := Lib.hid (HF2.out.trans b3)
    clear b3
    (try go_wp2_with fail)
    have n0 : w3.heap[w.heap.size]? = some (.cells #[.slice none 0 0] 26) := (HB3.out.block _ (by omega)).trans HN.out.1
    have n1 : w3.heap[w.heap.size + 1]? = some (.cells #[.int .i64 0] 23) := (HB3.out.block _ (by omega)).trans HN.out.2
    refine leaves_cons (f := 31) (args := #[.pointer (some ⟨w.heap.size, 0, none⟩), .pointer (some ⟨w.heap.size + 1, 0, none⟩)]) (by simp) (by simp [go_sem]) ?_
    refine (rcatchP w.heap.size (w.heap.size + 1) m (.slice none 0 0) (.int .i64 0) [] w3 (by simp [World.cell?, n0]) (by simp [World.frozen?, n0]) (by simp [World.cell?, n1]) (by simp [World.frozen?, n1]) (by omega)).mono ?_
    rintro e u' w'' ⟨rfl, rfl, hw⟩
    rw [HZ2.out]
    have m0 : w''.heap[w.heap.size]? = some (.cells #[.slice none 0 0] 26) := by
      rw [hw, Below.heap_setCell _ ⟨w.heap.size + 1, 0, none⟩ _ _ (show w.heap.size ≠ w.heap.size + 1 by omega)]
      simp [World.setCell, Array.getElem?_modify, n0]
    have m1 : w''.heap[w.heap.size + 1]? = some (.cells #[.int .i64 m] 23) := by
      rw [hw]
      simp [World.setCell, Array.getElem?_modify, n1]
    have d0 : w''.cell? ⟨w.heap.size, 0, none⟩ = some (.slice none 0 0) := by simp [World.cell?, m0]
    have d1 : w''.cell? ⟨w.heap.size + 1, 0, none⟩ = some (.int .i64 m) := by simp [World.cell?, m1]
    have bw : Below w.heap.size w w'' := by rw [hw]; exact ((HB.out.trans (HB3.out.mono (by omega))).setCell (by simp) _).setCell (by simp) _
    clear hw
    simp [Leaves, settle, results, Tryd.results21, go_sem, d0, d1]
    exact ⟨rfl, bw⟩
  | ok x =>
    obtain ⟨j, M⟩ := x
    have HV3 : Hid (Calls Tryd.prog 33 #[.pointer (some ⟨w.heap.size + 1 + 1, 0, none⟩), .string ⟨#[]⟩] w2 fun e w' => e = .returned (.tuple #[]) ∧ ∃ v', RdB w' (w.heap.size + 1 + 1) s j 0 v' M ∧ Fr (w.heap.size + 1 + 1) (.slice none 0 0) v' w2 w') := Lib.hid HV2.out
    obtain ⟨g1, g2, g3, g4, g5⟩ := HOK.out j M rfl
    have HZ1 : Hid (Z = if bl s j < s.size then .bad 40 else .ok M) := Lib.hid HZ.out
    clear HV2 HOK HZ g5
    refine HV3.out.mono ?_
    rintro e w3 ⟨rfl, v3, r3, f3⟩
    have hb1 := bl_ge s j
    have hb2 : bl s j ≤ s.size := bl_le g2
    have HB3' := Lib.hid (HF2.out.trans (f3.below HFA.out (by have := HF2.out.size; omega)))
    have HBK := Lib.hid (blanks_any w3 r3 (by omega) (by omega))
    have HR3 := Lib.hid r3
    clear r3 f3
    go_wp2_with fail
    refine HBK.out.mono ?_
    rintro e w4 ⟨rfl, r4, f4⟩
    have HB4 := Lib.hid (HB3'.out.trans (f4.below HR3.out.far (Nat.le_of_lt HR3.out.lt)))
    have c1 := r4.c1
    have c3 := r4.c3
    have HR4 := Lib.hid r4
    obtain ⟨j1, hj1⟩ : ∃ j1, j1 = bl s j := ⟨_, rfl⟩
    rw [← hj1] at c1 hb1 hb2 HZ1 HR4
    clear hj1 r4 f4 HBK
    by_cases hlt : j1 < s.size
    · have hlt2 : (j1 : Int) < s.size := by omega
      have HZ2 : Hid (Z = .bad 40) := Lib.hid (by rw [HZ1.out, if_pos hlt])
      go_wp2_with fail
      have HB3 := HB4
      clear HB4 HB3'
      have n0 : w4.heap[w.heap.size]? = some (.cells #[.slice none 0 0] 26) := (HB3.out.block _ (by omega)).trans HN.out.1
      have n1 : w4.heap[w.heap.size + 1]? = some (.cells #[.int .i64 0] 23) := (HB3.out.block _ (by omega)).trans HN.out.2
      refine leaves_cons (f := 31) (args := #[.pointer (some ⟨w.heap.size, 0, none⟩), .pointer (some ⟨w.heap.size + 1, 0, none⟩)]) (by simp) (by simp [go_sem]) ?_
      refine (rcatchP w.heap.size (w.heap.size + 1) 40 (.slice none 0 0) (.int .i64 0) [] w4 (by simp [World.cell?, n0]) (by simp [World.frozen?, n0]) (by simp [World.cell?, n1]) (by simp [World.frozen?, n1]) (by omega)).mono ?_
      rintro e u' w'' ⟨rfl, rfl, hw⟩
      rw [HZ2.out]
      have m0 : w''.heap[w.heap.size]? = some (.cells #[.slice none 0 0] 26) := by
        rw [hw, Below.heap_setCell _ ⟨w.heap.size + 1, 0, none⟩ _ _ (show w.heap.size ≠ w.heap.size + 1 by omega)]
        simp [World.setCell, Array.getElem?_modify, n0]
      have m1 : w''.heap[w.heap.size + 1]? = some (.cells #[.int .i64 40] 23) := by
        rw [hw]
        simp [World.setCell, Array.getElem?_modify, n1]
      have d0 : w''.cell? ⟨w.heap.size, 0, none⟩ = some (.slice none 0 0) := by simp [World.cell?, m0]
      have d1 : w''.cell? ⟨w.heap.size + 1, 0, none⟩ = some (.int .i64 40) := by simp [World.cell?, m1]
      have bw : Below w.heap.size w w'' := by rw [hw]; exact ((HB.out.trans (HB3.out.mono (by omega))).setCell (by simp) _).setCell (by simp) _
      clear hw
      simp [Leaves, settle, results, Tryd.results21, go_sem, d0, d1]
      exact ⟨rfl, bw⟩
    · have hlt2 : ¬ (j1 : Int) < s.size := by omega
      have HZ2 : Hid (Z = .ok M) := Lib.hid (by rw [HZ1.out, if_neg hlt])
      obtain ⟨q, cap, rfl, hpq, hqs⟩ := HR4.out.addr (by omega)
      have n0 : w4.heap[w.heap.size]? = some (.cells #[.slice none 0 0] 26) := (HB4.out.block _ (by omega)).trans HN.out.1
      have n1 : w4.heap[w.heap.size + 1]? = some (.cells #[.int .i64 0] 23) := (HB4.out.block _ (by omega)).trans HN.out.2
      have k0 : w4.cell? ⟨w.heap.size, 0, none⟩ = some (.slice none 0 0) := by simp [World.cell?, n0]
      have k1 : w4.cell? ⟨w.heap.size + 1, 0, none⟩ = some (.int .i64 0) := by simp [World.cell?, n1]
      have z0 : w4.frozen? ⟨w.heap.size, 0, none⟩ = false := by simp [World.frozen?, n0]
      have z1 : w4.frozen? ⟨w.heap.size + 1, 0, none⟩ = false := by simp [World.frozen?, n1]
      obtain ⟨Wf, hWf⟩ : ∃ Wf, Wf = (w4.setCell ⟨w.heap.size, 0, none⟩ (.slice (some ⟨q, 0, none⟩) M.length cap)).setCell ⟨w.heap.size + 1, 0, none⟩ (.int .i64 0) := ⟨_, rfl⟩
      have m0 : Wf.heap[w.heap.size]? = some (.cells #[.slice (some ⟨q, 0, none⟩) M.length cap] 26) := by
        rw [hWf, Below.heap_setCell _ ⟨w.heap.size + 1, 0, none⟩ _ _ (show w.heap.size ≠ w.heap.size + 1 by omega)]
        simp [World.setCell, Array.getElem?_modify, n0]
      have m1 : Wf.heap[w.heap.size + 1]? = some (.cells #[.int .i64 0] 23) := by
        rw [hWf]
        simp [World.setCell, Array.getElem?_modify, n1]
      have bw : Hid (Below w.heap.size w Wf) := Lib.hid (by rw [hWf]; exact ((HB.out.trans (HB4.out.mono (by omega))).setCell (by simp) _).setCell (by simp) _)
      have hrow : Hid (Wf.ownsRow w.heap.size 42 5 (.slice (some ⟨q, 0, none⟩) M.length cap) M.length (rw5 M)) := Lib.hid (own_base (own_move HR4.out.row (fun j hj => by
        cases hj
        rw [hWf, Below.heap_setCell _ ⟨w.heap.size + 1, 0, none⟩ _ _ (show q ≠ w.heap.size + 1 by omega), Below.heap_setCell _ ⟨w.heap.size, 0, none⟩ _ _ (show q ≠ w.heap.size by omega)])) (by omega))
      have M01 := Lib.hid (And.intro m0 m1)
      have HWF := Lib.hid hWf
      clear n0 n1 m0 m1 hWf
      go_wp2_with fail
      rw [← HWF.out]
      clear HWF
      refine leaves_cons (f := 31) (args := #[.pointer (some ⟨w.heap.size, 0, none⟩), .pointer (some ⟨w.heap.size + 1, 0, none⟩)]) (by simp) (by simp [go_sem]) ?_
      refine (rcatchI _ _ Wf).mono ?_
      rintro e u' w'' ⟨rfl, rfl, rfl⟩
      have d0 : w''.cell? ⟨w.heap.size, 0, none⟩ = some (.slice (some ⟨q, 0, none⟩) M.length cap) := by simp [World.cell?, M01.out.1]
      have d1 : w''.cell? ⟨w.heap.size + 1, 0, none⟩ = some (.int .i64 0) := by simp [World.cell?, M01.out.2]
      rw [HZ2.out]
      simp [Leaves, settle, results, Tryd.results21, go_sem, d0, d1]
      exact ⟨_, rfl, hrow.out, bw.out⟩
end Go.Proofs.YtoicmcjpaodgpaaDoor
/- Layer 4: Read. -/
namespace Go.Proofs.YtoicmcjpaodgpaaDoor
open Go.RowKit Go.Maps
theorem ckE_size {s : ByteArray} (h : ckE s = 0) : s.size ≤ 16384 := by
  unfold ckE at h
  split at h
  · cases h
  · omega
theorem LimP.up {w w' : World} (l : LimP w.heap.size w) (b : Below w.heap.size w w') : LimP w'.heap.size w' := by
  have e := b.block _ l.1
  refine ⟨Nat.lt_of_lt_of_le l.1 b.size, ?_, ?_⟩
  · rw [← l.2.1]; unfold World.cell?; dsimp only; rw [e]
  · rw [← l.2.2]; unfold World.cell?; dsimp only; rw [e]
set_option maxRecDepth 20000 in
theorem Read_any (s : ByteArray) (w : World) (hl : LimP w.heap.size w) (hs : s.size ≤ maxLen) : Calls Tryd.prog 10 #[.string s] w (RdP w (readM s)) := by
  have HC := Lib.hid (check_any s w hs)
  have HR := Lib.hid (fun (h : ckE s = 0) W (b : Below w.heap.size w W) => jread_any s W (hl.up b) (by have := ckE_size h; omega))
  have HE : Hid (ckE s = 0 → readM s = readN s) := Lib.hid (fun h => by unfold readM readN; rw [if_neg (by omega)])
  have HE2 : Hid (ckE s ≠ 0 → readM s = .bad (ckE s)) := Lib.hid (fun h => by unfold readM; rw [if_pos h])
  obtain ⟨c, hc⟩ : ∃ c, c = ckE s := ⟨_, rfl⟩
  rw [← hc] at HC HR HE HE2
  clear hc hl
  obtain ⟨Z, hZ⟩ : ∃ Z, Z = readM s := ⟨_, rfl⟩
  rw [← hZ] at HE HE2 ⊢
  clear hZ
  by_cases h0 : c = 0
  · have HZ := Lib.hid (HE.out h0)
    have HR1 := Lib.hid (HR.out h0)
    clear HR HE HE2
    subst h0
    obtain ⟨X, hX⟩ : ∃ X, X = readN s := ⟨_, rfl⟩
    rw [← hX] at HZ HR1
    clear hX
    go_enter Tryd.func10, Tryd.ntmps10
    go_wp2_with fail
    refine HC.out.mono ?_
    rintro e w1 ⟨rfl, b1⟩
    have HR2 := Lib.hid (HR1.out w1 b1)
    have HB1 := Lib.hid b1
    clear b1 HR1
    go_wp2_with fail
    refine HR2.out.mono ?_
    intro e w2 h2
    cases X with
    | bad m =>
      obtain ⟨rfl, b2⟩ : e = .returned (.tuple #[.slice none 0 0, .int .i64 m]) ∧ Below w1.heap.size w1 w2 := h2
      have HB2 := Lib.hid (HB1.out.trans (b2.mono HB1.out.size))
      clear b2
      go_wp2_with fail
      go_ret2
      rw [HZ.out]
      exact ⟨rfl, HB2.out⟩
    | ok M =>
      obtain ⟨v, rfl, o2, b2⟩ : ∃ v, e = .returned (.tuple #[v, .int .i64 0]) ∧ w2.ownsRow w1.heap.size 42 5 v M.length (rw5 M) ∧ Below w1.heap.size w1 w2 := h2
      have HB2 := Lib.hid (HB1.out.trans (b2.mono HB1.out.size))
      have HO := Lib.hid (own_base o2 HB1.out.size)
      clear b2 o2
      go_wp2_with fail
      go_ret2
      rw [HZ.out]
      exact ⟨_, rfl, HO.out, HB2.out⟩
  · have HZ := Lib.hid (HE2.out h0)
    have hb : (c != 0) = true := by simp [bne, beq_eq_false_iff_ne.2 h0]
    clear HR HE HE2 h0
    go_enter Tryd.func10, Tryd.ntmps10
    go_wp2_with fail
    refine HC.out.mono ?_
    rintro e w1 ⟨rfl, b1⟩
    have HB1 := Lib.hid b1
    clear b1
    go_wp2_with fail
    go_ret2
    rw [HZ.out]
    exact ⟨rfl, HB1.out⟩
end Go.Proofs.YtoicmcjpaodgpaaDoor
/- Layer 31, ServeWrites: a text quoted, what is no text as the empty one. -/
namespace Go.Proofs.YtoicmcjpaodgpaaDoor
open Go.RowKit
def sqT (s : ByteArray) : ByteArray := if isTx s then quT s else ⟨#[34, 34]⟩
theorem ck_small {s : ByteArray} (h : s.size ≤ 16384) : ckE s = if isTx s = true then 0 else 10 := by unfold ckE; rw [if_neg (by omega)]
theorem quT_nil : quT ⟨#[]⟩ = ⟨#[34, 34]⟩ := by rfl
set_option maxRecDepth 20000 in
theorem jQuote_any (s : ByteArray) (w : World) (hs : s.size ≤ 16384) : Calls Tryd.prog 9 #[.string s] w fun e w' => e = .returned (.tuple #[.string (if isTx s then quT s else ⟨#[]⟩), .int .i64 (ckE s)]) ∧ Below w.heap.size w w' := by
  have HC := Lib.hid (check_any s w (by unfold maxLen; omega))
  have HJ := Lib.hid (fun W => jquote_any s W (by omega))
  obtain ⟨b, hb⟩ : ∃ b, b = isTx s := ⟨_, rfl⟩
  have HE : Hid (ckE s = if b = true then 0 else 10) := Lib.hid (by rw [hb]; exact ck_small hs)
  rw [HE.out] at HC ⊢
  rw [← hb]
  clear hb HE
  cases b with
  | false =>
    go_enter Tryd.func9, Tryd.ntmps9
    go_wp2_with fail
    refine HC.out.mono ?_
    rintro e w1 ⟨rfl, b1⟩
    have B1 := Lib.hid b1
    clear b1
    go_wp2_with fail
    go_ret2
    exact ⟨rfl, B1.out⟩
  | true =>
    go_enter Tryd.func9, Tryd.ntmps9
    go_wp2_with fail
    refine HC.out.mono ?_
    rintro e w1 ⟨rfl, b1⟩
    have B1 := Lib.hid b1
    clear b1
    go_wp2_with fail
    refine (HJ.out w1).mono ?_
    rintro e w2 ⟨v, rfl, bo⟩
    have hcv := conv_own bo.1 (qu_end s)
    have B2 := Lib.hid (B1.out.trans (bo.2.mono B1.out.size))
    clear bo HJ HC
    go_wp2_with fail
    go_ret2
    exact ⟨rfl, B2.out⟩
end Go.Proofs.YtoicmcjpaodgpaaDoor
/- Layer 4: reads, fails, alive. -/
namespace Go.Proofs.YtoicmcjpaodgpaaDoor
open Go.RowKit Go.Maps
/-- The tables that JSON's numbers ask. -/
structure JF (w : World) : Prop where
  lim : LimP w.heap.size w
  tab : Tabs w
theorem JF.up {w w' : World} (h : JF w) (b : Below w.heap.size w w') : JF w' := ⟨h.lim.up b, h.tab.later b⟩
set_option maxRecDepth 20000 in
theorem fails_any (s : ByteArray) (m : Int) (w : World) (hj : JF w) (hs : s.size ≤ maxLen) (h : readM s = .bad m) : Calls Tryd.prog 8 #[.string s, .int .i64 m] w fun e w' => e = .returned (.bool true) ∧ Below w.heap.size w w' := by
  have HR := Lib.hid (Read_any s w hj.lim hs)
  rw [h] at HR
  have HR1 : Hid (Calls Tryd.prog 10 #[.string s] w fun e w' => e = .returned (.tuple #[.slice none 0 0, .int .i64 m]) ∧ Below w.heap.size w w') := Lib.hid HR.out
  clear HR hj h
  go_enter Tryd.func8, Tryd.ntmps8
  go_wp2_with fail
  refine HR1.out.mono ?_
  rintro e w1 ⟨rfl, b1⟩
  have HB := Lib.hid b1
  clear b1
  go_wp2_with fail
  go_ret
  exact ⟨rfl, HB.out⟩
def okM (x : Rs (List CR)) (g : Nat → CR) (n : Nat) : Bool := match x with
  | .ok M => smB (gl M) M.length g n
  | .bad _ => false
/-- No error is 0. -/
def NZ {α : Type} (x : Rs α) : Prop := ∀ e, x = .bad e → e ≠ 0
theorem nz_ok {α : Type} (a : α) : NZ (Rs.ok a) := fun e h => by cases h
theorem nz_bad {α : Type} {e : Int} (h : e ≠ 0) : NZ (Rs.bad e : Rs α) := fun e' h' => by cases h'; exact h
theorem nz_bind {α β : Type} {x : Rs α} {f : α → Rs β} (h : NZ x) (k : ∀ a, NZ (f a)) : NZ (x.bind f) := by
  cases x with
  | ok a => exact k a
  | bad e => exact fun e' h' => by cases h'; exact h e rfl
theorem nz_ite {α : Type} {c : Prop} [Decidable c] {x y : Rs α} (h : NZ x) (k : NZ y) : NZ (if c then x else y) := by
  split
  · exact h
  · exact k
theorem nz_word (s : ByteArray) : ∀ (l : List Int) (i : Nat), NZ (wordM s l i)
  | [], i => nz_ok _
  | c :: l, i => nz_ite (nz_word s l (i + 1)) (nz_bad (by decide))
theorem nz_four (s : ByteArray) : ∀ (k i : Nat) (n : Int), NZ (fourF s k i n)
  | 0, _, _ => nz_ok _
  | k + 1, _, _ => nz_ite (nz_bad (by decide)) (nz_four s k _ _)
theorem nz_point (s : ByteArray) (i : Nat) : NZ (pointM s i) := nz_bind (nz_four s 4 i 0) fun x => nz_ite (nz_bind (nz_word s _ _) fun j => nz_bind (nz_four s 4 j 0) fun y => nz_ite (nz_bad (by decide)) (nz_ok _)) (nz_ite (nz_ok _) (nz_bad (by decide)))
theorem nz_esc (s : ByteArray) (i : Nat) : NZ (escM s i) := by
  unfold escM
  dsimp only
  exact nz_ite (nz_ok _) (nz_ite (nz_ok _) (nz_ite (nz_ok _) (nz_ite (nz_ok _) (nz_ite (nz_ok _) (nz_ite (nz_ok _) (nz_ite (nz_bind (nz_point s _) fun x => nz_ok _) (nz_bad (by decide))))))))
theorem nz_strF (s : ByteArray) : ∀ (f j : Nat) (l : List Int), NZ (strF s f j l)
  | 0, _, _ => nz_bad (by decide)
  | f + 1, j, l => nz_ite (nz_ok _) (nz_ite (nz_bind (nz_esc s _) fun x => nz_strF s f _ _) (nz_ite (nz_bad (by decide)) (nz_strF s f _ _)))
theorem nz_str (s : ByteArray) (i : Nat) : NZ (strM s i) := nz_bind (nz_word s _ _) fun j => nz_strF s _ _ _
theorem nz_num (s : ByteArray) (i : Nat) : NZ (numM s i) := by
  unfold numM intM
  exact nz_bind (nz_ite (nz_ok _) (nz_ite (nz_bad (by decide)) (nz_ok _))) fun b => nz_ite (nz_ok _) (nz_bad (by decide))
theorem nz_lstF {s : ByteArray} {V : Nat → List CR → Rs Out} (hV : ∀ i L, NZ (V i L)) (h : Nat) : ∀ (f i : Nat) (L : List CR), NZ (lstF s V h f i L)
  | 0, _, _ => nz_bad (by decide)
  | f + 1, _, _ => nz_ite (nz_bind (hV _ _) fun x => nz_lstF hV h f _ _) (nz_bind (nz_word s _ _) fun j => nz_ok _)
theorem nz_lst {s : ByteArray} {V : Nat → List CR → Rs Out} (hV : ∀ i L, NZ (V i L)) (h i : Nat) (L : List CR) : NZ (lstM s V h i L) := nz_ite (nz_ok _) (nz_bind (hV _ _) fun x => nz_lstF hV h _ _ _)
theorem nz_mem {s : ByteArray} {V : ByteArray → Nat → List CR → Rs Out} (hV : ∀ nm i L, NZ (V nm i L)) (h i : Nat) (ns : List ByteArray) (L : List CR) : NZ (memM s V h i ns L) := nz_bind (nz_str s i) fun x => nz_ite (nz_bad (by decide)) (nz_ite (nz_bad (by decide)) (nz_bind (nz_word s _ _) fun k => nz_bind (hV _ _ _) fun y => nz_ok _))
theorem nz_objF {s : ByteArray} {V : ByteArray → Nat → List CR → Rs Out} (hV : ∀ nm i L, NZ (V nm i L)) (h : Nat) : ∀ (f i : Nat) (ns : List ByteArray) (L : List CR), NZ (objF s V h f i ns L)
  | 0, _, _, _ => nz_bad (by decide)
  | f + 1, _, _, _ => nz_ite (nz_bind (nz_mem hV h _ _ _) fun x => nz_objF hV h f _ _ _) (nz_bind (nz_word s _ _) fun j => nz_ok _)
theorem nz_obj {s : ByteArray} {V : ByteArray → Nat → List CR → Rs Out} (hV : ∀ nm i L, NZ (V nm i L)) (h i : Nat) (L : List CR) : NZ (objM s V h i L) := nz_ite (nz_ok _) (nz_bind (nz_mem hV h _ _ _) fun x => nz_objF hV h _ _ _ _)
theorem nz_val (s : ByteArray) : ∀ (f : Nat) (nm : ByteArray) (op i : Nat) (L : List CR), NZ (valM s f nm op i L)
  | 0, _, _, _, _ => nz_bad (by decide)
  | f + 1, nm, op, i, L => by
    have ih := nz_val s f
    unfold valM
    exact nz_ite (nz_bad (by decide)) (nz_ite (nz_bad (by decide)) (nz_ite (nz_bad (by decide)) (nz_ite (nz_obj (fun _ _ _ => ih _ _ _ _) _ _ _) (nz_ite (nz_lst (fun _ _ => ih _ _ _ _) _ _ _) (nz_ite (nz_bind (nz_str s i) fun x => nz_ok _) (nz_ite (nz_bind (nz_word s _ _) fun x => nz_ok _) (nz_ite (nz_bind (nz_word s _ _) fun x => nz_ok _) (nz_ite (nz_bind (nz_word s _ _) fun x => nz_ok _) (nz_bind (nz_num s i) fun x => nz_ok _)))))))))
theorem bad_ne {s : ByteArray} {m : Int} (h : readM s = .bad m) : m ≠ 0 := by
  unfold readM at h
  split at h
  · cases h
    assumption
  · exact nz_bind (nz_val s _ _ _ _ _) (fun x => nz_ite (nz_bad (by decide)) (nz_ok _)) m h
theorem own_len {w : World} {B n : Nat} {v : Value} {xs : List Value} {e : TypeId} {sz : Nat} (h : w.ownsRow B e sz v n xs) : n ≤ maxLen := by
  rcases h.2 with ⟨_, hn⟩ | ⟨g, cap, cur, rfl, hb, hg, h1, h2, h3, h4⟩
  · rw [hn]; exact Nat.zero_le _
  · exact Nat.le_trans h1 h2
set_option maxRecDepth 20000 in
theorem reads_any (s : ByteArray) (a : Option Addr) (n cap : Nat) (g : Nat → CR) (w : World) (hj : JF w) (hs : s.size ≤ maxLen) (hv : CV w a n g) (hn : n ≤ maxLen) : Calls Tryd.prog 18 #[.string s, .slice a n cap] w fun e w' => e = .returned (.bool (okM (readM s) g n)) ∧ Below w.heap.size w w' := by
  have HR := Lib.hid (Read_any s w hj.lim hs)
  have HN := Lib.hid (fun m => bad_ne (s := s) (m := m))
  have HV := Lib.hid hv
  have HM := Lib.hid hn
  obtain ⟨X, hX⟩ : ∃ X, X = readM s := ⟨_, rfl⟩
  rw [← hX] at HR HN ⊢
  clear hX hj hv hn
  cases X with
  | bad m =>
    have HR1 : Hid (Calls Tryd.prog 10 #[.string s] w fun e w' => e = .returned (.tuple #[.slice none 0 0, .int .i64 m]) ∧ Below w.heap.size w w') := Lib.hid HR.out
    have hm : (m == 0) = false := beq_eq_false_iff_ne.2 (HN.out m rfl)
    clear HR HN
    go_enter Tryd.func18, Tryd.ntmps18
    go_wp2_with fail
    refine HR1.out.mono ?_
    rintro e w1 ⟨rfl, b1⟩
    have HB := Lib.hid b1
    clear b1
    go_wp2_with fail
    go_ret
    exact ⟨rfl, HB.out⟩
  | ok M =>
    have HR1 : Hid (Calls Tryd.prog 10 #[.string s] w fun e w' => ∃ v, e = .returned (.tuple #[v, .int .i64 0]) ∧ w'.ownsRow w.heap.size 42 5 v M.length (rw5 M) ∧ Below w.heap.size w w') := Lib.hid HR.out
    have HE : Hid (okM (.ok M) g n = smB (gl M) M.length g n) := Lib.hid rfl
    clear HR HN
    go_enter Tryd.func18, Tryd.ntmps18
    go_wp2_with fail
    refine HR1.out.mono ?_
    rintro e w1 ⟨v, rfl, o1, b1⟩
    obtain ⟨ad, cp, rfl, hcv, _, _⟩ := own_cv rfl o1
    have HS := Lib.hid (rsame_any ad a M.length n cp cap (gl M) g w1 hcv (HV.out.below b1) (own_len o1))
    have HB := Lib.hid b1
    obtain ⟨z, hz⟩ : ∃ z, z = smB (gl M) M.length g n := ⟨_, rfl⟩
    rw [← hz] at HS HE
    clear b1 o1 hcv hz
    go_wp2_with fail
    refine HS.out.mono ?_
    rintro e w2 ⟨rfl, b2⟩
    have HB2 := Lib.hid (HB.out.trans (b2.mono HB.out.size))
    clear b2
    go_wp2_with fail
    go_ret
    exact ⟨by rw [HE.out]; rfl, HB2.out⟩
end Go.Proofs.YtoicmcjpaodgpaaDoor
/- Layer 4: the frame of the laws of json. -/
namespace Go.Proofs.YtoicmcjpaodgpaaDoor
open Go.ChangeShapes Go.WideShapes Go.ChangeAt Go.RowKit
theorem gLimits : Tryd.prog.globalNamed "provost/whole.limits" = some 1 := by kernel_rfl
def laid4 : List (String × DataW Unit) := [("math/bits.deBruijn32tab", Rows.laid_math_bits_deBruijn32tab), ("math/bits.deBruijn64tab", Rows.laid_math_bits_deBruijn64tab), ("internal/strconv.uint64pow10", Rows.laid_internal_strconv_uint64pow10), ("provost/whole.limits", Rows.laid_provost_whole_limits)]
theorem door_met4 (os : Os) (args : Array Value) : laidMetH Tryd.prog laid4 ((World.doorLaid Tryd.prog 400 os).forCall (fun _ _ => 0) ⟨#[], args, []⟩).memory :=
  laidMetH_of_parts3 (fuel := 8) (laidMet_of_run' 8 (by kernel_rfl) (by kernel_rfl)) (by kernel_rfl) (by kernel_rfl)
theorem limP_of {W : World} (h : Nm.Lim W) : LimP W.heap.size W := ⟨World.block_lt_of_cell? _ _ h.1, h⟩
theorem facts4 {W : World} (h : laidMetH Tryd.prog laid4 W) : JF W := by
  rw [MakeChecks.laidMetH_plain _ _ _ (by kernel_rfl)] at h
  have h2 := laidMet.tail (laidMet.tail h)
  have hT := Lib.tabIs_of_head (k := .u64) (zs := [9223372036854775808, 9223372036854775807]) gLimits (by kernel_rfl : (Tryd.prog.globals[(1 : Nat)]?).map (·.type) = some 129) (by kernel_rfl : Tryd.prog.underlying 129 = some (.array 2 110)) Tryd.underlying110 (by kernel_rfl) (by kernel_rfl) (laidMet.tail h2)
  exact ⟨limP_of ⟨hT.cell gLimits 0 (by decide), hT.cell gLimits 1 (by decide)⟩, Lib.tabIs_of_head (k := .u64) (zs := Lib.pow10Tab) gPow (by kernel_rfl : (Tryd.prog.globals[0]?).map (·.type) = some 124) (by kernel_rfl : Tryd.prog.underlying 124 = some (.array 20 110)) Tryd.underlying110 (by kernel_rfl) (by kernel_rfl) h2⟩
def laid1 : List (String × DataW Unit) := [("provost/whole.limits", Rows.laid_provost_whole_limits)]
theorem door_met1 (os : Os) (args : Array Value) : laidMetH Tryd.prog laid1 ((World.doorLaid Tryd.prog 400 os).forCall (fun _ _ => 0) ⟨#[], args, []⟩).memory :=
  laidMetH_of_parts3 (fuel := 8) (laidMet_of_run' 8 (by kernel_rfl) (by kernel_rfl)) (by kernel_rfl) (by kernel_rfl)
theorem facts1 {W : World} (h : laidMetH Tryd.prog laid1 W) : LimP W.heap.size W := by
  rw [MakeChecks.laidMetH_plain _ _ _ (by kernel_rfl)] at h
  have hT := Lib.tabIs_of_head (k := .u64) (zs := [9223372036854775808, 9223372036854775807]) gLimits (by kernel_rfl : (Tryd.prog.globals[(1 : Nat)]?).map (·.type) = some 129) (by kernel_rfl : Tryd.prog.underlying 129 = some (.array 2 110)) Tryd.underlying110 (by kernel_rfl) (by kernel_rfl) h
  exact limP_of ⟨hT.cell gLimits 0 (by decide), hT.cell gLimits 1 (by decide)⟩
end Go.Proofs.YtoicmcjpaodgpaaDoor
/- Layer 4: what stands at a place; words and strings that are read (plain). -/
namespace Go.Proofs.YtoicmcjpaodgpaaDoor
open Go.RowKit
/-- Those bytes stand at a place. -/
def AtL (s : ByteArray) : Nat → List Int → Prop
  | i, [] => i ≤ s.size
  | i, c :: r => i < s.size ∧ byt s i = c ∧ AtL s (i + 1) r
theorem at_le {s : ByteArray} : ∀ {L : List Int} {i : Nat}, AtL s i L → i + L.length ≤ s.size
  | [], i, h => h
  | c :: r, i, h => by have := at_le h.2.2; simp; omega
theorem at_app {s : ByteArray} : ∀ {A B : List Int} {i : Nat}, AtL s i (A ++ B) ↔ AtL s i A ∧ AtL s (i + A.length) B
  | [], B, i => ⟨fun h => ⟨by have := at_le h; show i ≤ s.size; simp at this; omega, h⟩, fun h => h.2⟩
  | c :: r, B, i => by
    have ih := at_app (s := s) (A := r) (B := B) (i := i + 1)
    have e : i + 1 + r.length = i + (c :: r).length := by simp; omega
    rw [e] at ih
    exact ⟨fun h => ⟨⟨h.1, h.2.1, (ih.1 h.2.2).1⟩, (ih.1 h.2.2).2⟩, fun h => ⟨h.1.1, h.1.2.1, ih.2 ⟨h.1.2.2, h.2⟩⟩⟩
theorem bI_at (s : ByteArray) (i : Nat) (h : i < s.size) : (bI s)[i]? = some (byt s i) := by
  unfold bI
  rw [List.getElem?_map, Array.getElem?_toList, Array.getElem?_eq_getElem (show i < s.data.size from h), ← byt_eq s i h]
  rfl
theorem at_drop (s : ByteArray) : ∀ f i, i + f = s.size → AtL s i ((bI s).drop i)
  | 0, i, h => by
    rw [List.drop_eq_nil_of_le (by rw [bI_len]; omega)]
    show i ≤ s.size
    omega
  | f + 1, i, h => by
    have hi : i < (bI s).length := by rw [bI_len]; omega
    rw [List.drop_eq_getElem_cons hi]
    have e := bI_at s i (by omega)
    rw [List.getElem?_eq_getElem hi] at e
    exact ⟨by omega, (Option.some.inj e).symm, at_drop s f (i + 1) (by omega)⟩
theorem at_all (s : ByteArray) : AtL s 0 (bI s) := by
  have h := at_drop s s.size 0 (by omega)
  rwa [List.drop_zero] at h
/-- Two texts with the same bytes there. -/
theorem at_take {s : ByteArray} : ∀ {L : List Int} {i : Nat}, AtL s i L → (bI s).drop i = L ++ (bI s).drop (i + L.length)
  | [], i, _ => by simp
  | c :: r, i, h => by
    have hi : i < (bI s).length := by rw [bI_len]; exact h.1
    rw [List.drop_eq_getElem_cons hi]
    have e := bI_at s i h.1
    rw [List.getElem?_eq_getElem hi, h.2.1] at e
    have ih := at_take h.2.2
    rw [Option.some.inj e, ih, show i + 1 + r.length = i + (c :: r).length by simp; omega]
    rfl
theorem bI_inj {a b : ByteArray} (h : bI a = bI b) : a = b := by rw [← mk_bI a, ← mk_bI b, h]
theorem bI_extract (s : ByteArray) (a b : Nat) : bI (s.extract a b) = ((bI s).take b).drop a := by
  unfold bI
  rw [ByteArray.data_extract, Array.toList_extract, List.extract_eq_take_drop, List.map_take, List.map_drop, List.drop_take]
theorem at_extract {s : ByteArray} {L : List Int} {i : Nat} (h : AtL s i L) : bI (s.extract i (i + L.length)) = L := by
  rw [bI_extract, List.drop_take, at_take h, Nat.add_sub_cancel_left]
  exact List.take_left
theorem word_at {s : ByteArray} : ∀ {L : List Int} {i : Nat}, AtL s i L → wordM s L i = .ok (i + L.length)
  | [], i, _ => rfl
  | c :: r, i, h => by
    unfold wordM
    rw [if_pos h.2.1, word_at h.2.2]
    simp
    omega
theorem hex_hexI (d : Int) (h0 : 0 ≤ d) (h1 : d < 16) : hexV (hexI d) = d := by
  unfold hexI hexV
  split
  · rw [if_pos (by omega)]; omega
  · rw [if_neg (by omega), if_pos (by omega)]; omega
theorem short_back (x : Int) (h : shortI x ≠ 0) : escM = escM ∧ (x = 34 ∨ x = 92 ∨ x = 8 ∨ x = 9 ∨ x = 10 ∨ x = 12 ∨ x = 13) := by
  refine ⟨rfl, ?_⟩
  unfold shortI at h
  (repeat' split at h) <;> first | omega | exact absurd rfl h
theorem low_point {s : ByteArray} {j : Nat} {x : Int} (h0 : 0 ≤ x) (h : x < 32) (a1 : byt s j = 48) (a2 : byt s (j + 1) = 48) (a3 : byt s (j + 1 + 1) = hexI (x / 16)) (a4 : byt s (j + 1 + 1 + 1) = hexI (x % 16)) : pointM s j = .ok (x, j + 4) := by
  have e1 := hex_hexI (x / 16) (by omega) (by omega)
  have e2 := hex_hexI (x % 16) (by omega) (by omega)
  have z : hexV 48 = 0 := by decide
  have f : fourF s 4 j 0 = .ok (x, j + 4) := by
    unfold fourF; rw [a1, z, if_neg (by decide)]
    unfold fourF; rw [a2, z, if_neg (by decide)]
    unfold fourF; rw [a3, e1, if_neg (by omega)]
    unfold fourF; rw [a4, e2, if_neg (by omega)]
    unfold fourF
    rw [show ((((0 : Int) * 16 + 0) * 16 + 0) * 16 + x / 16) * 16 + x % 16 = x by omega]
  unfold pointM
  rw [f, Rs.bind_ok]
  dsimp only
  rw [if_neg (by omega), if_pos (by unfold isPt; simp; omega)]
theorem enc_low (x : Int) (h : x < 128) : enc x = [x] := by unfold enc; rw [if_pos h]
/-- One byte, as it is quoted, is read. -/
theorem esc_read {s : ByteArray} {x : Int} {j f : Nat} {l : List Int} (h0 : 0 ≤ x) (h : AtL s j (escI x)) : strF s (f + 1) j l = strF s f (j + (escI x).length) (l ++ [x]) := by
  by_cases hs : shortI x ≠ 0
  · rw [esc_short hs] at h ⊢
    obtain ⟨_, b1, _, b2, _⟩ := h
    have e : escM s (j + 1) = .ok ([x], j + 2) := by
      have hx := (short_back x hs).2
      unfold escM
      dsimp only
      rw [b2]
      rcases hx with rfl | rfl | rfl | rfl | rfl | rfl | rfl <;> rfl
    rw [strF, b1, if_neg (by decide), if_pos rfl, e]
    rfl
  · have hs' : shortI x = 0 := by simpa using hs
    by_cases hl : x < 32
    · rw [esc_low hs' hl] at h ⊢
      obtain ⟨_, b1, _, b2, _, b3, _, b4, _, b5, _, b6, _⟩ := h
      have e : escM s (j + 1) = .ok ([x], j + 6) := by
        unfold escM
        dsimp only
        rw [b2]
        rw [if_neg (by decide), if_neg (by decide), if_neg (by decide), if_neg (by decide), if_neg (by decide), if_neg (by decide), if_pos rfl, low_point h0 hl b3 b4 b5 b6, Rs.bind_ok]
        dsimp only
        rw [enc_low x (by omega)]
      rw [strF, b1, if_neg (by decide), if_pos rfl, e]
      rfl
    · rw [esc_own hs' hl] at h ⊢
      obtain ⟨_, b1, _⟩ := h
      have n34 : x ≠ 34 := fun e => hs (by rw [e]; decide)
      have n92 : x ≠ 92 := fun e => hs (by rw [e]; decide)
      rw [strF, b1, if_neg n34, if_neg n92, if_neg hl]
      rfl
def esL (L : List Int) : List Int := L.flatMap escI
theorem esc_pos (x : Int) : 1 ≤ (escI x).length := by unfold escI; split <;> (try split) <;> simp
theorem esL_len : ∀ L : List Int, L.length ≤ (esL L).length
  | [] => Nat.le_refl _
  | x :: r => by
    have := esL_len r
    have := esc_pos x
    show (x :: r).length ≤ (escI x ++ esL r).length
    simp; omega
theorem str_read {s : ByteArray} : ∀ (L : List Int) (f j : Nat) (l : List Int), (∀ x ∈ L, 0 ≤ x) → AtL s j (esL L ++ [34]) → L.length < f → strF s f j l = .ok (l ++ L, j + (esL L).length + 1)
  | [], f, j, l, _, h, hf => by
    obtain ⟨f', rfl⟩ : ∃ f', f = f' + 1 := ⟨f - 1, by omega⟩
    have h2 : byt s j = 34 := h.2.1
    unfold strF
    rw [if_pos h2, List.append_nil]
    rfl
  | x :: r, f, j, l, h0, h, hf => by
    obtain ⟨f', rfl⟩ : ∃ f', f = f' + 1 := ⟨f - 1, by omega⟩
    have e : esL (x :: r) ++ [34] = escI x ++ (esL r ++ [34]) := by show (escI x ++ esL r) ++ [34] = _; rw [List.append_assoc]
    rw [e, at_app] at h
    rw [esc_read (h0 x (by simp)) h.1, str_read r f' _ _ (fun y hy => h0 y (by simp [hy])) h.2 (by simp at hf; omega)]
    have e2 : (esL (x :: r)).length = (escI x).length + (esL r).length := by show (escI x ++ esL r).length = _; rw [List.length_append]
    rw [e2]
    simp
    omega
theorem quL_esL (t : ByteArray) : ∀ k, k ≤ t.size → quL t k = 34 :: esL ((bI t).take k)
  | 0, _ => rfl
  | k + 1, h => by
    have hk : k < (bI t).length := by rw [bI_len]; omega
    have e := bI_at t k (by omega)
    rw [List.getElem?_eq_getElem hk] at e
    unfold quL
    rw [quL_esL t k (by omega), List.take_succ_eq_append_getElem hk, Option.some.inj e]
    unfold esL
    rw [List.flatMap_append]
    simp
theorem quT_bI (t : ByteArray) : bI (quT t) = 34 :: (esL (bI t) ++ [34]) := by
  rw [bI_qu, quL_esL t t.size (Nat.le_refl _), List.take_of_length_le (by rw [bI_len]; exact Nat.le_refl _)]
  rfl
/-- A text that is quoted is read. -/
theorem quT_read {s t : ByteArray} {i : Nat} (h : AtL s i (bI (quT t))) : strM s i = .ok (bI t, i + (quT t).size) := by
  have hsz : (quT t).size = (esL (bI t)).length + 2 := by rw [← bI_len, quT_bI]; simp
  rw [quT_bI] at h
  obtain ⟨h1, h2, h3⟩ := h
  have hl := at_le h3
  have hl2 := esL_len (bI t)
  rw [List.length_append] at hl
  simp at hl
  unfold strM wordM
  rw [if_pos h2]
  unfold wordM
  rw [Rs.bind_ok, str_read (bI t) _ (i + 1) [] (fun x hx => (bI_range t x hx).1) h3 (by omega), hsz]
  simp
  omega
end Go.Proofs.YtoicmcjpaodgpaaDoor
