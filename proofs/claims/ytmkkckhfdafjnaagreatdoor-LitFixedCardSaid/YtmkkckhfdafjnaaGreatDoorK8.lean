import Derived.Test.YtmkkckhfdafjnaaGreatDoorK7
import Derived.Defers
import Derived.Recover
import Derived.Test.YtmkkckhfdafjnaaGreatDoorK4
import Derived.Laws.AppendOwn
import Derived.Below
import Derived.Deep.LoopGhost
import Derived.Deep.RegionLaw
import Derived.Lib.Hide
import Derived.Outline
import Derived.WalkKit
import Derived.WalkLawsBesides
import Derived.WalkSpells
import Derived.Test.YtmkkckhfdafjnaaGreatDoorK6
/- Layer 4, Read: a value, the walk. -/
namespace Go.Proofs.YtmkkckhfdafjnaaGreatDoor
open Go.RowKit Go.Maps
set_option maxRecDepth 20000 in
set_option maxHeartbeats 8000000 in
theorem value_step {s : ByteArray} {f : Nat} (hV : 1 ≤ f → VC s f) (hs : s.size ≤ 100000) : VC s (f + 1) := by
  intro p i op v L nm w hop h hl hi hL
  rw [valM_eq]
  have HP := Lib.hid (peek_any w h (by omega) (by omega))
  have HBG := Lib.hid (fun W (r : RdB W p s i op v L) => begin_any nm W r (by omega) (by omega) (by omega) hL)
  have HGO := Lib.hid (fun x => begM_ok (s := s) (nm := nm) (op := op) (i := i) (L := L) (x := x))
  have HK1 := Lib.hid (fun (hb : byt s i = 123) (h1 : op ≠ 16) (h2 : L.length < 2048) => kc_obj (p := p) (nm := nm) hV hop h1 h2 hs hb)
  have HK2 := Lib.hid (fun (hb : byt s i = 91) (h1 : op ≠ 16) (h2 : L.length < 2048) => kc_lst (p := p) (nm := nm) hV hop h1 h2 hs hb)
  have HK3 := Lib.hid (fun (hb : byt s i = 34) (h2 : L.length < 2048) => kc_str (p := p) (op := op) (f := f) (nm := nm) h2 hs hi hb)
  have HK4 := Lib.hid (fun (hb : byt s i = 116) => kc_true (p := p) (op := op) (L := L) (f := f) (nm := nm) hs hi hb)
  have HK5 := Lib.hid (fun (hb : byt s i = 102) => kc_false (p := p) (op := op) (L := L) (f := f) (nm := nm) hs hi hb)
  have HK6 := Lib.hid (fun (hb : byt s i = 110) => kc_null (p := p) (op := op) (L := L) (f := f) (nm := nm) hs hi hb)
  have HK7 := Lib.hid (fun (hb : byt s i = 45 ∨ (48 ≤ byt s i ∧ byt s i ≤ 57)) (h2 : L.length < 2048) => kc_num (p := p) (op := op) (f := f) (nm := nm) h2 hs hi hb)
  obtain ⟨R, hR⟩ : ∃ R, R = bodyM s f nm op i L := ⟨_, rfl⟩
  rw [← hR] at HK1 HK2 HK3 HK4 HK5 HK6 HK7 ⊢
  obtain ⟨G, hG⟩ : ∃ G, G = begM s nm op i L := ⟨_, rfl⟩
  rw [← hG] at HBG HGO ⊢
  obtain ⟨b, hb⟩ : ∃ b, b = byt s i := ⟨_, rfl⟩
  rw [← hb] at HP HGO HK1 HK2 HK3 HK4 HK5 HK6 HK7 ⊢
  obtain ⟨Z, hZ⟩ : ∃ Z, Z = if isSt b = false then Rs.bad 40 else G.bind fun _ => R := ⟨_, rfl⟩
  rw [← hZ]
  have HF := Lib.hid h.far
  have HLT := Lib.hid h.lt
  have HL := Lib.hid hl
  have H := Lib.hid h
  have hL0 : L.length ≤ 2048 := hL
  clear hR hG hb hV hop hs hi hL hl h
  by_cases k123 : b = 123
  · subst k123
    have HGX := Lib.hid (fun x (e : G = .ok x) => have h := HGO.out x e; And.intro h.1 (And.intro h.2.1 (fun (e16 : op = 16) => h.2.2 ⟨.inl rfl, e16⟩)))
    have HKX := Lib.hid (HK1.out rfl)
    clear HGO HK1 HK2 HK3 HK4 HK5 HK6 HK7
    have HZ : Hid (Z = G.bind fun _ => R) := Lib.hid (by rw [hZ, if_neg (by decide)])
    clear hZ
    go_enter Tryz.func154, Tryz.ntmps154
    go_wp2_with (go_at_call 160; refine HP.out.mono ?_; rintro e w1 ⟨rfl, d⟩; have R1 := Lib.hid (H.out.dr d); clear d)
    have HB1 := Lib.hid (HBG.out w1 R1.out.1)
    cases G with
    | bad m =>
      have HZ2 : Hid (Z = .bad m) := Lib.hid HZ.out
      have HB2 : Hid (Calls Tryz.prog 166 #[.pointer (some ⟨p, 0, none⟩), .string nm] w1 fun e w' => e = thr m ∧ Below p w1 w') := Lib.hid HB1.out
      refine HB2.out.mono ?_
      rintro e w8 ⟨he, b8⟩
      unfold thr at he
      subst he
      (try go_wp2_with fail)
      rw [HZ2.out]
      simp only [bodyPost]
      exact ⟨trivial, rfl, (R1.out.2.below HF.out (Nat.le_of_lt HLT.out)).trans b8⟩
    | ok x =>
      obtain ⟨rfl, h4, h16⟩ := HGX.out x rfl
      have HZ2 : Hid (Z = R) := Lib.hid HZ.out
      have HC := Lib.hid (HKX.out h16 (by omega))
      have HB2 : Hid (Calls Tryz.prog 166 #[.pointer (some ⟨p, 0, none⟩), .string nm] w1 fun e w' => e = .returned (.tuple #[]) ∧ ∃ v', RdB w' p s i op v' (L ++ [(⟨0, nm, ⟨#[]⟩, 0, 0⟩ : CR)]) ∧ Fr p v v' w1 w') := Lib.hid HB1.out
      clear h16
      refine HB2.out.mono ?_
      rintro e w2 ⟨rfl, v2, r2, f2⟩
      obtain ⟨q, cap, rfl, hpq, _⟩ := r2.addr (by simp)
      have c3 := r2.c3
      have HFR := Lib.hid (R1.out.2.trans f2)
      have HFA := Lib.hid r2.far
      have HPL := Lib.hid r2.lt
      have HC2 := Lib.hid (HC.out w2 q cap hpq r2 (HL.out.fr HFR.out (Nat.le_of_lt HLT.out) HF.out))
      clear r2 f2 HC HB1 HB2 HZ
      go_wp2_with fail
      refine HC2.out.mono ?_
      intro e w3 h3
      cases R with
      | bad m =>
        obtain ⟨he, b3⟩ : e = thr m ∧ Below p w2 w3 := h3
        unfold thr at he
        subst he
        (try go_wp2_with fail)
        rw [HZ2.out]
        simp only [bodyPost]
        exact ⟨trivial, rfl, (HFR.out.below HF.out (Nat.le_of_lt HLT.out)).trans b3⟩
      | ok y =>
        obtain ⟨j, M⟩ := y
        obtain ⟨rfl, v3, r3, f3⟩ : e = .returned (.tuple #[]) ∧ ∃ v', RdB w3 p s j op v' M ∧ Fr p _ v' w2 w3 := h3
        have R3 := Lib.hid (And.intro r3 (HFR.out.trans f3))
        clear r3 f3
        go_wp2_with fail
        go_end0
        rw [HZ2.out]
        exact ⟨rfl, _, R3.out.1, R3.out.2⟩
  by_cases k91 : b = 91
  · subst k91
    have HGX := Lib.hid (fun x (e : G = .ok x) => have h := HGO.out x e; And.intro h.1 (And.intro h.2.1 (fun (e16 : op = 16) => h.2.2 ⟨.inr rfl, e16⟩)))
    have HKX := Lib.hid (HK2.out rfl)
    clear HGO HK1 HK2 HK3 HK4 HK5 HK6 HK7
    have HZ : Hid (Z = G.bind fun _ => R) := Lib.hid (by rw [hZ, if_neg (by decide)])
    clear hZ
    go_enter Tryz.func154, Tryz.ntmps154
    go_wp2_with (go_at_call 160; refine HP.out.mono ?_; rintro e w1 ⟨rfl, d⟩; have R1 := Lib.hid (H.out.dr d); clear d)
    have HB1 := Lib.hid (HBG.out w1 R1.out.1)
    cases G with
    | bad m =>
      have HZ2 : Hid (Z = .bad m) := Lib.hid HZ.out
      have HB2 : Hid (Calls Tryz.prog 166 #[.pointer (some ⟨p, 0, none⟩), .string nm] w1 fun e w' => e = thr m ∧ Below p w1 w') := Lib.hid HB1.out
      refine HB2.out.mono ?_
      rintro e w8 ⟨he, b8⟩
      unfold thr at he
      subst he
      (try go_wp2_with fail)
      rw [HZ2.out]
      simp only [bodyPost]
      exact ⟨trivial, rfl, (R1.out.2.below HF.out (Nat.le_of_lt HLT.out)).trans b8⟩
    | ok x =>
      obtain ⟨rfl, h4, h16⟩ := HGX.out x rfl
      have HZ2 : Hid (Z = R) := Lib.hid HZ.out
      have HC := Lib.hid (HKX.out h16 (by omega))
      have HB2 : Hid (Calls Tryz.prog 166 #[.pointer (some ⟨p, 0, none⟩), .string nm] w1 fun e w' => e = .returned (.tuple #[]) ∧ ∃ v', RdB w' p s i op v' (L ++ [(⟨0, nm, ⟨#[]⟩, 0, 0⟩ : CR)]) ∧ Fr p v v' w1 w') := Lib.hid HB1.out
      clear h16
      refine HB2.out.mono ?_
      rintro e w2 ⟨rfl, v2, r2, f2⟩
      obtain ⟨q, cap, rfl, hpq, _⟩ := r2.addr (by simp)
      have c3 := r2.c3
      have HFR := Lib.hid (R1.out.2.trans f2)
      have HFA := Lib.hid r2.far
      have HPL := Lib.hid r2.lt
      have HC2 := Lib.hid (HC.out w2 q cap hpq r2 (HL.out.fr HFR.out (Nat.le_of_lt HLT.out) HF.out))
      clear r2 f2 HC HB1 HB2 HZ
      go_wp2_with fail
      refine HC2.out.mono ?_
      intro e w3 h3
      cases R with
      | bad m =>
        obtain ⟨he, b3⟩ : e = thr m ∧ Below p w2 w3 := h3
        unfold thr at he
        subst he
        (try go_wp2_with fail)
        rw [HZ2.out]
        simp only [bodyPost]
        exact ⟨trivial, rfl, (HFR.out.below HF.out (Nat.le_of_lt HLT.out)).trans b3⟩
      | ok y =>
        obtain ⟨j, M⟩ := y
        obtain ⟨rfl, v3, r3, f3⟩ : e = .returned (.tuple #[]) ∧ ∃ v', RdB w3 p s j op v' M ∧ Fr p _ v' w2 w3 := h3
        have R3 := Lib.hid (And.intro r3 (HFR.out.trans f3))
        clear r3 f3
        go_wp2_with fail
        go_end0
        rw [HZ2.out]
        exact ⟨rfl, _, R3.out.1, R3.out.2⟩
  by_cases k34 : b = 34
  · subst k34
    have HGX := Lib.hid (fun x (e : G = .ok x) => have h := HGO.out x e; And.intro h.1 (And.intro h.2.1 trivial))
    have HKX := Lib.hid (HK3.out rfl)
    clear HGO HK1 HK2 HK3 HK4 HK5 HK6 HK7
    have HZ : Hid (Z = G.bind fun _ => R) := Lib.hid (by rw [hZ, if_neg (by decide)])
    clear hZ
    go_enter Tryz.func154, Tryz.ntmps154
    go_wp2_with (go_at_call 160; refine HP.out.mono ?_; rintro e w1 ⟨rfl, d⟩; have R1 := Lib.hid (H.out.dr d); clear d)
    have HB1 := Lib.hid (HBG.out w1 R1.out.1)
    cases G with
    | bad m =>
      have HZ2 : Hid (Z = .bad m) := Lib.hid HZ.out
      have HB2 : Hid (Calls Tryz.prog 166 #[.pointer (some ⟨p, 0, none⟩), .string nm] w1 fun e w' => e = thr m ∧ Below p w1 w') := Lib.hid HB1.out
      refine HB2.out.mono ?_
      rintro e w8 ⟨he, b8⟩
      unfold thr at he
      subst he
      (try go_wp2_with fail)
      rw [HZ2.out]
      simp only [bodyPost]
      exact ⟨trivial, rfl, (R1.out.2.below HF.out (Nat.le_of_lt HLT.out)).trans b8⟩
    | ok x =>
      obtain ⟨rfl, h4, h16⟩ := HGX.out x rfl
      have HZ2 : Hid (Z = R) := Lib.hid HZ.out
      have HC := Lib.hid (HKX.out (by omega))
      have HB2 : Hid (Calls Tryz.prog 166 #[.pointer (some ⟨p, 0, none⟩), .string nm] w1 fun e w' => e = .returned (.tuple #[]) ∧ ∃ v', RdB w' p s i op v' (L ++ [(⟨0, nm, ⟨#[]⟩, 0, 0⟩ : CR)]) ∧ Fr p v v' w1 w') := Lib.hid HB1.out
      clear h16
      refine HB2.out.mono ?_
      rintro e w2 ⟨rfl, v2, r2, f2⟩
      obtain ⟨q, cap, rfl, hpq, _⟩ := r2.addr (by simp)
      have c3 := r2.c3
      have HFR := Lib.hid (R1.out.2.trans f2)
      have HFA := Lib.hid r2.far
      have HPL := Lib.hid r2.lt
      have HC2 := Lib.hid (HC.out w2 q cap hpq r2 (HL.out.fr HFR.out (Nat.le_of_lt HLT.out) HF.out))
      clear r2 f2 HC HB1 HB2 HZ
      go_wp2_with fail
      refine HC2.out.mono ?_
      intro e w3 h3
      cases R with
      | bad m =>
        obtain ⟨he, b3⟩ : e = thr m ∧ Below p w2 w3 := h3
        unfold thr at he
        subst he
        (try go_wp2_with fail)
        rw [HZ2.out]
        simp only [bodyPost]
        exact ⟨trivial, rfl, (HFR.out.below HF.out (Nat.le_of_lt HLT.out)).trans b3⟩
      | ok y =>
        obtain ⟨j, M⟩ := y
        obtain ⟨rfl, v3, r3, f3⟩ : e = .returned (.tuple #[]) ∧ ∃ v', RdB w3 p s j op v' M ∧ Fr p _ v' w2 w3 := h3
        have R3 := Lib.hid (And.intro r3 (HFR.out.trans f3))
        clear r3 f3
        go_wp2_with fail
        go_end0
        rw [HZ2.out]
        exact ⟨rfl, _, R3.out.1, R3.out.2⟩
  by_cases k116 : b = 116
  · subst k116
    have HGX := Lib.hid (fun x (e : G = .ok x) => have h := HGO.out x e; And.intro h.1 (And.intro h.2.1 trivial))
    have HKX := Lib.hid (HK4.out rfl)
    clear HGO HK1 HK2 HK3 HK4 HK5 HK6 HK7
    have HZ : Hid (Z = G.bind fun _ => R) := Lib.hid (by rw [hZ, if_neg (by decide)])
    clear hZ
    go_enter Tryz.func154, Tryz.ntmps154
    go_wp2_with (go_at_call 160; refine HP.out.mono ?_; rintro e w1 ⟨rfl, d⟩; have R1 := Lib.hid (H.out.dr d); clear d)
    have HB1 := Lib.hid (HBG.out w1 R1.out.1)
    cases G with
    | bad m =>
      have HZ2 : Hid (Z = .bad m) := Lib.hid HZ.out
      have HB2 : Hid (Calls Tryz.prog 166 #[.pointer (some ⟨p, 0, none⟩), .string nm] w1 fun e w' => e = thr m ∧ Below p w1 w') := Lib.hid HB1.out
      refine HB2.out.mono ?_
      rintro e w8 ⟨he, b8⟩
      unfold thr at he
      subst he
      (try go_wp2_with fail)
      rw [HZ2.out]
      simp only [bodyPost]
      exact ⟨trivial, rfl, (R1.out.2.below HF.out (Nat.le_of_lt HLT.out)).trans b8⟩
    | ok x =>
      obtain ⟨rfl, h4, h16⟩ := HGX.out x rfl
      have HZ2 : Hid (Z = R) := Lib.hid HZ.out
      have HC := Lib.hid (HKX.out )
      have HB2 : Hid (Calls Tryz.prog 166 #[.pointer (some ⟨p, 0, none⟩), .string nm] w1 fun e w' => e = .returned (.tuple #[]) ∧ ∃ v', RdB w' p s i op v' (L ++ [(⟨0, nm, ⟨#[]⟩, 0, 0⟩ : CR)]) ∧ Fr p v v' w1 w') := Lib.hid HB1.out
      clear h16
      refine HB2.out.mono ?_
      rintro e w2 ⟨rfl, v2, r2, f2⟩
      obtain ⟨q, cap, rfl, hpq, _⟩ := r2.addr (by simp)
      have c3 := r2.c3
      have HFR := Lib.hid (R1.out.2.trans f2)
      have HFA := Lib.hid r2.far
      have HPL := Lib.hid r2.lt
      have HC2 := Lib.hid (HC.out w2 q cap hpq r2 (HL.out.fr HFR.out (Nat.le_of_lt HLT.out) HF.out))
      clear r2 f2 HC HB1 HB2 HZ
      go_wp2_with fail
      refine HC2.out.mono ?_
      intro e w3 h3
      cases R with
      | bad m =>
        obtain ⟨he, b3⟩ : e = thr m ∧ Below p w2 w3 := h3
        unfold thr at he
        subst he
        (try go_wp2_with fail)
        rw [HZ2.out]
        simp only [bodyPost]
        exact ⟨trivial, rfl, (HFR.out.below HF.out (Nat.le_of_lt HLT.out)).trans b3⟩
      | ok y =>
        obtain ⟨j, M⟩ := y
        obtain ⟨rfl, v3, r3, f3⟩ : e = .returned (.tuple #[]) ∧ ∃ v', RdB w3 p s j op v' M ∧ Fr p _ v' w2 w3 := h3
        have R3 := Lib.hid (And.intro r3 (HFR.out.trans f3))
        clear r3 f3
        go_wp2_with fail
        go_end0
        rw [HZ2.out]
        exact ⟨rfl, _, R3.out.1, R3.out.2⟩
  by_cases k102 : b = 102
  · subst k102
    have HGX := Lib.hid (fun x (e : G = .ok x) => have h := HGO.out x e; And.intro h.1 (And.intro h.2.1 trivial))
    have HKX := Lib.hid (HK5.out rfl)
    clear HGO HK1 HK2 HK3 HK4 HK5 HK6 HK7
    have HZ : Hid (Z = G.bind fun _ => R) := Lib.hid (by rw [hZ, if_neg (by decide)])
    clear hZ
    go_enter Tryz.func154, Tryz.ntmps154
    go_wp2_with (go_at_call 160; refine HP.out.mono ?_; rintro e w1 ⟨rfl, d⟩; have R1 := Lib.hid (H.out.dr d); clear d)
    have HB1 := Lib.hid (HBG.out w1 R1.out.1)
    cases G with
    | bad m =>
      have HZ2 : Hid (Z = .bad m) := Lib.hid HZ.out
      have HB2 : Hid (Calls Tryz.prog 166 #[.pointer (some ⟨p, 0, none⟩), .string nm] w1 fun e w' => e = thr m ∧ Below p w1 w') := Lib.hid HB1.out
      refine HB2.out.mono ?_
      rintro e w8 ⟨he, b8⟩
      unfold thr at he
      subst he
      (try go_wp2_with fail)
      rw [HZ2.out]
      simp only [bodyPost]
      exact ⟨trivial, rfl, (R1.out.2.below HF.out (Nat.le_of_lt HLT.out)).trans b8⟩
    | ok x =>
      obtain ⟨rfl, h4, h16⟩ := HGX.out x rfl
      have HZ2 : Hid (Z = R) := Lib.hid HZ.out
      have HC := Lib.hid (HKX.out )
      have HB2 : Hid (Calls Tryz.prog 166 #[.pointer (some ⟨p, 0, none⟩), .string nm] w1 fun e w' => e = .returned (.tuple #[]) ∧ ∃ v', RdB w' p s i op v' (L ++ [(⟨0, nm, ⟨#[]⟩, 0, 0⟩ : CR)]) ∧ Fr p v v' w1 w') := Lib.hid HB1.out
      clear h16
      refine HB2.out.mono ?_
      rintro e w2 ⟨rfl, v2, r2, f2⟩
      obtain ⟨q, cap, rfl, hpq, _⟩ := r2.addr (by simp)
      have c3 := r2.c3
      have HFR := Lib.hid (R1.out.2.trans f2)
      have HFA := Lib.hid r2.far
      have HPL := Lib.hid r2.lt
      have HC2 := Lib.hid (HC.out w2 q cap hpq r2 (HL.out.fr HFR.out (Nat.le_of_lt HLT.out) HF.out))
      clear r2 f2 HC HB1 HB2 HZ
      go_wp2_with fail
      refine HC2.out.mono ?_
      intro e w3 h3
      cases R with
      | bad m =>
        obtain ⟨he, b3⟩ : e = thr m ∧ Below p w2 w3 := h3
        unfold thr at he
        subst he
        (try go_wp2_with fail)
        rw [HZ2.out]
        simp only [bodyPost]
        exact ⟨trivial, rfl, (HFR.out.below HF.out (Nat.le_of_lt HLT.out)).trans b3⟩
      | ok y =>
        obtain ⟨j, M⟩ := y
        obtain ⟨rfl, v3, r3, f3⟩ : e = .returned (.tuple #[]) ∧ ∃ v', RdB w3 p s j op v' M ∧ Fr p _ v' w2 w3 := h3
        have R3 := Lib.hid (And.intro r3 (HFR.out.trans f3))
        clear r3 f3
        go_wp2_with fail
        go_end0
        rw [HZ2.out]
        exact ⟨rfl, _, R3.out.1, R3.out.2⟩
  by_cases k110 : b = 110
  · subst k110
    have HGX := Lib.hid (fun x (e : G = .ok x) => have h := HGO.out x e; And.intro h.1 (And.intro h.2.1 trivial))
    have HKX := Lib.hid (HK6.out rfl)
    clear HGO HK1 HK2 HK3 HK4 HK5 HK6 HK7
    have HZ : Hid (Z = G.bind fun _ => R) := Lib.hid (by rw [hZ, if_neg (by decide)])
    clear hZ
    go_enter Tryz.func154, Tryz.ntmps154
    go_wp2_with (go_at_call 160; refine HP.out.mono ?_; rintro e w1 ⟨rfl, d⟩; have R1 := Lib.hid (H.out.dr d); clear d)
    have HB1 := Lib.hid (HBG.out w1 R1.out.1)
    cases G with
    | bad m =>
      have HZ2 : Hid (Z = .bad m) := Lib.hid HZ.out
      have HB2 : Hid (Calls Tryz.prog 166 #[.pointer (some ⟨p, 0, none⟩), .string nm] w1 fun e w' => e = thr m ∧ Below p w1 w') := Lib.hid HB1.out
      refine HB2.out.mono ?_
      rintro e w8 ⟨he, b8⟩
      unfold thr at he
      subst he
      (try go_wp2_with fail)
      rw [HZ2.out]
      simp only [bodyPost]
      exact ⟨trivial, rfl, (R1.out.2.below HF.out (Nat.le_of_lt HLT.out)).trans b8⟩
    | ok x =>
      obtain ⟨rfl, h4, h16⟩ := HGX.out x rfl
      have HZ2 : Hid (Z = R) := Lib.hid HZ.out
      have HC := Lib.hid (HKX.out )
      have HB2 : Hid (Calls Tryz.prog 166 #[.pointer (some ⟨p, 0, none⟩), .string nm] w1 fun e w' => e = .returned (.tuple #[]) ∧ ∃ v', RdB w' p s i op v' (L ++ [(⟨0, nm, ⟨#[]⟩, 0, 0⟩ : CR)]) ∧ Fr p v v' w1 w') := Lib.hid HB1.out
      clear h16
      refine HB2.out.mono ?_
      rintro e w2 ⟨rfl, v2, r2, f2⟩
      obtain ⟨q, cap, rfl, hpq, _⟩ := r2.addr (by simp)
      have c3 := r2.c3
      have HFR := Lib.hid (R1.out.2.trans f2)
      have HFA := Lib.hid r2.far
      have HPL := Lib.hid r2.lt
      have HC2 := Lib.hid (HC.out w2 q cap hpq r2 (HL.out.fr HFR.out (Nat.le_of_lt HLT.out) HF.out))
      clear r2 f2 HC HB1 HB2 HZ
      go_wp2_with fail
      refine HC2.out.mono ?_
      intro e w3 h3
      cases R with
      | bad m =>
        obtain ⟨he, b3⟩ : e = thr m ∧ Below p w2 w3 := h3
        unfold thr at he
        subst he
        (try go_wp2_with fail)
        rw [HZ2.out]
        simp only [bodyPost]
        exact ⟨trivial, rfl, (HFR.out.below HF.out (Nat.le_of_lt HLT.out)).trans b3⟩
      | ok y =>
        obtain ⟨j, M⟩ := y
        obtain ⟨rfl, v3, r3, f3⟩ : e = .returned (.tuple #[]) ∧ ∃ v', RdB w3 p s j op v' M ∧ Fr p _ v' w2 w3 := h3
        have R3 := Lib.hid (And.intro r3 (HFR.out.trans f3))
        clear r3 f3
        go_wp2_with fail
        go_end0
        rw [HZ2.out]
        exact ⟨rfl, _, R3.out.1, R3.out.2⟩
  by_cases k45 : b = 45
  · subst k45
    have HGX := Lib.hid (fun x (e : G = .ok x) => have h := HGO.out x e; And.intro h.1 (And.intro h.2.1 trivial))
    have HKX := Lib.hid (HK7.out (.inl rfl))
    clear HGO HK1 HK2 HK3 HK4 HK5 HK6 HK7
    have HZ : Hid (Z = G.bind fun _ => R) := Lib.hid (by rw [hZ, if_neg (by decide)])
    clear hZ
    go_enter Tryz.func154, Tryz.ntmps154
    go_wp2_with (go_at_call 160; refine HP.out.mono ?_; rintro e w1 ⟨rfl, d⟩; have R1 := Lib.hid (H.out.dr d); clear d)
    have HB1 := Lib.hid (HBG.out w1 R1.out.1)
    cases G with
    | bad m =>
      have HZ2 : Hid (Z = .bad m) := Lib.hid HZ.out
      have HB2 : Hid (Calls Tryz.prog 166 #[.pointer (some ⟨p, 0, none⟩), .string nm] w1 fun e w' => e = thr m ∧ Below p w1 w') := Lib.hid HB1.out
      refine HB2.out.mono ?_
      rintro e w8 ⟨he, b8⟩
      unfold thr at he
      subst he
      (try go_wp2_with fail)
      rw [HZ2.out]
      simp only [bodyPost]
      exact ⟨trivial, rfl, (R1.out.2.below HF.out (Nat.le_of_lt HLT.out)).trans b8⟩
    | ok x =>
      obtain ⟨rfl, h4, h16⟩ := HGX.out x rfl
      have HZ2 : Hid (Z = R) := Lib.hid HZ.out
      have HC := Lib.hid (HKX.out (by omega))
      have HB2 : Hid (Calls Tryz.prog 166 #[.pointer (some ⟨p, 0, none⟩), .string nm] w1 fun e w' => e = .returned (.tuple #[]) ∧ ∃ v', RdB w' p s i op v' (L ++ [(⟨0, nm, ⟨#[]⟩, 0, 0⟩ : CR)]) ∧ Fr p v v' w1 w') := Lib.hid HB1.out
      clear h16
      refine HB2.out.mono ?_
      rintro e w2 ⟨rfl, v2, r2, f2⟩
      obtain ⟨q, cap, rfl, hpq, _⟩ := r2.addr (by simp)
      have c3 := r2.c3
      have HFR := Lib.hid (R1.out.2.trans f2)
      have HFA := Lib.hid r2.far
      have HPL := Lib.hid r2.lt
      have HC2 := Lib.hid (HC.out w2 q cap hpq r2 (HL.out.fr HFR.out (Nat.le_of_lt HLT.out) HF.out))
      clear r2 f2 HC HB1 HB2 HZ
      go_wp2_with fail
      refine HC2.out.mono ?_
      intro e w3 h3
      cases R with
      | bad m =>
        obtain ⟨he, b3⟩ : e = thr m ∧ Below p w2 w3 := h3
        unfold thr at he
        subst he
        (try go_wp2_with fail)
        rw [HZ2.out]
        simp only [bodyPost]
        exact ⟨trivial, rfl, (HFR.out.below HF.out (Nat.le_of_lt HLT.out)).trans b3⟩
      | ok y =>
        obtain ⟨j, M⟩ := y
        obtain ⟨rfl, v3, r3, f3⟩ : e = .returned (.tuple #[]) ∧ ∃ v', RdB w3 p s j op v' M ∧ Fr p _ v' w2 w3 := h3
        have R3 := Lib.hid (And.intro r3 (HFR.out.trans f3))
        clear r3 f3
        go_wp2_with fail
        go_end0
        rw [HZ2.out]
        exact ⟨rfl, _, R3.out.1, R3.out.2⟩
  by_cases k48 : b = 48
  · subst k48
    have HGX := Lib.hid (fun x (e : G = .ok x) => have h := HGO.out x e; And.intro h.1 (And.intro h.2.1 trivial))
    have HKX := Lib.hid (HK7.out (.inr (by decide)))
    clear HGO HK1 HK2 HK3 HK4 HK5 HK6 HK7
    have HZ : Hid (Z = G.bind fun _ => R) := Lib.hid (by rw [hZ, if_neg (by decide)])
    clear hZ
    go_enter Tryz.func154, Tryz.ntmps154
    go_wp2_with (go_at_call 160; refine HP.out.mono ?_; rintro e w1 ⟨rfl, d⟩; have R1 := Lib.hid (H.out.dr d); clear d)
    have HB1 := Lib.hid (HBG.out w1 R1.out.1)
    cases G with
    | bad m =>
      have HZ2 : Hid (Z = .bad m) := Lib.hid HZ.out
      have HB2 : Hid (Calls Tryz.prog 166 #[.pointer (some ⟨p, 0, none⟩), .string nm] w1 fun e w' => e = thr m ∧ Below p w1 w') := Lib.hid HB1.out
      refine HB2.out.mono ?_
      rintro e w8 ⟨he, b8⟩
      unfold thr at he
      subst he
      (try go_wp2_with fail)
      rw [HZ2.out]
      simp only [bodyPost]
      exact ⟨trivial, rfl, (R1.out.2.below HF.out (Nat.le_of_lt HLT.out)).trans b8⟩
    | ok x =>
      obtain ⟨rfl, h4, h16⟩ := HGX.out x rfl
      have HZ2 : Hid (Z = R) := Lib.hid HZ.out
      have HC := Lib.hid (HKX.out (by omega))
      have HB2 : Hid (Calls Tryz.prog 166 #[.pointer (some ⟨p, 0, none⟩), .string nm] w1 fun e w' => e = .returned (.tuple #[]) ∧ ∃ v', RdB w' p s i op v' (L ++ [(⟨0, nm, ⟨#[]⟩, 0, 0⟩ : CR)]) ∧ Fr p v v' w1 w') := Lib.hid HB1.out
      clear h16
      refine HB2.out.mono ?_
      rintro e w2 ⟨rfl, v2, r2, f2⟩
      obtain ⟨q, cap, rfl, hpq, _⟩ := r2.addr (by simp)
      have c3 := r2.c3
      have HFR := Lib.hid (R1.out.2.trans f2)
      have HFA := Lib.hid r2.far
      have HPL := Lib.hid r2.lt
      have HC2 := Lib.hid (HC.out w2 q cap hpq r2 (HL.out.fr HFR.out (Nat.le_of_lt HLT.out) HF.out))
      clear r2 f2 HC HB1 HB2 HZ
      go_wp2_with fail
      refine HC2.out.mono ?_
      intro e w3 h3
      cases R with
      | bad m =>
        obtain ⟨he, b3⟩ : e = thr m ∧ Below p w2 w3 := h3
        unfold thr at he
        subst he
        (try go_wp2_with fail)
        rw [HZ2.out]
        simp only [bodyPost]
        exact ⟨trivial, rfl, (HFR.out.below HF.out (Nat.le_of_lt HLT.out)).trans b3⟩
      | ok y =>
        obtain ⟨j, M⟩ := y
        obtain ⟨rfl, v3, r3, f3⟩ : e = .returned (.tuple #[]) ∧ ∃ v', RdB w3 p s j op v' M ∧ Fr p _ v' w2 w3 := h3
        have R3 := Lib.hid (And.intro r3 (HFR.out.trans f3))
        clear r3 f3
        go_wp2_with fail
        go_end0
        rw [HZ2.out]
        exact ⟨rfl, _, R3.out.1, R3.out.2⟩
  by_cases k49 : b = 49
  · subst k49
    have HGX := Lib.hid (fun x (e : G = .ok x) => have h := HGO.out x e; And.intro h.1 (And.intro h.2.1 trivial))
    have HKX := Lib.hid (HK7.out (.inr (by decide)))
    clear HGO HK1 HK2 HK3 HK4 HK5 HK6 HK7
    have HZ : Hid (Z = G.bind fun _ => R) := Lib.hid (by rw [hZ, if_neg (by decide)])
    clear hZ
    go_enter Tryz.func154, Tryz.ntmps154
    go_wp2_with (go_at_call 160; refine HP.out.mono ?_; rintro e w1 ⟨rfl, d⟩; have R1 := Lib.hid (H.out.dr d); clear d)
    have HB1 := Lib.hid (HBG.out w1 R1.out.1)
    cases G with
    | bad m =>
      have HZ2 : Hid (Z = .bad m) := Lib.hid HZ.out
      have HB2 : Hid (Calls Tryz.prog 166 #[.pointer (some ⟨p, 0, none⟩), .string nm] w1 fun e w' => e = thr m ∧ Below p w1 w') := Lib.hid HB1.out
      refine HB2.out.mono ?_
      rintro e w8 ⟨he, b8⟩
      unfold thr at he
      subst he
      (try go_wp2_with fail)
      rw [HZ2.out]
      simp only [bodyPost]
      exact ⟨trivial, rfl, (R1.out.2.below HF.out (Nat.le_of_lt HLT.out)).trans b8⟩
    | ok x =>
      obtain ⟨rfl, h4, h16⟩ := HGX.out x rfl
      have HZ2 : Hid (Z = R) := Lib.hid HZ.out
      have HC := Lib.hid (HKX.out (by omega))
      have HB2 : Hid (Calls Tryz.prog 166 #[.pointer (some ⟨p, 0, none⟩), .string nm] w1 fun e w' => e = .returned (.tuple #[]) ∧ ∃ v', RdB w' p s i op v' (L ++ [(⟨0, nm, ⟨#[]⟩, 0, 0⟩ : CR)]) ∧ Fr p v v' w1 w') := Lib.hid HB1.out
      clear h16
      refine HB2.out.mono ?_
      rintro e w2 ⟨rfl, v2, r2, f2⟩
      obtain ⟨q, cap, rfl, hpq, _⟩ := r2.addr (by simp)
      have c3 := r2.c3
      have HFR := Lib.hid (R1.out.2.trans f2)
      have HFA := Lib.hid r2.far
      have HPL := Lib.hid r2.lt
      have HC2 := Lib.hid (HC.out w2 q cap hpq r2 (HL.out.fr HFR.out (Nat.le_of_lt HLT.out) HF.out))
      clear r2 f2 HC HB1 HB2 HZ
      go_wp2_with fail
      refine HC2.out.mono ?_
      intro e w3 h3
      cases R with
      | bad m =>
        obtain ⟨he, b3⟩ : e = thr m ∧ Below p w2 w3 := h3
        unfold thr at he
        subst he
        (try go_wp2_with fail)
        rw [HZ2.out]
        simp only [bodyPost]
        exact ⟨trivial, rfl, (HFR.out.below HF.out (Nat.le_of_lt HLT.out)).trans b3⟩
      | ok y =>
        obtain ⟨j, M⟩ := y
        obtain ⟨rfl, v3, r3, f3⟩ : e = .returned (.tuple #[]) ∧ ∃ v', RdB w3 p s j op v' M ∧ Fr p _ v' w2 w3 := h3
        have R3 := Lib.hid (And.intro r3 (HFR.out.trans f3))
        clear r3 f3
        go_wp2_with fail
        go_end0
        rw [HZ2.out]
        exact ⟨rfl, _, R3.out.1, R3.out.2⟩
  by_cases k50 : b = 50
  · subst k50
    have HGX := Lib.hid (fun x (e : G = .ok x) => have h := HGO.out x e; And.intro h.1 (And.intro h.2.1 trivial))
    have HKX := Lib.hid (HK7.out (.inr (by decide)))
    clear HGO HK1 HK2 HK3 HK4 HK5 HK6 HK7
    have HZ : Hid (Z = G.bind fun _ => R) := Lib.hid (by rw [hZ, if_neg (by decide)])
    clear hZ
    go_enter Tryz.func154, Tryz.ntmps154
    go_wp2_with (go_at_call 160; refine HP.out.mono ?_; rintro e w1 ⟨rfl, d⟩; have R1 := Lib.hid (H.out.dr d); clear d)
    have HB1 := Lib.hid (HBG.out w1 R1.out.1)
    cases G with
    | bad m =>
      have HZ2 : Hid (Z = .bad m) := Lib.hid HZ.out
      have HB2 : Hid (Calls Tryz.prog 166 #[.pointer (some ⟨p, 0, none⟩), .string nm] w1 fun e w' => e = thr m ∧ Below p w1 w') := Lib.hid HB1.out
      refine HB2.out.mono ?_
      rintro e w8 ⟨he, b8⟩
      unfold thr at he
      subst he
      (try go_wp2_with fail)
      rw [HZ2.out]
      simp only [bodyPost]
      exact ⟨trivial, rfl, (R1.out.2.below HF.out (Nat.le_of_lt HLT.out)).trans b8⟩
    | ok x =>
      obtain ⟨rfl, h4, h16⟩ := HGX.out x rfl
      have HZ2 : Hid (Z = R) := Lib.hid HZ.out
      have HC := Lib.hid (HKX.out (by omega))
      have HB2 : Hid (Calls Tryz.prog 166 #[.pointer (some ⟨p, 0, none⟩), .string nm] w1 fun e w' => e = .returned (.tuple #[]) ∧ ∃ v', RdB w' p s i op v' (L ++ [(⟨0, nm, ⟨#[]⟩, 0, 0⟩ : CR)]) ∧ Fr p v v' w1 w') := Lib.hid HB1.out
      clear h16
      refine HB2.out.mono ?_
      rintro e w2 ⟨rfl, v2, r2, f2⟩
      obtain ⟨q, cap, rfl, hpq, _⟩ := r2.addr (by simp)
      have c3 := r2.c3
      have HFR := Lib.hid (R1.out.2.trans f2)
      have HFA := Lib.hid r2.far
      have HPL := Lib.hid r2.lt
      have HC2 := Lib.hid (HC.out w2 q cap hpq r2 (HL.out.fr HFR.out (Nat.le_of_lt HLT.out) HF.out))
      clear r2 f2 HC HB1 HB2 HZ
      go_wp2_with fail
      refine HC2.out.mono ?_
      intro e w3 h3
      cases R with
      | bad m =>
        obtain ⟨he, b3⟩ : e = thr m ∧ Below p w2 w3 := h3
        unfold thr at he
        subst he
        (try go_wp2_with fail)
        rw [HZ2.out]
        simp only [bodyPost]
        exact ⟨trivial, rfl, (HFR.out.below HF.out (Nat.le_of_lt HLT.out)).trans b3⟩
      | ok y =>
        obtain ⟨j, M⟩ := y
        obtain ⟨rfl, v3, r3, f3⟩ : e = .returned (.tuple #[]) ∧ ∃ v', RdB w3 p s j op v' M ∧ Fr p _ v' w2 w3 := h3
        have R3 := Lib.hid (And.intro r3 (HFR.out.trans f3))
        clear r3 f3
        go_wp2_with fail
        go_end0
        rw [HZ2.out]
        exact ⟨rfl, _, R3.out.1, R3.out.2⟩
  by_cases k51 : b = 51
  · subst k51
    have HGX := Lib.hid (fun x (e : G = .ok x) => have h := HGO.out x e; And.intro h.1 (And.intro h.2.1 trivial))
    have HKX := Lib.hid (HK7.out (.inr (by decide)))
    clear HGO HK1 HK2 HK3 HK4 HK5 HK6 HK7
    have HZ : Hid (Z = G.bind fun _ => R) := Lib.hid (by rw [hZ, if_neg (by decide)])
    clear hZ
    go_enter Tryz.func154, Tryz.ntmps154
    go_wp2_with (go_at_call 160; refine HP.out.mono ?_; rintro e w1 ⟨rfl, d⟩; have R1 := Lib.hid (H.out.dr d); clear d)
    have HB1 := Lib.hid (HBG.out w1 R1.out.1)
    cases G with
    | bad m =>
      have HZ2 : Hid (Z = .bad m) := Lib.hid HZ.out
      have HB2 : Hid (Calls Tryz.prog 166 #[.pointer (some ⟨p, 0, none⟩), .string nm] w1 fun e w' => e = thr m ∧ Below p w1 w') := Lib.hid HB1.out
      refine HB2.out.mono ?_
      rintro e w8 ⟨he, b8⟩
      unfold thr at he
      subst he
      (try go_wp2_with fail)
      rw [HZ2.out]
      simp only [bodyPost]
      exact ⟨trivial, rfl, (R1.out.2.below HF.out (Nat.le_of_lt HLT.out)).trans b8⟩
    | ok x =>
      obtain ⟨rfl, h4, h16⟩ := HGX.out x rfl
      have HZ2 : Hid (Z = R) := Lib.hid HZ.out
      have HC := Lib.hid (HKX.out (by omega))
      have HB2 : Hid (Calls Tryz.prog 166 #[.pointer (some ⟨p, 0, none⟩), .string nm] w1 fun e w' => e = .returned (.tuple #[]) ∧ ∃ v', RdB w' p s i op v' (L ++ [(⟨0, nm, ⟨#[]⟩, 0, 0⟩ : CR)]) ∧ Fr p v v' w1 w') := Lib.hid HB1.out
      clear h16
      refine HB2.out.mono ?_
      rintro e w2 ⟨rfl, v2, r2, f2⟩
      obtain ⟨q, cap, rfl, hpq, _⟩ := r2.addr (by simp)
      have c3 := r2.c3
      have HFR := Lib.hid (R1.out.2.trans f2)
      have HFA := Lib.hid r2.far
      have HPL := Lib.hid r2.lt
      have HC2 := Lib.hid (HC.out w2 q cap hpq r2 (HL.out.fr HFR.out (Nat.le_of_lt HLT.out) HF.out))
      clear r2 f2 HC HB1 HB2 HZ
      go_wp2_with fail
      refine HC2.out.mono ?_
      intro e w3 h3
      cases R with
      | bad m =>
        obtain ⟨he, b3⟩ : e = thr m ∧ Below p w2 w3 := h3
        unfold thr at he
        subst he
        (try go_wp2_with fail)
        rw [HZ2.out]
        simp only [bodyPost]
        exact ⟨trivial, rfl, (HFR.out.below HF.out (Nat.le_of_lt HLT.out)).trans b3⟩
      | ok y =>
        obtain ⟨j, M⟩ := y
        obtain ⟨rfl, v3, r3, f3⟩ : e = .returned (.tuple #[]) ∧ ∃ v', RdB w3 p s j op v' M ∧ Fr p _ v' w2 w3 := h3
        have R3 := Lib.hid (And.intro r3 (HFR.out.trans f3))
        clear r3 f3
        go_wp2_with fail
        go_end0
        rw [HZ2.out]
        exact ⟨rfl, _, R3.out.1, R3.out.2⟩
  by_cases k52 : b = 52
  · subst k52
    have HGX := Lib.hid (fun x (e : G = .ok x) => have h := HGO.out x e; And.intro h.1 (And.intro h.2.1 trivial))
    have HKX := Lib.hid (HK7.out (.inr (by decide)))
    clear HGO HK1 HK2 HK3 HK4 HK5 HK6 HK7
    have HZ : Hid (Z = G.bind fun _ => R) := Lib.hid (by rw [hZ, if_neg (by decide)])
    clear hZ
    go_enter Tryz.func154, Tryz.ntmps154
    go_wp2_with (go_at_call 160; refine HP.out.mono ?_; rintro e w1 ⟨rfl, d⟩; have R1 := Lib.hid (H.out.dr d); clear d)
    have HB1 := Lib.hid (HBG.out w1 R1.out.1)
    cases G with
    | bad m =>
      have HZ2 : Hid (Z = .bad m) := Lib.hid HZ.out
      have HB2 : Hid (Calls Tryz.prog 166 #[.pointer (some ⟨p, 0, none⟩), .string nm] w1 fun e w' => e = thr m ∧ Below p w1 w') := Lib.hid HB1.out
      refine HB2.out.mono ?_
      rintro e w8 ⟨he, b8⟩
      unfold thr at he
      subst he
      (try go_wp2_with fail)
      rw [HZ2.out]
      simp only [bodyPost]
      exact ⟨trivial, rfl, (R1.out.2.below HF.out (Nat.le_of_lt HLT.out)).trans b8⟩
    | ok x =>
      obtain ⟨rfl, h4, h16⟩ := HGX.out x rfl
      have HZ2 : Hid (Z = R) := Lib.hid HZ.out
      have HC := Lib.hid (HKX.out (by omega))
      have HB2 : Hid (Calls Tryz.prog 166 #[.pointer (some ⟨p, 0, none⟩), .string nm] w1 fun e w' => e = .returned (.tuple #[]) ∧ ∃ v', RdB w' p s i op v' (L ++ [(⟨0, nm, ⟨#[]⟩, 0, 0⟩ : CR)]) ∧ Fr p v v' w1 w') := Lib.hid HB1.out
      clear h16
      refine HB2.out.mono ?_
      rintro e w2 ⟨rfl, v2, r2, f2⟩
      obtain ⟨q, cap, rfl, hpq, _⟩ := r2.addr (by simp)
      have c3 := r2.c3
      have HFR := Lib.hid (R1.out.2.trans f2)
      have HFA := Lib.hid r2.far
      have HPL := Lib.hid r2.lt
      have HC2 := Lib.hid (HC.out w2 q cap hpq r2 (HL.out.fr HFR.out (Nat.le_of_lt HLT.out) HF.out))
      clear r2 f2 HC HB1 HB2 HZ
      go_wp2_with fail
      refine HC2.out.mono ?_
      intro e w3 h3
      cases R with
      | bad m =>
        obtain ⟨he, b3⟩ : e = thr m ∧ Below p w2 w3 := h3
        unfold thr at he
        subst he
        (try go_wp2_with fail)
        rw [HZ2.out]
        simp only [bodyPost]
        exact ⟨trivial, rfl, (HFR.out.below HF.out (Nat.le_of_lt HLT.out)).trans b3⟩
      | ok y =>
        obtain ⟨j, M⟩ := y
        obtain ⟨rfl, v3, r3, f3⟩ : e = .returned (.tuple #[]) ∧ ∃ v', RdB w3 p s j op v' M ∧ Fr p _ v' w2 w3 := h3
        have R3 := Lib.hid (And.intro r3 (HFR.out.trans f3))
        clear r3 f3
        go_wp2_with fail
        go_end0
        rw [HZ2.out]
        exact ⟨rfl, _, R3.out.1, R3.out.2⟩
  by_cases k53 : b = 53
  · subst k53
    have HGX := Lib.hid (fun x (e : G = .ok x) => have h := HGO.out x e; And.intro h.1 (And.intro h.2.1 trivial))
    have HKX := Lib.hid (HK7.out (.inr (by decide)))
    clear HGO HK1 HK2 HK3 HK4 HK5 HK6 HK7
    have HZ : Hid (Z = G.bind fun _ => R) := Lib.hid (by rw [hZ, if_neg (by decide)])
    clear hZ
    go_enter Tryz.func154, Tryz.ntmps154
    go_wp2_with (go_at_call 160; refine HP.out.mono ?_; rintro e w1 ⟨rfl, d⟩; have R1 := Lib.hid (H.out.dr d); clear d)
    have HB1 := Lib.hid (HBG.out w1 R1.out.1)
    cases G with
    | bad m =>
      have HZ2 : Hid (Z = .bad m) := Lib.hid HZ.out
      have HB2 : Hid (Calls Tryz.prog 166 #[.pointer (some ⟨p, 0, none⟩), .string nm] w1 fun e w' => e = thr m ∧ Below p w1 w') := Lib.hid HB1.out
      refine HB2.out.mono ?_
      rintro e w8 ⟨he, b8⟩
      unfold thr at he
      subst he
      (try go_wp2_with fail)
      rw [HZ2.out]
      simp only [bodyPost]
      exact ⟨trivial, rfl, (R1.out.2.below HF.out (Nat.le_of_lt HLT.out)).trans b8⟩
    | ok x =>
      obtain ⟨rfl, h4, h16⟩ := HGX.out x rfl
      have HZ2 : Hid (Z = R) := Lib.hid HZ.out
      have HC := Lib.hid (HKX.out (by omega))
      have HB2 : Hid (Calls Tryz.prog 166 #[.pointer (some ⟨p, 0, none⟩), .string nm] w1 fun e w' => e = .returned (.tuple #[]) ∧ ∃ v', RdB w' p s i op v' (L ++ [(⟨0, nm, ⟨#[]⟩, 0, 0⟩ : CR)]) ∧ Fr p v v' w1 w') := Lib.hid HB1.out
      clear h16
      refine HB2.out.mono ?_
      rintro e w2 ⟨rfl, v2, r2, f2⟩
      obtain ⟨q, cap, rfl, hpq, _⟩ := r2.addr (by simp)
      have c3 := r2.c3
      have HFR := Lib.hid (R1.out.2.trans f2)
      have HFA := Lib.hid r2.far
      have HPL := Lib.hid r2.lt
      have HC2 := Lib.hid (HC.out w2 q cap hpq r2 (HL.out.fr HFR.out (Nat.le_of_lt HLT.out) HF.out))
      clear r2 f2 HC HB1 HB2 HZ
      go_wp2_with fail
      refine HC2.out.mono ?_
      intro e w3 h3
      cases R with
      | bad m =>
        obtain ⟨he, b3⟩ : e = thr m ∧ Below p w2 w3 := h3
        unfold thr at he
        subst he
        (try go_wp2_with fail)
        rw [HZ2.out]
        simp only [bodyPost]
        exact ⟨trivial, rfl, (HFR.out.below HF.out (Nat.le_of_lt HLT.out)).trans b3⟩
      | ok y =>
        obtain ⟨j, M⟩ := y
        obtain ⟨rfl, v3, r3, f3⟩ : e = .returned (.tuple #[]) ∧ ∃ v', RdB w3 p s j op v' M ∧ Fr p _ v' w2 w3 := h3
        have R3 := Lib.hid (And.intro r3 (HFR.out.trans f3))
        clear r3 f3
        go_wp2_with fail
        go_end0
        rw [HZ2.out]
        exact ⟨rfl, _, R3.out.1, R3.out.2⟩
  by_cases k54 : b = 54
  · subst k54
    have HGX := Lib.hid (fun x (e : G = .ok x) => have h := HGO.out x e; And.intro h.1 (And.intro h.2.1 trivial))
    have HKX := Lib.hid (HK7.out (.inr (by decide)))
    clear HGO HK1 HK2 HK3 HK4 HK5 HK6 HK7
    have HZ : Hid (Z = G.bind fun _ => R) := Lib.hid (by rw [hZ, if_neg (by decide)])
    clear hZ
    go_enter Tryz.func154, Tryz.ntmps154
    go_wp2_with (go_at_call 160; refine HP.out.mono ?_; rintro e w1 ⟨rfl, d⟩; have R1 := Lib.hid (H.out.dr d); clear d)
    have HB1 := Lib.hid (HBG.out w1 R1.out.1)
    cases G with
    | bad m =>
      have HZ2 : Hid (Z = .bad m) := Lib.hid HZ.out
      have HB2 : Hid (Calls Tryz.prog 166 #[.pointer (some ⟨p, 0, none⟩), .string nm] w1 fun e w' => e = thr m ∧ Below p w1 w') := Lib.hid HB1.out
      refine HB2.out.mono ?_
      rintro e w8 ⟨he, b8⟩
      unfold thr at he
      subst he
      (try go_wp2_with fail)
      rw [HZ2.out]
      simp only [bodyPost]
      exact ⟨trivial, rfl, (R1.out.2.below HF.out (Nat.le_of_lt HLT.out)).trans b8⟩
    | ok x =>
      obtain ⟨rfl, h4, h16⟩ := HGX.out x rfl
      have HZ2 : Hid (Z = R) := Lib.hid HZ.out
      have HC := Lib.hid (HKX.out (by omega))
      have HB2 : Hid (Calls Tryz.prog 166 #[.pointer (some ⟨p, 0, none⟩), .string nm] w1 fun e w' => e = .returned (.tuple #[]) ∧ ∃ v', RdB w' p s i op v' (L ++ [(⟨0, nm, ⟨#[]⟩, 0, 0⟩ : CR)]) ∧ Fr p v v' w1 w') := Lib.hid HB1.out
      clear h16
      refine HB2.out.mono ?_
      rintro e w2 ⟨rfl, v2, r2, f2⟩
      obtain ⟨q, cap, rfl, hpq, _⟩ := r2.addr (by simp)
      have c3 := r2.c3
      have HFR := Lib.hid (R1.out.2.trans f2)
      have HFA := Lib.hid r2.far
      have HPL := Lib.hid r2.lt
      have HC2 := Lib.hid (HC.out w2 q cap hpq r2 (HL.out.fr HFR.out (Nat.le_of_lt HLT.out) HF.out))
      clear r2 f2 HC HB1 HB2 HZ
      go_wp2_with fail
      refine HC2.out.mono ?_
      intro e w3 h3
      cases R with
      | bad m =>
        obtain ⟨he, b3⟩ : e = thr m ∧ Below p w2 w3 := h3
        unfold thr at he
        subst he
        (try go_wp2_with fail)
        rw [HZ2.out]
        simp only [bodyPost]
        exact ⟨trivial, rfl, (HFR.out.below HF.out (Nat.le_of_lt HLT.out)).trans b3⟩
      | ok y =>
        obtain ⟨j, M⟩ := y
        obtain ⟨rfl, v3, r3, f3⟩ : e = .returned (.tuple #[]) ∧ ∃ v', RdB w3 p s j op v' M ∧ Fr p _ v' w2 w3 := h3
        have R3 := Lib.hid (And.intro r3 (HFR.out.trans f3))
        clear r3 f3
        go_wp2_with fail
        go_end0
        rw [HZ2.out]
        exact ⟨rfl, _, R3.out.1, R3.out.2⟩
  by_cases k55 : b = 55
  · subst k55
    have HGX := Lib.hid (fun x (e : G = .ok x) => have h := HGO.out x e; And.intro h.1 (And.intro h.2.1 trivial))
    have HKX := Lib.hid (HK7.out (.inr (by decide)))
    clear HGO HK1 HK2 HK3 HK4 HK5 HK6 HK7
    have HZ : Hid (Z = G.bind fun _ => R) := Lib.hid (by rw [hZ, if_neg (by decide)])
    clear hZ
    go_enter Tryz.func154, Tryz.ntmps154
    go_wp2_with (go_at_call 160; refine HP.out.mono ?_; rintro e w1 ⟨rfl, d⟩; have R1 := Lib.hid (H.out.dr d); clear d)
    have HB1 := Lib.hid (HBG.out w1 R1.out.1)
    cases G with
    | bad m =>
      have HZ2 : Hid (Z = .bad m) := Lib.hid HZ.out
      have HB2 : Hid (Calls Tryz.prog 166 #[.pointer (some ⟨p, 0, none⟩), .string nm] w1 fun e w' => e = thr m ∧ Below p w1 w') := Lib.hid HB1.out
      refine HB2.out.mono ?_
      rintro e w8 ⟨he, b8⟩
      unfold thr at he
      subst he
      (try go_wp2_with fail)
      rw [HZ2.out]
      simp only [bodyPost]
      exact ⟨trivial, rfl, (R1.out.2.below HF.out (Nat.le_of_lt HLT.out)).trans b8⟩
    | ok x =>
      obtain ⟨rfl, h4, h16⟩ := HGX.out x rfl
      have HZ2 : Hid (Z = R) := Lib.hid HZ.out
      have HC := Lib.hid (HKX.out (by omega))
      have HB2 : Hid (Calls Tryz.prog 166 #[.pointer (some ⟨p, 0, none⟩), .string nm] w1 fun e w' => e = .returned (.tuple #[]) ∧ ∃ v', RdB w' p s i op v' (L ++ [(⟨0, nm, ⟨#[]⟩, 0, 0⟩ : CR)]) ∧ Fr p v v' w1 w') := Lib.hid HB1.out
      clear h16
      refine HB2.out.mono ?_
      rintro e w2 ⟨rfl, v2, r2, f2⟩
      obtain ⟨q, cap, rfl, hpq, _⟩ := r2.addr (by simp)
      have c3 := r2.c3
      have HFR := Lib.hid (R1.out.2.trans f2)
      have HFA := Lib.hid r2.far
      have HPL := Lib.hid r2.lt
      have HC2 := Lib.hid (HC.out w2 q cap hpq r2 (HL.out.fr HFR.out (Nat.le_of_lt HLT.out) HF.out))
      clear r2 f2 HC HB1 HB2 HZ
      go_wp2_with fail
      refine HC2.out.mono ?_
      intro e w3 h3
      cases R with
      | bad m =>
        obtain ⟨he, b3⟩ : e = thr m ∧ Below p w2 w3 := h3
        unfold thr at he
        subst he
        (try go_wp2_with fail)
        rw [HZ2.out]
        simp only [bodyPost]
        exact ⟨trivial, rfl, (HFR.out.below HF.out (Nat.le_of_lt HLT.out)).trans b3⟩
      | ok y =>
        obtain ⟨j, M⟩ := y
        obtain ⟨rfl, v3, r3, f3⟩ : e = .returned (.tuple #[]) ∧ ∃ v', RdB w3 p s j op v' M ∧ Fr p _ v' w2 w3 := h3
        have R3 := Lib.hid (And.intro r3 (HFR.out.trans f3))
        clear r3 f3
        go_wp2_with fail
        go_end0
        rw [HZ2.out]
        exact ⟨rfl, _, R3.out.1, R3.out.2⟩
  by_cases k56 : b = 56
  · subst k56
    have HGX := Lib.hid (fun x (e : G = .ok x) => have h := HGO.out x e; And.intro h.1 (And.intro h.2.1 trivial))
    have HKX := Lib.hid (HK7.out (.inr (by decide)))
    clear HGO HK1 HK2 HK3 HK4 HK5 HK6 HK7
    have HZ : Hid (Z = G.bind fun _ => R) := Lib.hid (by rw [hZ, if_neg (by decide)])
    clear hZ
    go_enter Tryz.func154, Tryz.ntmps154
    go_wp2_with (go_at_call 160; refine HP.out.mono ?_; rintro e w1 ⟨rfl, d⟩; have R1 := Lib.hid (H.out.dr d); clear d)
    have HB1 := Lib.hid (HBG.out w1 R1.out.1)
    cases G with
    | bad m =>
      have HZ2 : Hid (Z = .bad m) := Lib.hid HZ.out
      have HB2 : Hid (Calls Tryz.prog 166 #[.pointer (some ⟨p, 0, none⟩), .string nm] w1 fun e w' => e = thr m ∧ Below p w1 w') := Lib.hid HB1.out
      refine HB2.out.mono ?_
      rintro e w8 ⟨he, b8⟩
      unfold thr at he
      subst he
      (try go_wp2_with fail)
      rw [HZ2.out]
      simp only [bodyPost]
      exact ⟨trivial, rfl, (R1.out.2.below HF.out (Nat.le_of_lt HLT.out)).trans b8⟩
    | ok x =>
      obtain ⟨rfl, h4, h16⟩ := HGX.out x rfl
      have HZ2 : Hid (Z = R) := Lib.hid HZ.out
      have HC := Lib.hid (HKX.out (by omega))
      have HB2 : Hid (Calls Tryz.prog 166 #[.pointer (some ⟨p, 0, none⟩), .string nm] w1 fun e w' => e = .returned (.tuple #[]) ∧ ∃ v', RdB w' p s i op v' (L ++ [(⟨0, nm, ⟨#[]⟩, 0, 0⟩ : CR)]) ∧ Fr p v v' w1 w') := Lib.hid HB1.out
      clear h16
      refine HB2.out.mono ?_
      rintro e w2 ⟨rfl, v2, r2, f2⟩
      obtain ⟨q, cap, rfl, hpq, _⟩ := r2.addr (by simp)
      have c3 := r2.c3
      have HFR := Lib.hid (R1.out.2.trans f2)
      have HFA := Lib.hid r2.far
      have HPL := Lib.hid r2.lt
      have HC2 := Lib.hid (HC.out w2 q cap hpq r2 (HL.out.fr HFR.out (Nat.le_of_lt HLT.out) HF.out))
      clear r2 f2 HC HB1 HB2 HZ
      go_wp2_with fail
      refine HC2.out.mono ?_
      intro e w3 h3
      cases R with
      | bad m =>
        obtain ⟨he, b3⟩ : e = thr m ∧ Below p w2 w3 := h3
        unfold thr at he
        subst he
        (try go_wp2_with fail)
        rw [HZ2.out]
        simp only [bodyPost]
        exact ⟨trivial, rfl, (HFR.out.below HF.out (Nat.le_of_lt HLT.out)).trans b3⟩
      | ok y =>
        obtain ⟨j, M⟩ := y
        obtain ⟨rfl, v3, r3, f3⟩ : e = .returned (.tuple #[]) ∧ ∃ v', RdB w3 p s j op v' M ∧ Fr p _ v' w2 w3 := h3
        have R3 := Lib.hid (And.intro r3 (HFR.out.trans f3))
        clear r3 f3
        go_wp2_with fail
        go_end0
        rw [HZ2.out]
        exact ⟨rfl, _, R3.out.1, R3.out.2⟩
  by_cases k57 : b = 57
  · subst k57
    have HGX := Lib.hid (fun x (e : G = .ok x) => have h := HGO.out x e; And.intro h.1 (And.intro h.2.1 trivial))
    have HKX := Lib.hid (HK7.out (.inr (by decide)))
    clear HGO HK1 HK2 HK3 HK4 HK5 HK6 HK7
    have HZ : Hid (Z = G.bind fun _ => R) := Lib.hid (by rw [hZ, if_neg (by decide)])
    clear hZ
    go_enter Tryz.func154, Tryz.ntmps154
    go_wp2_with (go_at_call 160; refine HP.out.mono ?_; rintro e w1 ⟨rfl, d⟩; have R1 := Lib.hid (H.out.dr d); clear d)
    have HB1 := Lib.hid (HBG.out w1 R1.out.1)
    cases G with
    | bad m =>
      have HZ2 : Hid (Z = .bad m) := Lib.hid HZ.out
      have HB2 : Hid (Calls Tryz.prog 166 #[.pointer (some ⟨p, 0, none⟩), .string nm] w1 fun e w' => e = thr m ∧ Below p w1 w') := Lib.hid HB1.out
      refine HB2.out.mono ?_
      rintro e w8 ⟨he, b8⟩
      unfold thr at he
      subst he
      (try go_wp2_with fail)
      rw [HZ2.out]
      simp only [bodyPost]
      exact ⟨trivial, rfl, (R1.out.2.below HF.out (Nat.le_of_lt HLT.out)).trans b8⟩
    | ok x =>
      obtain ⟨rfl, h4, h16⟩ := HGX.out x rfl
      have HZ2 : Hid (Z = R) := Lib.hid HZ.out
      have HC := Lib.hid (HKX.out (by omega))
      have HB2 : Hid (Calls Tryz.prog 166 #[.pointer (some ⟨p, 0, none⟩), .string nm] w1 fun e w' => e = .returned (.tuple #[]) ∧ ∃ v', RdB w' p s i op v' (L ++ [(⟨0, nm, ⟨#[]⟩, 0, 0⟩ : CR)]) ∧ Fr p v v' w1 w') := Lib.hid HB1.out
      clear h16
      refine HB2.out.mono ?_
      rintro e w2 ⟨rfl, v2, r2, f2⟩
      obtain ⟨q, cap, rfl, hpq, _⟩ := r2.addr (by simp)
      have c3 := r2.c3
      have HFR := Lib.hid (R1.out.2.trans f2)
      have HFA := Lib.hid r2.far
      have HPL := Lib.hid r2.lt
      have HC2 := Lib.hid (HC.out w2 q cap hpq r2 (HL.out.fr HFR.out (Nat.le_of_lt HLT.out) HF.out))
      clear r2 f2 HC HB1 HB2 HZ
      go_wp2_with fail
      refine HC2.out.mono ?_
      intro e w3 h3
      cases R with
      | bad m =>
        obtain ⟨he, b3⟩ : e = thr m ∧ Below p w2 w3 := h3
        unfold thr at he
        subst he
        (try go_wp2_with fail)
        rw [HZ2.out]
        simp only [bodyPost]
        exact ⟨trivial, rfl, (HFR.out.below HF.out (Nat.le_of_lt HLT.out)).trans b3⟩
      | ok y =>
        obtain ⟨j, M⟩ := y
        obtain ⟨rfl, v3, r3, f3⟩ : e = .returned (.tuple #[]) ∧ ∃ v', RdB w3 p s j op v' M ∧ Fr p _ v' w2 w3 := h3
        have R3 := Lib.hid (And.intro r3 (HFR.out.trans f3))
        clear r3 f3
        go_wp2_with fail
        go_end0
        rw [HZ2.out]
        exact ⟨rfl, _, R3.out.1, R3.out.2⟩
  have HZ : Hid (Z = .bad 40) := Lib.hid (by rw [hZ, if_pos]; unfold isSt isDg; simp only [Bool.or_eq_false_iff, Bool.and_eq_false_iff, decide_eq_false_iff_not]; omega)
  have q123 : (b == 123) = false := beq_eq_false_iff_ne.2 k123
  have q91 : (b == 91) = false := beq_eq_false_iff_ne.2 k91
  have q34 : (b == 34) = false := beq_eq_false_iff_ne.2 k34
  have q116 : (b == 116) = false := beq_eq_false_iff_ne.2 k116
  have q102 : (b == 102) = false := beq_eq_false_iff_ne.2 k102
  have q110 : (b == 110) = false := beq_eq_false_iff_ne.2 k110
  have q45 : (b == 45) = false := beq_eq_false_iff_ne.2 k45
  have q48 : (b == 48) = false := beq_eq_false_iff_ne.2 k48
  have q49 : (b == 49) = false := beq_eq_false_iff_ne.2 k49
  have q50 : (b == 50) = false := beq_eq_false_iff_ne.2 k50
  have q51 : (b == 51) = false := beq_eq_false_iff_ne.2 k51
  have q52 : (b == 52) = false := beq_eq_false_iff_ne.2 k52
  have q53 : (b == 53) = false := beq_eq_false_iff_ne.2 k53
  have q54 : (b == 54) = false := beq_eq_false_iff_ne.2 k54
  have q55 : (b == 55) = false := beq_eq_false_iff_ne.2 k55
  have q56 : (b == 56) = false := beq_eq_false_iff_ne.2 k56
  have q57 : (b == 57) = false := beq_eq_false_iff_ne.2 k57
  clear hZ
  go_enter Tryz.func154, Tryz.ntmps154
  go_wp2_with (go_at_call 160; refine HP.out.mono ?_; rintro e w1 ⟨rfl, d⟩; have R1 := Lib.hid (H.out.dr d); clear d)
  rw [HZ.out]
  simp only [bodyPost]
  exact ⟨trivial, rfl, R1.out.2.below HF.out (Nat.le_of_lt HLT.out)⟩
theorem value_all {s : ByteArray} (hs : s.size ≤ 100000) : ∀ f, VC s (f + 1)
  | 0 => value_step (fun h => absurd h (by decide)) hs
  | f + 1 => value_step (fun _ => value_all hs f) hs
end Go.Proofs.YtmkkckhfdafjnaaGreatDoor
/- Layer 4, Read: the deferred closure. -/
namespace Go.Proofs.YtmkkckhfdafjnaaGreatDoor
open Go.RowKit Go.Maps
theorem rcatchI (p q : Addr) (w : World) : CallsD Tryz.prog 152 #[.pointer (some p), .pointer (some q)] .returning w fun e u' w' => e = .returned (.tuple #[]) ∧ u' = .returning ∧ w' = w := by
  have hnil : ∀ w : World, (binOp BinOp.eql 20 .nilIface .nilIface).run Tryz.prog w = .ok (.bool true) w := fun _ => by kernel_rfl
  refine callsD_of_wpS Tryz.func152 rfl fun c₀ cs hu => ?_
  apply wpS_seq
  apply wpS_region
  simp [wpOpsS, go_sem, recoverD, hu, Tryz.ntmps152, Exit.thenS]
  refine wpS_of_wp ?_
  simp only [Array.replicate, List.replicate, List.setIfInBounds_toArray, List.set, List.append_toArray, List.cons_append, List.nil_append]
  go_wp2_with fail
  cases c₀
  simp_all [bodyPostS, results, Tryz.results152]
set_option maxRecDepth 20000 in
theorem rcatchP (a b : Nat) (e : Int) (v0 e0 : Value) (older : List PanicEntry) (w : World) (hp : w.cell? ⟨a, 0, none⟩ = some v0) (hzp : w.frozen? ⟨a, 0, none⟩ = false) (hq : w.cell? ⟨b, 0, none⟩ = some e0) (hzq : w.frozen? ⟨b, 0, none⟩ = false) (hpq : a ≠ b) : CallsD Tryz.prog 152 #[.pointer (some ⟨a, 0, none⟩), .pointer (some ⟨b, 0, none⟩)] (.panicking ({ v := .iface 201 (.int .i64 e), recovered := false } :: older)) w fun x u' w' => x = .returned (.tuple #[]) ∧ u' = .panicking ({ v := .iface 201 (.int .i64 e), recovered := true } :: older) ∧ w' = (w.setCell ⟨a, 0, none⟩ (.slice none 0 0)).setCell ⟨b, 0, none⟩ (.int .i64 e) := by
  have hnil : ∀ w : World, (binOp BinOp.eql 20 (.iface 201 (.int .i64 e)) .nilIface).run Tryz.prog w = .ok (.bool false) w := fun _ => by kernel_rfl
  have hta : ∀ w : World, (Instr.typeAssert (.iface 201 (.int .i64 e)) 20 201 true).run Tryz.prog w = .ok (.tuple #[.int .i64 e, .bool true]) w := fun _ => by kernel_rfl
  refine callsD_of_wpS Tryz.func152 rfl fun c₀ cs hu => ?_
  apply wpS_seq
  apply wpS_region
  simp [wpOpsS, go_sem, recoverD, hu, Tryz.ntmps152, Exit.thenS]
  refine wpS_of_wp ?_
  simp only [Array.replicate, List.replicate, List.setIfInBounds_toArray, List.set, List.append_toArray, List.cons_append, List.nil_append]
  clear hu
  go_wp2_with fail
  cases c₀
  simp_all [bodyPostS, results, Tryz.results152]
end Go.Proofs.YtmkkckhfdafjnaaGreatDoor
/- Layer 4, Read: read. -/
namespace Go.Proofs.YtmkkckhfdafjnaaGreatDoor
open Go.RowKit Go.Maps
/-- What a text that is not too long tells. -/
def readN (s : ByteArray) : Rs (List CR) := (valM s 17 ⟨#[]⟩ 0 (bl s 0) []).bind fun x => if bl s x.1 < s.size then .bad 40 else .ok x.2
/-- Cells are told, or an error. -/
def RdP (w : World) (x : Rs (List CR)) (e : Ending) (w' : World) : Prop := match x with
  | .ok M => ∃ v, e = .returned (.tuple #[v, .int .i64 0]) ∧ w'.ownsRow w.heap.size 46 5 v M.length (rw5 M) ∧ Below w.heap.size w w'
  | .bad m => e = .returned (.tuple #[.slice none 0 0, .int .i64 m]) ∧ Below w.heap.size w w'
set_option maxRecDepth 20000 in
set_option maxHeartbeats 4000000 in
theorem jread_any (s : ByteArray) (w : World) (hl : LimP w.heap.size w) (hs : s.size ≤ 100000) : Calls Tryz.prog 150 #[.string s] w (RdP w (readN s)) := by
  have hmf : ∀ (fn : Fn) (first cap : Array Value) (w : World), (Instr.makeFunc fn first cap).run Tryz.prog w = .ok (.func fn first cap) w := fun _ _ _ _ => rfl
  obtain ⟨W1, hW1⟩ : ∃ W1, W1 = ((w.alloc (.cells #[.slice none 0 0] 37)).alloc (.cells #[.int .i64 0] 23)).alloc (.cells #[.string s, .int .i64 0, .int .i64 0, .slice none 0 0] 204) := ⟨_, rfl⟩
  have hB1 : W1.heap.size = w.heap.size + 3 := by rw [hW1]; simp
  have b1 : Below w.heap.size w W1 := by rw [hW1]; exact (((Below.refl _ _).alloc (Nat.le_refl _) _).alloc (by simp) _).alloc (by simp; omega) _
  have n0 : W1.heap[w.heap.size]? = some (.cells #[.slice none 0 0] 37) := by rw [hW1, heap_alloc_old _ _ (by simp; omega), heap_alloc_old _ _ (by simp), heap_alloc_new]
  have n1 : W1.heap[w.heap.size + 1]? = some (.cells #[.int .i64 0] 23) := by
    have e := heap_alloc_new (w.alloc (.cells #[.slice none 0 0] 37)) (.cells #[.int .i64 0] 23)
    rw [hW1, heap_alloc_old _ _ (by simp)]; simpa using e
  have n2 : W1.heap[w.heap.size + 1 + 1]? = some (.cells #[.string s, .int .i64 0, .int .i64 0, .slice none 0 0] 204) := by
    have e := heap_alloc_new ((w.alloc (.cells #[.slice none 0 0] 37)).alloc (.cells #[.int .i64 0] 23)) (.cells #[.string s, .int .i64 0, .int .i64 0, .slice none 0 0] 204)
    rw [hW1]; simpa using e
  have HR1 : Hid (RdB W1 (w.heap.size + 1 + 1) s 0 0 (.slice none 0 0) []) := Lib.hid ⟨n2, World.ownsRow_nil _ _ _ _⟩
  have HL1 : Hid (LimP (w.heap.size + 1 + 1) W1) := Lib.hid (by
    have e := b1.block _ hl.1
    refine ⟨by have := hl.1; omega, ?_, ?_⟩
    · rw [← hl.2.1]; unfold World.cell?; dsimp only; rw [e]
    · rw [← hl.2.2]; unfold World.cell?; dsimp only; rw [e])
  have HN := Lib.hid (And.intro n0 n1)
  have HB := Lib.hid b1
  have HFA : Hid (∀ k, (Value.slice none 0 0).ownBlock = some k → w.heap.size + 1 + 1 + 1 ≤ k) := Lib.hid (fun k e => by cases e)
  have hbl : bl s 0 ≤ s.size := bl_le (Nat.zero_le _)
  have HBK := Lib.hid (blanks_any W1 HR1.out (by omega) (by omega))
  obtain ⟨Z, hZ⟩ : ∃ Z, Z = readN s := ⟨_, rfl⟩
  rw [← hZ]
  unfold readN at hZ
  obtain ⟨i0, hi0⟩ : ∃ i0, i0 = bl s 0 := ⟨_, rfl⟩
  rw [← hi0] at hbl HBK hZ
  have HV := Lib.hid (fun W (r : RdB W (w.heap.size + 1 + 1) s i0 0 (.slice none 0 0) []) (l : LimP (w.heap.size + 1 + 1) W) => value_all hs 16 (w.heap.size + 1 + 1) i0 0 (.slice none 0 0) [] ⟨#[]⟩ W rfl r l hbl (by decide))
  have HOK := Lib.hid (fun j N => valM_ok s 17 0 ⟨#[]⟩ i0 [] j N hbl (by decide))
  dsimp only at HOK
  obtain ⟨X, hX⟩ : ∃ X, X = valM s 17 ⟨#[]⟩ 0 i0 [] := ⟨_, rfl⟩
  rw [← hX] at HV HOK hZ
  have HZ := Lib.hid hZ
  clear hX hi0 hZ n0 n1 n2 b1 hl hbl
  go_enter_defers Tryz.func150, Tryz.ntmps150
  go_wp2_with fail
  rw [← hW1]
  clear hW1
  refine HBK.out.mono ?_
  rintro e w2 ⟨rfl, r2, f2⟩
  have HV2 := Lib.hid (HV.out w2 r2 (HL1.out.fr f2 (by omega) HFA.out))
  have HF2 := Lib.hid (f2.below HFA.out (by omega))
  clear r2 f2 HV HBK
  go_wp2_with fail
  cases X with
  | bad m =>
    have HV3 : Hid (Calls Tryz.prog 154 #[.pointer (some ⟨w.heap.size + 1 + 1, 0, none⟩), .string ⟨#[]⟩] w2 fun e w' => e = thr m ∧ Below (w.heap.size + 1 + 1) w2 w') := Lib.hid HV2.out
    have HZ2 : Hid (Z = .bad m) := Lib.hid HZ.out
    refine HV3.out.mono ?_
    rintro e w3 ⟨he, b3⟩
    unfold thr at he
    subst he
    have HB3 := Lib.hid (HF2.out.trans b3)
    clear b3
    (try go_wp2_with fail)
    have n0 : w3.heap[w.heap.size]? = some (.cells #[.slice none 0 0] 37) := (HB3.out.block _ (by omega)).trans HN.out.1
    have n1 : w3.heap[w.heap.size + 1]? = some (.cells #[.int .i64 0] 23) := (HB3.out.block _ (by omega)).trans HN.out.2
    refine leaves_cons (f := 152) (args := #[.pointer (some ⟨w.heap.size, 0, none⟩), .pointer (some ⟨w.heap.size + 1, 0, none⟩)]) (by simp) (by simp [go_sem]) ?_
    refine (rcatchP w.heap.size (w.heap.size + 1) m (.slice none 0 0) (.int .i64 0) [] w3 (by simp [World.cell?, n0]) (by simp [World.frozen?, n0]) (by simp [World.cell?, n1]) (by simp [World.frozen?, n1]) (by omega)).mono ?_
    rintro e u' w'' ⟨rfl, rfl, hw⟩
    rw [HZ2.out]
    have m0 : w''.heap[w.heap.size]? = some (.cells #[.slice none 0 0] 37) := by
      rw [hw, Below.heap_setCell _ ⟨w.heap.size + 1, 0, none⟩ _ _ (show w.heap.size ≠ w.heap.size + 1 by omega)]
      simp [World.setCell, Array.getElem?_modify, n0]
    have m1 : w''.heap[w.heap.size + 1]? = some (.cells #[.int .i64 m] 23) := by
      rw [hw]
      simp [World.setCell, Array.getElem?_modify, n1]
    have d0 : w''.cell? ⟨w.heap.size, 0, none⟩ = some (.slice none 0 0) := by simp [World.cell?, m0]
    have d1 : w''.cell? ⟨w.heap.size + 1, 0, none⟩ = some (.int .i64 m) := by simp [World.cell?, m1]
    have bw : Below w.heap.size w w'' := by rw [hw]; exact ((HB.out.trans (HB3.out.mono (by omega))).setCell (by simp) _).setCell (by simp) _
    clear hw
    simp [Leaves, settle, results, Tryz.results150, go_sem, d0, d1]
    exact ⟨rfl, bw⟩
  | ok x =>
    obtain ⟨j, M⟩ := x
    have HV3 : Hid (Calls Tryz.prog 154 #[.pointer (some ⟨w.heap.size + 1 + 1, 0, none⟩), .string ⟨#[]⟩] w2 fun e w' => e = .returned (.tuple #[]) ∧ ∃ v', RdB w' (w.heap.size + 1 + 1) s j 0 v' M ∧ Fr (w.heap.size + 1 + 1) (.slice none 0 0) v' w2 w') := Lib.hid HV2.out
    obtain ⟨g1, g2, g3, g4, g5⟩ := HOK.out j M rfl
    have HZ1 : Hid (Z = if bl s j < s.size then .bad 40 else .ok M) := Lib.hid HZ.out
    clear HV2 HOK HZ g5
    refine HV3.out.mono ?_
    rintro e w3 ⟨rfl, v3, r3, f3⟩
    have hb1 := bl_ge s j
    have hb2 : bl s j ≤ s.size := bl_le g2
    have HB3' := Lib.hid (HF2.out.trans (f3.below HFA.out (by have := HF2.out.size; omega)))
    have HBK := Lib.hid (blanks_any w3 r3 (by omega) (by omega))
    have HR3 := Lib.hid r3
    clear r3 f3
    go_wp2_with fail
    refine HBK.out.mono ?_
    rintro e w4 ⟨rfl, r4, f4⟩
    have HB4 := Lib.hid (HB3'.out.trans (f4.below HR3.out.far (Nat.le_of_lt HR3.out.lt)))
    have c1 := r4.c1
    have c3 := r4.c3
    have HR4 := Lib.hid r4
    obtain ⟨j1, hj1⟩ : ∃ j1, j1 = bl s j := ⟨_, rfl⟩
    rw [← hj1] at c1 hb1 hb2 HZ1 HR4
    clear hj1 r4 f4 HBK
    by_cases hlt : j1 < s.size
    · have hlt2 : (j1 : Int) < s.size := by omega
      have HZ2 : Hid (Z = .bad 40) := Lib.hid (by rw [HZ1.out, if_pos hlt])
      go_wp2_with fail
      have HB3 := HB4
      clear HB4 HB3'
      have n0 : w4.heap[w.heap.size]? = some (.cells #[.slice none 0 0] 37) := (HB3.out.block _ (by omega)).trans HN.out.1
      have n1 : w4.heap[w.heap.size + 1]? = some (.cells #[.int .i64 0] 23) := (HB3.out.block _ (by omega)).trans HN.out.2
      refine leaves_cons (f := 152) (args := #[.pointer (some ⟨w.heap.size, 0, none⟩), .pointer (some ⟨w.heap.size + 1, 0, none⟩)]) (by simp) (by simp [go_sem]) ?_
      refine (rcatchP w.heap.size (w.heap.size + 1) 40 (.slice none 0 0) (.int .i64 0) [] w4 (by simp [World.cell?, n0]) (by simp [World.frozen?, n0]) (by simp [World.cell?, n1]) (by simp [World.frozen?, n1]) (by omega)).mono ?_
      rintro e u' w'' ⟨rfl, rfl, hw⟩
      rw [HZ2.out]
      have m0 : w''.heap[w.heap.size]? = some (.cells #[.slice none 0 0] 37) := by
        rw [hw, Below.heap_setCell _ ⟨w.heap.size + 1, 0, none⟩ _ _ (show w.heap.size ≠ w.heap.size + 1 by omega)]
        simp [World.setCell, Array.getElem?_modify, n0]
      have m1 : w''.heap[w.heap.size + 1]? = some (.cells #[.int .i64 40] 23) := by
        rw [hw]
        simp [World.setCell, Array.getElem?_modify, n1]
      have d0 : w''.cell? ⟨w.heap.size, 0, none⟩ = some (.slice none 0 0) := by simp [World.cell?, m0]
      have d1 : w''.cell? ⟨w.heap.size + 1, 0, none⟩ = some (.int .i64 40) := by simp [World.cell?, m1]
      have bw : Below w.heap.size w w'' := by rw [hw]; exact ((HB.out.trans (HB3.out.mono (by omega))).setCell (by simp) _).setCell (by simp) _
      clear hw
      simp [Leaves, settle, results, Tryz.results150, go_sem, d0, d1]
      exact ⟨rfl, bw⟩
    · have hlt2 : ¬ (j1 : Int) < s.size := by omega
      have HZ2 : Hid (Z = .ok M) := Lib.hid (by rw [HZ1.out, if_neg hlt])
      obtain ⟨q, cap, rfl, hpq, hqs⟩ := HR4.out.addr (by omega)
      have n0 : w4.heap[w.heap.size]? = some (.cells #[.slice none 0 0] 37) := (HB4.out.block _ (by omega)).trans HN.out.1
      have n1 : w4.heap[w.heap.size + 1]? = some (.cells #[.int .i64 0] 23) := (HB4.out.block _ (by omega)).trans HN.out.2
      have k0 : w4.cell? ⟨w.heap.size, 0, none⟩ = some (.slice none 0 0) := by simp [World.cell?, n0]
      have k1 : w4.cell? ⟨w.heap.size + 1, 0, none⟩ = some (.int .i64 0) := by simp [World.cell?, n1]
      have z0 : w4.frozen? ⟨w.heap.size, 0, none⟩ = false := by simp [World.frozen?, n0]
      have z1 : w4.frozen? ⟨w.heap.size + 1, 0, none⟩ = false := by simp [World.frozen?, n1]
      obtain ⟨Wf, hWf⟩ : ∃ Wf, Wf = (w4.setCell ⟨w.heap.size, 0, none⟩ (.slice (some ⟨q, 0, none⟩) M.length cap)).setCell ⟨w.heap.size + 1, 0, none⟩ (.int .i64 0) := ⟨_, rfl⟩
      have m0 : Wf.heap[w.heap.size]? = some (.cells #[.slice (some ⟨q, 0, none⟩) M.length cap] 37) := by
        rw [hWf, Below.heap_setCell _ ⟨w.heap.size + 1, 0, none⟩ _ _ (show w.heap.size ≠ w.heap.size + 1 by omega)]
        simp [World.setCell, Array.getElem?_modify, n0]
      have m1 : Wf.heap[w.heap.size + 1]? = some (.cells #[.int .i64 0] 23) := by
        rw [hWf]
        simp [World.setCell, Array.getElem?_modify, n1]
      have bw : Hid (Below w.heap.size w Wf) := Lib.hid (by rw [hWf]; exact ((HB.out.trans (HB4.out.mono (by omega))).setCell (by simp) _).setCell (by simp) _)
      have hrow : Hid (Wf.ownsRow w.heap.size 46 5 (.slice (some ⟨q, 0, none⟩) M.length cap) M.length (rw5 M)) := Lib.hid (own_base (own_move HR4.out.row (fun j hj => by
        cases hj
        rw [hWf, Below.heap_setCell _ ⟨w.heap.size + 1, 0, none⟩ _ _ (show q ≠ w.heap.size + 1 by omega), Below.heap_setCell _ ⟨w.heap.size, 0, none⟩ _ _ (show q ≠ w.heap.size by omega)])) (by omega))
      have M01 := Lib.hid (And.intro m0 m1)
      have HWF := Lib.hid hWf
      clear n0 n1 m0 m1 hWf
      go_wp2_with fail
      rw [← HWF.out]
      clear HWF
      refine leaves_cons (f := 152) (args := #[.pointer (some ⟨w.heap.size, 0, none⟩), .pointer (some ⟨w.heap.size + 1, 0, none⟩)]) (by simp) (by simp [go_sem]) ?_
      refine (rcatchI _ _ Wf).mono ?_
      rintro e u' w'' ⟨rfl, rfl, rfl⟩
      have d0 : w''.cell? ⟨w.heap.size, 0, none⟩ = some (.slice (some ⟨q, 0, none⟩) M.length cap) := by simp [World.cell?, M01.out.1]
      have d1 : w''.cell? ⟨w.heap.size + 1, 0, none⟩ = some (.int .i64 0) := by simp [World.cell?, M01.out.2]
      rw [HZ2.out]
      simp [Leaves, settle, results, Tryz.results150, go_sem, d0, d1]
      exact ⟨_, rfl, hrow.out, bw.out⟩
end Go.Proofs.YtmkkckhfdafjnaaGreatDoor
/- Layer 4: Read. -/
namespace Go.Proofs.YtmkkckhfdafjnaaGreatDoor
open Go.RowKit Go.Maps
theorem ckE_size {s : ByteArray} (h : ckE s = 0) : s.size ≤ 16384 := by
  unfold ckE at h
  split at h
  · cases h
  · omega
theorem LimP.up {w w' : World} (l : LimP w.heap.size w) (b : Below w.heap.size w w') : LimP w'.heap.size w' := by
  have e := b.block _ l.1
  refine ⟨Nat.lt_of_lt_of_le l.1 b.size, ?_, ?_⟩
  · rw [← l.2.1]; unfold World.cell?; dsimp only; rw [e]
  · rw [← l.2.2]; unfold World.cell?; dsimp only; rw [e]
set_option maxRecDepth 20000 in
theorem Read_any (s : ByteArray) (w : World) (hl : LimP w.heap.size w) (hs : s.size ≤ maxLen) : Calls Tryz.prog 148 #[.string s] w (RdP w (readM s)) := by
  have HC := Lib.hid (check_any s w hs)
  have HR := Lib.hid (fun (h : ckE s = 0) W (b : Below w.heap.size w W) => jread_any s W (hl.up b) (by have := ckE_size h; omega))
  have HE : Hid (ckE s = 0 → readM s = readN s) := Lib.hid (fun h => by unfold readM readN; rw [if_neg (by omega)])
  have HE2 : Hid (ckE s ≠ 0 → readM s = .bad (ckE s)) := Lib.hid (fun h => by unfold readM; rw [if_pos h])
  obtain ⟨c, hc⟩ : ∃ c, c = ckE s := ⟨_, rfl⟩
  rw [← hc] at HC HR HE HE2
  clear hc hl
  obtain ⟨Z, hZ⟩ : ∃ Z, Z = readM s := ⟨_, rfl⟩
  rw [← hZ] at HE HE2 ⊢
  clear hZ
  by_cases h0 : c = 0
  · have HZ := Lib.hid (HE.out h0)
    have HR1 := Lib.hid (HR.out h0)
    clear HR HE HE2
    subst h0
    obtain ⟨X, hX⟩ : ∃ X, X = readN s := ⟨_, rfl⟩
    rw [← hX] at HZ HR1
    clear hX
    go_enter Tryz.func148, Tryz.ntmps148
    go_wp2_with fail
    refine HC.out.mono ?_
    rintro e w1 ⟨rfl, b1⟩
    have HR2 := Lib.hid (HR1.out w1 b1)
    have HB1 := Lib.hid b1
    clear b1 HR1
    go_wp2_with fail
    refine HR2.out.mono ?_
    intro e w2 h2
    cases X with
    | bad m =>
      obtain ⟨rfl, b2⟩ : e = .returned (.tuple #[.slice none 0 0, .int .i64 m]) ∧ Below w1.heap.size w1 w2 := h2
      have HB2 := Lib.hid (HB1.out.trans (b2.mono HB1.out.size))
      clear b2
      go_wp2_with fail
      go_ret2
      rw [HZ.out]
      exact ⟨rfl, HB2.out⟩
    | ok M =>
      obtain ⟨v, rfl, o2, b2⟩ : ∃ v, e = .returned (.tuple #[v, .int .i64 0]) ∧ w2.ownsRow w1.heap.size 46 5 v M.length (rw5 M) ∧ Below w1.heap.size w1 w2 := h2
      have HB2 := Lib.hid (HB1.out.trans (b2.mono HB1.out.size))
      have HO := Lib.hid (own_base o2 HB1.out.size)
      clear b2 o2
      go_wp2_with fail
      go_ret2
      rw [HZ.out]
      exact ⟨_, rfl, HO.out, HB2.out⟩
  · have HZ := Lib.hid (HE2.out h0)
    have hb : (c != 0) = true := by simp [bne, beq_eq_false_iff_ne.2 h0]
    clear HR HE HE2 h0
    go_enter Tryz.func148, Tryz.ntmps148
    go_wp2_with fail
    refine HC.out.mono ?_
    rintro e w1 ⟨rfl, b1⟩
    have HB1 := Lib.hid b1
    clear b1
    go_wp2_with fail
    go_ret2
    rw [HZ.out]
    exact ⟨rfl, HB1.out⟩
end Go.Proofs.YtmkkckhfdafjnaaGreatDoor
/- Layer 3: the document's One, Name, among. -/
namespace Go.Proofs.YtmkkckhfdafjnaaGreatDoor
open Go.RowKit Go.Maps
theorem let_or (b : UInt8) : letB b = true ↔ (b.toNat = 95 ∨ (97 ≤ b.toNat ∧ b.toNat ≤ 122) ∨ (65 ≤ b.toNat ∧ b.toNat ≤ 90)) := by
  unfold letB
  simp [UInt8.le_iff_toNat_le, ← UInt8.toNat_inj, or_assoc]
theorem dg_or (b : UInt8) : dgB b = true ↔ (48 ≤ b.toNat ∧ b.toNat ≤ 57) := by
  unfold dgB
  simp [UInt8.le_iff_toNat_le]

end Go.Proofs.YtmkkckhfdafjnaaGreatDoor
/- Layer 31, ServeWrites: a text quoted (plain), and appends of bytes. -/
namespace Go.Proofs.YtmkkckhfdafjnaaGreatDoor
open Go.RowKit
def hexI (x : Int) : Int := if x < 10 then 48 + x else 87 + x
def shortI (x : Int) : Int := if x = 34 then 34 else if x = 92 then 92 else if x = 8 then 98 else if x = 9 then 116 else if x = 10 then 110 else if x = 12 then 102 else if x = 13 then 114 else 0
def escI (x : Int) : List Int := if shortI x ≠ 0 then [92, shortI x] else if x < 32 then [92, 117, 48, 48, hexI (x / 16), hexI (x % 16)] else [x]
def quL (s : ByteArray) : Nat → List Int
  | 0 => [34]
  | k + 1 => quL s k ++ escI (byt s k)
theorem esc_len (x : Int) : (escI x).length ≤ 6 := by unfold escI; split <;> (try split) <;> simp
theorem quL_len (s : ByteArray) (k : Nat) : (quL s k).length ≤ 6 * k + 1 := by
  induction k with
  | zero => exact Nat.le_refl _
  | succ k ih => unfold quL; rw [List.length_append]; have := esc_len (byt s k); omega
theorem short_range (x : Int) : 0 ≤ shortI x ∧ shortI x < 256 := by unfold shortI; repeat' split <;> (try omega)
theorem esc_range (x : Int) (h0 : 0 ≤ x) (h1 : x < 256) : ∀ y ∈ escI x, 0 ≤ y ∧ y < 256 := by
  have hs := short_range x
  unfold escI
  split
  · intro y hy; simp at hy; rcases hy with rfl | rfl <;> omega
  · split
    · intro y hy
      simp at hy
      unfold hexI at hy
      rcases hy with rfl | rfl | rfl | rfl | rfl <;> (first | omega | (split <;> omega))
    · intro y hy; simp at hy; omega
theorem quL_range (s : ByteArray) (k : Nat) : ∀ y ∈ quL s k, 0 ≤ y ∧ y < 256 := by
  induction k with
  | zero => intro y hy; simp [quL] at hy; omega
  | succ k ih =>
    intro y hy
    unfold quL at hy
    rcases List.mem_append.1 hy with hy | hy
    · exact ih y hy
    · exact esc_range _ (byt_range s k).1 (byt_range s k).2 y hy
/-- A text, quoted. -/
def quT (s : ByteArray) : ByteArray := mkB (quL s s.size ++ [34])
theorem qu_end (s : ByteArray) : ∀ y ∈ quL s s.size ++ [34], 0 ≤ y ∧ y < 256 := by
  intro y hy
  rcases List.mem_append.1 hy with hy | hy
  · exact quL_range s _ y hy
  · simp at hy; omega
theorem infoB : ∃ i, Tryz.prog.info? 5 = some i ∧ i.zero = some (.int .u8 0) ∧ i.size = 1 ∧ i.bytes = 1 := by
  have h := Tryz.typeInfo5 default
  unfold typeInfo at h
  cases hq : Tryz.prog.info? 5 with
  | none => simp [hq] at h
  | some i =>
    simp [hq] at h
    exact ⟨i, rfl, by rw [h]; rfl, by rw [h]; rfl, by rw [h]; rfl⟩
def BO (w0 w : World) (v : Value) (L : List Int) : Prop := w.ownsRow w0.heap.size 5 1 v L.length (L.map (Value.int .u8)) ∧ Below w0.heap.size w0 w
theorem BO.nil (w : World) : BO w w (.slice none 0 0) [] := ⟨World.ownsRow_nil _ _ _ _, Below.refl _ _⟩
theorem BO.alloc {w0 w : World} {v : Value} {L : List Int} (h : BO w0 w v L) (o : Obj) : BO w0 (w.alloc o) v L := ⟨h.1.alloc o, h.2.alloc h.2.size o⟩
theorem BO.drew {w0 w : World} {v : Value} {L : List Int} (h : BO w0 w v L) : BO w0 w.drew v L := ⟨h.1.drew, h.2.drew⟩
theorem BO.slice {w0 w : World} {v : Value} {L : List Int} (h : BO w0 w v L) : ∃ ad c, v = .slice ad L.length c := by
  rcases h.1.2 with ⟨rfl, hn⟩ | ⟨g, cap, cur, rfl, _⟩
  · exact ⟨none, 0, by rw [hn]⟩
  · exact ⟨_, _, rfl⟩
theorem news_bytes {w : World} {b : Nat} {M : List Int} (hb : w.heap[b]? = some (.cells (M.map (Value.int .u8)).toArray 5)) : ∀ j u, (M.map (Value.int .u8))[j]? = some u → w.cell? ((⟨b, 0, none⟩ : Addr).add j) = some u := fun j u hj => by
  rw [Addr.add_lit]
  simp [World.cell?, hb]
  simpa using hj
theorem bo_run {w0 w : World} {v : Value} {L M : List Int} {b : Nat} (ty : TypeId) (hO : BO w0 w v L) (hb : w.heap[b]? = some (.cells (M.map (Value.int .u8)).toArray 5)) (hL : L.length + M.length ≤ 1000000000) :
    ∃ v' w', (Builtin.append_ #[26, 26] ty #[v, .slice (some ⟨b, 0, none⟩) M.length M.length]).run Tryz.prog w = .ok v' w' ∧ BO w0 w' v' (L ++ M) := by
  obtain ⟨i, h2, h3, h4, h5⟩ := infoB
  obtain ⟨v', w', hrun, r1, r2, _⟩ := run_append_own (P := Tryz.prog) (w := w) w0.heap.size 26 ty 5 i _ 1 1 Tryz.underlying26 h2 h3 h4 h5 rfl (by decide) v L.length (L.map (Value.int .u8)) hO.1 ⟨b, 0, none⟩ M.length M.length (M.map (Value.int .u8)) (by simp) (news_bytes hb) (by intro u hu; obtain ⟨x, _, rfl⟩ := List.mem_map.1 hu; rfl) (by unfold maxLen; omega) (by omega) hO.2.size
  refine ⟨v', w', hrun, ?_, hO.2.grown r2 hO.2.size (fun k hk => ?_)⟩
  · rw [List.length_append, List.map_append]; exact r1
  · rcases hO.1.2 with ⟨rfl, _⟩ | ⟨g, cap, cur, rfl, hg, _⟩
    · cases hk
    · simp only [Value.ownBlock, Option.some.injEq] at hk
      subst hk; exact hg
theorem app_bytes {ops : Array Oper} {rest : List Oper} {o : Oper} {a : Act} {w0 w : World} {Q : Exit → Act → World → Prop} (hgd : o.guard = none) (s x : Operand)
    (ho : o.op = .call { callee := .builtin .append, args := #[s, x], argTypes := #[26, 26] }) (v : Value) (L M : List Int) (b : Nat) (hs : a.eval s = v) (hx : a.eval x = .slice (some ⟨b, 0, none⟩) M.length M.length) (hO : BO w0 w v L) (hb : w.heap[b]? = some (.cells (M.map (Value.int .u8)).toArray 5)) (hL : L.length + M.length ≤ 1000000000)
    (h : ∀ v' w', BO w0 w' v' (L ++ M) → wpList Tryz.prog ops Q rest (a.put o.dst v') w') : wpList Tryz.prog ops Q (o :: rest) a w := by
  obtain ⟨v', w', hrun, hB⟩ := bo_run o.type hO hb hL
  refine wpList_plain hgd fun K hK => ?_
  unfold Oper.wp
  simp [execOp, ho, resolve, invoke, builtin, hs, hx, hrun, Result.andThen]
  exact hK _ _ (h v' w' hB)
theorem step_bytes {ops : Array Oper} {o : Oper} {a : Act} {w0 w : World} {K : Act → World → Prop} {Q : Exit → Act → World → Prop} {E : Prop} (hgd : o.guard = none) (s x : Operand)
    (ho : o.op = .call { callee := .builtin .append, args := #[s, x], argTypes := #[26, 26] }) (v : Value) (L M : List Int) (b : Nat) (hs : a.eval s = v) (hx : a.eval x = .slice (some ⟨b, 0, none⟩) M.length M.length) (hO : BO w0 w v L) (hb : w.heap[b]? = some (.cells (M.map (Value.int .u8)).toArray 5)) (hL : L.length + M.length ≤ 1000000000)
    (hK : ∀ v' w', BO w0 w' v' (L ++ M) → K (a.put o.dst v') w') : if Region.wanted o (yielded ops a.tmps) = true then Oper.wp Tryz.prog o a w K Q else E := by
  have hw : Region.wanted o (yielded ops a.tmps) = true := by simp [Region.wanted, hgd]
  rw [if_pos hw]
  obtain ⟨v', w', hrun, hB⟩ := bo_run o.type hO hb hL
  unfold Oper.wp
  simp [execOp, ho, resolve, invoke, builtin, hs, hx, hrun, Result.andThen]
  exact hK v' w' hB
end Go.Proofs.YtmkkckhfdafjnaaGreatDoor
/- Layer 31, ServeWrites: a text quoted, by the program and by the document. -/
namespace Go.Proofs.YtmkkckhfdafjnaaGreatDoor
open Go.RowKit
theorem byt_nat {s : ByteArray} {i : Nat} (h : i < s.size) : byt s i = (s[i].toNat : Int) := by unfold byt; rw [dif_pos h]
theorem esc_short {x : Int} (h : shortI x ≠ 0) : escI x = [92, shortI x] := by unfold escI; rw [if_pos h]
theorem esc_low {x : Int} (h : shortI x = 0) (h2 : x < 32) : escI x = [92, 117, 48, 48, hexI (x / 16), hexI (x % 16)] := by unfold escI; rw [if_neg (by simpa using h), if_pos h2]
theorem esc_own {x : Int} (h : shortI x = 0) (h2 : ¬ x < 32) : escI x = [x] := by unfold escI; rw [if_neg (by simpa using h), if_neg h2]
theorem andF (x : Int) (h0 : 0 ≤ x) (h1 : x < 256) : bits BinOp.and IntKind.u8 x 15 = x % 16 := by
  have h : ∀ n : Fin 256, bits BinOp.and IntKind.u8 (n.val : Int) 15 = (n.val : Int) % 16 := by decide +kernel
  have := h ⟨x.toNat, by omega⟩
  rw [show ((⟨x.toNat, by omega⟩ : Fin 256).val : Int) = x by simp; omega] at this
  exact this
theorem hexL_at (n : Int) (h0 : 0 ≤ n) (h : n < 16) (w : World) (k : IntKind) : (Instr.index 9 (.string ⟨#[48, 49, 50, 51, 52, 53, 54, 55, 56, 57, 97, 98, 99, 100, 101, 102]⟩) (.int k n)).run Tryz.prog w = .ok (.int .u8 (hexI n)) w := by
  rw [run_index_string _ _ _ _ _ Tryz.underlying9]
  rcases (show n = 0 ∨ n = 1 ∨ n = 2 ∨ n = 3 ∨ n = 4 ∨ n = 5 ∨ n = 6 ∨ n = 7 ∨ n = 8 ∨ n = 9 ∨ n = 10 ∨ n = 11 ∨ n = 12 ∨ n = 13 ∨ n = 14 ∨ n = 15 by omega) with rfl | rfl | rfl | rfl | rfl | rfl | rfl | rfl | rfl | rfl | rfl | rfl | rfl | rfl | rfl | rfl <;> rfl
end Go.Proofs.YtmkkckhfdafjnaaGreatDoor
/- Layer 31, ServeWrites: the document's Quoted. -/
namespace Go.Proofs.YtmkkckhfdafjnaaGreatDoor
open Go.RowKit
theorem bo_lit (w : World) (x : Int) : BO w (w.alloc (.cells #[.int .u8 x] 5)) (.slice (some ⟨w.heap.size, 0, none⟩) 1 1) [x] :=
  ⟨⟨rfl, .inr ⟨w.heap.size, 1, #[.int .u8 x], rfl, Nat.le_refl _, heap_alloc_new w _, Nat.le_refl _, by unfold maxLen; omega, rfl, rfl⟩⟩, (Below.refl _ _).alloc (Nat.le_refl _) _⟩
theorem short_no {x : Int} (h1 : x ≠ 34) (h2 : x ≠ 92) (h3 : x ≠ 8) (h4 : x ≠ 9) (h5 : x ≠ 10) (h6 : x ≠ 12) (h7 : x ≠ 13) : shortI x = 0 := by unfold shortI; rw [if_neg h1, if_neg h2, if_neg h3, if_neg h4, if_neg h5, if_neg h6, if_neg h7]
end Go.Proofs.YtmkkckhfdafjnaaGreatDoor
/- Layer 31, ServeWrites: a text quoted, what is no text as the empty one. -/
namespace Go.Proofs.YtmkkckhfdafjnaaGreatDoor
open Go.RowKit
def sqT (s : ByteArray) : ByteArray := if isTx s then quT s else ⟨#[34, 34]⟩
theorem ck_small {s : ByteArray} (h : s.size ≤ 16384) : ckE s = if isTx s = true then 0 else 10 := by unfold ckE; rw [if_neg (by omega)]
theorem quT_nil : quT ⟨#[]⟩ = ⟨#[34, 34]⟩ := by rfl
end Go.Proofs.YtmkkckhfdafjnaaGreatDoor
/- Layer 17: letters, names, Ints, marks, by both. -/
namespace Go.Proofs.YtmkkckhfdafjnaaGreatDoor
open Go.RowKit Go.Maps
theorem isletter_any (x : UInt8) (w : World) : Calls Tryz.prog 68 #[.int .u8 (x.toNat : Nat)] w fun e w' => e = .returned (.bool (letB x)) ∧ w' = w := by
  have HL := Lib.hid (let_val x)
  obtain ⟨b, hb⟩ : ∃ b, b = x.toNat := ⟨_, rfl⟩
  have hb2 : b < 256 := by rw [hb]; exact UInt8.toNat_lt _
  rw [← hb] at HL ⊢
  clear hb
  rcases (by omega : (0 ≤ b ∧ b ≤ 64) ∨ (65 ≤ b ∧ b ≤ 90) ∨ (91 ≤ b ∧ b ≤ 94) ∨ (95 ≤ b ∧ b ≤ 95) ∨ (96 ≤ b ∧ b ≤ 96) ∨ (97 ≤ b ∧ b ≤ 122) ∨ (123 ≤ b ∧ b ≤ 255)) with ⟨r1, r2⟩ | ⟨r1, r2⟩ | ⟨r1, r2⟩ | ⟨r1, r2⟩ | ⟨r1, r2⟩ | ⟨r1, r2⟩ | ⟨r1, r2⟩
  · have hL : letB x = false := by rw [HL.out]; simp; omega
    have g95 : ((b : Int) == 95) = false := by rw [beq_eq_false_iff_ne]; omega
    have g97 : ¬ (97 : Int) ≤ b := by omega
    have g65 : ¬ (65 : Int) ≤ b := by omega
    rw [hL]
    clear r1 r2 HL hL
    go_enter Tryz.func68, Tryz.ntmps68
    go_wp2_with fail
    go_ret
    exact ⟨rfl, rfl⟩
  · have hL : letB x = true := by rw [HL.out]; simp; omega
    have g95 : ((b : Int) == 95) = false := by rw [beq_eq_false_iff_ne]; omega
    have g97 : ¬ (97 : Int) ≤ b := by omega
    have g65 : (65 : Int) ≤ b := by omega
    have g90 : (b : Int) ≤ 90 := by omega
    rw [hL]
    clear r1 r2 HL hL
    go_enter Tryz.func68, Tryz.ntmps68
    go_wp2_with fail
    go_ret
    exact ⟨rfl, rfl⟩
  · have hL : letB x = false := by rw [HL.out]; simp; omega
    have g95 : ((b : Int) == 95) = false := by rw [beq_eq_false_iff_ne]; omega
    have g97 : ¬ (97 : Int) ≤ b := by omega
    have g65 : (65 : Int) ≤ b := by omega
    have g90 : ¬ (b : Int) ≤ 90 := by omega
    rw [hL]
    clear r1 r2 HL hL
    go_enter Tryz.func68, Tryz.ntmps68
    go_wp2_with fail
    go_ret
    exact ⟨rfl, rfl⟩
  · have hL : letB x = true := by rw [HL.out]; simp; omega
    have g95 : ((b : Int) == 95) = true := by rw [beq_iff_eq]; omega
    rw [hL]
    clear r1 r2 HL hL
    go_enter Tryz.func68, Tryz.ntmps68
    go_wp2_with fail
    go_ret
    exact ⟨rfl, rfl⟩
  · have hL : letB x = false := by rw [HL.out]; simp; omega
    have g95 : ((b : Int) == 95) = false := by rw [beq_eq_false_iff_ne]; omega
    have g97 : ¬ (97 : Int) ≤ b := by omega
    have g65 : (65 : Int) ≤ b := by omega
    have g90 : ¬ (b : Int) ≤ 90 := by omega
    rw [hL]
    clear r1 r2 HL hL
    go_enter Tryz.func68, Tryz.ntmps68
    go_wp2_with fail
    go_ret
    exact ⟨rfl, rfl⟩
  · have hL : letB x = true := by rw [HL.out]; simp; omega
    have g95 : ((b : Int) == 95) = false := by rw [beq_eq_false_iff_ne]; omega
    have g97 : (97 : Int) ≤ b := by omega
    have g122 : (b : Int) ≤ 122 := by omega
    rw [hL]
    clear r1 r2 HL hL
    go_enter Tryz.func68, Tryz.ntmps68
    go_wp2_with fail
    go_ret
    exact ⟨rfl, rfl⟩
  · have hL : letB x = false := by rw [HL.out]; simp; omega
    have g95 : ((b : Int) == 95) = false := by rw [beq_eq_false_iff_ne]; omega
    have g97 : (97 : Int) ≤ b := by omega
    have g122 : ¬ (b : Int) ≤ 122 := by omega
    have g65 : (65 : Int) ≤ b := by omega
    have g90 : ¬ (b : Int) ≤ 90 := by omega
    rw [hL]
    clear r1 r2 HL hL
    go_enter Tryz.func68, Tryz.ntmps68
    go_wp2_with fail
    go_ret
    exact ⟨rfl, rfl⟩
theorem isdigit_any (x : UInt8) (w : World) : Calls Tryz.prog 69 #[.int .u8 (x.toNat : Nat)] w fun e w' => e = .returned (.bool (dgB x)) ∧ w' = w := by
  have HL := Lib.hid (dg_val x)
  obtain ⟨b, hb⟩ : ∃ b, b = x.toNat := ⟨_, rfl⟩
  have hb2 : b < 256 := by rw [hb]; exact UInt8.toNat_lt _
  rw [← hb] at HL ⊢
  clear hb
  rcases (by omega : (0 ≤ b ∧ b ≤ 47) ∨ (48 ≤ b ∧ b ≤ 57) ∨ (58 ≤ b ∧ b ≤ 255)) with ⟨r1, r2⟩ | ⟨r1, r2⟩ | ⟨r1, r2⟩
  · have hL : dgB x = false := by rw [HL.out]; simp; omega
    have g48 : ¬ (48 : Int) ≤ b := by omega
    rw [hL]
    clear r1 r2 HL hL
    go_enter Tryz.func69, Tryz.ntmps69
    go_wp2_with fail
    go_ret
    exact ⟨rfl, rfl⟩
  · have hL : dgB x = true := by rw [HL.out]; simp; omega
    have g48 : (48 : Int) ≤ b := by omega
    have g57 : (b : Int) ≤ 57 := by omega
    rw [hL]
    clear r1 r2 HL hL
    go_enter Tryz.func69, Tryz.ntmps69
    go_wp2_with fail
    go_ret
    exact ⟨rfl, rfl⟩
  · have hL : dgB x = false := by rw [HL.out]; simp; omega
    have g48 : (48 : Int) ≤ b := by omega
    have g57 : ¬ (b : Int) ≤ 57 := by omega
    rw [hL]
    clear r1 r2 HL hL
    go_enter Tryz.func69, Tryz.ntmps69
    go_wp2_with fail
    go_ret
    exact ⟨rfl, rfl⟩
theorem nil_lst : (⟨#[]⟩ : ByteArray).toList = [] := by first | (unfold ByteArray.toList; unfold ByteArray.toList.loop; rfl) | simp [ByteArray.toList, ByteArray.toList.loop]
theorem empty_lst {s : ByteArray} (h : s.size = 0) : s.toList = [] := by
  have e : s = ⟨#[]⟩ := by apply ByteArray.ext; exact Array.eq_empty_of_size_eq_zero h
  rw [e]; exact nil_lst
theorem full_lst {s : ByteArray} (h : s.size ≠ 0) : s.toList.isEmpty = false := List.isEmpty_eq_false_iff.2 (fun k => h (size_nil k))
set_option maxRecDepth 20000 in
theorem lname_any (s : ByteArray) (w : World) (hs : s.size ≤ 1000000) : Calls Tryz.prog 43 #[.string s] w fun e w' => e = .returned (.bool (nmB s)) ∧ w' = w := by
  obtain ⟨r, hr⟩ : ∃ r, r = nmB s := ⟨_, rfl⟩
  rw [← hr]
  have HR := Lib.hid hr
  clear hr
  go_enter Tryz.func43, Tryz.ntmps43
  go_wp2_with fail
  go_loop [3] (fun v => ∃ i : Nat, i ≤ s.size ∧ v = .int .i64 i ∧ Hid (∀ j (h : j < s.size), j < i → okAt s[j] j = true)) (fun v => s.size - (intOf v).toNat)
  case atStart => exact ⟨0, Nat.zero_le _, rfl, Lib.hid (fun j _ hj => absurd hj (Nat.not_lt_zero j))⟩
  case round =>
    obtain ⟨i, hi, rfl, HP⟩ := hrel
    by_cases hlt : i < s.size
    · have HN : Hid (okAt s[i] i = true → ∀ j (h : j < s.size), j < i + 1 → okAt s[j] j = true) := Lib.hid (fun ho j h hj => by
        by_cases e : j = i
        · subst e; exact ho
        · exact HP.out j h (by omega))
      have HB : Hid (okAt s[i] i = false → r = false) := Lib.hid (fun ho => HR.out.trans (nm_bad hlt ho))
      have HLA := Lib.hid (fun W => isletter_any s[i] W)
      have HDA := Lib.hid (fun W => isdigit_any s[i] W)
      have HOK : Hid (okAt s[i] i = (letB s[i] || (decide (i ≠ 0) && dgB s[i]))) := Lib.hid (by unfold okAt; first | rfl | (cases letB s[i] <;> cases dgB s[i] <;> by_cases h0 : i = 0 <;> simp [h0]))
      obtain ⟨x, hx⟩ : ∃ x, x = letB s[i] := ⟨_, rfl⟩
      obtain ⟨y, hy⟩ : ∃ y, y = dgB s[i] := ⟨_, rfl⟩
      rw [← hx] at HLA HOK
      rw [← hy] at HDA HOK
      clear hx hy HP HR
      have hi0 : (0 : Int) ≤ (i : Int) := by omega
      have hii : (i : Int) < s.size := by omega
      cases x with
      | true =>
        have HO := Lib.hid (HN.out (by rw [HOK.out]; rfl))
        go_wp2_with (first | (go_at_call 68; refine (HLA.out _).mono ?_; rintro e w' ⟨rfl, rfl⟩))
        go_round
        case rel => exact ⟨i + 1, by omega, by go_num, HO⟩
        case measure => simp [intOf]; omega
      | false =>
        by_cases h0 : i = 0
        · subst h0
          have z0 : (((0 : Nat) : Int) == 0) = true := rfl
          have HO := Lib.hid (HB.out (by rw [HOK.out]; simp))
          clear HN HB
          go_wp2_with (first | (go_at_call 68; refine (HLA.out _).mono ?_; rintro e w' ⟨rfl, rfl⟩))
          go_ret
          exact ⟨ret_bool HO.out.symm, rfl⟩
        · have z0 : ((i : Int) == 0) = false := by rw [beq_eq_false_iff_ne]; omega
          cases y with
          | true =>
            have HO := Lib.hid (HN.out (by rw [HOK.out]; simp [h0]))
            clear h0
            go_wp2_with (first | (go_at_call 68; refine (HLA.out _).mono ?_; rintro e w' ⟨rfl, rfl⟩) | (go_at_call 69; refine (HDA.out _).mono ?_; rintro e w' ⟨rfl, rfl⟩))
            go_round
            case rel => exact ⟨i + 1, by omega, by go_num, HO⟩
            case measure => simp [intOf]; omega
          | false =>
            have HO := Lib.hid (HB.out (by rw [HOK.out]; simp))
            clear h0
            go_wp2_with (first | (go_at_call 68; refine (HLA.out _).mono ?_; rintro e w' ⟨rfl, rfl⟩) | (go_at_call 69; refine (HDA.out _).mono ?_; rintro e w' ⟨rfl, rfl⟩))
            go_ret
            exact ⟨ret_bool HO.out.symm, rfl⟩
    · have hz : ¬ ((i : Int) < s.size) := by omega
      by_cases he : s.size = 0
      · have hn := empty_lst he
        have HO : Hid (r = false) := Lib.hid (by
          rw [HR.out]
          cases h : nmB s with
          | false => rfl
          | true => exact absurd he ((nm_iff s).1 h).1)
        clear he
        go_wp2_with fail
        go_ret
        exact ⟨ret_bool HO.out.symm, rfl⟩
      · have hn := full_lst he
        have HO := Lib.hid (HR.out.trans ((nm_iff s).2 ⟨he, fun j h => HP.out j h (by omega)⟩))
        clear he
        go_wp2_with fail
        go_ret
        exact ⟨ret_bool HO.out.symm, rfl⟩
/-! ### Ints -/
def intB (s : ByteArray) : Bool := Nm.areD (Nm.bare s)
set_option maxRecDepth 20000 in
theorem lint_any (s : ByteArray) (w : World) (l : Nm.Lim w) (hs : s.size ≤ maxLen) : Calls Tryz.prog 100 #[.string s] w fun e w' => e = .returned (.bool (intB s)) ∧ Below w.heap.size w w' := by
  have HC := Lib.hid (Nm.read_rest s w l hs)
  have HE : Hid (Nm.rdE s = if intB s = true then Nm.err (Nm.rdZ s) else 21) := Lib.hid rfl
  obtain ⟨E, hE⟩ : ∃ E, E = Nm.rdE s := ⟨_, rfl⟩
  obtain ⟨b, hb⟩ : ∃ b, b = intB s := ⟨_, rfl⟩
  rw [← hE] at HC HE
  rw [← hb] at HE ⊢
  have hx : (E != 21) = b := by
    rw [HE.out]
    cases b with
    | false => rfl
    | true =>
      rw [if_pos rfl]
      rcases Nm.err_two (Nm.rdZ s) with h | h <;> rw [h] <;> rfl
  clear hE hb HE
  go_enter Tryz.func100, Tryz.ntmps100
  go_wp2_with fail
  refine HC.out.mono ?_
  rintro e w1 ⟨rfl, b1⟩
  have B1 := Lib.hid b1
  clear b1
  go_wp2_with fail
  go_ret
  exact ⟨rfl, B1.out⟩
end Go.Proofs.YtmkkckhfdafjnaaGreatDoor
