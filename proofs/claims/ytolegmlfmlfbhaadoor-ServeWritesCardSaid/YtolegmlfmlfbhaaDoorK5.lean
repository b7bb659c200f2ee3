import Derived.Test.YtolegmlfmlfbhaaDoorK4
import Derived.Deep.DeepCutAuto
import Derived.Deep.RegionWith
import Derived.BigQuiet
import Derived.Test.YtolegmlfmlfbhaaDoorShelf
import Derived.Lib.OthersKept
import Derived.Shelf.Vars
import Derived.Lib.ItoaLen
/- Layer 31, ServeWrites: an error, as the document writes it. -/
namespace Go.Proofs.YtolegmlfmlfbhaaDoor
open Go.RowKit Go.Maps
structure FtR where
  code : ByteArray
  np : Nat
  st : Nat → StR
  dir : ByteArray
  rule : Int
  line : Int
  col : Int
def fp2 (x : FtR) (s : ByteArray) : ByteArray := if 0 < x.np then s ++ ((⟨#[44, 34, 112, 97, 116, 104, 34, 58]⟩ : ByteArray) ++ (⟨#[91]⟩ ++ pthW x.st x.np ++ ⟨#[93]⟩)) else s
def fp3 (x : FtR) (s : ByteArray) : ByteArray := if x.dir.toList = [] then s else s ++ ((⟨#[44, 34, 100, 105, 114, 101, 99, 116, 105, 118, 101, 34, 58]⟩ : ByteArray) ++ sqT x.dir)
def fp4 (x : FtR) (s : ByteArray) : ByteArray := if x.rule = 0 then s else s ++ ((⟨#[44, 34, 114, 117, 108, 101, 34, 58]⟩ : ByteArray) ++ itT x.rule)
def fp5 (x : FtR) (s : ByteArray) : ByteArray := if x.line = 0 then s else s ++ ((⟨#[44, 34, 108, 105, 110, 101, 34, 58]⟩ : ByteArray) ++ itT x.line ++ (⟨#[44, 34, 99, 111, 108, 117, 109, 110, 34, 58]⟩ : ByteArray) ++ itT x.col)
def fltW (x : FtR) : ByteArray := fp5 x (fp4 x (fp3 x (fp2 x ((⟨#[123, 34, 99, 111, 100, 101, 34, 58]⟩ : ByteArray) ++ sqT x.code)))) ++ ⟨#[125]⟩
def i64ok (i : Int) : Prop := -9223372036854775808 ≤ i ∧ i ≤ 9223372036854775807
structure SmF (x : FtR) : Prop where
  code : x.code.size ≤ 3000
  np : x.np ≤ 1000
  st : SmS x.st x.np
  dir : x.dir.size ≤ 3000
  rule : i64ok x.rule
  line : i64ok x.line
  col : i64ok x.col
theorem itT_size {i : Int} (h : i64ok i) : (itT i).size ≤ 21 := Lib.itoa_length_le i h.1 h.2
theorem fp2_size {x : FtR} (h : SmF x) (s : ByteArray) : (fp2 x s).size ≤ s.size + 18003010 := by
  unfold fp2
  split
  · have h1 := pthW_size (st := x.st) x.np h.st
    have h2 := h.np
    rw [app_size, app_size, app_size, app_size]
    show s.size + (8 + (1 + _ + 1)) ≤ _
    omega
  · omega
theorem fp3_size {x : FtR} (h : SmF x) (s : ByteArray) : (fp3 x s).size ≤ s.size + 18015 := by
  unfold fp3
  split
  · omega
  · have h1 := sqT_size x.dir
    have h2 := h.dir
    rw [app_size, app_size]
    show s.size + (13 + _) ≤ _
    omega
theorem fp4_size {x : FtR} (h : SmF x) (s : ByteArray) : (fp4 x s).size ≤ s.size + 29 := by
  unfold fp4
  split
  · omega
  · have h1 := itT_size h.rule
    rw [app_size, app_size]
    show s.size + (8 + _) ≤ _
    omega
theorem fp5_size {x : FtR} (h : SmF x) (s : ByteArray) : (fp5 x s).size ≤ s.size + 60 := by
  unfold fp5
  split
  · omega
  · have h1 := itT_size h.line
    have h2 := itT_size h.col
    rw [app_size, app_size, app_size, app_size]
    show s.size + (8 + _ + 10 + _) ≤ _
    omega
theorem fltW_size {x : FtR} (h : SmF x) : (fltW x).size ≤ 20000000 := by
  unfold fltW
  have h0 := sqT_size x.code
  have h1 := h.code
  have h2 := fp2_size h ((⟨#[123, 34, 99, 111, 100, 101, 34, 58]⟩ : ByteArray) ++ sqT x.code)
  have h3 := fp3_size h (fp2 x ((⟨#[123, 34, 99, 111, 100, 101, 34, 58]⟩ : ByteArray) ++ sqT x.code))
  have h4 := fp4_size h (fp3 x (fp2 x ((⟨#[123, 34, 99, 111, 100, 101, 34, 58]⟩ : ByteArray) ++ sqT x.code)))
  have h5 := fp5_size h (fp4 x (fp3 x (fp2 x ((⟨#[123, 34, 99, 111, 100, 101, 34, 58]⟩ : ByteArray) ++ sqT x.code))))
  have e : ((⟨#[123, 34, 99, 111, 100, 101, 34, 58]⟩ : ByteArray) ++ sqT x.code).size = 8 + (sqT x.code).size := app_size _ _
  rw [app_size]
  show _ + 1 ≤ _
  omega
set_option maxRecDepth 20000 in
set_option maxHeartbeats 2000000 in
theorem rfault_any (x : FtR) (a : Option Addr) (cap : Nat) (w : World) (hx : SmF x) (hv : StV w a x.np x.st) : Calls Tryd.prog 12 #[.agg #[.string x.code, .slice a x.np cap, .string x.dir, .int .i64 x.rule, .int .i64 x.line, .int .i64 x.col]] w fun e w' => e = .returned (.string (fltW x)) ∧ Below w.heap.size w w' := by
  obtain ⟨S1, hS1⟩ : ∃ s, s = (⟨#[123, 34, 99, 111, 100, 101, 34, 58]⟩ : ByteArray) ++ sqT x.code := ⟨_, rfl⟩
  obtain ⟨S2, hS2⟩ : ∃ s, s = fp2 x S1 := ⟨_, rfl⟩
  obtain ⟨S3, hS3⟩ : ∃ s, s = fp3 x S2 := ⟨_, rfl⟩
  obtain ⟨S4, hS4⟩ : ∃ s, s = fp4 x S3 := ⟨_, rfl⟩
  obtain ⟨S5, hS5⟩ : ∃ s, s = fp5 x S4 := ⟨_, rfl⟩
  have HE : Hid (fltW x = S5 ++ ⟨#[125]⟩) := Lib.hid (by unfold fltW; rw [hS5, hS4, hS3, hS2, hS1])
  have g0 := sqT_size x.code
  have g00 := hx.code
  have g1 : S1.size = 8 + (sqT x.code).size := by rw [hS1]; exact app_size _ _
  have g2 := fp2_size hx S1
  rw [← hS2] at g2
  have g3 := fp3_size hx S2
  rw [← hS3] at g3
  have g4 := fp4_size hx S3
  rw [← hS4] at g4
  have g5 := fp5_size hx S4
  rw [← hS5] at g5
  have gz : S1.size ≤ 20000000 ∧ S2.size ≤ 20000000 ∧ S3.size ≤ 20000000 ∧ S4.size ≤ 20000000 ∧ S5.size ≤ 20000000 := by omega
  obtain ⟨y1, y2, y3, y4, y5⟩ := gz
  clear g0 g00 g1 g2 g3 g4 g5
  obtain ⟨W, hW⟩ : ∃ W, W = w.alloc (.cells #[.string x.code, .slice a x.np cap, .string x.dir, .int .i64 x.rule, .int .i64 x.line, .int .i64 x.col] 27) := ⟨_, rfl⟩
  have HBX : Hid (∀ V, Below W.heap.size W V → V.cell? ⟨w.heap.size, 0, none⟩ = some (.string x.code) ∧ V.cell? ⟨w.heap.size, 1, none⟩ = some (.slice a x.np cap) ∧ V.cell? ⟨w.heap.size, 2, none⟩ = some (.string x.dir) ∧ V.cell? ⟨w.heap.size, 3, none⟩ = some (.int .i64 x.rule) ∧ V.cell? ⟨w.heap.size, 4, none⟩ = some (.int .i64 x.line) ∧ V.cell? ⟨w.heap.size, 5, none⟩ = some (.int .i64 x.col)) := Lib.hid (fun V k => by
    have h : W.heap[w.heap.size]? = some (.cells #[.string x.code, .slice a x.np cap, .string x.dir, .int .i64 x.rule, .int .i64 x.line, .int .i64 x.col] 27) := by rw [hW]; exact heap_alloc_new w _
    have h2 : V.heap[w.heap.size]? = some (.cells #[.string x.code, .slice a x.np cap, .string x.dir, .int .i64 x.rule, .int .i64 x.line, .int .i64 x.col] 27) := by rw [k.block _ (Array.getElem?_eq_some_iff.1 h).1]; exact h
    exact ⟨by simp [World.cell?, h2], by simp [World.cell?, h2], by simp [World.cell?, h2], by simp [World.cell?, h2], by simp [World.cell?, h2], by simp [World.cell?, h2]⟩)
  have HB' : Hid (Below w.heap.size w W) := Lib.hid (by rw [hW]; exact (Below.refl _ _).alloc (Nat.le_refl _) _)
  have HSV := Lib.hid (fun V (k : Below W.heap.size W V) => (hv.below HB'.out).below k)
  have HQC := Lib.hid (fun V => rquoted_any x.code V (by have := hx.code; omega))
  have HQD := Lib.hid (fun V => rquoted_any x.dir V (by have := hx.dir; omega))
  have hi_ : ∀ i : Int, i64ok i → ∀ V : World, Calls Tryd.prog 27 #[.int .i64 i] V fun e w' => e = .returned (.string (itT i)) ∧ Below V.heap.size V w' := fun i h V => rwrite_int i V h.1 h.2
  have HIR := Lib.hid (hi_ x.rule hx.rule)
  have HIL := Lib.hid (hi_ x.line hx.line)
  have HIK := Lib.hid (hi_ x.col hx.col)
  have HPA := Lib.hid (fun (h0 : 0 < x.np) V (k : Below W.heap.size W V) => rpath_any a x.np cap x.st V hx.st hx.np h0 (HSV.out V k))
  have HX := Lib.hid hx
  clear hi_ hx hv
  obtain ⟨C, hC⟩ : ∃ C, C = sqT x.code := ⟨_, rfl⟩
  rw [← hC] at HQC hS1
  have H1 := Lib.hid hS1
  have H2 := Lib.hid hS2
  have H3 := Lib.hid hS3
  have H4 := Lib.hid hS4
  have H5 := Lib.hid hS5
  have hcs : C.size ≤ 20000000 := by have : S1.size = 8 + C.size := (by rw [hS1]; exact app_size _ _); omega
  have hl1 : ¬ 9223372036854775807 < 8 + C.size := by omega
  clear hS2 hS3 hS4 hS5 hC
  go_enter Tryd.func12, Tryd.ntmps12
  go_wp2_with fail
  rw [← hW]
  clear hW
  refine (HQC.out _).mono ?_
  rintro e w1 ⟨rfl, b1⟩
  have B1 := Lib.hid b1
  clear b1
  obtain ⟨z0, z1, z2, z3, z4, z5⟩ := HBX.out _ B1.out
  go_upto_if 11 with fail
  rw [← hS1]
  clear hS1 hl1 hcs
  go_cut [3] (fun v wx => v = .string S2 ∧ Hid (Below W.heap.size W wx))
  case first =>
    by_cases hp : 0 < x.np
    · have hp1 : (0 : Int) < (x.np : Int) := by omega
      obtain ⟨P, hP⟩ : ∃ P, P = (⟨#[91]⟩ ++ pthW x.st x.np ++ ⟨#[93]⟩ : ByteArray) := ⟨_, rfl⟩
      have hr := HPA.out hp w1 B1.out
      have h2 : Hid (S2 = S1 ++ ((⟨#[44, 34, 112, 97, 116, 104, 34, 58]⟩ : ByteArray) ++ P)) := Lib.hid (by rw [H2.out, hP]; unfold fp2; rw [if_pos hp])
      rw [← hP] at hr
      have HR := Lib.hid hr
      have hz := app_size S1 ((⟨#[44, 34, 112, 97, 116, 104, 34, 58]⟩ : ByteArray) ++ P)
      have hz2 : ((⟨#[44, 34, 112, 97, 116, 104, 34, 58]⟩ : ByteArray) ++ P).size = 8 + P.size := app_size _ _
      have hz3 : S2.size = (S1 ++ ((⟨#[44, 34, 112, 97, 116, 104, 34, 58]⟩ : ByteArray) ++ P)).size := by rw [← h2.out]
      have hl1 : ¬ 9223372036854775807 < 8 + P.size := by omega
      have hl2 : ¬ 9223372036854775807 < S1.size + ((⟨#[44, 34, 112, 97, 116, 104, 34, 58]⟩ : ByteArray) ++ P).size := by omega
      clear hP hr hz hz2 hz3
      go_wp2_with fail
      refine HR.out.mono ?_
      rintro e w2 ⟨rfl, b2⟩
      have B2 := Lib.hid (B1.out.trans (b2.mono B1.out.size))
      clear b2
      go_wp2_with fail
      go_meet
      exact ⟨by rw [h2.out], B2⟩
    · have hp1 : ¬ (0 : Int) < (x.np : Int) := by omega
      have h2 : Hid (S2 = S1) := Lib.hid (by rw [H2.out]; unfold fp2; rw [if_neg hp])
      go_wp2_with fail
      go_meet
      exact ⟨by rw [h2.out], B1⟩
  case rest =>
    obtain ⟨rfl, B2⟩ := hcut
    clear z0 z1 z2 z3 z4 z5 B1
    obtain ⟨z0, z1, z2, z3, z4, z5⟩ := HBX.out _ B2.out
    have hz9 := H1
    go_upto_if 20 with fail
    go_cut [3] (fun v wx => v = .string S3 ∧ Hid (Below W.heap.size W wx))
    case first =>
      by_cases hp : x.dir.toList = []
      · have h2 : Hid (S3 = S2) := Lib.hid (by rw [H3.out]; unfold fp3; rw [if_pos hp])
        have hb : (!x.dir.toList.isEmpty) = false := by rw [hp]; rfl
        rw [hb]
        go_wp2_with fail
        go_meet
        exact ⟨by rw [h2.out], B2⟩
      · obtain ⟨P, hP⟩ : ∃ P, P = sqT x.dir := ⟨_, rfl⟩
        have hr := HQD.out
        have h2 : Hid (S3 = S2 ++ ((⟨#[44, 34, 100, 105, 114, 101, 99, 116, 105, 118, 101, 34, 58]⟩ : ByteArray) ++ P)) := Lib.hid (by rw [H3.out, hP]; unfold fp3; rw [if_neg hp])
        rw [← hP] at hr
        have HR := Lib.hid hr
        have hz := app_size S2 ((⟨#[44, 34, 100, 105, 114, 101, 99, 116, 105, 118, 101, 34, 58]⟩ : ByteArray) ++ P)
        have hz2 : ((⟨#[44, 34, 100, 105, 114, 101, 99, 116, 105, 118, 101, 34, 58]⟩ : ByteArray) ++ P).size = 13 + P.size := app_size _ _
        have hz3 : S3.size = (S2 ++ ((⟨#[44, 34, 100, 105, 114, 101, 99, 116, 105, 118, 101, 34, 58]⟩ : ByteArray) ++ P)).size := by rw [← h2.out]
        have hl1 : ¬ 9223372036854775807 < 13 + P.size := by omega
        have hl2 : ¬ 9223372036854775807 < S2.size + ((⟨#[44, 34, 100, 105, 114, 101, 99, 116, 105, 118, 101, 34, 58]⟩ : ByteArray) ++ P).size := by omega
        clear hP hr hz hz2 hz3
        have hb : (!x.dir.toList.isEmpty) = true := by rw [List.isEmpty_eq_false_iff.2 hp]; rfl
        rw [hb]
        go_wp2_with fail
        refine (HR.out _).mono ?_
        rintro e w2 ⟨rfl, b2⟩
        have B9 := Lib.hid (B2.out.trans (b2.mono B2.out.size))
        clear b2
        go_wp2_with fail
        go_meet
        exact ⟨by rw [h2.out], B9⟩
    case rest =>
      obtain ⟨rfl, B3⟩ := hcut
      clear z0 z1 z2 z3 z4 z5 B2
      obtain ⟨z0, z1, z2, z3, z4, z5⟩ := HBX.out _ B3.out
      go_upto_if 29 with fail
      go_cut [3] (fun v wx => v = .string S4 ∧ Hid (Below W.heap.size W wx))
      case first =>
        by_cases hp : x.rule = 0
        · have h2 : Hid (S4 = S3) := Lib.hid (by rw [H4.out]; unfold fp4; rw [if_pos hp])
          have hb : (x.rule != 0) = false := by rw [hp]; rfl
          go_wp2_with fail
          go_meet
          exact ⟨by rw [h2.out], B3⟩
        · obtain ⟨P, hP⟩ : ∃ P, P = itT x.rule := ⟨_, rfl⟩
          have hr := HIR.out
          have h2 : Hid (S4 = S3 ++ ((⟨#[44, 34, 114, 117, 108, 101, 34, 58]⟩ : ByteArray) ++ P)) := Lib.hid (by rw [H4.out, hP]; unfold fp4; rw [if_neg hp])
          rw [← hP] at hr
          have HR := Lib.hid hr
          have hz := app_size S3 ((⟨#[44, 34, 114, 117, 108, 101, 34, 58]⟩ : ByteArray) ++ P)
          have hz2 : ((⟨#[44, 34, 114, 117, 108, 101, 34, 58]⟩ : ByteArray) ++ P).size = 8 + P.size := app_size _ _
          have hz3 : S4.size = (S3 ++ ((⟨#[44, 34, 114, 117, 108, 101, 34, 58]⟩ : ByteArray) ++ P)).size := by rw [← h2.out]
          have hl1 : ¬ 9223372036854775807 < 8 + P.size := by omega
          have hl2 : ¬ 9223372036854775807 < S3.size + ((⟨#[44, 34, 114, 117, 108, 101, 34, 58]⟩ : ByteArray) ++ P).size := by omega
          clear hP hr hz hz2 hz3
          have hb : (x.rule != 0) = true := by simpa using hp
          go_wp2_with fail
          refine (HR.out _).mono ?_
          rintro e w2 ⟨rfl, b2⟩
          have B9 := Lib.hid (B3.out.trans (b2.mono B3.out.size))
          clear b2
          go_wp2_with fail
          go_meet
          exact ⟨by rw [h2.out], B9⟩
      case rest =>
        obtain ⟨rfl, B4⟩ := hcut
        clear z0 z1 z2 z3 z4 z5 B3
        obtain ⟨z0, z1, z2, z3, z4, z5⟩ := HBX.out _ B4.out
        go_upto_if 38 with fail
        go_cut [3] (fun v wx => v = .string S5 ∧ Hid (Below W.heap.size W wx))
        case first =>
          by_cases hp : x.line = 0
          · have h2 : Hid (S5 = S4) := Lib.hid (by rw [H5.out]; unfold fp5; rw [if_pos hp])
            have hb : (x.line != 0) = false := by rw [hp]; rfl
            go_wp2_with fail
            go_meet
            exact ⟨by rw [h2.out], B4⟩
          · obtain ⟨P, hP⟩ : ∃ P, P = itT x.line := ⟨_, rfl⟩
            obtain ⟨Q, hQ⟩ : ∃ Q, Q = itT x.col := ⟨_, rfl⟩
            have hr := HIL.out
            have hs := HIK.out
            have h2 : Hid (S5 = S4 ++ ((⟨#[44, 34, 108, 105, 110, 101, 34, 58]⟩ : ByteArray) ++ P ++ (⟨#[44, 34, 99, 111, 108, 117, 109, 110, 34, 58]⟩ : ByteArray) ++ Q)) := Lib.hid (by rw [H5.out, hP, hQ]; unfold fp5; rw [if_neg hp])
            rw [← hP] at hr
            rw [← hQ] at hs
            have HR := Lib.hid hr
            have HS := Lib.hid hs
            have hz := app_size S4 ((⟨#[44, 34, 108, 105, 110, 101, 34, 58]⟩ : ByteArray) ++ P ++ (⟨#[44, 34, 99, 111, 108, 117, 109, 110, 34, 58]⟩ : ByteArray) ++ Q)
            have hz2 : ((⟨#[44, 34, 108, 105, 110, 101, 34, 58]⟩ : ByteArray) ++ P).size = 8 + P.size := app_size _ _
            have hz4 : ((⟨#[44, 34, 108, 105, 110, 101, 34, 58]⟩ : ByteArray) ++ P ++ (⟨#[44, 34, 99, 111, 108, 117, 109, 110, 34, 58]⟩ : ByteArray)).size = ((⟨#[44, 34, 108, 105, 110, 101, 34, 58]⟩ : ByteArray) ++ P).size + 10 := app_size _ _
            have hz5 : ((⟨#[44, 34, 108, 105, 110, 101, 34, 58]⟩ : ByteArray) ++ P ++ (⟨#[44, 34, 99, 111, 108, 117, 109, 110, 34, 58]⟩ : ByteArray) ++ Q).size = ((⟨#[44, 34, 108, 105, 110, 101, 34, 58]⟩ : ByteArray) ++ P ++ (⟨#[44, 34, 99, 111, 108, 117, 109, 110, 34, 58]⟩ : ByteArray)).size + Q.size := app_size _ _
            have hz3 : S5.size = (S4 ++ ((⟨#[44, 34, 108, 105, 110, 101, 34, 58]⟩ : ByteArray) ++ P ++ (⟨#[44, 34, 99, 111, 108, 117, 109, 110, 34, 58]⟩ : ByteArray) ++ Q)).size := by rw [← h2.out]
            have hl1 : ¬ 9223372036854775807 < 8 + P.size := by omega
            have hl2 : ¬ 9223372036854775807 < ((⟨#[44, 34, 108, 105, 110, 101, 34, 58]⟩ : ByteArray) ++ P).size + 10 := by omega
            have hl3 : ¬ 9223372036854775807 < ((⟨#[44, 34, 108, 105, 110, 101, 34, 58]⟩ : ByteArray) ++ P ++ (⟨#[44, 34, 99, 111, 108, 117, 109, 110, 34, 58]⟩ : ByteArray)).size + Q.size := by omega
            have hl4 : ¬ 9223372036854775807 < S4.size + ((⟨#[44, 34, 108, 105, 110, 101, 34, 58]⟩ : ByteArray) ++ P ++ (⟨#[44, 34, 99, 111, 108, 117, 109, 110, 34, 58]⟩ : ByteArray) ++ Q).size := by omega
            have hm2 : ¬ 9223372036854775807 < 8 + P.size + 10 := by omega
            have hm3 : ¬ 9223372036854775807 < 8 + P.size + 10 + Q.size := by omega
            have hm4 : ¬ 9223372036854775807 < S4.size + (8 + P.size + 10 + Q.size) := by omega
            have hb : (x.line != 0) = true := by simpa using hp
            clear hP hQ hr hs hz hz2 hz3 hz4 hz5
            go_wp2_with fail
            have HQ9 : Hid (∀ w', Below W.heap.size W w' → (fun w' => Below W.heap.size W w' ∧ w'.cell? ⟨w.heap.size, 4, none⟩ = some (.int .i64 x.line) ∧ w'.cell? ⟨w.heap.size, 5, none⟩ = some (.int .i64 x.col)) w') := Lib.hid (fun w' hb => ⟨hb, (HBX.out _ hb).2.2.2.2.1, (HBX.out _ hb).2.2.2.2.2⟩)
            refine wp_region_held_drew (S := (fun w' => Below W.heap.size W w' ∧ w'.cell? ⟨w.heap.size, 4, none⟩ = some (.int .i64 x.line) ∧ w'.cell? ⟨w.heap.size, 5, none⟩ = some (.int .i64 x.col))) (by kernel_rfl) (HQ9.out _ B4.out.drew) (fun hHeld => ?_)
            refine wpAnyH_take (i := 0) (oi := { dst := some 39, op := Op.move (Operand.tmp 3), type := 9, pos := "ref.go:123", after := #[], guard := none }) (v := ?_) rfl (by kernel_rfl) (by kernel_rfl) (by kernel_rfl) (fun _ _ _ h => h) (Or.inl ⟨by rfl, ?_⟩) hHeld ?_
            rotate_left
            · (intro w hSw; (try dsimp only at hSw); go_simp <;> with_reducible rfl)
            try simp only [Act.put, List.setIfInBounds_toArray, List.set_cons_zero, List.set_cons_succ]
            refine wpAnyH_take (i := 1) (oi := { dst := some 40, op := Op.fieldAddr 27 (Operand.tmp 1) 4, type := 0, pos := "ref.go:123", after := #[], guard := none }) (v := ?_) rfl (by kernel_rfl) (by kernel_rfl) (by kernel_rfl) (fun _ _ _ h => h) (Or.inl ⟨by rfl, ?_⟩) hHeld ?_
            rotate_left
            · (intro w hSw; (try dsimp only at hSw); go_simp <;> with_reducible rfl)
            try simp only [Act.put, List.setIfInBounds_toArray, List.set_cons_zero, List.set_cons_succ]
            refine wpAnyH_take (i := 2) (oi := { dst := some 41, op := Op.load 3 (Operand.tmp 40), type := 3, pos := "ref.go:123", after := #[{ on := 1, ground := Ground.data }], guard := none }) (v := ?_) rfl (by kernel_rfl) (by kernel_rfl) (by kernel_rfl) (fun _ _ _ h => h) (Or.inl ⟨by rfl, ?_⟩) hHeld ?_
            rotate_left
            · (intro w hSw; (try dsimp only at hSw); go_simp <;> with_reducible rfl)
            try simp only [Act.put, List.setIfInBounds_toArray, List.set_cons_zero, List.set_cons_succ]
            refine wpAnyH_take (i := 6) (oi := { dst := some 45, op := Op.fieldAddr 27 (Operand.tmp 1) 5, type := 0, pos := "ref.go:123", after := #[], guard := none }) (v := ?_) rfl (by kernel_rfl) (by kernel_rfl) (by kernel_rfl) (fun _ _ _ h => h) (Or.inl ⟨by rfl, ?_⟩) hHeld ?_
            rotate_left
            · (intro w hSw; (try dsimp only at hSw); go_simp <;> with_reducible rfl)
            try simp only [Act.put, List.setIfInBounds_toArray, List.set_cons_zero, List.set_cons_succ]
            refine wpAnyH_take (i := 7) (oi := { dst := some 46, op := Op.load 3 (Operand.tmp 45), type := 3, pos := "ref.go:123", after := #[{ on := 6, ground := Ground.data }], guard := none }) (v := ?_) rfl (by kernel_rfl) (by kernel_rfl) (by kernel_rfl) (fun _ _ _ h => h) (Or.inl ⟨by rfl, ?_⟩) hHeld ?_
            rotate_left
            · (intro w hSw; (try dsimp only at hSw); go_simp <;> with_reducible rfl)
            try simp only [Act.put, List.setIfInBounds_toArray, List.set_cons_zero, List.set_cons_succ]
            refine wpAnyH_ready (rs := [3]) (by kernel_rfl) (by simp) (AllReadyH.cons (o := { dst := some 42, op := Op.call { callee := Callee.value (Operand.func 27), args := #[Operand.tmp 41], argTypes := #[2] }, type := 9, pos := "ref.go:123", after := #[{ on := 2, ground := Ground.data }], guard := none }) rfl (fun K3 hK3 => ?_) AllReadyH.nil)
            go_simp
            refine (HR.out _).mono ?_
            rintro e w' ⟨rfl, hq⟩
            refine hK3.out _ _ (HQ9.out _ (hHeld.1.trans (hq.mono hHeld.1.size))) (fun hH_3 => ?_)
            clear hq
            clear hK3 K3
            try simp only [Act.put, List.setIfInBounds_toArray, List.set_cons_zero, List.set_cons_succ]
            refine wpAnyH_take (i := 4) (oi := { dst := some 43, op := Op.binOp BinOp.add 9 (Operand.const (Value.string { data := #[44, 34, 108, 105, 110, 101, 34, 58] })) (Operand.tmp 42) 9, type := 9, pos := "ref.go:123", after := #[{ on := 3, ground := Ground.data }], guard := none }) (v := ?_) rfl (by kernel_rfl) (by kernel_rfl) (by kernel_rfl) (fun _ _ _ h => h) (Or.inl ⟨by rfl, ?_⟩) hH_3 ?_
            rotate_left
            · (intro w hSw; (try dsimp only at hSw); go_simp <;> with_reducible rfl)
            try simp only [Act.put, List.setIfInBounds_toArray, List.set_cons_zero, List.set_cons_succ]
            refine wpAnyH_take (i := 5) (oi := { dst := some 44, op := Op.binOp BinOp.add 9 (Operand.tmp 43) (Operand.const (Value.string { data := #[44, 34, 99, 111, 108, 117, 109, 110, 34, 58] })) 9, type := 9, pos := "ref.go:123", after := #[{ on := 4, ground := Ground.data }], guard := none }) (v := ?_) rfl (by kernel_rfl) (by kernel_rfl) (by kernel_rfl) (fun _ _ _ h => h) (Or.inl ⟨by rfl, ?_⟩) hH_3 ?_
            rotate_left
            · (intro w hSw; (try dsimp only at hSw); go_simp <;> with_reducible rfl)
            try simp only [Act.put, List.setIfInBounds_toArray, List.set_cons_zero, List.set_cons_succ]
            refine wpAnyH_ready (rs := [8]) (by kernel_rfl) (by simp) (AllReadyH.cons (o := { dst := some 47, op := Op.call { callee := Callee.value (Operand.func 27), args := #[Operand.tmp 46], argTypes := #[2] }, type := 9, pos := "ref.go:123", after := #[{ on := 7, ground := Ground.data }, { on := 3, ground := Ground.chain }], guard := none }) rfl (fun K8 hK8 => ?_) AllReadyH.nil)
            go_simp
            refine (HS.out _).mono ?_
            rintro e w' ⟨rfl, hq⟩
            refine hK8.out _ _ (HQ9.out _ (hH_3.1.trans (hq.mono hH_3.1.size))) (fun hH_8 => ?_)
            clear hq
            clear hK8 K8
            try simp only [Act.put, List.setIfInBounds_toArray, List.set_cons_zero, List.set_cons_succ]
            refine wpAnyH_take (i := 9) (oi := { dst := some 48, op := Op.binOp BinOp.add 9 (Operand.tmp 44) (Operand.tmp 47) 9, type := 9, pos := "ref.go:123", after := #[{ on := 5, ground := Ground.data }, { on := 8, ground := Ground.data }], guard := none }) (v := ?_) rfl (by kernel_rfl) (by kernel_rfl) (by kernel_rfl) (fun _ _ _ h => h) (Or.inl ⟨by rfl, ?_⟩) hH_8 ?_
            rotate_left
            · (intro w hSw; (try dsimp only at hSw); go_simp <;> with_reducible rfl)
            try simp only [Act.put, List.setIfInBounds_toArray, List.set_cons_zero, List.set_cons_succ]
            refine wpAnyH_take (i := 10) (oi := { dst := some 49, op := Op.binOp BinOp.add 9 (Operand.tmp 39) (Operand.tmp 48) 9, type := 9, pos := "ref.go:123", after := #[{ on := 0, ground := Ground.data }, { on := 9, ground := Ground.data }], guard := none }) (v := ?_) rfl (by kernel_rfl) (by kernel_rfl) (by kernel_rfl) (fun _ _ _ h => h) (Or.inl ⟨by rfl, ?_⟩) hH_8 ?_
            rotate_left
            · (intro w hSw; (try dsimp only at hSw); go_simp <;> with_reducible rfl)
            try simp only [Act.put, List.setIfInBounds_toArray, List.set_cons_zero, List.set_cons_succ]
            refine wpAnyH_take (i := 11) (oi := { dst := some 3, op := Op.assign (Operand.tmp 49), type := 9, pos := "ref.go:123", after := #[{ on := 10, ground := Ground.data }, { on := 8, ground := Ground.chain }, { on := 0, ground := Ground.phase }, { on := 1, ground := Ground.phase }, { on := 2, ground := Ground.phase }, { on := 3, ground := Ground.phase }, { on := 4, ground := Ground.phase }, { on := 5, ground := Ground.phase }, { on := 6, ground := Ground.phase }, { on := 7, ground := Ground.phase }, { on := 8, ground := Ground.phase }, { on := 9, ground := Ground.phase }, { on := 10, ground := Ground.phase }], guard := none }) (v := ?_) rfl (by kernel_rfl) (by kernel_rfl) (by kernel_rfl) (fun _ _ _ h => h) (Or.inl ⟨by rfl, ?_⟩) hH_8 ?_
            rotate_left
            · (intro w hSw; (try dsimp only at hSw); go_simp <;> with_reducible rfl)
            try simp only [Act.put, List.setIfInBounds_toArray, List.set_cons_zero, List.set_cons_succ]
            refine wpAnyH_done (by kernel_rfl) ?_ _
            have hLast := Lib.hid hH_8.1
            clear hHeld hH_3 hH_8
            go_wp2_with fail
            go_meet
            exact ⟨by rw [h2.out], hLast⟩
        case rest =>
          obtain ⟨rfl, B5⟩ := hcut
          clear z0 z1 z2 z3 z4 z5 B4
          obtain ⟨z0, z1, z2, z3, z4, z5⟩ := HBX.out _ B5.out
          have hl1 : ¬ 9223372036854775807 < S5.size + 1 := by omega
          go_wp2_with fail
          go_ret
          exact ⟨by rw [HE.out] <;> rfl, HB'.out.trans (B5.out.mono HB'.out.size)⟩
end Go.Proofs.YtolegmlfmlfbhaaDoor
/- Layer 31, ServeWrites: a response, as the document writes it. -/
namespace Go.Proofs.YtolegmlfmlfbhaaDoor
open Go.RowKit Go.Maps
def errW (fs : Nat → FtR) : Nat → ByteArray
  | 0 => ⟨#[]⟩
  | k + 1 => (if 0 < k then errW fs k ++ ⟨#[44]⟩ else errW fs k) ++ fltW (fs k)
def rs1 (fs : Nat → FtR) (m : Nat) : ByteArray := if 0 < m then (⟨#[34, 101, 114, 114, 111, 114, 115, 34, 58, 91]⟩ : ByteArray) ++ errW fs m ++ ⟨#[93]⟩ else ⟨#[]⟩
def rs2 (g : Nat → CR) (n : Nat) (fs : Nat → FtR) (m : Nat) : ByteArray := if 0 < n then (if 0 < m then rs1 fs m ++ ⟨#[44]⟩ else rs1 fs m) ++ ((⟨#[34, 100, 97, 116, 97, 34, 58]⟩ : ByteArray) ++ (valW g n n 0).1) else rs1 fs m
def resW (g : Nat → CR) (n : Nat) (fs : Nat → FtR) (m : Nat) : ByteArray := ⟨#[123]⟩ ++ rs2 g n fs m ++ ⟨#[125]⟩
/-- Errors in memory. -/
def FtV (w : World) (a : Option Addr) (m : Nat) (fs : Nat → FtR) : Prop :=
  ∀ i, i < m → ∃ b off pa pc, a = some ⟨b, off, none⟩ ∧ b < w.heap.size ∧ StV w pa (fs i).np (fs i).st ∧ w.cell? ⟨b, off + i * 6, none⟩ = some (.string (fs i).code) ∧ w.cell? ⟨b, off + i * 6 + 1, none⟩ = some (.slice pa (fs i).np pc) ∧ w.cell? ⟨b, off + i * 6 + 2, none⟩ = some (.string (fs i).dir) ∧ w.cell? ⟨b, off + i * 6 + 3, none⟩ = some (.int .i64 (fs i).rule) ∧ w.cell? ⟨b, off + i * 6 + 4, none⟩ = some (.int .i64 (fs i).line) ∧ w.cell? ⟨b, off + i * 6 + 5, none⟩ = some (.int .i64 (fs i).col)
theorem FtV.below {w w' : World} {a : Option Addr} {m : Nat} {fs : Nat → FtR} (h : FtV w a m fs) (hb : Below w.heap.size w w') : FtV w' a m fs := fun i hi => by
  obtain ⟨b, off, pa, pc, e, h0, hs, h1, h2, h3, h4, h5, h6⟩ := h i hi
  have c : ∀ o, w'.cell? ⟨b, o, none⟩ = w.cell? ⟨b, o, none⟩ := fun o => World.cell?_of_block (hb.block b h0)
  exact ⟨b, off, pa, pc, e, Nat.lt_of_lt_of_le h0 hb.size, hs.below hb, by rw [c]; exact h1, by rw [c]; exact h2, by rw [c]; exact h3, by rw [c]; exact h4, by rw [c]; exact h5, by rw [c]; exact h6⟩
theorem FtV.at_ {w : World} {b off m : Nat} {fs : Nat → FtR} (h : FtV w (some ⟨b, off, none⟩) m fs) {i : Nat} (hi : i < m) : ∃ pa pc, b < w.heap.size ∧ StV w pa (fs i).np (fs i).st ∧ w.cell? ⟨b, off + i * 6, none⟩ = some (.string (fs i).code) ∧ w.cell? ⟨b, off + i * 6 + 1, none⟩ = some (.slice pa (fs i).np pc) ∧ w.cell? ⟨b, off + i * 6 + 2, none⟩ = some (.string (fs i).dir) ∧ w.cell? ⟨b, off + i * 6 + 3, none⟩ = some (.int .i64 (fs i).rule) ∧ w.cell? ⟨b, off + i * 6 + 4, none⟩ = some (.int .i64 (fs i).line) ∧ w.cell? ⟨b, off + i * 6 + 5, none⟩ = some (.int .i64 (fs i).col) := by
  obtain ⟨b', off', pa, pc, e, k⟩ := h i hi
  cases e
  exact ⟨pa, pc, k⟩
theorem FtV.addr {w : World} {a : Option Addr} {m : Nat} {fs : Nat → FtR} (h : FtV w a m fs) (h0 : 0 < m) : ∃ b off, a = some ⟨b, off, none⟩ := by
  obtain ⟨b, off, _, _, e, _⟩ := h 0 h0
  exact ⟨b, off, e⟩
def SmE (fs : Nat → FtR) (m : Nat) : Prop := ∀ i, i < m → SmF (fs i)
theorem errW_size {fs : Nat → FtR} : ∀ (m : Nat), SmE fs m → (errW fs m).size ≤ 20000001 * m
  | 0, _ => Nat.zero_le _
  | m + 1, h => by
    have ih := errW_size (fs := fs) m (fun i hi => h i (by omega))
    have h1 := fltW_size (h m (by omega))
    unfold errW
    rw [app_size]
    have e1 : (if 0 < m then errW fs m ++ (⟨#[44]⟩ : ByteArray) else errW fs m).size ≤ (errW fs m).size + 1 := by
      split
      · rw [app_size]; exact Nat.le_refl _
      · omega
    omega
theorem rs1_size {fs : Nat → FtR} {m : Nat} (h : SmE fs m) (hm : m ≤ 1000) : (rs1 fs m).size ≤ 20000002000 := by
  have h1 := errW_size m h
  unfold rs1
  split
  · rw [app_size, app_size]
    show 10 + _ + 1 ≤ _
    omega
  · exact Nat.zero_le _
/-- The errors' loop. -/
def EndE (fs : Nat → FtR) (m : Nat) (w : World) (v : Value) (wx : World) : Prop := v = .string (errW fs m) ∧ Hid (Below w.heap.size w wx)
set_option maxRecDepth 20000 in
set_option maxHeartbeats 2000000 in
theorem rWrite_any (a : Option Addr) (n cap : Nat) (g : Nat → CR) (l : Option Addr) (m cp : Nat) (fs : Nat → FtR) (w : World) (hg : SmW g n) (hn : n ≤ 1000) (hm : m ≤ 1000) (hf : SmE fs m) (hv : CV w a n g) (hl : FtV w l m fs) : Calls Tryd.prog 7 #[.slice a n cap, .slice l m cp] w fun e w' => e = .returned (.string (resW g n fs m)) ∧ Below w.heap.size w w' := by
  have HV := Lib.hid (fun V (k : Below w.heap.size w V) => hv.below k)
  have HL := Lib.hid (fun V (k : Below w.heap.size w V) => hl.below k)
  have HAD := Lib.hid (fun (h0 : 0 < m) => hl.addr h0)
  have HF := Lib.hid hf
  have HSZ := Lib.hid (fun k (hk : k ≤ m) => errW_size (fs := fs) k (fun i hi => hf i (by omega)))
  have HS1 := Lib.hid (rs1_size hf hm)
  have HVA := Lib.hid (fun V (k : Below w.heap.size w V) (h0 : 0 < n) => rvalue_any a n cap g hg hn n 0 V (by omega) h0 (HV.out V k))
  have HVO := Lib.hid (fun (h0 : 0 < n) => valW_ok hg n 0 h0 h0)
  clear hv hl hf hg
  go_enter Tryd.func7, Tryd.ntmps7
  go_wp2_with fail
  go_loopw [5, 6] (fun v5 v6 wr => ∃ i : Nat, i ≤ m ∧ v6 = .int .i64 i ∧ v5 = .string (errW fs i) ∧ Hid (Below w.heap.size w wr)) (fun _ v6 _ => m - (intOf v6).toNat)
  case atStart => exact ⟨0, Nat.zero_le _, rfl, rfl, Lib.hid (Below.refl _ _)⟩
  case round =>
    obtain ⟨i, hi, rfl, rfl, HB⟩ := hrel
    obtain ⟨P, hP⟩ : ∃ P, P = errW fs i := ⟨_, rfl⟩
    have hsz := HSZ.out i hi
    rw [← hP] at hsz
    rw [← hP]
    have HP := Lib.hid hP
    clear hP
    by_cases him : i < m
    · have hii : (i : Int) < m := by omega
      obtain ⟨b, off, rfl⟩ := HAD.out (by omega)
      obtain ⟨pa, pc, _, d0, d1, d2, d3, d4, d5, d6⟩ := (HL.out _ HB.out).at_ him
      have hsm := HF.out i him
      obtain ⟨X, hX⟩ : ∃ X, X = fs i := ⟨_, rfl⟩
      have HN : Hid (errW fs (i + 1) = (if 0 < i then P ++ ⟨#[44]⟩ else P) ++ fltW X) := Lib.hid (by rw [hX, HP.out]; rfl)
      rw [← hX] at d0 d1 d2 d3 d4 d5 d6 hsm
      clear hX HP
      have hos := fltW_size hsm
      have HC0 := fun V (hv : StV V pa X.np X.st) => rfault_any X pa pc V hsm hv
      obtain ⟨Q, hQ⟩ : ∃ Q, Q = fltW X := ⟨_, rfl⟩
      rw [← hQ] at HN hos HC0
      have HC := Lib.hid (HC0 _ d0)
      have hcs := app_size P (⟨#[44]⟩ : ByteArray)
      have hcc : (⟨#[44]⟩ : ByteArray).size = 1 := rfl
      have hl1 : ¬ 9223372036854775807 < P.size + 1 := by omega
      have hl2 : ¬ 9223372036854775807 < P.size + Q.size := by omega
      have hl3 : ¬ 9223372036854775807 < (P ++ (⟨#[44]⟩ : ByteArray)).size + Q.size := by omega
      clear hQ hcs hcc hsm HC0 d0
      rcases Nat.eq_zero_or_pos i with hi0 | hi0
      · subst hi0
        have hi1 : ¬ (0 : Int) < ((0 : Nat) : Int) := by decide
        simp only [Nat.zero_mul, Nat.add_zero] at d1 d2 d3 d4 d5 d6
        go_wp2_with fail
        refine HC.out.mono ?_
        rintro e w1 ⟨rfl, b1⟩
        have HB1 := Lib.hid (HB.out.trans (b1.mono HB.out.size))
        clear b1
        go_wp2_with fail
        go_roundw
        case rel => exact ⟨0 + 1, by omega, by go_num, by rw [HN.out]; rfl, HB1⟩
        case measure => (simp [intOf]; omega)
      · have hi1 : (0 : Int) < (i : Int) := by omega
        go_wp2_with fail
        refine HC.out.mono ?_
        rintro e w1 ⟨rfl, b1⟩
        have HB1 := Lib.hid (HB.out.trans (b1.mono HB.out.size))
        clear b1
        go_wp2_with fail
        go_roundw
        case rel => exact ⟨i + 1, by omega, by go_num, by rw [HN.out, if_pos hi0], HB1⟩
        case measure => (simp [intOf]; omega)
    · have hie : i = m := by omega
      subst hie
      have hz : ¬ ((i : Int) < (i : Int)) := by omega
      have hps : P.size ≤ 20000001 * i := hsz
      obtain ⟨V, hV⟩ : ∃ V, V = valW g n n 0 := ⟨_, rfl⟩
      have HVX : Hid (0 < n → V.1.size ≤ 40000000) := Lib.hid (fun h => by have := HVO.out h; rw [hV]; omega)
      have HVB := Lib.hid (fun h0 => HVA.out _ HB.out h0)
      rw [← hV] at HVB
      have HR : Hid (resW g n fs i = ⟨#[123]⟩ ++ (if 0 < n then (if 0 < i then (if 0 < i then (⟨#[34, 101, 114, 114, 111, 114, 115, 34, 58, 91]⟩ : ByteArray) ++ P ++ ⟨#[93]⟩ else ⟨#[]⟩) ++ (⟨#[44]⟩ : ByteArray) else (if 0 < i then (⟨#[34, 101, 114, 114, 111, 114, 115, 34, 58, 91]⟩ : ByteArray) ++ P ++ ⟨#[93]⟩ else ⟨#[]⟩)) ++ ((⟨#[34, 100, 97, 116, 97, 34, 58]⟩ : ByteArray) ++ V.1) else (if 0 < i then (⟨#[34, 101, 114, 114, 111, 114, 115, 34, 58, 91]⟩ : ByteArray) ++ P ++ ⟨#[93]⟩ else ⟨#[]⟩)) ++ ⟨#[125]⟩) := Lib.hid (by rw [HP.out, hV]; rfl)
      have HP0 : Hid (i = 0 → P = ⟨#[]⟩) := Lib.hid (fun h => by rw [HP.out, h]; rfl)
      clear hV HP
      by_cases hm0 : 0 < i
      · have hmi : (0 : Int) < (i : Int) := by omega
        obtain ⟨S1, hS1⟩ : ∃ s, s = (⟨#[34, 101, 114, 114, 111, 114, 115, 34, 58, 91]⟩ : ByteArray) ++ P ++ (⟨#[93]⟩ : ByteArray) := ⟨_, rfl⟩
        have q1 : ((⟨#[34, 101, 114, 114, 111, 114, 115, 34, 58, 91]⟩ : ByteArray) ++ P).size = 10 + P.size := app_size _ _
        have q2 : S1.size = ((⟨#[34, 101, 114, 114, 111, 114, 115, 34, 58, 91]⟩ : ByteArray) ++ P).size + 1 := by rw [hS1]; exact app_size _ _
        have hm1 : ¬ 9223372036854775807 < 10 + P.size := by omega
        have hm2 : ¬ 9223372036854775807 < ((⟨#[34, 101, 114, 114, 111, 114, 115, 34, 58, 91]⟩ : ByteArray) ++ P).size + 1 := by omega
        have hsi : S1.toList ≠ [] := by
          intro h
          have h2 : S1.size = 0 := size_nil h
          omega
        simp only [if_pos hm0] at HR
        rw [← hS1] at HR
        by_cases hn0 : 0 < n
        · have hni : (0 : Int) < (n : Int) := by omega
          have hvs := HVX.out hn0
          have HV9 := Lib.hid (HVB.out hn0)
          rw [if_pos hn0] at HR
          have hb1 := List.isEmpty_eq_false_iff.2 hsi
          have q3 := app_size (⟨#[34, 100, 97, 116, 97, 34, 58]⟩ : ByteArray) V.1
          have q4 : ((⟨#[34, 100, 97, 116, 97, 34, 58]⟩ : ByteArray) : ByteArray).size = 7 := rfl
          have q5 := app_size S1 (⟨#[44]⟩ : ByteArray)
          have q6 : (⟨#[44]⟩ : ByteArray).size = 1 := rfl
          have q7 := app_size (S1 ++ (⟨#[44]⟩ : ByteArray)) ((⟨#[34, 100, 97, 116, 97, 34, 58]⟩ : ByteArray) ++ V.1)
          have q8 := app_size (⟨#[123]⟩ : ByteArray) (S1 ++ (⟨#[44]⟩ : ByteArray) ++ ((⟨#[34, 100, 97, 116, 97, 34, 58]⟩ : ByteArray) ++ V.1))
          have q9 : (⟨#[123]⟩ : ByteArray).size = 1 := rfl
          have hm3 : ¬ 9223372036854775807 < S1.size + 1 := by omega
          have hm4 : ¬ 9223372036854775807 < 7 + V.1.size := by omega
          have hm5 : ¬ 9223372036854775807 < (S1 ++ (⟨#[44]⟩ : ByteArray)).size + ((⟨#[34, 100, 97, 116, 97, 34, 58]⟩ : ByteArray) ++ V.1).size := by omega
          have hm6 : ¬ 9223372036854775807 < 1 + (S1 ++ (⟨#[44]⟩ : ByteArray) ++ ((⟨#[34, 100, 97, 116, 97, 34, 58]⟩ : ByteArray) ++ V.1)).size := by omega
          have hm7 : ¬ 9223372036854775807 < (⟨#[123]⟩ ++ (S1 ++ (⟨#[44]⟩ : ByteArray) ++ ((⟨#[34, 100, 97, 116, 97, 34, 58]⟩ : ByteArray) ++ V.1)) : ByteArray).size + 1 := by omega
          clear q1 q2 q3 q4 q5 q6 q7 q8 q9
          rw [hS1] at hb1 hm3 hm5 hm6 hm7 HR
          clear hS1 hsi
          go_wp2_with fail
          refine HV9.out.mono ?_
          rintro e w1 ⟨rfl, b1⟩
          have HB1 := Lib.hid (HB.out.trans (b1.mono HB.out.size))
          clear b1
          go_wp2_with fail
          go_ret
          exact ⟨by rw [HR.out] <;> rfl, HB1.out⟩
        · have hni : ¬ (0 : Int) < (n : Int) := by omega
          rw [if_neg hn0] at HR
          have q8 := app_size (⟨#[123]⟩ : ByteArray) S1
          have q9 : (⟨#[123]⟩ : ByteArray).size = 1 := rfl
          have hm6 : ¬ 9223372036854775807 < 1 + S1.size := by omega
          have hm7 : ¬ 9223372036854775807 < (⟨#[123]⟩ ++ S1 : ByteArray).size + 1 := by omega
          clear q1 q2 q8 q9
          rw [hS1] at hm6 hm7 HR
          clear hS1 hsi
          go_wp2_with fail
          go_ret
          exact ⟨by rw [HR.out] <;> rfl, HB.out⟩
      · have hi0 : i = 0 := by omega
        subst hi0
        have hmi : ¬ (0 : Int) < ((0 : Nat) : Int) := by decide
        have hp0 : P = ⟨#[]⟩ := HP0.out rfl
        subst hp0
        simp only [if_neg hm0] at HR
        by_cases hn0 : 0 < n
        · have hni : (0 : Int) < (n : Int) := by omega
          have hvs := HVX.out hn0
          have HV9 := Lib.hid (HVB.out hn0)
          rw [if_pos hn0] at HR
          have hb1 : (⟨#[]⟩ : ByteArray).toList = [] := by first | (unfold ByteArray.toList; unfold ByteArray.toList.loop; rfl) | simp [ByteArray.toList, ByteArray.toList.loop]
          have q3 := app_size (⟨#[34, 100, 97, 116, 97, 34, 58]⟩ : ByteArray) V.1
          have q4 : ((⟨#[34, 100, 97, 116, 97, 34, 58]⟩ : ByteArray) : ByteArray).size = 7 := rfl
          have q7 := app_size (⟨#[]⟩ : ByteArray) ((⟨#[34, 100, 97, 116, 97, 34, 58]⟩ : ByteArray) ++ V.1)
          have q6 : (⟨#[]⟩ : ByteArray).size = 0 := rfl
          have q8 := app_size (⟨#[123]⟩ : ByteArray) ((⟨#[]⟩ : ByteArray) ++ ((⟨#[34, 100, 97, 116, 97, 34, 58]⟩ : ByteArray) ++ V.1))
          have q9 : (⟨#[123]⟩ : ByteArray).size = 1 := rfl
          have hm4 : ¬ 9223372036854775807 < 7 + V.1.size := by omega
          have hm5 : ¬ 9223372036854775807 < 0 + ((⟨#[34, 100, 97, 116, 97, 34, 58]⟩ : ByteArray) ++ V.1).size := by omega
          have hm6 : ¬ 9223372036854775807 < 1 + ((⟨#[]⟩ : ByteArray) ++ ((⟨#[34, 100, 97, 116, 97, 34, 58]⟩ : ByteArray) ++ V.1)).size := by omega
          have hm7 : ¬ 9223372036854775807 < (⟨#[123]⟩ ++ ((⟨#[]⟩ : ByteArray) ++ ((⟨#[34, 100, 97, 116, 97, 34, 58]⟩ : ByteArray) ++ V.1)) : ByteArray).size + 1 := by omega
          clear q3 q4 q6 q7 q8 q9
          go_wp2_with fail
          refine HV9.out.mono ?_
          rintro e w1 ⟨rfl, b1⟩
          have HB1 := Lib.hid (HB.out.trans (b1.mono HB.out.size))
          clear b1
          go_wp2_with fail
          go_ret
          exact ⟨by rw [HR.out] <;> rfl, HB1.out⟩
        · have hni : ¬ (0 : Int) < (n : Int) := by omega
          rw [if_neg hn0] at HR
          go_wp2_with fail
          go_ret
          exact ⟨by rw [HR.out] <;> rfl, HB.out⟩
end Go.Proofs.YtolegmlfmlfbhaaDoor
/- Layer 31, ServeWrites: the program's builder, and its quote. -/
namespace Go.Proofs.YtolegmlfmlfbhaaDoor
open Go.RowKit
theorem at_up {T e : TypeId} {B b : Nat} {p : Value} {bs : List Value} {w w' : World} (h : Lib.BuilderAtF T e B b p bs w) (hb : Below w.heap.size w w') : Lib.BuilderAtF T e B b p bs w' := by
  obtain ⟨hB, v, h1, hown, hne⟩ := h
  refine ⟨hB, v, (hb.block b (Array.getElem?_eq_some_iff.1 h1).1).trans h1, ⟨hown.1, ?_⟩, hne⟩
  rcases hown.2 with hn | ⟨g, cap, cur, fz, hv, hbg, hg, rest⟩
  · exact .inl hn
  · exact .inr ⟨g, cap, cur, fz, hv, hbg, (hb.block g (Array.getElem?_eq_some_iff.1 hg).1).trans hg, rest⟩
/-- The builder in block N holds s. -/
def OB (B N : Nat) (s : ByteArray) (W : World) : Prop := Lib.IsBuilderF 50 5 B N (Lib.strCells s) W
theorem OB.up {B N : Nat} {s : ByteArray} {w w' : World} (h : OB B N s w) (hb : Below w.heap.size w w') : OB B N s w' :=
  h.elim (fun x => .inl (at_up x hb)) (fun x => .inr (at_up x hb))
theorem OB.lt {B N : Nat} {s : ByteArray} {w : World} (h : OB B N s w) : N < w.heap.size := h.elim (fun x => x.lt) (fun x => x.lt)
theorem OB.base {B N : Nat} {s : ByteArray} {w : World} (h : OB B N s w) : B ≤ w.heap.size := h.elim (fun x => Nat.le_trans x.1 (Nat.le_of_lt x.lt)) (fun x => Nat.le_trans x.1 (Nat.le_of_lt x.lt))
theorem strCells_app (s t : ByteArray) : Lib.strCells (s ++ t) = Lib.strCells s ++ Lib.strCells t := by
  have e : (s ++ t).data.toList = s.data.toList ++ t.data.toList := by simp
  unfold Lib.strCells
  rw [e, List.map_append]
theorem OB.new (w : World) : OB w.heap.size w.heap.size ⟨#[]⟩ (w.alloc (.cells #[.pointer none, .slice none 0 0] 50)) :=
  Lib.IsBuilderF.of (Lib.fresh_isBuilder 50 5 w)
theorem wstr {B N : Nat} {s : ByteArray} (t : ByteArray) {w : World} (h : OB B N s w) (hl : s.size + t.size ≤ 1000000000) :
    Calls Tryd.prog 20 #[.pointer (some ⟨N, 0, none⟩), .string t] w fun e w' => e = .returned (.tuple #[.int .i64 t.size, .nilIface]) ∧ OB B N (s ++ t) w' ∧ Below B w w' ∧ Lib.OthersKept 5 (some N) w w' :=
  (Tryd.Builder_WriteString_k B N (Lib.strCells s) t w h (by rw [Lib.strCells_length]; omega) h.base).mono fun e w' hh => ⟨hh.1, by unfold OB; rw [strCells_app]; exact .inr hh.2.1, hh.2.2.1, hh.2.2.2⟩
theorem wbyte {B N : Nat} {s : ByteArray} (c : UInt8) (z : Int) (hz : z = (c.toNat : Int)) {w : World} (h : OB B N s w) (hl : s.size ≤ 1000000000) :
    Calls Tryd.prog 23 #[.pointer (some ⟨N, 0, none⟩), .int .u8 z] w fun e w' => e = .returned .nilIface ∧ OB B N (s ++ ⟨#[c]⟩) w' ∧ Below B w w' ∧ Lib.OthersKept 5 (some N) w w' :=
  (Tryd.Builder_WriteByte_k B N (Lib.strCells s) z w h (by rw [Lib.strCells_length]; omega) h.base).mono fun e w' hh => ⟨hh.1, by unfold OB; rw [strCells_app, hz] at *; exact .inr hh.2.1, hh.2.2.1, hh.2.2.2⟩
theorem wfin {B N : Nat} {s : ByteArray} {w : World} (h : OB B N s w) :
    Calls Tryd.prog 21 #[.pointer (some ⟨N, 0, none⟩)] w fun e w' => e = .returned (.string s) ∧ Below B w w' :=
  (Tryd.Builder_String_any_k B N s.data.toList w h h.base).mono fun e w' hh => ⟨hh.1, hh.2.2.1⟩
theorem quL_head (s : ByteArray) (k : Nat) : ∃ L, quL s k = 34 :: L := by
  induction k with
  | zero => exact ⟨[], rfl⟩
  | succ k ih => obtain ⟨L, hL⟩ := ih; exact ⟨L ++ escI (byt s k), by unfold quL; rw [hL]; rfl⟩
theorem mkB_app (A B : List Int) : mkB (A ++ B) = mkB A ++ mkB B := by
  apply ByteArray.ext
  simp [mkB]
/-- A quoted text is its inner part between two quotation marks. -/
theorem quT_in (s : ByteArray) : 2 ≤ (quT s).size ∧ (⟨#[34]⟩ : ByteArray) ++ (quT s).extract 1 ((quT s).size - 1) ++ (⟨#[34]⟩ : ByteArray) = quT s := by
  obtain ⟨L, hL⟩ := quL_head s s.size
  have e : quT s = (⟨#[34]⟩ : ByteArray) ++ mkB L ++ (⟨#[34]⟩ : ByteArray) := by
    unfold quT
    rw [hL, mkB_app, show (34 :: L) = [34] ++ L from rfl, mkB_app]
    rfl
  obtain ⟨M, hM⟩ : ∃ M, M = mkB L := ⟨_, rfl⟩
  rw [← hM] at e
  have hs : (quT s).size = M.size + 2 := by
    rw [e, ByteArray.size_append, ByteArray.size_append]
    show 1 + M.size + 1 = _
    omega
  refine ⟨by omega, ?_⟩
  have h2 : (quT s).extract 1 ((quT s).size - 1) = M := by
    rw [hs, e]
    apply ByteArray.ext
    rw [ByteArray.data_extract]
    have hz : M.size = M.data.size := rfl
    rw [hz]
    simp
  rw [h2, ← e]
set_option maxRecDepth 20000 in
theorem piece_any (s : ByteArray) (w : World) (hs : s.size ≤ 16384) : Calls Tryd.prog 28 #[.string s] w fun e w' => e = .returned (.int .i64 (s.size : Nat)) ∧ w = w' := by
  have h1 : (s.size : Int) ≤ 16384 := by omega
  go_enter Tryd.func28, Tryd.ntmps28
  go_wp2_with fail
  go_ret
  exact ⟨rfl, rfl⟩
end Go.Proofs.YtolegmlfmlfbhaaDoor
/- Layer 31, ServeWrites: the program's quote. -/
namespace Go.Proofs.YtolegmlfmlfbhaaDoor
open Go.RowKit Go.Maps
def inT (s : ByteArray) : ByteArray := (quT s).extract 1 ((quT s).size - 1)
theorem ext_all (s : ByteArray) : s.extract 0 s.size = s := by
  apply ByteArray.ext
  rw [ByteArray.data_extract]
  have hz : s.size = s.data.size := rfl
  rw [hz]
  simp
theorem ext_none (s : ByteArray) : s.extract s.size s.size = ⟨#[]⟩ := by
  apply ByteArray.ext
  rw [ByteArray.data_extract]
  simp
def strLen : Value → Nat
  | .string t => t.size
  | _ => 0
theorem size_zero {t : ByteArray} (h : t.size = 0) : t = ⟨#[]⟩ := by
  apply ByteArray.ext
  exact Array.eq_empty_of_size_eq_zero h
theorem nil_list {t : ByteArray} (h : t = ⟨#[]⟩) : t.toList = [] := by
  rw [h]
  first | (unfold ByteArray.toList; unfold ByteArray.toList.loop; rfl) | simp [ByteArray.toList, ByteArray.toList.loop]
set_option maxRecDepth 20000 in
set_option maxHeartbeats 2000000 in
theorem squote_any (s : ByteArray) (w : World) (hs : s.size ≤ 16384) : Calls Tryd.prog 14 #[.string s] w fun e w' => e = .returned (.string (sqT s)) ∧ Below w.heap.size w w' := by
  obtain ⟨W, hW⟩ : ∃ W, W = w.alloc (.cells #[.pointer none, .slice none 0 0] 50) := ⟨_, rfl⟩
  have HO : Hid (OB w.heap.size w.heap.size ⟨#[]⟩ W) := Lib.hid (by rw [hW]; exact OB.new w)
  have HB : Hid (Below w.heap.size w W) := Lib.hid (by rw [hW]; exact (Below.refl _ _).alloc (Nat.le_refl _) _)
  have HS := Lib.hid hs
  have HQ := Lib.hid (quT_in s)
  have HJ := Lib.hid (fun W => jQuote_any s W hs)
  have HP := Lib.hid (fun W => piece_any s W hs)
  obtain ⟨b, hb⟩ : ∃ b, b = isTx s := ⟨_, rfl⟩
  have HE : Hid (ckE s = if b = true then 0 else 10) := Lib.hid (by rw [hb]; exact ck_small hs)
  have HN : Hid (s = ⟨#[]⟩ → b = true) := Lib.hid (fun h => by rw [hb, h]; rfl)
  have HR : Hid (sqT s = if b = true then quT s else ⟨#[34, 34]⟩) := Lib.hid (by rw [hb]; rfl)
  rw [HE.out, ← hb] at HJ
  clear hb HE
  obtain ⟨N, hN⟩ : ∃ N, N = w.heap.size := ⟨_, rfl⟩
  have HNN := Lib.hid hN
  have HI : Hid (inT s = (quT s).extract 1 ((quT s).size - 1)) := Lib.hid rfl
  have hqs := quT_size s
  obtain ⟨Q, hQ⟩ : ∃ Q, Q = quT s := ⟨_, rfl⟩
  have HQ0 : Hid (s = ⟨#[]⟩ → Q = ⟨#[34, 34]⟩) := Lib.hid (fun h => by rw [hQ, h]; rfl)
  rw [← hQ] at HQ HJ HR HI hqs
  have HQS : Hid (Q.size ≤ 100000) := Lib.hid (by omega)
  clear hQ hqs
  go_enter Tryd.func14, Tryd.ntmps14
  go_wp2_with fail
  rw [← hW]
  rw [← hN] at HO HB ⊢
  clear hW hN
  refine (wbyte 34 34 rfl HO.out (by decide)).mono ?_
  rintro e w1 ⟨rfl, h1, b1, _⟩
  have H1 := Lib.hid h1
  have B1 := Lib.hid (HB.out.trans b1)
  clear h1 b1
  go_wp2_with fail
  go_loopw [0, 4, 5, 6] (fun v0 _ _ _ wr => ∃ (t acc : ByteArray), v0 = .string t ∧ Hid (OB N N acc wr) ∧ Hid (Below N w wr) ∧ Hid (t = s ∧ acc = ⟨#[34]⟩ ∨ t = ⟨#[]⟩ ∧ acc = ⟨#[34]⟩ ++ inT s ∧ b = true)) (fun v0 _ _ _ _ => strLen v0)
  case atStart => exact ⟨s, ⟨#[34]⟩, rfl, H1, B1, Lib.hid (.inl ⟨rfl, rfl⟩)⟩
  case round =>
    obtain ⟨t, acc, rfl, HO2, HB2, HC⟩ := hrel
    by_cases ht : t.size = 0
    · have hte : t.toList = [] := nil_list (size_zero ht)
      have HD : Hid (acc ++ ⟨#[34]⟩ = sqT s) := Lib.hid (by
        rcases HC.out with ⟨h1, h2⟩ | ⟨_, h2, h3⟩
        · rw [h2, HR.out, if_pos (HN.out (by rw [← h1]; exact size_zero ht)), ← HQ.out.2]
          have e : s = ⟨#[]⟩ := by rw [← h1]; exact size_zero ht
          have e2 := HQ0.out e
          rw [HQ.out.2, e2]
          rfl
        · rw [h2, HR.out, if_pos h3, HI.out, HQ.out.2])
      have HA : Hid (acc.size ≤ 200000) := Lib.hid (by
        rcases HC.out with ⟨h1, h2⟩ | ⟨_, h2, h3⟩
        · rw [h2]; decide
        · rw [h2, HI.out, ByteArray.size_append, ByteArray.size_extract]
          have := HQS.out
          show 1 + _ ≤ _
          omega)
      clear HC
      go_wp2_with fail
      refine (wbyte 34 34 rfl HO2.out (by have := HA.out; omega)).mono ?_
      rintro e w2 ⟨rfl, h2, b2, _⟩
      have H2 := Lib.hid h2
      have B2 := Lib.hid (HB2.out.trans b2)
      clear h2 b2
      go_wp2_with fail
      refine (wfin H2.out).mono ?_
      rintro e w3 ⟨rfl, b3⟩
      have B3 := Lib.hid (B2.out.trans b3)
      clear b3
      go_wp2_with fail
      go_ret
      exact ⟨by rw [HD.out] <;> rfl, by rw [← HNN.out]; exact B3.out⟩
    · have hte : t.toList.isEmpty = false := List.isEmpty_eq_false_iff.2 (fun h => ht (size_nil h))
      have hc : t = s ∧ acc = ⟨#[34]⟩ := by
        rcases HC.out with h | ⟨h, _⟩
        · exact h
        · exact absurd (by rw [h]; rfl) ht
      obtain ⟨rfl, rfl⟩ := hc
      have x1 := ext_all t
      have x2 := ext_none t
      have hts : (t.size : Int) ≤ 16384 := by have := HS.out; omega
      clear HC
      go_wp2_with fail
      refine (HP.out _).mono ?_
      rintro e w2 ⟨rfl, h2⟩
      obtain rfl := h2
      go_wp2_with fail
      cases b with
      | false =>
        refine (HJ.out _).mono ?_
        rintro e w2 ⟨rfl, b2⟩
        have B2 := Lib.hid (HB2.out.trans (b2.mono HO2.out.base))
        clear b2
        go_wp2_with fail
        go_ret
        exact ⟨by rw [HR.out] <;> rfl, by rw [← HNN.out]; exact B2.out⟩
      | true =>
        refine (HJ.out _).mono ?_
        rintro e w2 ⟨rfl, b2⟩
        have O2 := Lib.hid (HO2.out.up b2)
        have B2 := Lib.hid (HB2.out.trans (b2.mono HO2.out.base))
        clear b2
        have hq2 : (2 : Int) ≤ Q.size := by have := HQ.out.1; omega
        have hq3 : (Q.size : Int) ≤ 100000 := by have := HQS.out; omega
        have hl : ((⟨#[34]⟩ : ByteArray)).size + (inT t).size ≤ 1000000000 := by
          rw [HI.out, ByteArray.size_extract]
          have := HQS.out
          show 1 + _ ≤ _
          omega
        go_wp2_with fail
        rw [← HI.out]
        refine (wstr (inT t) O2.out hl).mono ?_
        rintro e w3 ⟨rfl, h3, b3, _⟩
        have O3 := Lib.hid h3
        have B3 := Lib.hid (B2.out.trans b3)
        clear b3 h3
        go_wp2_with fail
        go_roundw
        case rel => exact ⟨⟨#[]⟩, _, rfl, O3, B3, Lib.hid (.inr ⟨rfl, rfl, (by first | rfl | trivial)⟩)⟩
        case measure => (simp [strLen]; omega)
end Go.Proofs.YtolegmlfmlfbhaaDoor
/- Layer 31, ServeWrites: numbers, members. -/
namespace Go.Proofs.YtolegmlfmlfbhaaDoor
open Go.RowKit
/-- What the tables hold: the powers of ten. -/
def Tabs (w : World) : Prop := Lib.TabIs Tryd.prog w "internal/strconv.uint64pow10" .u64 Lib.pow10Tab
theorem gPow : Tryd.prog.globalNamed "internal/strconv.uint64pow10" = some 1 := by kernel_rfl
theorem Tabs.later {w w' : World} (t : Tabs w) (h : Below w.heap.size w w') : Tabs w' :=
  var?_below h gPow (World.block_lt_of_cell? w ⟨1, 0, none⟩ (Lib.TabIs.cell t gPow 0 (by decide +kernel))) t
theorem Tabs.over {B : Nat} {w w' : World} (t : Tabs w) (h : Below B w w') (hB : 1 < B) : Tabs w' := by
  refine var?_below h gPow hB t
theorem Tabs.size {w : World} (t : Tabs w) : 1 < w.heap.size := World.block_lt_of_cell? w ⟨1, 0, none⟩ (Lib.TabIs.cell t gPow 0 (by decide +kernel))
theorem below_new (w : World) (k : Nat) (os : Array Obj) : Below w.heap.size w (Sort.grow (w.drewN k) os) := by
  refine ⟨rfl, rfl, rfl, by simp [Sort.grow], fun i hi => ?_⟩
  show ((w.drewN k).heap ++ os)[i]? = _
  rw [Array.getElem?_append_left (by exact hi)]
  rfl
theorem swrite_any (n : Int) (w : World) (t : Tabs w) (h : i64ok n) :
    Calls Tryd.prog 17 #[.int .i64 n] w fun e w' => e = .returned (.string (itT n)) ∧ Below w.heap.size w w' := by
  go_enter Tryd.func17, Tryd.ntmps17
  go_wp2_with fail
  refine (Tryd.strconv_FormatInt_10 n h.1 h.2 _ t).mono ?_
  rintro e w1 ⟨rfl, k, os, hw⟩
  have b1 : Below w.heap.size w w1 := by rw [hw]; exact below_new _ _ _
  clear hw
  go_wp2_with fail
  go_ret
  exact ⟨rfl, b1⟩
theorem snumber_any (n : Int) (w : World) (t : Tabs w) (h : i64ok n) :
    Calls Tryd.prog 16 #[.int .i64 n] w fun e w' => e = .returned (.string (itT n)) ∧ Below w.heap.size w w' := by
  have HC := Lib.hid (swrite_any n w t h)
  go_enter Tryd.func16, Tryd.ntmps16
  go_wp2_with fail
  refine HC.out.mono ?_
  rintro e w1 ⟨rfl, b1⟩
  go_wp2_with fail
  go_ret
  exact ⟨rfl, b1⟩
def memT (n v : ByteArray) : ByteArray := sqT n ++ ⟨#[58]⟩ ++ v
theorem smember_any (n v : ByteArray) (w : World) (hn : n.size ≤ 3000) (hv : v.size ≤ 1000000000000) :
    Calls Tryd.prog 9 #[.string n, .string v] w fun e w' => e = .returned (.string (memT n v)) ∧ Below w.heap.size w w' := by
  have HC := Lib.hid (squote_any n w (by omega))
  have hq := sqT_size n
  obtain ⟨Q, hQ⟩ : ∃ Q, Q = sqT n := ⟨_, rfl⟩
  have HM : Hid (memT n v = Q ++ ⟨#[58]⟩ ++ v) := Lib.hid (by rw [hQ]; rfl)
  rw [← hQ] at HC hq
  clear hQ
  have hl1 : ¬ (9223372036854775807 < Q.size + 1) := by omega
  have e1 := app_size Q (⟨#[58]⟩ : ByteArray)
  have e2 : (⟨#[58]⟩ : ByteArray).size = 1 := rfl
  have hl2 : ¬ (9223372036854775807 < (Q ++ (⟨#[58]⟩ : ByteArray)).size + v.size) := by omega
  clear e1 e2
  go_enter Tryd.func9, Tryd.ntmps9
  go_wp2_with fail
  refine HC.out.mono ?_
  rintro e w1 ⟨rfl, b1⟩
  go_wp2_with fail
  go_ret
  exact ⟨by rw [HM.out] <;> rfl, b1⟩
end Go.Proofs.YtolegmlfmlfbhaaDoor
