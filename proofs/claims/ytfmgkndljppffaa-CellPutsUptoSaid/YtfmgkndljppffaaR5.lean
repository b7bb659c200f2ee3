/- Layer 3: the document's Behind, but for its loop. -/
import Derived.Test.YtfmgkndljppffaaR4
namespace Go.Proofs.Ytfmgkndljppffaa
open Go.RowKit Go.Maps
set_option maxRecDepth 20000 in
theorem beh_end (a : Option Addr) (n cap : Nat) (g : Nat → CR) (hcw : CW n g) (hn : n ≤ 2048) (r : Nat) (dv : Int) (p : Nat) (W : World) (hv : CV W a n g) (hp : n ≤ p) (hpm : p ≤ 1000000) : Calls Try.prog 42 #[.slice a n cap, .int .i64 (p : Nat), .int .i64 dv] W (BPost W (wk g n r p)) := by
  have HR : Hid (wk g n r p = none) := Lib.hid (by cases r with
    | zero => rw [wk_z, if_pos hp]
    | succ r => rw [wk_s, if_pos hp])
  obtain ⟨res, hres⟩ : ∃ x, x = wk g n r p := ⟨_, rfl⟩
  rw [← hres] at HR ⊢
  clear hres
  have g1 : ¬ ((p : Int) < 0) := by omega
  have g2 : (n : Int) ≤ p := by omega
  clear hp hcw hv
  go_enter Try.func42, Try.ntmps42
  go_wp2_with fail
  go_ret
  exact BPost.no HR.out (Below.refl _ _)
set_option maxRecDepth 20000 in
theorem beh_misfit (a : Option Addr) (n cap : Nat) (g : Nat → CR) (hcw : CW n g) (hn : n ≤ 2048) (r : Nat) (dv : Int) (p : Nat) (W : World) (hv : CV W a n g) (hp : p < n) (ho : oneP (g p) = false) : Calls Try.prog 42 #[.slice a n cap, .int .i64 (p : Nat), .int .i64 dv] W (BPost W (wk g n r p)) := by
  have HR : Hid (wk g n r p = none) := Lib.hid (by cases r with
    | zero => rw [wk_z, if_neg (by omega), ho]; rfl
    | succ r => rw [wk_s, if_neg (by omega), ho]; rfl)
  obtain ⟨res, hres⟩ : ∃ x, x = wk g n r p := ⟨_, rfl⟩
  rw [← hres] at HR ⊢
  clear hres
  obtain ⟨b, off, rfl, hb, k0, k1, k2, k3, k4⟩ := hv p hp
  have HO := Lib.hid (fun W' => rone_any (g p) W' (hcw p hp).2.2.1)
  rw [ho] at HO
  obtain ⟨c, hc⟩ : ∃ c, c = g p := ⟨_, rfl⟩
  rw [← hc] at k0 k1 k2 k3 k4 HO
  have g1 : ¬ ((p : Int) < 0) := by omega
  have g2 : ¬ ((n : Int) ≤ p) := by omega
  have g3 : (p : Int) < n := by omega
  have g4 : (0 : Int) ≤ p := by omega
  clear hc hp hcw hv ho
  go_enter Try.func42, Try.ntmps42
  go_wp2_with fail
  with_reducible refine (HO.out W).mono ?_
  rintro e w1 ⟨rfl, b1⟩
  have B1 := Lib.hid b1
  clear b1
  go_wp2_with fail
  go_ret
  exact BPost.no HR.out B1.out
set_option maxRecDepth 20000 in
theorem beh_leaf (a : Option Addr) (n cap : Nat) (g : Nat → CR) (hcw : CW n g) (hn : n ≤ 2048) (r : Nat) (dv : Int) (p : Nat) (W : World) (hv : CV W a n g) (hp : p < n) (ho : oneP (g p) = true) (hh : headP (g p) = false) : Calls Try.prog 42 #[.slice a n cap, .int .i64 (p : Nat), .int .i64 dv] W (BPost W (wk g n r p)) := by
  have HR : Hid (wk g n r p = some (p + 1)) := Lib.hid (by cases r with
    | zero => rw [wk_z, if_neg (by omega), ho, hh]; rfl
    | succ r => rw [wk_s, if_neg (by omega), ho, hh]; rfl)
  obtain ⟨res, hres⟩ : ∃ x, x = wk g n r p := ⟨_, rfl⟩
  rw [← hres] at HR ⊢
  clear hres
  obtain ⟨b, off, rfl, hb, k0, k1, k2, k3, k4⟩ := hv p hp
  have HO := Lib.hid (fun W' => rone_any (g p) W' (hcw p hp).2.2.1)
  have HH : (g p).k ≠ 6 ∧ (g p).k ≠ 7 := by simpa [headP] using hh
  rw [ho] at HO
  obtain ⟨c, hc⟩ : ∃ c, c = g p := ⟨_, rfl⟩
  rw [← hc] at k0 k1 k2 k3 k4 HO HH
  have g1 : ¬ ((p : Int) < 0) := by omega
  have g2 : ¬ ((n : Int) ≤ p) := by omega
  have g3 : (p : Int) < n := by omega
  have g4 : (0 : Int) ≤ p := by omega
  have g5 : (n : Int) ≤ 2048 := by omega
  have h6 : ((c.k : Int) != 6) = true := by simp; omega
  have h7 : ((c.k : Int) != 7) = true := by simp; omega
  clear hc hp hcw hv ho hh HH
  go_enter Try.func42, Try.ntmps42
  go_wp2_with fail
  with_reducible refine (HO.out W).mono ?_
  rintro e w1 ⟨rfl, b1⟩
  have B1 := Lib.hid b1
  have d0 := (b1.cell (World.block_lt_of_cell? _ _ k0)).trans k0
  have d1 := (b1.cell (World.block_lt_of_cell? _ _ k1)).trans k1
  have d2 := (b1.cell (World.block_lt_of_cell? _ _ k2)).trans k2
  have d3 := (b1.cell (World.block_lt_of_cell? _ _ k3)).trans k3
  have d4 := (b1.cell (World.block_lt_of_cell? _ _ k4)).trans k4
  clear b1 k0 k1 k2 k3 k4
  go_wp2_with fail
  go_ret
  exact BPost.yes HR.out (by omega) (B1.out.alloc B1.out.size _)
set_option maxRecDepth 20000 in
theorem beh_deep (a : Option Addr) (n cap : Nat) (g : Nat → CR) (hcw : CW n g) (hn : n ≤ 2048) (r : Nat) (dv : Int) (p : Nat) (W : World) (hv : CV W a n g) (hp : p < n) (ho : oneP (g p) = true) (hh : headP (g p) = true) (hr : r = 0) (hd : dv = 0) : Calls Try.prog 42 #[.slice a n cap, .int .i64 (p : Nat), .int .i64 dv] W (BPost W (wk g n r p)) := by
  have HR : Hid (wk g n r p = none) := Lib.hid (by subst hr; rw [wk_z, if_neg (by omega), ho, hh]; rfl)
  obtain ⟨res, hres⟩ : ∃ x, x = wk g n r p := ⟨_, rfl⟩
  rw [← hres] at HR ⊢
  clear hres
  obtain ⟨b, off, rfl, hb, k0, k1, k2, k3, k4⟩ := hv p hp
  have HO := Lib.hid (fun W' => rone_any (g p) W' (hcw p hp).2.2.1)
  have HH : (g p).k = 6 ∨ (g p).k = 7 := by simpa [headP] using hh
  rw [ho] at HO
  obtain ⟨c, hc⟩ : ∃ c, c = g p := ⟨_, rfl⟩
  rw [← hc] at k0 k1 k2 k3 k4 HO HH
  have g1 : ¬ ((p : Int) < 0) := by omega
  have g2 : ¬ ((n : Int) ≤ p) := by omega
  have g3 : (p : Int) < n := by omega
  have g4 : (0 : Int) ≤ p := by omega
  have g5 : (n : Int) ≤ 2048 := by omega
  subst hd
  rcases HH with h | h
  · have h6 : ((c.k : Int) != 6) = false := by simp; omega
    clear hc hp hcw hv ho hh h
    go_enter Try.func42, Try.ntmps42
    go_wp2_with fail
    with_reducible refine (HO.out W).mono ?_
    rintro e w1 ⟨rfl, b1⟩
    have B1 := Lib.hid b1
    have d0 := (b1.cell (World.block_lt_of_cell? _ _ k0)).trans k0
    have d1 := (b1.cell (World.block_lt_of_cell? _ _ k1)).trans k1
    have d2 := (b1.cell (World.block_lt_of_cell? _ _ k2)).trans k2
    have d3 := (b1.cell (World.block_lt_of_cell? _ _ k3)).trans k3
    have d4 := (b1.cell (World.block_lt_of_cell? _ _ k4)).trans k4
    clear b1 k0 k1 k2 k3 k4
    go_wp2_with fail
    go_ret
    exact BPost.no HR.out (B1.out.alloc B1.out.size _)
  · have h6 : ((c.k : Int) != 6) = true := by simp; omega
    have h7 : ((c.k : Int) != 7) = false := by simp; omega
    clear hc hp hcw hv ho hh h
    go_enter Try.func42, Try.ntmps42
    go_wp2_with fail
    with_reducible refine (HO.out W).mono ?_
    rintro e w1 ⟨rfl, b1⟩
    have B1 := Lib.hid b1
    have d0 := (b1.cell (World.block_lt_of_cell? _ _ k0)).trans k0
    have d1 := (b1.cell (World.block_lt_of_cell? _ _ k1)).trans k1
    have d2 := (b1.cell (World.block_lt_of_cell? _ _ k2)).trans k2
    have d3 := (b1.cell (World.block_lt_of_cell? _ _ k3)).trans k3
    have d4 := (b1.cell (World.block_lt_of_cell? _ _ k4)).trans k4
    clear b1 k0 k1 k2 k3 k4
    go_wp2_with fail
    go_ret
    exact BPost.no HR.out (B1.out.alloc B1.out.size _)
end Go.Proofs.Ytfmgkndljppffaa
