import Derived.Test.YtepjehneembakaaE11
namespace Go.Proofs.Ytepjehneembakaa
open Go.RowKit

theorem is_any (p : Int) (w : World) :
    Calls Try.prog 31 #[.int .i64 p] w fun e w' => e = .returned (.bool (isPt p)) ∧ w = w' := by
  go_enter Try.func31, Try.ntmps31
  go_wp2
  all_goals
    go_ret
    refine ⟨ret_bool ?_, rfl⟩
    unfold isPt
    rw [Bool.eq_iff_iff]
    simp only [Bool.or_eq_true, decide_eq_true_eq, true_iff, Bool.false_eq_true, false_iff]
    try omega

theorem bytes_any (p : Int) (w : World) (h0 : 0 ≤ p) (h1 : p < 1114112) :
    Calls Try.prog 37 #[.int .i64 p] w fun e w' => e = .returned (.slice (some ⟨w.heap.size, 0, none⟩) (enc p).length (enc p).length) ∧ (∃ cs : Array Value, cs.toList = (enc p).map (Value.int .u8) ∧ w' = w.alloc (.cells cs 5)) := by
  by_cases c1 : p < 128
  · have he : Hid (enc p = [p]) := Lib.hid (by unfold enc; rw [if_pos c1])
    go_enter Try.func37, Try.ntmps37
    go_wp2_with fail
    go_ret
    rw [he.out]
    refine ⟨rfl, _, ?_, rfl⟩
    simp
  by_cases c2 : p < 2048
  · have he : Hid (enc p = [192 + p / 64, 128 + p % 64]) := Lib.hid (by unfold enc; rw [if_neg c1, if_pos c2])
    go_enter Try.func37, Try.ntmps37
    go_wp2_with fail
    go_ret
    rw [he.out]
    refine ⟨rfl, _, ?_, rfl⟩
    rfl
  by_cases c3 : p < 65536
  · have he : Hid (enc p = [224 + p / 4096, 128 + p / 64 % 64, 128 + p % 64]) := Lib.hid (by unfold enc; rw [if_neg c1, if_neg c2, if_pos c3])
    go_enter Try.func37, Try.ntmps37
    go_wp2_with fail
    go_ret
    rw [he.out]
    exact ⟨rfl, _, rfl, rfl⟩
  · have he : Hid (enc p = [240 + p / 262144, 128 + p / 4096 % 64, 128 + p / 64 % 64, 128 + p % 64]) := Lib.hid (by unfold enc; rw [if_neg c1, if_neg c2, if_neg c3])
    go_enter Try.func37, Try.ntmps37
    go_wp2_with fail
    go_ret
    rw [he.out]
    exact ⟨rfl, _, rfl, rfl⟩

theorem rtext_any (a : Option Addr) (len cap : Nat) (L : List Int) (w : World) (hv : View w a len L) (hm : len ≤ 100000) (ha : allPt L len = true) :
    Calls Try.prog 32 #[.slice a len cap] w fun e w' => e = .returned (.string (mkB (encs L len))) ∧ Below w.heap.size w w' := by
  obtain ⟨i0, hi, hz0, hz1, hz2⟩ := info_parts info5
  obtain ⟨hL, hc⟩ := hv
  by_cases hz : len = 0
  · subst hz
    have hcv := conv_own (L := []) (World.ownsRow_nil w w.heap.size 5 1) (fun x hx => by simp at hx)
    clear hc hL ha
    go_enter Try.func32, Try.ntmps32
    go_wp2_with fail
    refine wp_loop_rounds 1 ?_
    rw [rounds_succ]
    go_wp2_with fail
    go_ret
    exact ⟨rfl, Below.refl _ _⟩
  · obtain ⟨b, off, rfl, hxb, _⟩ := hc 0 (by omega)
    have HC : Hid (∀ k, k < len → w.cell? ⟨b, off + k, none⟩ = some (.int .i64 (L.getD k 0))) := Lib.hid (fun k hk => by
      obtain ⟨b', off', he, _, hx⟩ := hc k hk
      simp only [Option.some.injEq, Addr.mk.injEq, and_true] at he
      obtain ⟨rfl, rfl⟩ := he
      exact hx)
    have HA := Lib.hid ha
    clear hc hL ha
    go_enter Try.func32, Try.ntmps32
    go_wp2_with fail
    go_loopw [3, 4] (fun v i wr => ∃ k : Nat, k ≤ len ∧ i = .int .i64 k ∧ wr.ownsRow w.heap.size 5 1 v (encs L k).length ((encs L k).map (Value.int .u8)) ∧ Below w.heap.size w wr) (fun _ i _ => len - (intOf i).toNat)
    case atStart => exact ⟨0, by omega, rfl, World.ownsRow_nil _ _ _ _, Below.refl _ _⟩
    case round =>
      obtain ⟨k, hk, rfl, hown, hb⟩ := hrel
      by_cases hlt : k < len
      · have hcx := (hb.cell (p := ⟨b, off + k, none⟩) hxb).trans (HC.out k hlt)
        have hpt := isPt_range (allPt_at hlt HA.out)
        have hE : Hid (encs L (k + 1) = encs L k ++ enc (L.getD k 0)) := Lib.hid rfl
        obtain ⟨p, hp⟩ : ∃ p, p = L.getD k 0 := ⟨_, rfl⟩
        rw [← hp] at hcx hpt hE
        have HK : Hid (p = L.getD k 0) := hp
        have hle := encs_len L k
        have hen := enc_len p
        have HO := Lib.hid hown
        have HB := Lib.hid hb
        have hsz := hb.size
        have hbnd : Hid ((encs L k).length + (enc p).length ≤ 1000000) := Lib.hid (by omega)
        clear hp hown hb hle hen
        go_wp2_with fail
        refine (bytes_any p _ hpt.1 hpt.2).mono ?_
        rintro e w1 ⟨rfl, cs, hcs, rfl⟩
        have b1 : Below w.heap.size w (wr.alloc (.cells cs 5)) := HB.out.alloc hsz _
        have HB1 := Lib.hid b1
        have HC1 := Lib.hid (cell_news wr cs 5 _ hcs)
        clear b1 hcs
        go_wp2_with (at_builtin; refine wpList_append_own _ rfl _ _ 31 rfl w.heap.size 5 i0 (.int .u8 0) 1 1 Try.underlying31 hi hz0 hz1 hz2 rfl (by decide) _ _ _ rfl (HO.out.alloc _) ⟨wr.heap.size, 0, none⟩ (enc p).length (enc p).length ((enc p).map (Value.int .u8)) rfl ?h1 HC1.out ?h2 ?h3 ?h4 ?h5 ?_; rotate_right; intro v' w' ho hg _)
        case h1 => rw [List.length_map, Nat.mul_one]
        case h2 => intro u hu; simp only [List.mem_map] at hu; obtain ⟨x, _, rfl⟩ := hu; rfl
        case h3 => have := hbnd.out; unfold maxLen; omega
        case h4 => have := hbnd.out; omega
        case h5 => exact HB1.out.size
        go_roundw
        case rel => exact ⟨k + 1, by omega, by go_num, by rw [hE.out, List.length_append, List.map_append]; exact ho, HB1.out.grown hg HB1.out.size (fun q hq => (HO.out.lt q hq).1)⟩
        case measure => simp [intOf]; omega
      · obtain rfl : k = len := by omega
        have hcv := conv_own hown (encs_range L k HA.out)
        have HB := Lib.hid hb
        clear hb hown
        go_wp2_with fail
        go_ret
        exact ⟨rfl, HB.out⟩
end Go.Proofs.Ytepjehneembakaa
