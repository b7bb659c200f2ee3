import Derived.Test.YtjcaadihkbhlhaaDoorA2
import Derived.StillTailTactics
import Derived.Deep.MidRow
namespace Go.Proofs.YtjcaadihkbhlhaaDoor
open Go.RowKit
/-- What lies in memory while a set is made. -/
def MK (w W : World) (L : List UInt8) : Prop := SBox W w.heap.size [] ∧ SBox W (w.heap.size + 1) L ∧ Below w.heap.size w W
theorem MK.up {w W W' : World} {L : List UInt8} (h : MK w W L) (hb : Below W.heap.size W W') : MK w W' L := ⟨h.1.up hb, h.2.1.up hb, h.2.2.trans (hb.mono h.2.2.size)⟩
theorem MK.put {w W : World} {L : List UInt8} (h : MK w W L) (c : UInt8) : MK w (W.setCell ⟨w.heap.size + 1, c.toNat / 64, none⟩ (.int .u64 ((wd L (c.toNat / 64) ||| 2 ^ (c.toNat % 64) : Nat) : Int))) (L ++ [c]) :=
  ⟨h.1.other _ (by simp) _, h.2.1.put c, h.2.2.setCell (by simp) _⟩
theorem MK.new (w : World) : MK w ((w.alloc (.cells (setC []) 60)).alloc (.cells (setC []) 60)) [] := by
  have z : (w.alloc (.cells (setC []) 60)).heap.size = w.heap.size + 1 := by simp
  have h2 := SBox.new (w.alloc (.cells (setC []) 60)) []
  rw [z] at h2
  exact ⟨(SBox.new w []).up ((Below.refl _ _).alloc (Nat.le_refl _) _), h2, ((Below.refl _ w).alloc (Nat.le_refl _) _).alloc (by simp) _⟩
theorem set_nil : setC [] = #[.int .u64 0, .int .u64 0, .int .u64 0, .int .u64 0] := rfl
/-- Where the loop over texts stands. -/
def MX (w : World) (xs : List ByteArray) (s9 : Value) (W : World) : Prop := ∃ i : Nat, i ≤ xs.length ∧ s9 = .int .i64 i ∧ MK w W (flat (xs.take i))
/-- Where the loop over a text's bytes stands. -/
def MB (w : World) (L : List UInt8) (s : ByteArray) (s6 : Value) (W : World) : Prop := ∃ j : Nat, j ≤ s.size ∧ s6 = .int .i64 j ∧ MK w W (L ++ s.data.toList.take j)
theorem take_byte (s : ByteArray) (k : Nat) (h : k < s.size) : s.data.toList.take (k + 1) = s.data.toList.take k ++ [s[k]] := by
  rw [List.take_succ_eq_append_getElem (by simpa using h)]; rfl
def setL (L : List UInt8) : List Value := (setC L).toList
theorem setL_length (L : List UInt8) : (setL L).length = 4 := rfl
theorem setL_get {L : List UInt8} {j : Nat} {v : Value} (h : (setL L)[j]? = some v) : j < 4 ∧ v = .int .u64 (wd L j : Nat) := by
  have hj : j < 4 := (List.getElem?_eq_some_iff.1 h).1
  refine ⟨hj, ?_⟩
  have e : (setC L)[j]? = some v := by simpa [setL] using h
  rw [set_cell L j hj] at e
  exact (Option.some.inj e).symm
theorem setL_one (L : List UInt8) : ∀ v ∈ setL L, v.oneCell' = true := fun v hv => by
  obtain ⟨j, hj⟩ := List.getElem?_of_mem hv
  rw [(setL_get hj).2]; rfl
theorem SBox.range {w : World} {B : Nat} {L : List UInt8} (h : SBox w B L) : w.rangeAt B 0 (setL L) := fun j v hv => by
  obtain ⟨hj, rfl⟩ := setL_get hv
  rw [Nat.zero_add]; exact (h.1 j hj).1
theorem SBox.there {w : World} {B : Nat} {L : List UInt8} (h : SBox w B L) : w.there B 0 4 := fun j hj => by
  rw [Nat.zero_add]; exact ⟨by rw [(h.1 j hj).1]; rfl, (h.1 j hj).2⟩
theorem below_cells {B : Nat} {w : World} (b : Nat) (hb : B ≤ b) : ∀ (vs : List Value) (o : Nat) (W : World), Below B w W → Below B w (W.setCells b o vs)
  | [], _, _, h => h
  | v :: r, o, W, h => below_cells b hb r (o + 1) _ (h.setCell hb v)
theorem size_cells (b : Nat) : ∀ (vs : List Value) (o : Nat) (W : World), (W.setCells b o vs).heap.size = W.heap.size
  | [], _, _ => rfl
  | v :: r, o, W => (size_cells b r (o + 1) _).trans (by simp [World.setCell])
theorem frozen_cells (b : Nat) (a : Addr) : ∀ (vs : List Value) (o : Nat) (W : World), (W.setCells b o vs).frozen? a = W.frozen? a
  | [], _, _ => rfl
  | v :: r, o, W => (frozen_cells b a r (o + 1) _).trans (World.frozen?_setCell _ _ _ _)
theorem set_cells {W : World} {b : Nat} {L : List UInt8} (h : SBox W b L) (M : List UInt8) : SBox (W.setCells b 0 (setL M)) b M := by
  refine ⟨fun i hi => ⟨?_, (frozen_cells _ _ _ _ _).trans (h.1 i hi).2⟩, by rw [size_cells]; exact h.2⟩
  have e : (setL M)[i]? = some (.int .u64 (wd M i : Nat)) := by have := set_cell M i hi; simpa [setL] using this
  have := World.rangeAt_setCells_same W b 0 (setL M) (by rw [setL_length]; exact h.there) i _ e
  rwa [Nat.zero_add] at this
theorem u_set : Tryd.prog.underlying 60 = some (.array 4 58) := Tryd.underlying60
theorem s_set : (Tryd.prog.info? 60).map (·.size) = some 4 := by kernel_rfl
theorem load_set {w : World} {b : Nat} {L : List UInt8} (h : SBox w b L) : (loadVar 60 ⟨b, 0, none⟩).run Tryd.prog w = .ok (setV L) w :=
  run_loadVar_mid w b 0 60 (setL L) _ h.range u_set rfl (by rw [setL_length]; exact s_set)
theorem results_cell_one {fn : Func} {p : Tmp} {ty : TypeId} (h : fn.results = #[.cell p ty]) (tmps : Array Value) (P : Program) (w : World) :
    (results fn tmps).run P w = ((asAddr (tmps.getD p undef)).run P w).andThen fun a w₁ => (loadVar ty a).run P w₁ := by
  simp only [results, h]
  simp [Sem.run_bind, Result.andThen]
theorem ret_set {fn : Func} {p : Tmp} {Q : Ending → World → Prop} {tmps : Array Value} {w : World} {N : Nat} {L : List UInt8} (hf : fn.results = #[.cell p 60]) (h2 : tmps.getD p undef = .pointer (some ⟨N, 0, none⟩)) (h : SBox w N L)
    (hQ : Q (.returned (setV L)) w) : bodyPost Tryd.prog fn Q .ret ⟨tmps, []⟩ w := by
  refine bodyPost_ret (v := setV L) ?_ rfl hQ
  rw [results_cell_one hf, h2]
  simp [asAddr, Result.andThen, load_set h]
set_option maxRecDepth 20000 in
set_option maxHeartbeats 4000000 in
theorem marks_view (xs : List ByteArray) (b o cap : Nat) (w : World) (h0 : 0 < xs.length) (hcap : xs.length ≤ cap) (hb : b < w.heap.size) (hx : ∀ j x, xs[j]? = some x → w.cell? ⟨b, o + j, none⟩ = some (.string x)) (hl : xs.length ≤ 1000) (hs : ∀ x ∈ xs, x.size ≤ 1000000) :
    Calls Tryd.prog 39 #[.slice (some ⟨b, o, none⟩) xs.length cap] w fun e w' => e = .returned (setV (flat xs)) ∧ Below w.heap.size w w' := by
  have P0 := Lib.hid (MK.new w)
  rw [set_nil] at P0
  have HX := Lib.hid (fun W (hW : Below w.heap.size w W) j x (h : xs[j]? = some x) => (hW.cell (p := ⟨b, o + j, none⟩) hb).trans (hx j x h))
  have HS := Lib.hid hs
  clear hx hs
  go_enter Tryd.func39, Tryd.ntmps39
  go_wp2_with fail
  obtain ⟨w0, hw0⟩ : ∃ w0, w0 = (w.alloc (.cells #[.int .u64 0, .int .u64 0, .int .u64 0, .int .u64 0] 60)).alloc (.cells #[.int .u64 0, .int .u64 0, .int .u64 0, .int .u64 0] 60) := ⟨_, rfl⟩
  rw [← hw0] at P0 ⊢
  clear hw0
  go_loopw [9] (fun s9 wr => MX w xs s9 wr) (fun s9 _ => xs.length - (intOf s9).toNat)
  case atStart => exact ⟨0, Nat.zero_le _, rfl, P0.out⟩
  case round =>
    obtain ⟨i, hi, rfl, hm⟩ := hrel
    have HM := Lib.hid hm
    clear hm
    by_cases hlt : i < xs.length
    · have hlt' : (i : Int) < xs.length := by omega
      have hc := HX.out wr HM.out.2.2 i xs[i] (List.getElem?_eq_getElem hlt)
      have HSZ := Lib.hid (HS.out xs[i] (List.getElem_mem hlt))
      have HFT := Lib.hid (flat_take xs i hlt)
      obtain ⟨s, hse⟩ : ∃ s, s = xs[i] := ⟨_, rfl⟩
      rw [← hse] at hc HSZ HFT
      obtain ⟨L, hL⟩ : ∃ L, L = flat (xs.take i) := ⟨_, rfl⟩
      rw [← hL] at HFT HM
      have hsz := HSZ.out
      clear hse hL
      go_wp2_with fail
      go_loopw [6] (fun s6 ws => MB w L s s6 ws) (fun s6 _ => s.size - (intOf s6).toNat)
      case atStart => exact ⟨0, Nat.zero_le _, rfl, by simpa using HM.out⟩
      case round =>
        obtain ⟨j, hj, rfl, hm⟩ := hrel
        have HM2 := Lib.hid hm
        clear hm
        by_cases hjl : j < s.size
        · have hjl' : (j : Int) < s.size := by omega
          have HTB := Lib.hid (take_byte s j hjl)
          obtain ⟨c, hc0⟩ : ∃ c, c = s[j] := ⟨_, rfl⟩
          rw [← hc0] at HTB
          have HPUT := Lib.hid ((HM2.out.put c).up ((Below.refl _ _).drew))
          have hcb := UInt8.toNat_lt c
          obtain ⟨M, hM⟩ : ∃ M, M = L ++ s.data.toList.take j := ⟨_, rfl⟩
          have HMM := Lib.hid hM
          rw [← hM] at HM2 HPUT
          obtain ⟨n, hn⟩ : ∃ n, n = c.toNat := ⟨_, rfl⟩
          rw [← hn] at HPUT hcb
          obtain ⟨k, hk⟩ : ∃ k, k = n / 64 := ⟨_, rfl⟩
          obtain ⟨m, hm⟩ : ∃ j, j = n % 64 := ⟨_, rfl⟩
          rw [← hk, ← hm] at HPUT
          have hk4 : k < 4 := by omega
          have hm64 : m < 64 := by omega
          have hin : ∀ q : j < s.size, (s[j].toNat : Int) = n := fun q => by rw [hn, hc0]
          have e1 : (n : Int).tdiv 64 = k := by rw [Int.tdiv_eq_ediv_of_nonneg (by omega)]; omega
          have e2 : (n : Int).tmod 64 = m := by rw [Int.tmod_eq_emod_of_nonneg (by omega)]; omega
          have e3 : (n : Int) / 64 = k := by omega
          have e4 : (n : Int) % 64 = m := by omega
          have hk4' : (k : Int) < 4 := by omega
          have q1 : IntKind.u8.wrap (k : Int) = k := by rw [IntKind.wrap_u8]; omega
          have q2 : IntKind.u8.wrap (m : Int) = m := by rw [IntKind.wrap_u8]; omega
          have hn8 : (n : Int) ≤ 255 := by omega
          have d1 := (HM2.out.2.1.1 k hk4).1
          have d2 := (HM2.out.2.1.1 k hk4).2
          have hwl := wd_lt M k
          obtain ⟨x, hx⟩ : ∃ x, x = wd M k := ⟨_, rfl⟩
          rw [← hx] at d1 hwl HPUT
          have hor := or_bit x m hwl hm64
          have q3 : IntKind.u64.wrap ((2 : Int) ^ m) = ((2 ^ m : Nat) : Int) := by
            have hl2 : 2 ^ m < 2 ^ 64 := Nat.pow_lt_pow_right (by decide) hm64
            have e : ((2 : Int) ^ m) = ((2 ^ m : Nat) : Int) := by rw [Int.natCast_pow]; rfl
            have hl3 : 2 ^ m < 18446744073709551616 := hl2
            rw [e]
            generalize (2 ^ m : Nat) = z at hl3 ⊢
            rw [IntKind.wrap_u64]
            omega
          rw [← q3] at hor
          rw [← hor] at HPUT
          clear hn hk hm hcb hk4 hx hM hc0 hm64 hwl hor q3
          go_wp2_with fail
          go_still_tail 13, (by kernel_rfl)
          go_wp2_with fail
          go_roundw
          case rel => exact ⟨j + 1, by omega, by go_num, by rw [HTB.out, ← List.append_assoc, ← HMM.out]; exact HPUT.out⟩
          case measure => simp [intOf]; omega
        · obtain rfl : j = s.size := by omega
          have HT : Hid (L ++ s.data.toList = flat (xs.take (i + 1))) := Lib.hid HFT.out.symm
          have hall : s.data.toList.take s.size = s.data.toList := List.take_of_length_le (by simp)
          rw [hall, HT.out] at HM2
          clear hall hjl
          go_wp2_with fail
          go_roundw
          case rel => exact ⟨i + 1, by omega, by go_num, HM2.out⟩
          case measure => simp [intOf]; omega
    · obtain rfl : i = xs.length := by omega
      rw [show xs.take xs.length = xs from List.take_length] at HM
      go_upto_region 10 with fail
      refine wp_region_lit ?_
      refine wpList_load_mid rfl 60 (.tmp 3) rfl (w.heap.size + 1) 0 rfl (setL (flat xs)) _ HM.out.2.1.range u_set rfl (by rw [setL_length]; exact s_set) ?_
      refine wpList_store_mid rfl 60 (.tmp 2) (.tmp 33) rfl w.heap.size 0 (setL (flat xs)).toArray rfl rfl (HM.out.1.there) s_set (all_oneCell_toArray (setL_one _)) ?_
      go_wp2_with fail
      refine ret_set (N := w.heap.size) (L := flat xs) Tryd.results39 (by rfl) (set_cells HM.out.1 _) ⟨rfl, below_cells _ (Nat.le_refl _) _ _ _ HM.out.2.2⟩
end Go.Proofs.YtjcaadihkbhlhaaDoor
