import Derived.Test.YtcnafgelfkfekaaE10
import Derived.Test.YtcnafgelfkfekaaPlain3
namespace Go.Proofs.Ytcnafgelfkfekaa
open Go.RowKit

/-- What Put leaves: a list that rises, of the same strings and this one. -/
def Puts (L : List ByteArray) (s : ByteArray) (M : List ByteArray) : Prop := chE M = 0 ∧ M.length ≤ L.length + 1 ∧ ∀ o, inL M o ↔ (o = s ∨ inL L o)
theorem puts_one (s : ByteArray) : Puts [] s [s] := by
  refine ⟨rfl, by simp, fun o => ?_⟩
  rw [inL_mem, inL_mem]; simp
theorem puts_had {L : List ByteArray} {s : ByteArray} {k : Nat} (hc : chE L = 0) (h : At L s k true) : Puts L s L := by
  refine ⟨hc, by omega, fun o => ⟨fun ho => .inr ho, fun ho => ?_⟩⟩
  rcases ho with rfl | ho
  · exact ⟨k, (h.2.2.1 rfl).1, (h.2.2.1 rfl).2⟩
  · exact ho
theorem puts_new {L : List ByteArray} {s : ByteArray} {k : Nat} (hc : chE L = 0) (hl : L.length < 4096) (h : At L s k false) : Puts L s (insL L s k) := by
  refine ⟨insL_ok hc hl h, by rw [insL_len h.1]; exact Nat.le_refl _, fun o => ?_⟩
  rw [inL_mem, inL_mem]
  unfold insL
  rw [List.mem_append, List.mem_cons]
  constructor
  · rintro (h1 | h1 | h1)
    · exact .inr (List.mem_of_mem_take h1)
    · exact .inl h1
    · exact .inr (List.mem_of_mem_drop h1)
  · rintro (h1 | h1)
    · exact .inr (.inl h1)
    · rw [← List.take_append_drop k L, List.mem_append] at h1
      rcases h1 with h1 | h1
      · exact .inl h1
      · exact .inr (.inr h1)
theorem put_all (a : Option Addr) (len cap : Nat) (L : List ByteArray) (s : ByteArray) (w : World) (hv : SView w a len L) (hlc : len ≤ cap) (hcm : cap ≤ maxLen) (hnil : a = none → cap = 0) (hlen : len < 4096) (hc : chE L = 0) :
    Calls Try.prog 19 #[.slice a len cap, .string s] w fun e w' => ∃ v M, e = .returned (.tuple #[v, .int .i64 0]) ∧ Holds w' v M ∧ Puts L s M ∧ Below w.heap.size w w' := by
  obtain ⟨k, is, hat⟩ := at_some hc s
  by_cases h0 : len = 0
  · subst h0
    have : L = [] := List.length_eq_zero_iff.1 hv.1
    subst this
    exact (put_empty a cap s w hnil).mono fun _ _ ⟨v, h1, h2, h3⟩ => ⟨v, [s], h1, h2, puts_one s, h3⟩
  · obtain ⟨b, off, rfl, _, _⟩ := hv.2 0 (by omega)
    cases is
    · exact (put_new b off len cap k L s w hv hlc hcm hlen (by omega) hc (fun w h => findD _ len cap k false L s w h hc hat) (by have := hat.1; rw [hv.1] at this; exact this)).mono fun _ _ ⟨v, h1, h2, h3⟩ => ⟨v, insL L s k, h1, h2, puts_new hc (by rw [hv.1]; exact hlen) hat, h3⟩
    · exact (put_had b off len cap k L s w hv (by omega) hc hat).mono fun _ _ ⟨v, h1, h2, h3⟩ => ⟨v, L, h1, h2, puts_had hc hat, h3⟩
end Go.Proofs.Ytcnafgelfkfekaa
