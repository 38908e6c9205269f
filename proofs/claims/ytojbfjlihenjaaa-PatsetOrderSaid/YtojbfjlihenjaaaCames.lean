/- A slice of slices of integers that came in. -/
import Derived.Test.YtojbfjlihenjaaaCame
import Derived.Deep.Matrix
set_option linter.unusedSimpArgs false
set_option linter.unusedVariables false
namespace Go.Proofs.Ytojbfjlihenjaaa
open Go.RowKit

theorem addr_plain {w : World} {x : Addr} {v : Value} (h : w.cell? (x.add 0) = some v) : ∃ b off, x = ⟨b, off, none⟩ ∧ (∀ j, x.add j = ⟨b, off + j, none⟩) ∧ b < w.heap.size := by
  obtain ⟨b, off, spot⟩ := x
  have hs : spot = none := by simpa [Addr.add] using World.cell?_spot h
  subst hs
  have hadd : ∀ j, (⟨b, off, none⟩ : Addr).add j = ⟨b, off + j, none⟩ := fun j => by unfold Addr.add; split <;> simp_all
  rw [hadd] at h
  exact ⟨b, off, rfl, hadd, World.block_lt_of_cell? w ⟨b, off + 0, none⟩ (by rw [h])⟩

/-- What a slice of slices that came in reads as. -/
def IsRows (k : IntKind) (w : World) (a : Option Addr) (len cap : Nat) (zss : List (List Int)) : Prop :=
  zss.length = len ∧ len ≤ cap ∧ cap ≤ maxLen ∧ (∀ i, ∀ n ∈ zss.getD i [], (Lit.int k n).wf = true) ∧
    (zss ≠ [] → ∃ b off, a = some ⟨b, off, none⟩ ∧ b < w.heap.size ∧ ∀ i, i < zss.length → ∃ Ai ci, w.cell? ⟨b, off + i, none⟩ = some (.slice Ai (zss.getD i []).length ci) ∧ (zss.getD i []).length ≤ ci ∧ ci ≤ maxLen ∧ Arr w k Ai (zss.getD i []))

theorem isRows_nil {k : IntKind} {w : World} : IsRows k w none 0 0 [] := ⟨rfl, Nat.le_refl _, Nat.zero_le _, fun i n hn => by simp at hn, fun h => absurd rfl h⟩

theorem isRows_of {k : IntKind} {w : World} {x : Addr} {len cap base : Nat} {A : Nat → Option Addr} {L C : Nat → Nat} {Z : Nat → List Int} (hl : len ≤ cap) (hm : cap ≤ maxLen)
    (hrow : ∀ r, r < cap → w.cell? (x.add r) = some (.slice (A r) (L r) (C r)) ∧ L r ≤ C r ∧ C r ≤ maxLen ∧ (Z r).length = C r ∧ (∀ n ∈ Z r, (Lit.int k n).wf = true) ∧ (A r = none → C r = 0) ∧
      ∀ a', A r = some a' → base ≤ a'.block ∧ ∀ c, c < C r → w.cell? (a'.add c) = some (.int k ((Z r).getD c 0))) :
    IsRows k w (some x) len cap ((List.range len).map fun r => (Z r).take (L r)) := by
  have hget : ∀ i, i < len → ((List.range len).map fun r => (Z r).take (L r)).getD i [] = (Z i).take (L i) := fun i hi => by simp [List.getD, hi]
  refine ⟨by simp, hl, hm, fun i n hn => ?_, fun hne => ?_⟩
  · by_cases hi : i < len
    · rw [hget i hi] at hn
      exact (hrow i (by omega)).2.2.2.2.1 n (List.mem_of_mem_take hn)
    · simp [List.getD, List.getElem?_eq_none (show ((List.range len).map fun r => (Z r).take (L r)).length ≤ i by simp; omega)] at hn
  · have h0 : 0 < len := by
      rcases Nat.eq_zero_or_pos len with h | h
      · subst h; simp at hne
      · exact h
    obtain ⟨b, off, rfl, hadd, hb⟩ := addr_plain (hrow 0 (by omega)).1
    refine ⟨b, off, rfl, hb, fun i hi => ?_⟩
    have hi' : i < len := by simpa using hi
    rw [hget i hi']
    obtain ⟨h1, h2, h3, h4, _, h6, h7⟩ := hrow i (by omega)
    have hlen : ((Z i).take (L i)).length = L i := by simp; omega
    rw [hlen]
    refine ⟨A i, C i, by rw [← hadd]; exact h1, h2, h3, Arr.take (fun hz => ?_) _⟩
    have hc0 : 0 < C i := by rw [← h4]; exact List.length_pos_iff.2 hz
    cases hA : A i with
    | none => have := h6 hA; omega
    | some a' =>
      obtain ⟨_, hcell⟩ := h7 a' hA
      obtain ⟨b2, off2, rfl, hadd2, hb2⟩ := addr_plain (hcell 0 hc0)
      exact ⟨b2, off2, rfl, hb2, fun j hj => by rw [← hadd2]; exact hcell j (by omega)⟩

end Go.Proofs.Ytojbfjlihenjaaa
