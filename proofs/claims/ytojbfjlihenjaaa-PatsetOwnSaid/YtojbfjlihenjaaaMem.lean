/- What a slice of integers reads as, in a world: my own words for memory, of no program. A slice's address is asked for only where the list is not empty. -/
import Derived.WalkKit
set_option linter.unusedSimpArgs false
set_option linter.unusedVariables false
namespace Go.Proofs.Ytojbfjlihenjaaa
open Go.RowKit

/-- A fact put aside, so that the walk does not take it for a rule. -/
theorem hid {p : Prop} (h : p) : Hid p := h

/-- The address A leads to the integers zs, one cell each. -/
def Arr (w : World) (k : IntKind) (A : Option Addr) (zs : List Int) : Prop :=
  zs ≠ [] → ∃ b off, A = some ⟨b, off, none⟩ ∧ b < w.heap.size ∧ ∀ i, i < zs.length → w.cell? ⟨b, off + i, none⟩ = some (.int k (zs.getD i 0))

section
variable {w w' w'' : World} {k : IntKind} {A : Option Addr} {zs : List Int} {row : Option Nat}

theorem Arr.nil (A : Option Addr) : Arr w k A [] := fun h => absurd rfl h

theorem Arr.at_ (h : Arr w k A zs) {i : Nat} (hi : i < zs.length) :
    ∃ b off, A = some ⟨b, off, none⟩ ∧ b < w.heap.size ∧ ∀ j, j < zs.length → w.cell? ⟨b, off + j, none⟩ = some (.int k (zs.getD j 0)) :=
  h (by intro e; subst e; simp at hi)

/-- It reads on, where its block has not turned. -/
theorem Arr.kept (h : Arr w k A zs) (hg : w.grownBy w' row) (hne : ∀ a, zs ≠ [] → A = some a → row ≠ some a.block) : Arr w' k A zs := fun hz => by
  obtain ⟨b, off, rfl, hb, hc⟩ := h hz
  refine ⟨b, off, rfl, Nat.lt_of_lt_of_le hb hg.size, fun i hi => ?_⟩
  exact (World.cell?_of_block (hg.block b hb (fun e => hne _ hz rfl e.symm))).trans (hc i hi)

theorem Arr.grown (h : Arr w k A zs) (hg : w.grownBy w' none) : Arr w' k A zs := h.kept hg (fun _ _ _ => by simp)

/-- A beginning of it. -/
theorem Arr.take (h : Arr w k A zs) (n : Nat) : Arr w k A (zs.take n) := fun hz => by
  obtain ⟨b, off, rfl, hb, hc⟩ := h (by intro e; subst e; simp at hz)
  refine ⟨b, off, rfl, hb, fun i hi => ?_⟩
  simp only [List.length_take] at hi
  rw [hc i (by omega)]
  simp [List.getD, show i < n by omega]

theorem grown_refl (w : World) (row : Option Nat) : w.grownBy w row := ⟨rfl, rfl, rfl, Nat.le_refl _, fun _ _ _ => rfl⟩

theorem grown_trans (h : w.grownBy w' none) (h' : w'.grownBy w'' none) : w.grownBy w'' none :=
  ⟨h'.os.trans h.os, h'.tape.trans h.tape, h'.output.trans h.output, Nat.le_trans h.size h'.size,
    fun j hj _ => (h'.block j (Nat.lt_of_lt_of_le hj h.size) (by simp)).trans (h.block j hj (by simp))⟩

/-- A step that turns one row, behind one that turned none. -/
theorem grown_trans_row {B : Nat} (h : w.grownBy w' none) (hB : w.heap.size ≤ B) (h' : w'.grownBy w'' (some B)) : w.grownBy w'' none :=
  ⟨h'.os.trans h.os, h'.tape.trans h.tape, h'.output.trans h.output, Nat.le_trans h.size h'.size,
    fun j hj _ => (h'.block j (Nat.lt_of_lt_of_le hj h.size) (by simp; omega)).trans (h.block j hj (by simp))⟩

theorem grown_row (h : w.grownBy w' none) (row : Option Nat) : w.grownBy w' row := ⟨h.os, h.tape, h.output, h.size, fun j hj _ => h.block j hj (by simp)⟩

theorem grown_trans_same (h : w.grownBy w' row) (h' : w'.grownBy w'' row) : w.grownBy w'' row :=
  ⟨h'.os.trans h.os, h'.tape.trans h.tape, h'.output.trans h.output, Nat.le_trans h.size h'.size,
    fun j hj hr => (h'.block j (Nat.lt_of_lt_of_le hj h.size) hr).trans (h.block j hj hr)⟩

/-- The row that is turned is newer than all that was. -/
theorem grown_new (h : w.grownBy w' row) (hr : ∀ j, row = some j → w.heap.size ≤ j) : w.grownBy w' none :=
  ⟨h.os, h.tape, h.output, h.size, fun j hj _ => h.block j hj (by intro e; have := hr j e.symm; omega)⟩

theorem grown_below (h : w.grownBy w' none) : Below w.heap.size w w' := ⟨h.os, h.tape, h.output, h.size, fun j hj => h.block j hj (by simp)⟩
theorem below_grown (h : Below w.heap.size w w') : w.grownBy w' none := ⟨h.os, h.tape, h.output, h.size, fun j hj _ => h.block j hj⟩

/-- What the call owns reads as its integers. -/
theorem Arr.of_own {base e n c : Nat} (h : w.ownsRow base e 1 (.slice A n c) n (zs.map (Value.int k))) : Arr w k A zs := fun hz => by
  obtain ⟨hl, h⟩ := h
  have hn : n = zs.length := by simpa using hl.symm
  rcases h with ⟨hv, rfl⟩ | ⟨g, cap, cur, hv, _, hg, hnc, hm, hs, ht⟩
  · exact absurd (List.eq_nil_of_length_eq_zero hn.symm) hz
  · injection hv with h1 h2 h3
    subst h1 h3
    refine ⟨g, 0, rfl, (Array.getElem?_eq_some_iff.1 hg).1, fun i hi => ?_⟩
    rw [cell_of_row w g (0 + i) cur e (0, 0) hg, Nat.zero_add]
    have : (cur.toList.take (n * 1))[i]? = some (Value.int k (zs.getD i 0)) := by rw [ht]; simp [List.getD, hi]
    rw [List.getElem?_take] at this
    split at this
    · simpa using this
    · cases this

/-- The capacity of what the call owns. -/
theorem own_cap {base e n m c : Nat} {xs : List Value} (h : w.ownsRow base e 1 (.slice A m c) n xs) : m = n ∧ n ≤ c ∧ c ≤ maxLen := by
  rcases h.2 with ⟨hv, rfl⟩ | ⟨g, cap, cur, hv, _, hg, hnc, hm, hs, ht⟩
  · injection hv with h1 h2 h3
    subst h2 h3
    exact ⟨rfl, by omega, by omega⟩
  · injection hv with h1 h2 h3
    subst h2 h3
    exact ⟨rfl, hnc, hm⟩

theorem own_form {base e n : Nat} {v : Value} {xs : List Value} (h : w.ownsRow base e 1 v n xs) : ∃ A c, v = .slice A n c ∧ n ≤ c ∧ c ≤ maxLen := by
  rcases h.2 with ⟨rfl, rfl⟩ | ⟨g, cap, cur, rfl, _, hg, hnc, hm, hs, ht⟩
  · exact ⟨none, 0, rfl, by omega, by omega⟩
  · exact ⟨_, cap, rfl, hnc, hm⟩
end
end Go.Proofs.Ytojbfjlihenjaaa
