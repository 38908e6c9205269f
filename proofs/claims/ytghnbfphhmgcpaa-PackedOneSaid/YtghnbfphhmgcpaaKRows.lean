/- Slices of bytes of the call's own, in a slice of the call's own: one more, in a fence; what keeps them; of no program's own. -/
import Derived.Test.YtghnbfphhmgcpaaOwnRows
import Derived.Test.YtghnbfphhmgcpaaCollect
set_option linter.unusedSimpArgs false
set_option linter.unusedVariables false
namespace Go.Proofs.Ytghnbfphhmgcpaa
open Go.RowKit

/-- A block of cells of another type is no row of these. -/
theorem not_row_of {w : World} {g : Nat} {t e : TypeId} {cs : Array Value} (h : Holds w g t cs) (ht : t ≠ e) {base n : Nat} {v : Value} {xs : List Value} (hr : w.ownsRow base e 1 v n xs) : v.ownBlock ≠ some g := by
  rcases hr.2 with ⟨rfl, _⟩ | ⟨b, cap, cur, rfl, _, hb, _⟩
  · simp [Value.ownBlock]
  · intro e
    obtain rfl : b = g := by simpa [Value.ownBlock] using e
    unfold Holds at h
    rw [h] at hb
    injection hb with hb
    injection hb with _ hb
    exact ht hb
theorem not_mark_of {w : World} {g : Nat} {o : Obj} (h : w.heap[g]? = some o) (ho : o.isCells = false) {base n : Nat} {e : TypeId} {v : Value} {xs : List Value} (hr : w.ownsRow base e 1 v n xs) : v.ownBlock ≠ some g := by
  rcases hr.2 with ⟨rfl, _⟩ | ⟨b, cap, cur, rfl, _, hb, _⟩
  · simp [Value.ownBlock]
  · intro e
    obtain rfl : b = g := by simpa [Value.ownBlock] using e
    rw [h] at hb
    injection hb with hb
    subst hb
    cases ho

theorem heap_kept {w w' : World} {row : Option Nat} {j : Nat} {o : Obj} (h : w.heap[j]? = some o) (hg : w.grownBy w' row) (hne : row ≠ some j) : w'.heap[j]? = some o :=
  (hg.block j (Array.getElem?_eq_some_iff.1 h).1 (fun e => hne e.symm)).trans h

/-- What turns one block of other cells keeps the rows. -/
theorem OwnRows.kept_other {W W' : World} {base j : Nat} {v : Value} {l : List Sl} {t : TypeId} {cs : Array Value} (h : OwnRows W base v l) (hg : W.grownBy W' (some j)) (hj : Holds W j t cs) (h1 : t ≠ 5) (h2 : t ≠ 23) : OwnRows W' base v l :=
  ⟨World.ownsRow.kept h.1 hg (.inr (not_row_of hj h2 h.1)), fun x hx => World.ownsRow.kept (h.2 x hx) hg (.inr (not_row_of hj h1 (h.2 x hx)))⟩
theorem OwnBytes.kept_other {W W' : World} {base j : Nat} {x : Sl} {t : TypeId} {cs : Array Value} (h : OwnBytes W base x) (hg : W.grownBy W' (some j)) (hj : Holds W j t cs) (h1 : t ≠ 5) : OwnBytes W' base x :=
  World.ownsRow.kept h hg (.inr (not_row_of hj h1 h))
/-- What turns an older block keeps them. -/
theorem OwnRows.kept_low {W W' : World} {base j : Nat} {v : Value} {l : List Sl} (h : OwnRows W base v l) (hg : W.grownBy W' (some j)) (hj : j < base) : OwnRows W' base v l :=
  ⟨World.ownsRow.kept h.1 hg (.inr (fun e => by have := (World.ownsRow.lt h.1 j e).1; omega)), fun x hx => World.ownsRow.kept (h.2 x hx) hg (.inr (fun e => by have := (World.ownsRow.lt (h.2 x hx) j e).1; omega))⟩
theorem OwnRows.put {W : World} {base r : Nat} {v : Value} {l : List Sl} {o o' : Obj} (h : OwnRows W base v l) (hr : W.heap[r]? = some o') (ho : o'.isCells = false) : OwnRows (W.putObj r o) base v l :=
  ⟨ownsRow_putObj h.1 o hr ho, fun x hx => ownsRow_putObj (h.2 x hx) o hr ho⟩

variable {P : Program} {ops : Array Oper} {rest : List Oper} {o : Oper} {a : Act} {Q : Exit → Act → World → Prop}

/-- One slice more, in a fence. -/
theorem wpListIn_push_row {F : Fence} {m0 : Nat} (hgd : o.guard = none) (s x : Operand) (t : TypeId) (ho : o.op = .call { callee := .builtin .append, args := #[s, x], argTypes := #[t, t] })
    (base : Nat) (i : TypeInfo) (ht : P.underlying t = some (.slice 23)) (hi : P.info? 23 = some i) (hz : i.zero = some (.slice none 0 0)) (hsize : i.size = 1) (hby : i.bytes = 24)
    (v : Value) (l : List Sl) (y : Sl) (w : World) (hown : OwnRows w base v l) (hy : OwnBytes w base y) (hs : a.eval s = v)
    (hx : a.eval x = .slice (some ⟨w.heap.size, 0, none⟩) 1 1) (hlen : l.length ≤ 2147483647) (hbase : base ≤ w.heap.size)
    (h : ∀ v' w', OwnRows w' base v' (l ++ [y]) → (w.alloc (.cells #[slV y] 23)).grownBy w' v.ownBlock → wpListIn F m0 P ops Q rest (a.put o.dst v') w') :
    wpListIn F m0 P ops Q (o :: rest) a (w.alloc (.cells #[slV y] 23)) := by
  have hown1 := hown.1.alloc (.cells #[slV y] 23)
  refine wpListIn_append_own (w.alloc (.cells #[slV y] 23)) hgd s x t ho base 23 i (.slice none 0 0) 1 24 ht hi hz hsize hby rfl (by decide) v l.length (l.map slV) hs hown1 ⟨w.heap.size, 0, none⟩ 1 1 [slV y] hx rfl
    (cell_one_new _ _ _) (by simp [Value.oneCell']) (by unfold maxLen; omega) (by omega) (by simp; omega) ?_
  intro v' w' h1 h2 _
  have hb : ∀ b z, OwnBytes w b z → OwnBytes w' b z := fun b z hz =>
    World.ownsRow.kept (World.ownsRow.alloc hz _) h2 (own_apart hown1 (World.ownsRow.alloc hz (.cells #[slV y] 23)) (by decide))
  refine h v' w' ⟨by simpa using h1, fun z hz => ?_⟩ h2
  rcases List.mem_append.1 hz with hz | hz
  · exact hb _ _ (hown.2 z hz)
  · obtain rfl : z = y := by simpa using hz
    exact hb _ _ hy

end Go.Proofs.Ytghnbfphhmgcpaa
