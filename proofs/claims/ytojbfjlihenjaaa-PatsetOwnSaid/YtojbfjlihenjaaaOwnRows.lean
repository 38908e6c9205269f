/- Slices of bytes of the call's own, in a slice of the call's own: one more. -/
import Derived.Test.YtojbfjlihenjaaaBase
import Derived.Test.YtojbfjlihenjaaaFull
set_option linter.unusedSimpArgs false
set_option linter.unusedVariables false
namespace Go.Proofs.Ytojbfjlihenjaaa
open Go.RowKit

/-- A slice: where, what it reads as, its capacity. -/
abbrev Sl := Option Addr × List Int × Nat
abbrev slV (x : Sl) : Value := .slice x.1 x.2.1.length x.2.2

theorem Try.rowInfo : (Try.prog.info? 25).map (fun i => (i.zero, i.size, i.bytes)) = some (some (.slice none 0 0), 1, 24) := by kernel_rfl

/-- Bytes of the call's own. -/
def OwnBytes (w : World) (base : Nat) (x : Sl) : Prop := w.ownsRow base 5 1 (slV x) x.2.1.length (x.2.1.map (Value.int .u8))
/-- A row of the call's own, of slices of bytes of the call's own. -/
def OwnRows (w : World) (base : Nat) (v : Value) (l : List Sl) : Prop := w.ownsRow base 25 1 v l.length (l.map slV) ∧ ∀ x ∈ l, OwnBytes w base x

theorem own_kept0 {w w' : World} {base e n : Nat} {v : Value} {xs : List Value} (h : w.ownsRow base e 1 v n xs) (hg : w.grownBy w' none) : w'.ownsRow base e 1 v n xs :=
  h.kept hg (by cases v.ownBlock <;> simp)

theorem OwnBytes.grown {w w' : World} {base : Nat} {x : Sl} (h : OwnBytes w base x) (hg : w.grownBy w' none) : OwnBytes w' base x := own_kept0 h hg
theorem OwnBytes.mono {w : World} {base base' : Nat} {x : Sl} (h : OwnBytes w base x) (hb : base' ≤ base) : OwnBytes w base' x := own_mono h hb
theorem OwnBytes.arr {w : World} {base : Nat} {x : Sl} (h : OwnBytes w base x) : Arr w .u8 x.1 x.2.1 := Arr.of_own (k := .u8) h
theorem OwnRows.grown {w w' : World} {base : Nat} {v : Value} {l : List Sl} (h : OwnRows w base v l) (hg : w.grownBy w' none) : OwnRows w' base v l :=
  ⟨own_kept0 h.1 hg, fun x hx => (h.2 x hx).grown hg⟩
theorem OwnRows.mono {w : World} {base base' : Nat} {v : Value} {l : List Sl} (h : OwnRows w base v l) (hb : base' ≤ base) : OwnRows w base' v l :=
  ⟨own_mono h.1 hb, fun x hx => (h.2 x hx).mono hb⟩
theorem OwnRows.nil (w : World) (base : Nat) : OwnRows w base (.slice none 0 0) [] := ⟨World.ownsRow_nil _ _ _ _, fun x hx => by cases hx⟩

theorem own_apart {w : World} {base base' e e' n n' : Nat} {v v' : Value} {xs xs' : List Value} (h : w.ownsRow base e 1 v n xs) (h' : w.ownsRow base' e' 1 v' n' xs') (he : e ≠ e') : v'.ownBlock = none ∨ v'.ownBlock ≠ v.ownBlock := by
  rcases h'.2 with ⟨rfl, _⟩ | ⟨g', cap', cur', rfl, _, hg', _⟩
  · exact .inl rfl
  · refine .inr fun hh => ?_
    rcases h.2 with ⟨rfl, _⟩ | ⟨g, cap, cur, rfl, _, hg, _⟩
    · simp [Value.ownBlock] at hh
    · obtain rfl : g' = g := by simpa [Value.ownBlock] using hh
      rw [hg] at hg'
      injection hg' with hg'
      injection hg' with _ hg'
      exact he hg'

/-- What reads, in the rows of the call's own: the elements' slices, and their bytes. -/
theorem OwnRows.arrs {w : World} {base n c : Nat} {A : Option Addr} {l : List Sl} (h : OwnRows w base (.slice A n c) l) : n = l.length ∧ Arrs w A (l.map (·.2.1)) := by
  obtain ⟨h1, h2⟩ := h
  refine ⟨?_, fun hz => ?_⟩
  · obtain ⟨A', c', he, _⟩ := own_form h1
    injection he
  · rcases h1.2 with ⟨hv, h0⟩ | ⟨g, cap, cur, hv, _, hg, hnc, hm, hs, ht⟩
    · have : l = [] := List.eq_nil_of_length_eq_zero h0
      subst this
      exact absurd rfl hz
    · injection hv with hv1 hv2 hv3
      subst hv1
      refine ⟨g, 0, rfl, (Array.getElem?_eq_some_iff.1 hg).1, fun i hi => ?_⟩
      simp only [List.length_map] at hi
      refine ⟨(l[i]).1, (l[i]).2.2, ?_, ?_⟩
      · rw [cell_of_row w g (0 + i) cur _ (0, 0) hg, Nat.zero_add]
        have : (cur.toList.take (l.length * 1))[i]? = some (slV l[i]) := by rw [ht]; simp [hi]
        rw [List.getElem?_take] at this
        split at this
        · simpa [List.getD, hi] using this
        · cases this
      · have := (h2 l[i] (List.getElem_mem hi)).arr
        simpa [List.getD, hi] using this

variable {P : Program} {ops : Array Oper} {rest : List Oper} {o : Oper} {a : Act} {Q : Exit → Act → World → Prop}

/-- One slice more; all bytes of the call's own stay, and all blocks of other cells. -/
theorem wpList_push_row_h (hgd : o.guard = none) (s x : Operand) (t : TypeId) (ho : o.op = .call { callee := .builtin .append, args := #[s, x], argTypes := #[t, t] })
    (base : Nat) (i : TypeInfo) (ht : P.underlying t = some (.slice 25)) (hi : P.info? 25 = some i) (hz : i.zero = some (.slice none 0 0)) (hsize : i.size = 1) (hby : i.bytes = 24)
    (v : Value) (l : List Sl) (y : Sl) (w : World) (hown : OwnRows w base v l) (hy : OwnBytes w base y) (hs : a.eval s = v)
    (hx : a.eval x = .slice (some ⟨w.heap.size, 0, none⟩) 1 1) (hlen : l.length ≤ 2147483647) (hbase : base ≤ w.heap.size)
    (h : ∀ v' w', OwnRows w' base v' (l ++ [y]) → (∀ b z, OwnBytes w b z → OwnBytes w' b z) → (∀ g t cs, t ≠ 25 → Holds w g t cs → Holds w' g t cs) → Below base w w' → wpList P ops Q rest (a.put o.dst v') w') :
    wpList P ops Q (o :: rest) a (w.alloc (.cells #[slV y] 25)) := by
  have hown1 := hown.1.alloc (.cells #[slV y] 25)
  refine wpList_append_own (w.alloc (.cells #[slV y] 25)) hgd s x t ho base 25 i (.slice none 0 0) 1 24 ht hi hz hsize hby rfl (by decide) v l.length (l.map slV) hs hown1 ⟨w.heap.size, 0, none⟩ 1 1 [slV y] hx rfl
    (cell_one_new _ _ _) (by simp [Value.oneCell']) (by unfold maxLen; omega) (by omega) (by simp; omega) ?_
  intro v' w' h1 h2 _
  have hb : ∀ b z, OwnBytes w b z → OwnBytes w' b z := fun b z hz =>
    World.ownsRow.kept (World.ownsRow.alloc hz _) h2 (own_apart hown1 (World.ownsRow.alloc hz (.cells #[slV y] 25)) (by decide))
  refine h v' w' ⟨by simpa using h1, fun z hz => ?_⟩ hb (fun g t cs hte hh => ((hh.alloc _).kept h2 (fun e => ?_))) ?_
  · rcases List.mem_append.1 hz with hz | hz
    · exact hb _ _ (hown.2 z hz)
    · obtain rfl : z = y := by simpa using hz
      exact hb _ _ hy
  · rcases hown1.2 with ⟨h0, _⟩ | ⟨b, cap, cur, h0, _, hb2, _⟩
    · rw [h0] at e; simp [Value.ownBlock] at e
    · rw [h0] at e
      obtain rfl : b = g := by simpa [Value.ownBlock] using e
      have hh2 := hh.alloc (.cells #[slV y] 25)
      unfold Holds at hh2
      rw [hb2] at hh2
      injection hh2 with hh2
      injection hh2 with _ hh2
      exact hte hh2.symm
  · exact ((Below.refl base w).alloc hbase _).trans (below_of_grown h2 (by simp; omega) (fun j hj => (hown.1.lt j hj).1))

/-- One slice more; all bytes of the call's own stay. -/
theorem wpList_push_row (hgd : o.guard = none) (s x : Operand) (t : TypeId) (ho : o.op = .call { callee := .builtin .append, args := #[s, x], argTypes := #[t, t] })
    (base : Nat) (i : TypeInfo) (ht : P.underlying t = some (.slice 25)) (hi : P.info? 25 = some i) (hz : i.zero = some (.slice none 0 0)) (hsize : i.size = 1) (hby : i.bytes = 24)
    (v : Value) (l : List Sl) (y : Sl) (w : World) (hown : OwnRows w base v l) (hy : OwnBytes w base y) (hs : a.eval s = v)
    (hx : a.eval x = .slice (some ⟨w.heap.size, 0, none⟩) 1 1) (hlen : l.length ≤ 2147483647) (hbase : base ≤ w.heap.size)
    (h : ∀ v' w', OwnRows w' base v' (l ++ [y]) → (∀ b z, OwnBytes w b z → OwnBytes w' b z) → Below base w w' → wpList P ops Q rest (a.put o.dst v') w') :
    wpList P ops Q (o :: rest) a (w.alloc (.cells #[slV y] 25)) := by
  exact wpList_push_row_h hgd s x t ho base i ht hi hz hsize hby v l y w hown hy hs hx hlen hbase fun v' w' a b _ c => h v' w' a b c

end Go.Proofs.Ytojbfjlihenjaaa
