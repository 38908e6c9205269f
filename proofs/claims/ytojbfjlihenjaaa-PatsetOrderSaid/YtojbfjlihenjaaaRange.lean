/- A range over a function whose iterator keeps its state in cells: the loop's record, round by round, at the wide fence; of no program. -/
import Derived.Test.YtojbfjlihenjaaaPush
import Derived.RangeFuncNested
import Derived.RangeFuncCalls
import Derived.RangeFuncLeaves
set_option linter.unusedSimpArgs false
set_option linter.unusedVariables false
namespace Go.Proofs.Ytojbfjlihenjaaa
open Go.RowKit

/-- Block g holds just the cells cs of type t. -/
def Holds (w : World) (g : Nat) (t : TypeId) (cs : Array Value) : Prop := w.heap[g]? = some (.cells cs t (0, 0))

section
variable {w w' : World} {g : Nat} {t : TypeId} {cs : Array Value} {row : Option Nat}

theorem Holds.lt (h : Holds w g t cs) : g < w.heap.size := (Array.getElem?_eq_some_iff.1 h).1
theorem Holds.cell (h : Holds w g t cs) (i : Nat) : w.cell? ⟨g, i, none⟩ = cs[i]? := cell_of_row w g i cs t (0, 0) h
theorem Holds.free (h : Holds w g t cs) (i : Nat) : w.frozen? ⟨g, i, none⟩ = false := by
  unfold Holds at h
  simp [World.frozen?, h]
theorem Holds.new (w : World) (t : TypeId) (cs : Array Value) : Holds (w.alloc (.cells cs t)) w.heap.size t cs := heap_alloc_new w _
theorem Holds.drew (h : Holds w g t cs) : Holds w.drew g t cs := h
theorem Holds.alloc (h : Holds w g t cs) (o : Obj) : Holds (w.alloc o) g t cs := (Below.heap_alloc w o g h.lt).trans h
theorem Holds.set (h : Holds w g t cs) (i : Nat) (u : Value) : Holds (w.setCell ⟨g, i, none⟩ u) g t (cs.setIfInBounds i u) := by
  unfold Holds at h ⊢
  simp [World.setCell, Array.getElem?_modify, h]
theorem Holds.far (h : Holds w g t cs) {p : Addr} (hp : g ≠ p.block) (u : Value) : Holds (w.setCell p u) g t cs := (Below.heap_setCell w p u g hp).trans h
theorem Holds.put (h : Holds w g t cs) {l : Nat} (hl : g ≠ l) (o : Obj) : Holds (w.putObj l o) g t cs := (World.putObj_heap_other hl).trans h
theorem Holds.kept (h : Holds w g t cs) (hg : w.grownBy w' row) (hne : row ≠ some g) : Holds w' g t cs := (hg.block g h.lt (fun e => hne e.symm)).trans h

theorem grown_set {p : Addr} (h : w.grownBy w' row) (hp : row = some p.block ∨ w.heap.size ≤ p.block) (u : Value) : w.grownBy (w'.setCell p u) row :=
  ⟨h.os, h.tape, h.output, by simpa [World.setCell] using h.size, fun j hj hr => (Below.heap_setCell w' p u j (by
    rintro rfl
    rcases hp with hp | hp
    · exact hr hp.symm
    · omega)).trans (h.block j hj hr)⟩
theorem grown_alloc (h : w.grownBy w' row) (o : Obj) : w.grownBy (w'.alloc o) row :=
  ⟨h.os, h.tape, h.output, by have := h.size; simp; omega, fun j hj hr => (Below.heap_alloc w' o j (by have := h.size; omega)).trans (h.block j hj hr)⟩
theorem grown_put {l : Nat} (h : w.grownBy w' row) (hl : w.heap.size ≤ l) (o : Obj) : w.grownBy (w'.putObj l o) row :=
  ⟨h.os, h.tape, h.output, by simpa using h.size, fun j hj hr => (World.putObj_heap_other (by omega)).trans (h.block j hj hr)⟩
theorem grown_drew (h : w.grownBy w' row) : w.grownBy w'.drew row := ⟨h.os, h.tape, h.output, h.size, h.block⟩
theorem other_alloc {o o' : Obj} (h : w.heap[g]? = some o) : (w.alloc o').heap[g]? = some o := (Below.heap_alloc w o' g (Array.getElem?_eq_some_iff.1 h).1).trans h
theorem other_set {o : Obj} {p : Addr} (h : w.heap[g]? = some o) (hp : g ≠ p.block) (u : Value) : (w.setCell p u).heap[g]? = some o := (Below.heap_setCell w p u g hp).trans h
end

theorem Holds.new_at {w : World} {g : Nat} (t : TypeId) (cs : Array Value) (hg : w.heap.size = g) : Holds (w.alloc (.cells cs t)) g t cs := hg ▸ Holds.new w t cs
theorem alloc_at {w : World} {g : Nat} (o : Obj) (hg : w.heap.size = g) : (w.alloc o).heap[g]? = some o := hg ▸ World.alloc_heap_new w o
theorem Holds.new' (w : World) (g : Nat) (t : TypeId) (cs : Array Value) (h : g = w.heap.size) : Holds (w.alloc (.cells cs t)) g t cs := by rw [h]; exact Holds.new w t cs
theorem Holds.kept0 {w w' : World} {g : Nat} {t : TypeId} {cs : Array Value} (hg : w.grownBy w' none) (h : Holds w g t cs) : Holds w' g t cs := h.kept hg (by simp)
theorem hold2 {w : World} {g : Nat} {t : TypeId} {a b : Value} (h : Holds w g t #[a, b]) : w.cell? ⟨g, 0, none⟩ = some a ∧ w.cell? ⟨g, 1, none⟩ = some b := ⟨by simpa using h.cell 0, by simpa using h.cell 1⟩

theorem Holds.other {w : World} {b g : Nat} {t t' : TypeId} {cs cs' : Array Value} (h : Holds w b t cs) (h' : Holds w g t' cs') (ht : t ≠ t') : b ≠ g := by
  rintro rfl
  unfold Holds at h h'
  rw [h] at h'
  injection h' with h'
  injection h' with _ h'
  exact ht h'

theorem gcell {w w' : World} (h : w.grownBy w' none) : (∀ b o, b < w.heap.size → w'.cell? ⟨b, o, none⟩ = w.cell? ⟨b, o, none⟩) ∧ (∀ b o, b < w.heap.size → w'.frozen? ⟨b, o, none⟩ = w.frozen? ⟨b, o, none⟩) :=
  ⟨fun b o hb => (grown_below h).cell (p := ⟨b, o, none⟩) hb, fun b o hb => (grown_below h).frozen (p := ⟨b, o, none⟩) hb⟩

theorem Arr.of_holds {w : World} {g : Nat} {t : TypeId} {k : IntKind} {zs : List Int} (h : Holds w g t (zs.map (Value.int k)).toArray) : Arr w k (some ⟨g, 0, none⟩) zs := fun _ =>
  ⟨g, 0, rfl, h.lt, fun i hi => by rw [h.cell]; simp [hi, List.getD]⟩

/-- A loop's record, as the statement lays it. -/
def recOf (fn : FuncId) (tmps : Array Value) (ps : Array Tmp) (assign body : Code) (D : Nat) (st : LoopState) (pe : Option Code) : Loop :=
  { state := st, pending := pe, fn, tmps, params := ps, assign, body, defers := D }

variable {P : Program}

/-- ONE ROUND: what the walk of the assignment and of the body must leave; R: what the iterator is told, and the world then. -/
theorem round_wide {rc : LoopState → Option Code → Loop} {l D : Nat} {fn : FuncId} {tmps args : Array Value} {ps : Array Tmp} {assign body : Code} {W : World} {R : Ending → World → Prop}
    (hrc : rc = recOf fn tmps ps assign body D) (hl : W.heap[l]? = some (.loop (rc .ready none))) (hs : args.size = ps.size)
    (h : ∀ K : Act → World → Prop, (∀ a₁, body.wpIn (Fence.wide.inRound l) 0 P (fun e _ W3 =>
        W3.heap[l]? = some (.loop (rc .busy none)) ∧
        (match e with
         | .normal => R (.returned (.bool true)) (W3.putObj l (.loop (rc .ready none)))
         | .ret => R (.returned (.bool false)) (W3.putObj l (.loop (rc .done (some .ret))))
         | .exit id => R (.returned (.bool false)) (W3.putObj l (.loop (rc .done (some (.exit id)))))
         | _ => False)) a₁ (W.putObj l (.loop (rc .busy none))) → K a₁ W) →
      assign.wpIn (Fence.wide.inRound l) 0 P (Exit.then K (fun _ _ _ => False)) { tmps := (ps.zip args).foldl (fun t (p, v) => t.setIfInBounds p v) tmps, defers := [] } W) :
    YieldAt Fence.wide 0 P l args W R := by
  subst hrc
  refine ⟨fn, _, assign, body, run_yield hl hs, roundIn_of_wpIn trivial (wpIn_mono (h (fun a₁ w₁ => w₁ = W ∧ body.wpIn (Fence.wide.inRound l) 0 P _ a₁ (W.putObj l (.loop (recOf fn tmps ps assign body D .busy none)))) (fun _ hb => ⟨rfl, hb⟩)) ?_)⟩
  rintro e a₁ w₁ hq
  cases e with
  | normal =>
    obtain ⟨rfl, hb⟩ := hq
    refine ⟨_, run_beginRound hl rfl, wpIn_mono hb ?_⟩
    rintro e a3 W3 ⟨hl3, hp⟩
    cases e with
    | normal => exact ⟨_, _, run_endRound none hl3, hp⟩
    | ret => exact ⟨_, _, run_endRound (some .ret) hl3, hp⟩
    | exit id => exact ⟨_, _, run_endRound (some (.exit id)) hl3, hp⟩
    | goto t => exact hp.elim
    | panic ch => exact hp.elim
    | outgrown => exact hp.elim
  | ret => exact hq.elim
  | exit id => exact hq.elim
  | goto t => exact hq.elim
  | panic ch => exact hq.elim
  | outgrown => exact hq.elim

/-- THE STATEMENT: the iterator is called once; behind it the record says how the rounds ended. -/
theorem range_wide {g : Operand} {ps : Array Tmp} {assign body : Code} {Q : Exit → Act → World → Prop} {a : Act} {w : World} {gf : Nat} {lb : Array Value}
    (hg : a.eval g = .func (.func gf) #[] lb) (eg : ∀ args w, (callFunc gf args).run P w = .ok (.enter gf args) w)
    (h : ∀ fn (rc : LoopState → Option Code → Loop), rc = recOf fn a.tmps ps assign body w.heap.size → CallsIn Fence.wide 0 P gf (#[.func (.yield (w.heap.size + 1)) #[] #[]] ++ lb)
      ((w.alloc (.deferred (some []))).alloc (.loop (rc .ready none)))
      (fun e W2 => (∃ v, e = .returned v) ∧
        ((W2.heap[w.heap.size + 1]? = some (.loop (rc .ready none)) ∧
          ∀ o, Q .normal { a with defers := { target := .collected w.heap.size, args := #[] } :: a.defers } (W2.putObj (w.heap.size + 1) o)) ∨
         (∃ c, W2.heap[w.heap.size + 1]? = some (.loop (rc .done (some c))) ∧
          ∀ o, c.wpIn Fence.wide 0 P Q { a with defers := { target := .collected w.heap.size, args := #[] } :: a.defers } (W2.putObj (w.heap.size + 1) o))))) :
    (Code.rangeFunc g ps assign body).wpIn Fence.wide 0 P Q a w := by
  refine wpIn_rangeFunc ?_
  intro fn _
  have h := h fn _ rfl
  have hro : Fence.wide.round = none := rfl
  rw [hro]
  obtain ⟨W1, hW1⟩ : ∃ W1, (w.alloc (.deferred (some []))).alloc (.loop (recOf fn a.tmps ps assign body w.heap.size .ready none)) = W1 := ⟨_, rfl⟩
  rw [hW1] at h
  refine ⟨w.heap.size + 1, [{ target := .collected w.heap.size, args := #[] }], W1, { target := .fn (.func gf) lb, args := #[.func (.yield (w.heap.size + 1)) #[] #[]] }, W1, gf,
    #[.func (.yield (w.heap.size + 1)) #[] #[]] ++ lb, W1, ?_, ?_, ?_, ?_, ?_, ?_⟩
  · rw [← hW1]; exact run_enterLoop_outer _ _ _ _ _
  · simp only [resolve, hg]
    simp [go_sem]
  · intro f' _; trivial
  · simp [invoke, go_sem, eg]
  · intro hn; cases hn
  · refine CallsIn.mono h ?_
    rintro e W2 ⟨⟨v, rfl⟩, ⟨hl, hq⟩ | ⟨c, hl, hq⟩⟩
    · exact ⟨none, _, run_endLoop hl (fun e => by cases e), hq _⟩
    · exact ⟨some c, _, run_endLoop hl (fun e => by cases e), hq _⟩

end Go.Proofs.Ytojbfjlihenjaaa
