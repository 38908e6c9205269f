/- What a slice of integers reads as, in a world: my own words for memory, of no program. A slice's address is asked for only where the list is not empty. Appending to a row of the call's own: one integer more, or all of another slice; of no program. A range over a function whose iterator keeps its state in cells: the loop's record, round by round, at the wide fence; of no program. A region that draws its order, all of whose operations but the last few only read: one walk in the text's order, at the wide fence, in a round or not; of no program. -/
import Derived.WalkKit
import Derived.Maps.AppendAt
import Derived.RangeFuncNested
import Derived.RangeFuncCalls
import Derived.RangeFuncLeaves
import Derived.StillTailTactics
import Derived.OrdersIn
import Derived.TacticsIn
set_option linter.unusedSimpArgs false
set_option linter.unusedVariables false
namespace Go.Proofs.Ytojbkhheaondhaa
open Go.RowKit

/-- A fact put aside, so that the walk does not take it for a rule. -/
theorem hid {p : Prop} (h : p) : Hid p := h

/-- The address A leads to the integers zs, one cell each. -/
def Arr (w : World) (k : IntKind) (A : Option Addr) (zs : List Int) : Prop :=
  zs ≠ [] → ∃ b off, A = some ⟨b, off, none⟩ ∧ b < w.heap.size ∧ ∀ i, i < zs.length → w.cell? ⟨b, off + i, none⟩ = some (.int k (zs.getD i 0))

section
variable {w w' w'' : World} {k : IntKind} {A : Option Addr} {zs : List Int} {row : Option Nat}

theorem Arr.nil (A : Option Addr) : Arr w k A [] := fun h => absurd rfl h

theorem Arr.at_ (h : Arr w k A zs) {i : Nat} (hi : i < zs.length) :
    ∃ b off, A = some ⟨b, off, none⟩ ∧ b < w.heap.size ∧ ∀ j, j < zs.length → w.cell? ⟨b, off + j, none⟩ = some (.int k (zs.getD j 0)) :=
  h (by intro e; subst e; simp at hi)

/-- It reads on, where its block has not turned. -/
theorem Arr.kept (h : Arr w k A zs) (hg : w.grownBy w' row) (hne : ∀ a, zs ≠ [] → A = some a → row ≠ some a.block) : Arr w' k A zs := fun hz => by
  obtain ⟨b, off, rfl, hb, hc⟩ := h hz
  refine ⟨b, off, rfl, Nat.lt_of_lt_of_le hb hg.size, fun i hi => ?_⟩
  exact (World.cell?_of_block (hg.block b hb (fun e => hne _ hz rfl e.symm))).trans (hc i hi)

theorem Arr.grown (h : Arr w k A zs) (hg : w.grownBy w' none) : Arr w' k A zs := h.kept hg (fun _ _ _ => by simp)

/-- A beginning of it. -/
theorem Arr.take (h : Arr w k A zs) (n : Nat) : Arr w k A (zs.take n) := fun hz => by
  obtain ⟨b, off, rfl, hb, hc⟩ := h (by intro e; subst e; simp at hz)
  refine ⟨b, off, rfl, hb, fun i hi => ?_⟩
  simp only [List.length_take] at hi
  rw [hc i (by omega)]
  simp [List.getD, show i < n by omega]

theorem grown_refl (w : World) (row : Option Nat) : w.grownBy w row := ⟨rfl, rfl, rfl, Nat.le_refl _, fun _ _ _ => rfl⟩

theorem grown_trans (h : w.grownBy w' none) (h' : w'.grownBy w'' none) : w.grownBy w'' none :=
  ⟨h'.os.trans h.os, h'.tape.trans h.tape, h'.output.trans h.output, Nat.le_trans h.size h'.size,
    fun j hj _ => (h'.block j (Nat.lt_of_lt_of_le hj h.size) (by simp)).trans (h.block j hj (by simp))⟩

/-- A step that turns one row, behind one that turned none. -/
theorem grown_trans_row {B : Nat} (h : w.grownBy w' none) (hB : w.heap.size ≤ B) (h' : w'.grownBy w'' (some B)) : w.grownBy w'' none :=
  ⟨h'.os.trans h.os, h'.tape.trans h.tape, h'.output.trans h.output, Nat.le_trans h.size h'.size,
    fun j hj _ => (h'.block j (Nat.lt_of_lt_of_le hj h.size) (by simp; omega)).trans (h.block j hj (by simp))⟩

theorem grown_row (h : w.grownBy w' none) (row : Option Nat) : w.grownBy w' row := ⟨h.os, h.tape, h.output, h.size, fun j hj _ => h.block j hj (by simp)⟩

theorem grown_trans_same (h : w.grownBy w' row) (h' : w'.grownBy w'' row) : w.grownBy w'' row :=
  ⟨h'.os.trans h.os, h'.tape.trans h.tape, h'.output.trans h.output, Nat.le_trans h.size h'.size,
    fun j hj hr => (h'.block j (Nat.lt_of_lt_of_le hj h.size) hr).trans (h.block j hj hr)⟩

/-- The row that is turned is newer than all that was. -/
theorem grown_new (h : w.grownBy w' row) (hr : ∀ j, row = some j → w.heap.size ≤ j) : w.grownBy w' none :=
  ⟨h.os, h.tape, h.output, h.size, fun j hj _ => h.block j hj (by intro e; have := hr j e.symm; omega)⟩

theorem grown_below (h : w.grownBy w' none) : Below w.heap.size w w' := ⟨h.os, h.tape, h.output, h.size, fun j hj => h.block j hj (by simp)⟩
theorem below_grown (h : Below w.heap.size w w') : w.grownBy w' none := ⟨h.os, h.tape, h.output, h.size, fun j hj _ => h.block j hj⟩

/-- What the call owns reads as its integers. -/
theorem Arr.of_own {base e n c : Nat} (h : w.ownsRow base e 1 (.slice A n c) n (zs.map (Value.int k))) : Arr w k A zs := fun hz => by
  obtain ⟨hl, h⟩ := h
  have hn : n = zs.length := by simpa using hl.symm
  rcases h with ⟨hv, rfl⟩ | ⟨g, cap, cur, hv, _, hg, hnc, hm, hs, ht⟩
  · exact absurd (List.eq_nil_of_length_eq_zero hn.symm) hz
  · injection hv with h1 h2 h3
    subst h1 h3
    refine ⟨g, 0, rfl, (Array.getElem?_eq_some_iff.1 hg).1, fun i hi => ?_⟩
    rw [cell_of_row w g (0 + i) cur e (0, 0) hg, Nat.zero_add]
    have : (cur.toList.take (n * 1))[i]? = some (Value.int k (zs.getD i 0)) := by rw [ht]; simp [List.getD, hi]
    rw [List.getElem?_take] at this
    split at this
    · simpa using this
    · cases this

/-- The capacity of what the call owns. -/
theorem own_cap {base e n m c : Nat} {xs : List Value} (h : w.ownsRow base e 1 (.slice A m c) n xs) : m = n ∧ n ≤ c ∧ c ≤ maxLen := by
  rcases h.2 with ⟨hv, rfl⟩ | ⟨g, cap, cur, hv, _, hg, hnc, hm, hs, ht⟩
  · injection hv with h1 h2 h3
    subst h2 h3
    exact ⟨rfl, by omega, by omega⟩
  · injection hv with h1 h2 h3
    subst h2 h3
    exact ⟨rfl, hnc, hm⟩

theorem own_form {base e n : Nat} {v : Value} {xs : List Value} (h : w.ownsRow base e 1 v n xs) : ∃ A c, v = .slice A n c ∧ n ≤ c ∧ c ≤ maxLen := by
  rcases h.2 with ⟨rfl, rfl⟩ | ⟨g, cap, cur, rfl, _, hg, hnc, hm, hs, ht⟩
  · exact ⟨none, 0, rfl, by omega, by omega⟩
  · exact ⟨_, cap, rfl, hnc, hm⟩
end
end Go.Proofs.Ytojbkhheaondhaa

namespace Go.Proofs.Ytojbkhheaondhaa
open Go.RowKit

theorem below_of_grown {B : Nat} {w w' : World} {row : Option Nat} (h : w.grownBy w' row) (hB : B ≤ w.heap.size) (hr : ∀ j, row = some j → B ≤ j) : Below B w w' :=
  ⟨h.os, h.tape, h.output, h.size, fun j hj => h.block j (by omega) (fun e => by have := hr j e.symm; omega)⟩

variable {P : Program} {ops : Array Oper} {rest : List Oper} {o : Oper} {a : Act} {Q : Exit → Act → World → Prop}

/-- One integer more. -/
theorem wpList_push (hgd : o.guard = none) (s x : Operand) (t : TypeId) (ho : o.op = .call { callee := .builtin .append, args := #[s, x], argTypes := #[t, t] })
    (base : Nat) (e : TypeId) (i : TypeInfo) (k : IntKind) (bytes : Nat) (ht : P.underlying t = some (.slice e)) (hi : P.info? e = some i) (hz : i.zero = some (.int k 0)) (hsize : i.size = 1) (hby : i.bytes = bytes)
    (v : Value) (xs : List Int) (y : Int) (w : World) (hown : w.ownsRow base e 1 v xs.length (xs.map (Value.int k))) (hs : a.eval s = v)
    (hx : a.eval x = .slice (some ⟨w.heap.size, 0, none⟩) 1 1) (hb8 : bytes ≤ 8) (hlen : xs.length ≤ 1099511627776) (hbase : base ≤ w.heap.size)
    (h : ∀ v' w', w'.ownsRow base e 1 v' (xs ++ [y]).length ((xs ++ [y]).map (Value.int k)) → Below base w w' → wpList P ops Q rest (a.put o.dst v') w') :
    wpList P ops Q (o :: rest) a (w.alloc (.cells #[.int k y] e)) := by
  refine wpList_append_own (w.alloc (.cells #[.int k y] e)) hgd s x t ho base e i (.int k 0) 1 bytes ht hi hz hsize hby rfl (by decide) v xs.length (xs.map (Value.int k)) hs (hown.alloc _) ⟨w.heap.size, 0, none⟩ 1 1 [.int k y] hx rfl
    (cell_one_new _ _ _) (by simp [Value.oneCell']) (by unfold maxLen; omega) ?_ (by simp; omega) ?_
  · have : (xs.length + 1) * bytes ≤ (xs.length + 1) * 8 := Nat.mul_le_mul_left _ hb8
    omega
  · intro v' w' h1 h2 _
    refine h v' w' (by simpa using h1) ?_
    have hlt := hown.lt
    refine (((Below.refl base w).alloc hbase _).trans (below_of_grown h2 (by simp; omega) (fun j hj => (hlt j hj).1)))

theorem add_lit (b off j : Nat) : (⟨b, off, none⟩ : Addr).add j = ⟨b, off + j, none⟩ := by
  unfold Addr.add; split <;> simp_all

/-- An address and a cut behind it. -/
theorem Arr.drop {w : World} {k : IntKind} {A : Option Addr} {zs : List Int} (h : Arr w k A zs) {i c : Nat} (hc : zs.length ≤ c) :
    Arr w k (if c = i then A else A.map (fun x => x.add i)) (zs.drop i) := fun hz => by
  have hi : i < zs.length := by
    rcases Nat.lt_or_ge i zs.length with h1 | h1
    · exact h1
    · exact absurd (List.drop_eq_nil_of_le h1) hz
  obtain ⟨b, off, rfl, hb, hcell⟩ := h.at_ hi
  rw [if_neg (by omega)]
  refine ⟨b, off + i, by simp [add_lit], hb, fun j hj => ?_⟩
  simp only [List.length_drop] at hj
  rw [Nat.add_assoc, hcell (i + j) (by omega)]
  simp [List.getD]

theorem run_append_nothing (w : World) (base : Nat) (t ty e : TypeId) (i : TypeInfo) (size : Nat) (ht : P.underlying t = some (.slice e)) (hi : P.info? e = some i)
    (v : Value) (n : Nat) (xs : List Value) (hown : w.ownsRow base e size v n xs) (c : Nat) : (Builtin.append_ #[t, t] ty #[v, .slice none 0 c]).run P w = .ok v w := by
  rcases hown.2 with ⟨rfl, _⟩ | ⟨g, cap, cur, rfl, _, _, hnc, _⟩
  · simp [Builtin.append_, run_underlying ht, sizeOf, typeInfo, hi, Builtin.lenOf, Builtin.firstCells]
  · simp [Builtin.append_, run_underlying ht, sizeOf, typeInfo, hi, Builtin.lenOf, Builtin.firstCells, hnc, storeCells]

/-- All of a slice that reads as integers, nil or not. -/
theorem wpList_append_all (hgd : o.guard = none) (s x : Operand) (t : TypeId) (ho : o.op = .call { callee := .builtin .append, args := #[s, x], argTypes := #[t, t] })
    (base : Nat) (e : TypeId) (i : TypeInfo) (k : IntKind) (bytes : Nat) (ht : P.underlying t = some (.slice e)) (hi : P.info? e = some i) (hz : i.zero = some (.int k 0)) (hsize : i.size = 1) (hby : i.bytes = bytes)
    (v : Value) (xs zs : List Int) (A : Option Addr) (m c : Nat) (w : World) (hown : w.ownsRow base e 1 v xs.length (xs.map (Value.int k))) (hA : Arr w k A zs) (hs : a.eval s = v)
    (hx : a.eval x = .slice A m c) (hm : zs.length = m) (hb8 : bytes ≤ 8) (hlen : xs.length + zs.length ≤ 1099511627776) (hbase : base ≤ w.heap.size)
    (h : ∀ v' w', w'.ownsRow base e 1 v' (xs ++ zs).length ((xs ++ zs).map (Value.int k)) → Below base w w' → wpList P ops Q rest (a.put o.dst v') w') :
    wpList P ops Q (o :: rest) a w := by
  subst hm
  cases A with
  | none =>
    have hzs : zs = [] := by
      by_cases hz : zs = []
      · exact hz
      · obtain ⟨_, _, h0, _⟩ := hA hz
        cases h0
    subst hzs
    refine wpList_plain hgd fun K hK => ?_
    have hrun := run_append_nothing (P := P) w base t o.type e i 1 ht hi v xs.length _ hown c
    unfold Oper.wp
    simp only [List.length_nil] at hx
    simp [execOp, ho, resolve, invoke, builtin, hs, hx, hrun, Result.andThen]
    exact hK _ _ (h v w (by simpa using hown) (Below.refl _ _))
  | some ad =>
    have hnews : ∀ (j : Nat) (u : Value), (zs.map (Value.int k))[j]? = some u → w.cell? (ad.add j) = some u := by
      intro j u hj
      have hjl : j < zs.length := by
        have := (List.getElem?_eq_some_iff.1 hj).1
        simpa using this
      obtain ⟨b, off, h0, _, hc⟩ := hA.at_ hjl
      injection h0 with h0
      subst h0
      rw [add_lit, hc j hjl]
      simp [hjl] at hj
      simp [List.getD, hjl, hj]
    refine wpList_append_own w hgd s x t ho base e i (.int k 0) 1 bytes ht hi hz hsize hby rfl (by decide) v xs.length (xs.map (Value.int k)) hs hown ad zs.length c (zs.map (Value.int k)) hx (by simp) hnews
      (by simp [Value.oneCell']) (by unfold maxLen; omega) ?_ hbase ?_
    · have : (xs.length + zs.length) * bytes ≤ (xs.length + zs.length) * 8 := Nat.mul_le_mul_left _ hb8
      omega
    · intro v' w' h1 h2 _
      have hlt := hown.lt
      exact h v' w' (by simpa using h1) (below_of_grown h2 hbase (fun j hj => (hlt j hj).1))

end Go.Proofs.Ytojbkhheaondhaa

namespace Go.Proofs.Ytojbkhheaondhaa
open Go.RowKit

/-- Block g holds just the cells cs of type t. -/
def Holds (w : World) (g : Nat) (t : TypeId) (cs : Array Value) : Prop := w.heap[g]? = some (.cells cs t (0, 0))

section
variable {w w' : World} {g : Nat} {t : TypeId} {cs : Array Value} {row : Option Nat}

theorem Holds.lt (h : Holds w g t cs) : g < w.heap.size := (Array.getElem?_eq_some_iff.1 h).1
theorem Holds.cell (h : Holds w g t cs) (i : Nat) : w.cell? ⟨g, i, none⟩ = cs[i]? := cell_of_row w g i cs t (0, 0) h
theorem Holds.free (h : Holds w g t cs) (i : Nat) : w.frozen? ⟨g, i, none⟩ = false := by
  unfold Holds at h
  simp [World.frozen?, h]
theorem Holds.new (w : World) (t : TypeId) (cs : Array Value) : Holds (w.alloc (.cells cs t)) w.heap.size t cs := heap_alloc_new w _
theorem Holds.drew (h : Holds w g t cs) : Holds w.drew g t cs := h
theorem Holds.alloc (h : Holds w g t cs) (o : Obj) : Holds (w.alloc o) g t cs := (Below.heap_alloc w o g h.lt).trans h
theorem Holds.set (h : Holds w g t cs) (i : Nat) (u : Value) : Holds (w.setCell ⟨g, i, none⟩ u) g t (cs.setIfInBounds i u) := by
  unfold Holds at h ⊢
  simp [World.setCell, Array.getElem?_modify, h]
theorem Holds.far (h : Holds w g t cs) {p : Addr} (hp : g ≠ p.block) (u : Value) : Holds (w.setCell p u) g t cs := (Below.heap_setCell w p u g hp).trans h
theorem Holds.put (h : Holds w g t cs) {l : Nat} (hl : g ≠ l) (o : Obj) : Holds (w.putObj l o) g t cs := (World.putObj_heap_other hl).trans h
theorem Holds.kept (h : Holds w g t cs) (hg : w.grownBy w' row) (hne : row ≠ some g) : Holds w' g t cs := (hg.block g h.lt (fun e => hne e.symm)).trans h

theorem grown_set {p : Addr} (h : w.grownBy w' row) (hp : row = some p.block ∨ w.heap.size ≤ p.block) (u : Value) : w.grownBy (w'.setCell p u) row :=
  ⟨h.os, h.tape, h.output, by simpa [World.setCell] using h.size, fun j hj hr => (Below.heap_setCell w' p u j (by
    rintro rfl
    rcases hp with hp | hp
    · exact hr hp.symm
    · omega)).trans (h.block j hj hr)⟩
theorem grown_alloc (h : w.grownBy w' row) (o : Obj) : w.grownBy (w'.alloc o) row :=
  ⟨h.os, h.tape, h.output, by have := h.size; simp; omega, fun j hj hr => (Below.heap_alloc w' o j (by have := h.size; omega)).trans (h.block j hj hr)⟩
theorem grown_put {l : Nat} (h : w.grownBy w' row) (hl : w.heap.size ≤ l) (o : Obj) : w.grownBy (w'.putObj l o) row :=
  ⟨h.os, h.tape, h.output, by simpa using h.size, fun j hj hr => (World.putObj_heap_other (by omega)).trans (h.block j hj hr)⟩
theorem grown_drew (h : w.grownBy w' row) : w.grownBy w'.drew row := ⟨h.os, h.tape, h.output, h.size, h.block⟩
theorem other_alloc {o o' : Obj} (h : w.heap[g]? = some o) : (w.alloc o').heap[g]? = some o := (Below.heap_alloc w o' g (Array.getElem?_eq_some_iff.1 h).1).trans h
theorem other_set {o : Obj} {p : Addr} (h : w.heap[g]? = some o) (hp : g ≠ p.block) (u : Value) : (w.setCell p u).heap[g]? = some o := (Below.heap_setCell w p u g hp).trans h
end

theorem Holds.new_at {w : World} {g : Nat} (t : TypeId) (cs : Array Value) (hg : w.heap.size = g) : Holds (w.alloc (.cells cs t)) g t cs := hg ▸ Holds.new w t cs
theorem alloc_at {w : World} {g : Nat} (o : Obj) (hg : w.heap.size = g) : (w.alloc o).heap[g]? = some o := hg ▸ World.alloc_heap_new w o
theorem Holds.new' (w : World) (g : Nat) (t : TypeId) (cs : Array Value) (h : g = w.heap.size) : Holds (w.alloc (.cells cs t)) g t cs := by rw [h]; exact Holds.new w t cs
theorem Holds.kept0 {w w' : World} {g : Nat} {t : TypeId} {cs : Array Value} (hg : w.grownBy w' none) (h : Holds w g t cs) : Holds w' g t cs := h.kept hg (by simp)
theorem hold2 {w : World} {g : Nat} {t : TypeId} {a b : Value} (h : Holds w g t #[a, b]) : w.cell? ⟨g, 0, none⟩ = some a ∧ w.cell? ⟨g, 1, none⟩ = some b := ⟨by simpa using h.cell 0, by simpa using h.cell 1⟩

theorem Holds.other {w : World} {b g : Nat} {t t' : TypeId} {cs cs' : Array Value} (h : Holds w b t cs) (h' : Holds w g t' cs') (ht : t ≠ t') : b ≠ g := by
  rintro rfl
  unfold Holds at h h'
  rw [h] at h'
  injection h' with h'
  injection h' with _ h'
  exact ht h'

theorem gcell {w w' : World} (h : w.grownBy w' none) : (∀ b o, b < w.heap.size → w'.cell? ⟨b, o, none⟩ = w.cell? ⟨b, o, none⟩) ∧ (∀ b o, b < w.heap.size → w'.frozen? ⟨b, o, none⟩ = w.frozen? ⟨b, o, none⟩) :=
  ⟨fun b o hb => (grown_below h).cell (p := ⟨b, o, none⟩) hb, fun b o hb => (grown_below h).frozen (p := ⟨b, o, none⟩) hb⟩

theorem Arr.of_holds {w : World} {g : Nat} {t : TypeId} {k : IntKind} {zs : List Int} (h : Holds w g t (zs.map (Value.int k)).toArray) : Arr w k (some ⟨g, 0, none⟩) zs := fun _ =>
  ⟨g, 0, rfl, h.lt, fun i hi => by rw [h.cell]; simp [hi, List.getD]⟩

/-- A loop's record, as the statement lays it. -/
def recOf (fn : FuncId) (tmps : Array Value) (ps : Array Tmp) (assign body : Code) (D : Nat) (st : LoopState) (pe : Option Code) : Loop :=
  { state := st, pending := pe, fn, tmps, params := ps, assign, body, defers := D }

variable {P : Program}

/-- ONE ROUND: what the walk of the assignment and of the body must leave; R: what the iterator is told, and the world then. -/
theorem round_wide {rc : LoopState → Option Code → Loop} {l D : Nat} {fn : FuncId} {tmps args : Array Value} {ps : Array Tmp} {assign body : Code} {W : World} {R : Ending → World → Prop}
    (hrc : rc = recOf fn tmps ps assign body D) (hl : W.heap[l]? = some (.loop (rc .ready none))) (hs : args.size = ps.size)
    (h : ∀ K : Act → World → Prop, (∀ a₁, body.wpIn (Fence.wide.inRound l) 0 P (fun e _ W3 =>
        W3.heap[l]? = some (.loop (rc .busy none)) ∧
        (match e with
         | .normal => R (.returned (.bool true)) (W3.putObj l (.loop (rc .ready none)))
         | .ret => R (.returned (.bool false)) (W3.putObj l (.loop (rc .done (some .ret))))
         | .exit id => R (.returned (.bool false)) (W3.putObj l (.loop (rc .done (some (.exit id)))))
         | _ => False)) a₁ (W.putObj l (.loop (rc .busy none))) → K a₁ W) →
      assign.wpIn (Fence.wide.inRound l) 0 P (Exit.then K (fun _ _ _ => False)) { tmps := (ps.zip args).foldl (fun t (p, v) => t.setIfInBounds p v) tmps, defers := [] } W) :
    YieldAt Fence.wide 0 P l args W R := by
  subst hrc
  refine ⟨fn, _, assign, body, run_yield hl hs, roundIn_of_wpIn trivial (wpIn_mono (h (fun a₁ w₁ => w₁ = W ∧ body.wpIn (Fence.wide.inRound l) 0 P _ a₁ (W.putObj l (.loop (recOf fn tmps ps assign body D .busy none)))) (fun _ hb => ⟨rfl, hb⟩)) ?_)⟩
  rintro e a₁ w₁ hq
  cases e with
  | normal =>
    obtain ⟨rfl, hb⟩ := hq
    refine ⟨_, run_beginRound hl rfl, wpIn_mono hb ?_⟩
    rintro e a3 W3 ⟨hl3, hp⟩
    cases e with
    | normal => exact ⟨_, _, run_endRound none hl3, hp⟩
    | ret => exact ⟨_, _, run_endRound (some .ret) hl3, hp⟩
    | exit id => exact ⟨_, _, run_endRound (some (.exit id)) hl3, hp⟩
    | goto t => exact hp.elim
    | panic ch => exact hp.elim
    | outgrown => exact hp.elim
  | ret => exact hq.elim
  | exit id => exact hq.elim
  | goto t => exact hq.elim
  | panic ch => exact hq.elim
  | outgrown => exact hq.elim

/-- THE STATEMENT: the iterator is called once; behind it the record says how the rounds ended. -/
theorem range_wide {g : Operand} {ps : Array Tmp} {assign body : Code} {Q : Exit → Act → World → Prop} {a : Act} {w : World} {gf : Nat} {lb : Array Value}
    (hg : a.eval g = .func (.func gf) #[] lb) (eg : ∀ args w, (callFunc gf args).run P w = .ok (.enter gf args) w)
    (h : ∀ fn (rc : LoopState → Option Code → Loop), rc = recOf fn a.tmps ps assign body w.heap.size → CallsIn Fence.wide 0 P gf (#[.func (.yield (w.heap.size + 1)) #[] #[]] ++ lb)
      ((w.alloc (.deferred (some []))).alloc (.loop (rc .ready none)))
      (fun e W2 => (∃ v, e = .returned v) ∧
        ((W2.heap[w.heap.size + 1]? = some (.loop (rc .ready none)) ∧
          ∀ o, Q .normal { a with defers := { target := .collected w.heap.size, args := #[] } :: a.defers } (W2.putObj (w.heap.size + 1) o)) ∨
         (∃ c, W2.heap[w.heap.size + 1]? = some (.loop (rc .done (some c))) ∧
          ∀ o, c.wpIn Fence.wide 0 P Q { a with defers := { target := .collected w.heap.size, args := #[] } :: a.defers } (W2.putObj (w.heap.size + 1) o))))) :
    (Code.rangeFunc g ps assign body).wpIn Fence.wide 0 P Q a w := by
  refine wpIn_rangeFunc ?_
  intro fn _
  have h := h fn _ rfl
  have hro : Fence.wide.round = none := rfl
  rw [hro]
  obtain ⟨W1, hW1⟩ : ∃ W1, (w.alloc (.deferred (some []))).alloc (.loop (recOf fn a.tmps ps assign body w.heap.size .ready none)) = W1 := ⟨_, rfl⟩
  rw [hW1] at h
  refine ⟨w.heap.size + 1, [{ target := .collected w.heap.size, args := #[] }], W1, { target := .fn (.func gf) lb, args := #[.func (.yield (w.heap.size + 1)) #[] #[]] }, W1, gf,
    #[.func (.yield (w.heap.size + 1)) #[] #[]] ++ lb, W1, ?_, ?_, ?_, ?_, ?_, ?_⟩
  · rw [← hW1]; exact run_enterLoop_outer _ _ _ _ _
  · simp only [resolve, hg]
    simp [go_sem]
  · intro f' _; trivial
  · simp [invoke, go_sem, eg]
  · intro hn; cases hn
  · refine CallsIn.mono h ?_
    rintro e W2 ⟨⟨v, rfl⟩, ⟨hl, hq⟩ | ⟨c, hl, hq⟩⟩
    · exact ⟨none, _, run_endLoop hl (fun e => by cases e), hq _⟩
    · exact ⟨some c, _, run_endLoop hl (fun e => by cases e), hq _⟩

end Go.Proofs.Ytojbkhheaondhaa

namespace Go.Proofs.Ytojbkhheaondhaa
open Go.RowKit

/-- The wide fence, in round r or in none. -/
def wideAt (r : Option Nat) : Fence := { fn := fun _ => True, depth := none, alive := false, round := r }

theorem wideAt_calls {r : Option Nat} {n : Nat} {P : Program} {f : FuncId} {args : Array Value} {w : World} {R : Ending → World → Prop} (h : Calls P f args w R) : CallsIn (wideAt r) n P f args w R :=
  (callsIn_wide (n := n)).2 h

variable {P : Program} {ops : Array Oper} {md : Region.Mode} {w : World} {r : Option Nat} {n : Nat}

def noDefer (o : Oper) : Bool := match o.op with | .defer _ => false | _ => true

theorem semAt_plain {o : Oper} (h : noDefer o = true) (ρ : Operand → Value) : o.semAt r ρ = execOp ρ o := by
  cases r with
  | none => rfl
  | some l =>
    refine Oper.semAt_some l ρ o fun c hc => ?_
    unfold noDefer at h
    rw [hc] at h
    cases h

theorem wpIn_of_still {o : Oper} {a : Act} {K : Act → Prop} {K' : Act → World → Prop} {Q' : Exit → Act → World → Prop} (hd : noDefer o = true) (h : ∀ a, K a → K' a w) (hh : o.still P a w K) :
    o.wpIn (wideAt r) n P a w K' Q' := by
  refine ⟨fun _ _ => trivial, ?_⟩
  show o.uponIn (wideAt r) n P a K' Q' ((o.semAt r a.eval).run P w)
  rw [semAt_plain hd]
  unfold Oper.still at hh
  generalize (execOp a.eval o).run P w = res at *
  cases res with
  | ok x w' =>
    cases x <;> simp only [Oper.stillUpon] at hh <;> simp only [Oper.uponIn]
    case enter f args =>
      obtain ⟨rfl, v, hc, hn⟩ := hh
      refine ⟨(fun e => (by cases e)), ?_⟩
      refine CallsIn.mono (wideAt_calls hc) (fun e w'' he => ?_)
      obtain ⟨rfl, rfl⟩ := he
      exact h _ hn
    all_goals (obtain ⟨rfl, h2⟩ := hh; exact h _ h2)
  | halt x w' => simp only [Oper.stillUpon] at hh

theorem wpOpIn_of_stOp {i : Nat} {a : Act} {K : Act → Prop} {K' : Act → World → Prop} {Q' : Exit → Act → World → Prop} (hd : ∀ o, ops[i]? = some o → noDefer o = true) (h : ∀ a, K a → K' a w)
    (hh : stOp P ops w i K a) : wpOpIn (wideAt r) n P ops Q' i K' a w := by
  unfold stOp at hh
  unfold wpOpIn
  split
  · rename_i ho; simp only [ho] at hh; exact h _ hh
  · rename_i o ho
    simp only [ho] at hh
    split
    · rename_i hw; simp only [hw, if_true] at hh; exact wpIn_of_still (hd o ho) h hh
    · rename_i hw; simp only [hw] at hh; exact ⟨fun _ _ => trivial, h _ hh⟩

theorem wpAnyIn_of_head {m g : Nat} {L : Array Bool → Act → Prop} {Q' : Exit → Act → World → Prop} (hd : ∀ (i : Nat) (o : Oper), ops[i]? = some o → noDefer o = true)
    (hL : ∀ listed a, L listed a → wpAnyIn (wideAt r) n P md ops Q' g listed a w) :
    ∀ (f : Nat) (listed : Array Bool) (a : Act), wpAnyL P md ops w m L f listed a → wpAnyIn (wideAt r) n P md ops Q' (f + g) listed a w
  | 0, listed, a, h => by rw [Nat.zero_add]; exact hL _ _ h
  | f + 1, listed, a, h => by
    rw [show f + 1 + g = (f + g) + 1 by omega]
    exact ⟨fun h0 => absurd h0 h.1, fun i hi => wpOpIn_of_stOp (hd i) (fun a' h' => wpAnyIn_of_head hd hL f _ a' h') (h.2 i hi).2⟩

theorem wpAnyIn_of_seq {F : Fence} {Q' : Exit → Act → World → Prop} : ∀ (l : List Oper) (k : Nat) (listed : Array Bool) (a : Act) (w : World), (∀ j, l[j]? = ops[k + j]?) →
    Region.seqB md ops l.length k listed = true → wpListIn F n P ops Q' l a w → wpAnyIn F n P md ops Q' l.length listed a w
  | [], _, _, _, _, _, hB, h => ⟨by simpa [Region.seqB] using hB, h⟩
  | o :: l, k, listed, a, w, hl, hB, h => by
    have h0 : ops[k]? = some o := by simpa using (hl 0).symm
    simp only [List.length_cons, Region.seqB, Bool.and_eq_true, decide_eq_true_eq] at hB
    refine ⟨fun h1 => (by rw [hB.1] at h1; cases h1), fun i hi => ?_⟩
    rw [hB.1] at hi
    have hik : i = k := by simpa using hi
    subst hik
    have hw : wpOpIn F n P ops Q' i (wpListIn F n P ops Q' l) a w := by unfold wpOpIn; simp only [h0]; exact h
    exact wpOpIn_mono (fun a' w' h' => wpAnyIn_of_seq l (i + 1) _ a' w' (fun j => by have := hl (j + 1); simpa [Nat.add_assoc, Nat.add_comm 1 j] using this) hB.2 h') hw

theorem wpIn_region_tail {id : Nat} {Q : Exit → Act → World → Prop} {a : Act} {w : World} {l : List Oper} (m : Nat) (hm : P.follows .mixedOrders = true) (hB : Region.lexTailB .any l.toArray m = true)
    (hd : l.all noDefer = true)
    (h : wpStill P l.toArray w.drew (fun a' => wpListIn (wideAt r) n P l.toArray Q (l.drop m) a' w.drew) (l.take m) a) : (Code.region id l.toArray true).wpIn (wideAt r) n P Q a w := by
  have hd' : ∀ (i : Nat) (o : Oper), l.toArray[i]? = some o → noDefer o = true := fun i o ho => by
    have : o ∈ l := by
      have := List.mem_of_getElem? (l := l) (i := i) (a := o) (by rw [← List.getElem?_toArray]; exact ho)
      exact this
    exact List.all_eq_true.1 hd o this
  simp only [Region.lexTailB, Bool.and_eq_true, decide_eq_true_eq] at hB
  obtain ⟨⟨⟨⟨hsel, hn⟩, hs⟩, hc⟩, hlex⟩ := hB
  have hn' : m < l.length := by simpa using hn
  have htl : (l.take m).length = m := by simp; omega
  have hdl : (l.drop m).length = l.toArray.size - m := by simp
  have inv0 : HeadInv .any l.toArray m (Array.replicate l.toArray.size false) :=
    ⟨by simp, fun j oj _ hl => (by rw [getD_replicate_false] at hl; cases hl), fun t _ ht => getD_in (by simpa using ht) (getD_replicate_false _ _)⟩
  have H := wpAnyL_lex (md := .any) (g := l.toArray.size - m) hsel hs hc hn (l.take m) 0 _ a (fun j hj => by
    have hj' : j < m := by rw [htl] at hj; exact hj
    simp [hj']) (by simpa using htl) inv0 (by rw [htl]; exact hlex) h
  refine wpIn_region_any hm ?_
  show wpAnyIn (wideAt r) n P .any l.toArray Q l.toArray.size _ a w.drew
  have := wpAnyIn_of_head (r := r) (n := n) (Q' := Q) (g := l.toArray.size - m) hd' (fun listed a' hL => by
    have := wpAnyIn_of_seq (md := .any) (Q' := Q) (n := n) (F := wideAt r) (l.drop m) m listed a' w.drew (fun j => by simp [List.getElem?_drop]) (by rw [hdl]; exact hL.1) hL.2
    rwa [hdl] at this) _ _ _ H
  rw [htl, show m + (l.toArray.size - m) = l.toArray.size by omega] at this
  exact this

theorem tail_plain {id : Nat} {Q : Exit → Act → World → Prop} {a : Act} {w : World} {l : List Oper} (m : Nat) (hm : P.follows .mixedOrders = true) (hB : Region.lexTailB .any l.toArray m = true)
    (hd : l.all noDefer = true)
    (h : wpStill P l.toArray w.drew (fun a' => wpListIn Fence.wide n P l.toArray Q (l.drop m) a' w.drew) (l.take m) a) : (Code.region id l.toArray true).wpIn Fence.wide n P Q a w :=
  wpIn_region_tail (r := none) m hm hB hd h

theorem tail_round {id k : Nat} {Q : Exit → Act → World → Prop} {a : Act} {w : World} {l : List Oper} (m : Nat) (hm : P.follows .mixedOrders = true) (hB : Region.lexTailB .any l.toArray m = true)
    (hd : l.all noDefer = true)
    (h : wpStill P l.toArray w.drew (fun a' => wpListIn (Fence.wide.inRound k) n P l.toArray Q (l.drop m) a' w.drew) (l.take m) a) : (Code.region id l.toArray true).wpIn (Fence.wide.inRound k) n P Q a w :=
  wpIn_region_tail (r := some k) m hm hB hd h

end Go.Proofs.Ytojbkhheaondhaa
