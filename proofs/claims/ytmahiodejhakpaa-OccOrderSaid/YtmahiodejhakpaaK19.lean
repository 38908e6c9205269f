/- Rows of slices, appended one behind the other: by runs, for drawn regions, and for walks; of no program's own. Package patset: whether a set may be. Slices of hits (structs of two numbers), in memory. -/
import Derived.Test.YtmahiodejhakpaaK6
import Derived.Test.YtmahiodejhakpaaK7
import Derived.ArgAppend
import Derived.OwnWalkIn
import Derived.Laws.OwnMore
import Derived.Test.YtmahiodejhakpaaPMake
import Derived.Test.YtmahiodejhakpaaK15
import Derived.Test.YtmahiodejhakpaaPlainOcc
set_option linter.unusedSimpArgs false
set_option linter.unusedVariables false
set_option maxRecDepth 100000
namespace Go.Proofs.Ytmahiodejhakpaa
open Go.RowKit

/-- An address leads to these cells. -/
def CellsAt (w : World) (A : Option Addr) (vs : List Value) : Prop := vs ≠ [] → ∃ b off, A = some ⟨b, off, none⟩ ∧ b < w.heap.size ∧ ∀ i, i < vs.length → w.cell? ⟨b, off + i, none⟩ = vs[i]?

theorem CellsAt.grown {w w' : World} {A : Option Addr} {vs : List Value} (h : CellsAt w A vs) (hg : w.grownBy w' none) : CellsAt w' A vs := fun hz => by
  obtain ⟨b, off, h1, h2, h3⟩ := h hz
  exact ⟨b, off, h1, Nat.lt_of_lt_of_le h2 hg.size, fun i hi => ((gcell hg).1 b _ h2).trans (h3 i hi)⟩
theorem CellsAt.below {B : Nat} {w w' : World} {A : Option Addr} {vs : List Value} (h : CellsAt w A vs) (hg : w.grownBy w' none) : CellsAt w' A vs := h.grown hg
theorem CellsAt.take {w : World} {A : Option Addr} {vs : List Value} (h : CellsAt w A vs) (n : Nat) : CellsAt w A (vs.take n) := fun hz => by
  obtain ⟨b, off, h1, h2, h3⟩ := h (by intro e; subst e; simp at hz)
  refine ⟨b, off, h1, h2, fun i hi => ?_⟩
  rw [List.length_take] at hi
  rw [h3 i (by omega), List.getElem?_take, if_pos (by omega)]
theorem CellsAt.drop {w : World} {A : Option Addr} {vs : List Value} (h : CellsAt w A vs) {i c : Nat} (hc : vs.length ≤ c) : CellsAt w (if c = i then A else A.map (fun x => x.add i)) (vs.drop i) := fun hz => by
  have hi : i < vs.length := by
    rcases Nat.lt_or_ge i vs.length with h1 | h1
    · exact h1
    · exact absurd (List.drop_eq_nil_of_le h1) hz
  obtain ⟨b, off, rfl, hb, hcell⟩ := h (by intro e; subst e; simp at hi)
  rw [if_neg (by omega)]
  refine ⟨b, off + i, by simp [add_lit], hb, fun j hj => ?_⟩
  simp only [List.length_drop] at hj
  rw [Nat.add_assoc, hcell (i + j) (by omega), List.getElem?_drop]

/-- These cells are slices that read as these lists. -/
def RowLike (xss : List (List Int)) (vs : List Value) (w : World) : Prop := vs.length = xss.length ∧ ∀ i, i < xss.length → ∃ Ai ci, vs[i]? = some (.slice Ai (xss.getD i []).length ci) ∧ Arr w .u8 Ai (xss.getD i [])

theorem RowLike.grown {xss : List (List Int)} {vs : List Value} {w w' : World} (h : RowLike xss vs w) (hg : w.grownBy w' none) : RowLike xss vs w' :=
  ⟨h.1, fun i hi => by obtain ⟨Ai, ci, h1, h2⟩ := h.2 i hi; exact ⟨Ai, ci, h1, h2.grown hg⟩⟩
theorem RowLike.one {x : List Int} {A : Option Addr} {c : Nat} {w : World} (h : Arr w .u8 A x) : RowLike [x] [.slice A x.length c] w :=
  ⟨rfl, fun i hi => by
    have e : i = 0 := by simpa using hi
    subst e
    exact ⟨A, c, rfl, h⟩⟩
theorem RowLike.append {xss yss : List (List Int)} {vs us : List Value} {w : World} (h : RowLike xss vs w) (h' : RowLike yss us w) : RowLike (xss ++ yss) (vs ++ us) w := by
  refine ⟨by rw [List.length_append, List.length_append, h.1, h'.1], fun i hi => ?_⟩
  rw [List.length_append] at hi
  by_cases hx : i < xss.length
  · obtain ⟨Ai, ci, h1, h2⟩ := h.2 i hx
    have e : (xss ++ yss).getD i [] = xss.getD i [] := by simp [List.getD, List.getElem?_append_left hx]
    rw [e]
    exact ⟨Ai, ci, by rw [List.getElem?_append_left (by rw [h.1]; exact hx)]; exact h1, h2⟩
  · obtain ⟨Ai, ci, h1, h2⟩ := h'.2 (i - xss.length) (by omega)
    have e : (xss ++ yss).getD i [] = yss.getD (i - xss.length) [] := by simp [List.getD, List.getElem?_append_right (Nat.le_of_not_lt hx)]
    rw [e]
    exact ⟨Ai, ci, by rw [List.getElem?_append_right (by rw [h.1]; omega), h.1]; exact h1, h2⟩
theorem RowLike.take {xss : List (List Int)} {vs : List Value} {w : World} (h : RowLike xss vs w) (n : Nat) : RowLike (xss.take n) (vs.take n) w := by
  refine ⟨by rw [List.length_take, List.length_take, h.1], fun i hi => ?_⟩
  rw [List.length_take] at hi
  obtain ⟨Ai, ci, h1, h2⟩ := h.2 i (by omega)
  have e : (xss.take n).getD i [] = xss.getD i [] := by simp only [List.getD, List.getElem?_take, if_pos (show i < n by omega)]
  rw [e]
  exact ⟨Ai, ci, by rw [List.getElem?_take, if_pos (by omega)]; exact h1, h2⟩
theorem RowLike.drop {xss : List (List Int)} {vs : List Value} {w : World} (h : RowLike xss vs w) (n : Nat) : RowLike (xss.drop n) (vs.drop n) w := by
  refine ⟨by rw [List.length_drop, List.length_drop, h.1], fun i hi => ?_⟩
  rw [List.length_drop] at hi
  obtain ⟨Ai, ci, h1, h2⟩ := h.2 (n + i) (by omega)
  have e : (xss.drop n).getD i [] = xss.getD (n + i) [] := by simp only [List.getD, List.getElem?_drop]
  rw [e]
  exact ⟨Ai, ci, by rw [List.getElem?_drop]; exact h1, h2⟩
theorem RowLike.oneCell {xss : List (List Int)} {vs : List Value} {w : World} (h : RowLike xss vs w) : ∀ u ∈ vs, u.oneCell' = true := fun u hu => by
  obtain ⟨i, hi⟩ := List.mem_iff_getElem?.1 hu
  have hl : i < vs.length := (List.getElem?_eq_some_iff.1 hi).1
  obtain ⟨Ai, ci, h1, _⟩ := h.2 i (by rw [← h.1]; exact hl)
  rw [hi] at h1
  injection h1 with h1
  subst h1
  rfl

/-- A slice of slices that came in: its cells. -/
theorem cells_of_arrs {w : World} {A : Option Addr} {xss : List (List Int)} (h : Arrs w A xss) : ∃ vs, CellsAt w A vs ∧ RowLike xss vs w := by
  have : ∀ k, ∃ x : Option Addr × Nat, k < xss.length → ∃ b off, A = some ⟨b, off, none⟩ ∧ b < w.heap.size ∧ w.cell? ⟨b, off + k, none⟩ = some (.slice x.1 (xss.getD k []).length x.2) ∧ Arr w .u8 x.1 (xss.getD k []) := fun k => by
    by_cases hk : k < xss.length
    · obtain ⟨b, off, Ai, ci, h1, h2, h3, h4⟩ := h.at_ hk
      exact ⟨(Ai, ci), fun _ => ⟨b, off, h1, h2, h3, h4⟩⟩
    · exact ⟨(none, 0), fun h => absurd h hk⟩
  refine ⟨(List.range xss.length).map fun k => .slice (Classical.choose (this k)).1 (xss.getD k []).length (Classical.choose (this k)).2, fun hz => ?_, by simp, fun i hi => ?_⟩
  · have h0 : 0 < xss.length := by
      by_cases e : xss = []
      · subst e; exact absurd rfl hz
      · exact List.length_pos_iff.2 e
    obtain ⟨b, off, h1, h2, _, _⟩ := Classical.choose_spec (this 0) h0
    refine ⟨b, off, h1, h2, fun i hi => ?_⟩
    have hi' : i < xss.length := by simpa using hi
    obtain ⟨b', off', h1', _, h3', _⟩ := Classical.choose_spec (this i) hi'
    rw [h1] at h1'
    injection h1' with h1'
    injection h1' with e1 e2
    subst e1 e2
    rw [h3']
    simp [hi']
  · obtain ⟨_, _, _, _, _, h4⟩ := Classical.choose_spec (this i) hi
    exact ⟨(Classical.choose (this i)).1, (Classical.choose (this i)).2, by simp [hi], h4⟩

/-- What the call owns, whose cells read as lists. -/
theorem arrs_of_own {w : World} {base n c : Nat} {A : Option Addr} {xss : List (List Int)} {vs : List Value} (h : w.ownsRow base 25 1 (.slice A n c) n vs) (hr : RowLike xss vs w) : Arrs w A xss := fun hz => by
  have hn : vs.length = n := by simpa using h.1
  rcases h.2 with ⟨hv, h0⟩ | ⟨g, cap, cur, hv, _, hg, hnc, hm, hs, ht⟩
  · have : xss = [] := List.eq_nil_of_length_eq_zero (by rw [← hr.1, hn, h0])
    exact absurd this hz
  · injection hv with hv1 hv2 hv3
    subst hv1
    refine ⟨g, 0, rfl, (Array.getElem?_eq_some_iff.1 hg).1, fun i hi => ?_⟩
    obtain ⟨Ai, ci, h1, h2⟩ := hr.2 i hi
    refine ⟨Ai, ci, ?_, h2⟩
    rw [cell_of_row w g (0 + i) cur _ (0, 0) hg, Nat.zero_add]
    have : (cur.toList.take (n * 1))[i]? = some (.slice Ai (xss.getD i []).length ci) := by rw [ht]; exact h1
    rw [List.getElem?_take] at this
    split at this
    · simpa using this
    · cases this

section
variable {P : Program} {ops : Array Oper} {rest : List Oper} {o : Oper} {a : Act} {Q : Exit → Act → World → Prop}

/-- An append whose run is known. -/
theorem wp_append_run {w w' : World} {K : Act → World → Prop} (s x : Operand) (t : TypeId) (ho : o.op = .call { callee := .builtin .append, args := #[s, x], argTypes := #[t, t] }) (v u v' : Value) (hs : a.eval s = v) (hx : a.eval x = u)
    (hrun : (Builtin.append_ #[t, t] o.type #[v, u]).run P w = .ok v' w') (hK : K (a.put o.dst v') w') : o.wp P a w K Q := by
  unfold Oper.wp
  simp [execOp, ho, resolve, invoke, builtin, hs, hx, hrun, Result.andThen]
  exact hK

variable {i : TypeInfo} (ht : P.underlying 22 = some (.slice 25)) (hi : P.info? 25 = some i) (hz : i.zero = some (.slice none 0 0)) (hsize : i.size = 1) (hby : i.bytes = 24)
include ht hi hz hsize hby

/-- Onto a row without room: rows of the call's own; nothing, where nothing is appended. -/
theorem run_rows_new (w : World) (g ty : Nat) (hH : Holds w g 25 #[]) (A : Option Addr) (m c : Nat) (vs : List Value) (hA : CellsAt w A vs) (hm : vs.length = m) (h1 : ∀ u ∈ vs, u.oneCell' = true) (hlen : m ≤ 2147483647) :
    ∃ v' w', (Builtin.append_ #[22, 22] ty #[.slice (some ⟨g, 0, none⟩) 0 0, .slice A m c]).run P w = .ok v' w' ∧ w.grownBy w' none ∧
      ((m = 0 ∧ v' = .slice (some ⟨g, 0, none⟩) 0 0 ∧ w' = w) ∨ (0 < m ∧ ∃ g' c', v' = .slice (some ⟨g', 0, none⟩) m c' ∧ w.heap.size ≤ g' ∧ w'.ownsRow w.heap.size 25 1 v' m vs)) := by
  subst hm
  by_cases h0 : vs = []
  · subst h0
    refine ⟨_, w, ?_, grown_refl w _, .inl ⟨rfl, rfl, rfl⟩⟩
    cases A with
    | none => exact run_append_nothing (P := P) w 0 22 ty 25 i 1 ht hi (.slice (some ⟨g, 0, none⟩) 0 0) 0 [] ⟨rfl, .inr ⟨g, 0, #[], rfl, Nat.zero_le _, hH, Nat.le_refl _, Nat.zero_le _, rfl, rfl⟩⟩ c
    | some ad =>
      have := run_append_room_cells (P := P) w 22 ty 25 i ht hi g 0 0 0 ad 0 c [] (by simp) (by simp) (by simp) (by omega) (by simp) (by simp)
      simpa [World.setCells] using this
  · obtain ⟨b, off, rfl, hb, hc⟩ := hA h0
    have hpos : 0 < vs.length := List.length_pos_iff.2 h0
    obtain ⟨v', w', hrun, hown, hg⟩ := run_append_arg_grows (P := P) w 22 ty 25 i (.slice none 0 0) 1 24 ht hi hz hsize hby rfl (by decide) ⟨g, 0, none⟩ 0 0 [] (by simp) (by simp) ⟨b, off, none⟩ vs.length c vs (by simp)
      (fun j u hj => by
        have hjl : j < vs.length := (List.getElem?_eq_some_iff.1 hj).1
        rw [add_lit, hc j hjl]; exact hj) (by omega) (by unfold maxLen; omega) (by omega)
    rw [Nat.zero_add, List.nil_append] at hown
    refine ⟨v', w', hrun, hg, .inr ⟨hpos, ?_⟩⟩
    rcases hown.2 with ⟨_, he⟩ | ⟨g', cap, cur, rfl, hb', _⟩
    · omega
    · exact ⟨g', cap, rfl, hb', hown⟩

/-- One more onto a row of the call's own: the room is written, or there is new memory. -/
theorem run_rows_one (w : World) (base g n c g6 ty : Nat) (vs : List Value) (W : Value) (hown : w.ownsRow base 25 1 (.slice (some ⟨g, 0, none⟩) n c) n vs) (h6 : Holds w g6 25 #[W]) (h1 : W.oneCell' = true) (hlen : n ≤ 2147483647) (hb : base ≤ w.heap.size) :
    ∃ v' w', (Builtin.append_ #[22, 22] ty #[.slice (some ⟨g, 0, none⟩) n c, .slice (some ⟨g6, 0, none⟩) 1 1]).run P w = .ok v' w' ∧ w'.ownsRow base 25 1 v' (n + 1) (vs ++ [W]) ∧ (∃ g' c', v' = .slice (some ⟨g', 0, none⟩) (n + 1) c' ∧ 0 < c') ∧
      ((n + 1 ≤ c ∧ w' = w.setCell ⟨g, n, none⟩ W) ∨ w.grownBy w' none) := by
  have hcell6 : ∀ j u, [W][j]? = some u → w.cell? ((⟨g6, 0, none⟩ : Addr).add j) = some u := fun j u hj => by
    obtain rfl : j = 0 := by have := (List.getElem?_eq_some_iff.1 hj).1; simpa using this
    rw [add_lit, h6.cell]
    simpa using hj
  by_cases hr : n + 1 ≤ c
  · obtain ⟨w', hrun, hown', hg'⟩ := run_append_fits (P := P) (w := w) base 22 ty 25 i 1 ht hi hsize g n c vs hown ⟨g6, 0, none⟩ 1 1 [W] rfl hcell6 (by simpa using h1) hr
    have hrc := run_append_room_cells (P := P) w 22 ty 25 i ht hi g 0 n c ⟨g6, 0, none⟩ 1 1 [W] (by rw [hsize]; rfl) hcell6 (by simpa using h1) hr
      (fun j hj => by
        obtain rfl : j = 0 := by simpa using hj
        rcases hown.2 with ⟨hv, _⟩ | ⟨g', cap, cur, hv, _, hg, hnc, hm, hs, ht'⟩
        · cases hv
        · injection hv with e1 e2 e3
          injection e1 with e1
          injection e1 with e1
          subst e1 e3
          rw [hsize, cell_of_row w g _ cur _ (0, 0) hg]
          simp; omega)
      (fun j hj => by
        rcases hown.2 with ⟨hv, _⟩ | ⟨g', cap, cur, hv, _, hg, hnc, hm, hs, ht'⟩
        · cases hv
        · injection hv with e1 e2 e3
          injection e1 with e1
          injection e1 with e1
          subst e1
          simp [World.frozen?, hg])
    rw [hsize, Nat.mul_one, Nat.zero_add] at hrc
    have e := hrun.symm.trans hrc
    injection e with _ e
    exact ⟨_, w', hrun, hown', ⟨g, c, rfl, by omega⟩, .inl ⟨hr, e⟩⟩
  · have hgn : ∀ j u, vs[j]? = some u → w.cell? ((⟨g, 0, none⟩ : Addr).add j) = some u := fun j u hj => World.ownsRow.cells hown (by simp [Value.ownBlock]) j u hj
    obtain ⟨v', w', hrun, hown', hg'⟩ := run_append_arg_grows (P := P) w 22 ty 25 i (.slice none 0 0) 1 24 ht hi hz hsize hby rfl (by decide) ⟨g, 0, none⟩ n c vs (by simpa using hown.1) hgn ⟨g6, 0, none⟩ 1 1 [W] rfl hcell6 (by omega) (by unfold maxLen; omega) (by omega)
    refine ⟨v', w', hrun, own_mono hown' hb, ?_, .inr hg'⟩
    rcases hown'.2 with ⟨_, he⟩ | ⟨g', cap, cur, rfl, hb', _, hnc, _⟩
    · omega
    · exact ⟨g', cap, rfl, by omega⟩

/-- Onto rows of the call's own, in a fence. -/
theorem wpListIn_append_cells {F : Fence} {m0 : Nat} (hgd : o.guard = none) (s x : Operand) (ho : o.op = .call { callee := .builtin .append, args := #[s, x], argTypes := #[22, 22] })
    (base : Nat) (v : Value) (n : Nat) (us vs : List Value) (A : Option Addr) (m c : Nat) (w : World) (hown : w.ownsRow base 25 1 v n us) (hA : CellsAt w A vs) (hs : a.eval s = v) (hx : a.eval x = .slice A m c) (hm : vs.length = m) (h1 : ∀ u ∈ vs, u.oneCell' = true)
    (hlen : n + m ≤ 2147483647) (hbase : base ≤ w.heap.size)
    (h : ∀ v' w', w'.ownsRow base 25 1 v' (n + m) (us ++ vs) → w.grownBy w' v.ownBlock → wpListIn F m0 P ops Q rest (a.put o.dst v') w') : wpListIn F m0 P ops Q (o :: rest) a w := by
  subst hm
  cases A with
  | some ad =>
    refine wpListIn_append_own w hgd s x 22 ho base 25 i (.slice none 0 0) 1 24 ht hi hz hsize hby rfl (by decide) v n us hs hown ad vs.length c vs hx (by simp) (fun j u hj => ?_) h1 (by unfold maxLen; omega) (by omega) hbase (fun v' w' a b _ => h v' w' a b)
    have hjl : j < vs.length := (List.getElem?_eq_some_iff.1 hj).1
    obtain ⟨b, off, h0, _, hc⟩ := hA (by intro e; subst e; simp at hjl)
    injection h0 with h0
    subst h0
    rw [add_lit, hc j hjl]; exact hj
  | none =>
    have hvs : vs = [] := by
      by_cases hz' : vs = []
      · exact hz'
      · obtain ⟨_, _, h0, _⟩ := hA hz'
        cases h0
    subst hvs
    refine wpListIn_plain hgd fun K hK => ?_
    have hrun := run_append_nothing (P := P) w base 22 o.type 25 i 1 ht hi v n us hown c
    unfold Oper.wpIn
    refine ⟨?_, ?_⟩
    · simp [Oper.about, ho, resolve, Target.leads, Sem.run_pure]
    · rw [Oper.semAt_plain F _ _ (by rw [ho]; intro c hc'; cases hc')]
      simp only [List.length_nil] at hx
      simp [execOp, ho, resolve, invoke, builtin, hs, hx, hrun, Result.andThen]
      exact hK _ _ (h v w (by simpa using hown) (grown_refl w _))
/-- In no fence. -/
theorem wpList_append_cells (hgd : o.guard = none) (s x : Operand) (ho : o.op = .call { callee := .builtin .append, args := #[s, x], argTypes := #[22, 22] })
    (base : Nat) (v : Value) (n : Nat) (us vs : List Value) (A : Option Addr) (m c : Nat) (w : World) (hown : w.ownsRow base 25 1 v n us) (hA : CellsAt w A vs) (hs : a.eval s = v) (hx : a.eval x = .slice A m c) (hm : vs.length = m) (h1 : ∀ u ∈ vs, u.oneCell' = true)
    (hlen : n + m ≤ 2147483647) (hbase : base ≤ w.heap.size)
    (h : ∀ v' w', w'.ownsRow base 25 1 v' (n + m) (us ++ vs) → w.grownBy w' v.ownBlock → wpList P ops Q rest (a.put o.dst v') w') : wpList P ops Q (o :: rest) a w := by
  subst hm
  cases A with
  | some ad =>
    refine wpList_append_own w hgd s x 22 ho base 25 i (.slice none 0 0) 1 24 ht hi hz hsize hby rfl (by decide) v n us hs hown ad vs.length c vs hx (by simp) (fun j u hj => ?_) h1 (by unfold maxLen; omega) (by omega) hbase (fun v' w' a b _ => h v' w' a b)
    have hjl : j < vs.length := (List.getElem?_eq_some_iff.1 hj).1
    obtain ⟨b, off, h0, _, hc⟩ := hA (by intro e; subst e; simp at hjl)
    injection h0 with h0
    subst h0
    rw [add_lit, hc j hjl]; exact hj
  | none =>
    have hvs : vs = [] := by
      by_cases hz' : vs = []
      · exact hz'
      · obtain ⟨_, _, h0, _⟩ := hA hz'
        cases h0
    subst hvs
    refine wpList_plain hgd fun K hK => ?_
    have hrun := run_append_nothing (P := P) w base 22 o.type 25 i 1 ht hi v n us hown c
    unfold Oper.wp
    simp only [List.length_nil] at hx
    simp [execOp, ho, resolve, invoke, builtin, hs, hx, hrun, Result.andThen]
    exact hK _ _ (h v w (by simpa using hown) (grown_refl w _))
end

/-- A new row without cells. -/
def isNone (base : Nat) : Fact := fun v w => ∃ g, v = .slice (some ⟨g, 0, none⟩) 0 0 ∧ base ≤ g ∧ Holds w g 25 #[]
/-- A row of the call's own, of these cells. -/
def isGrow (base : Nat) (vs : List Value) : Fact := fun v w => ∃ g c, v = .slice (some ⟨g, 0, none⟩) vs.length c ∧ w.ownsRow base 25 1 v vs.length vs ∧ (vs = [] → c = 0)
theorem stable_isNone (base : Nat) : Stable (isNone base) := fun _ _ _ ⟨g, h1, h2, h3⟩ hg => ⟨g, h1, h2, h3.kept0 hg⟩
theorem stable_isGrow (base : Nat) (vs : List Value) : Stable (isGrow base vs) := fun _ _ _ ⟨g, c, h1, h2, h3⟩ hg => ⟨g, c, h1, own_kept0 h2 hg, h3⟩

/-- What has one cell at most is another block than one of two cells at least. -/
theorem holds_apart {w : World} {g j k n : Nat} {t : TypeId} {cs cur : Array Value} {W : Value} (h : Holds w j t cs) (hk : cs.size ≤ 1) (hg : w.heap[g]? = some (.cells cur 25 (0, 0))) (hs : 2 ≤ cur.size) : Holds (w.setCell ⟨g, n, none⟩ W) j t cs := by
  refine h.far (p := ⟨g, n, none⟩) (fun e => ?_) W
  have e' : j = g := e
  subst e'
  unfold Holds at h
  rw [hg] at h
  injection h with h
  injection h with h
  subst h
  omega
theorem kept_isNone {base g n : Nat} {cur : Array Value} {v W : Value} {w : World} (h : isNone base v w) (hg : w.heap[g]? = some (.cells cur 25 (0, 0))) (hs : 2 ≤ cur.size) : isNone base v (w.setCell ⟨g, n, none⟩ W) := by
  obtain ⟨j, h1, h2, h3⟩ := h
  exact ⟨j, h1, h2, holds_apart (k := 0) h3 (by simp) hg hs⟩
theorem kept_isRow {g n : Nat} {cur : Array Value} {v W W' : Value} {w : World} (h : isRowOf 1 #[W'] v w) (hg : w.heap[g]? = some (.cells cur 25 (0, 0))) (hs : 2 ≤ cur.size) : isRowOf 1 #[W'] v (w.setCell ⟨g, n, none⟩ W) := by
  obtain ⟨j, h1, h3⟩ := h
  exact ⟨j, h1, holds_apart (k := 0) h3 (by simp) hg hs⟩
theorem kept_isGrow {base g n : Nat} {cur : Array Value} {v W : Value} {us : List Value} {w : World} (h : isGrow base us v w) (hg : w.heap[g]? = some (.cells cur 25 (0, 0))) (hu : n < us.length → us[n]? = some W) : isGrow base us v (w.setCell ⟨g, n, none⟩ W) := by
  obtain ⟨j, c, h1, h2, h3⟩ := h
  refine ⟨j, c, h1, ?_, h3⟩
  subst h1
  obtain ⟨hl, hr⟩ := h2
  refine ⟨hl, .inr ?_⟩
  rcases hr with ⟨hv, _⟩ | ⟨g', cap, cur', hv, hb, hg', hnc, hm, hs, ht'⟩
  · cases hv
  · injection hv with e1 e2 e3
    injection e1 with e1
    injection e1 with e1
    subst e1 e3
    by_cases hj : j = g
    · subst hj
      rw [hg] at hg'
      injection hg' with hg'
      injection hg' with hg'
      subst hg'
      have hH : Holds w j 25 cur := hg
      refine ⟨j, c, cur.setIfInBounds n W, rfl, hb, hH.set n W, hnc, hm, by simpa using hs, ?_⟩
      rw [Array.toList_setIfInBounds, List.take_set, ht']
      by_cases hn : n < us.length
      · have := hu hn
        have e : us[n] = W := by rw [List.getElem?_eq_getElem hn] at this; injection this
        rw [← e]
        exact List.set_getElem_self hn
      · exact List.set_eq_of_length_le (Nat.le_of_not_lt hn)
    · have hH : Holds w j 25 cur' := hg'
      exact ⟨j, c, cur', rfl, hb, hH.far (p := ⟨g, n, none⟩) hj W, hnc, hm, hs, ht'⟩

/-- Each fact of the list stays. -/
def AllKept (w w' : World) : List Fact → Prop
  | [] => True
  | f :: l => (∀ v, f v w → f v w') ∧ AllKept w w' l
theorem AllKept.nil {w w' : World} : AllKept w w' [] := trivial
theorem AllKept.cons {w w' : World} {f : Fact} {l : List Fact} (h : ∀ v, f v w → f v w') (h' : AllKept w w' l) : AllKept w w' (f :: l) := ⟨h, h'⟩
theorem AllKept.at_ {w w' : World} : ∀ {l : List Fact}, AllKept w w' l → ∀ j v, factAt l j v w → factAt l j v w'
  | [], _, j, v, _ => by simp [factAt]
  | f :: l, h, 0, v, hf => by simpa [factAt] using h.1 v (by simpa [factAt] using hf)
  | f :: l, h, j + 1, v, hf => by have := AllKept.at_ h.2 j v (by simpa [factAt] using hf); simpa [factAt] using this

theorem grown_of_own {w W W' : World} {e n : Nat} {v : Value} {xs : List Value} (h : w.grownBy W none) (hown : W.ownsRow w.heap.size e 1 v n xs) (hg : W.grownBy W' v.ownBlock) : w.grownBy W' none :=
  ⟨hg.os.trans h.os, hg.tape.trans h.tape, hg.output.trans h.output, Nat.le_trans h.size hg.size, fun j hj _ => (hg.block j (Nat.lt_of_lt_of_le hj h.size) (fun e => by
    have := (World.ownsRow.lt hown j e.symm).1; omega)).trans (h.block j hj (by simp))⟩

theorem cells_one (w : World) (V : Value) (t : TypeId) : CellsAt (w.alloc (.cells #[V] t)) (some ⟨w.heap.size, 0, none⟩) [V] := fun _ => ⟨w.heap.size, 0, rfl, by simp, fun i hi => by
  have e : i = 0 := by simpa using hi
  subst e
  simp⟩

theorem getD_all (Q : List Int → Prop) (hn : Q []) {l : List (List Int)} (h : ∀ z ∈ l, Q z) (i : Nat) : Q (l.getD i []) := by
  by_cases hi : i < l.length
  · simp only [List.getD, List.getElem?_eq_getElem hi, Option.getD_some]; exact h _ (List.getElem_mem hi)
  · simp only [List.getD, List.getElem?_eq_none (Nat.le_of_not_lt hi), Option.getD_none]; exact hn
theorem all_getD (Q : List Int → Prop) {l : List (List Int)} (h : ∀ i, Q (l.getD i [])) (z : List Int) (hz : z ∈ l) : Q z := by
  obtain ⟨i, hi, rfl⟩ := List.mem_iff_getElem.1 hz
  have := h i
  simpa [List.getD, hi] using this

end Go.Proofs.Ytmahiodejhakpaa

namespace Go.Proofs.Ytmahiodejhakpaa
open Go.RowKit PlainLetter PlainPatset

set_option maxRecDepth 100000 in
set_option maxHeartbeats 2000000 in
theorem patRight_is (f : Bool) (P : Option Addr) (c : Nat) (xss : List (List Int)) (w : World) (hn : xss.length ≤ 1000) (hl : xss.flatten.length ≤ 10000) (hB : ∀ i, Bytes (xss.getD i [])) (hP : Arrs w P xss) :
    Calls Try.prog 24 #[.agg #[.bool f, .slice P xss.length c]] w fun e w' => e = .returned (.bool (right f xss)) ∧ w.grownBy w' none := by
  have hgl : Hid (∀ i, (xss.getD i []).length ≤ 100000) := hid (fun k => by
    by_cases hk : k < xss.length
    · have h1 := flatten_take_succ xss k hk
      have h2 := flatten_take_le xss (k + 1)
      rw [h1, List.length_append] at h2
      omega
    · simp [List.getD, List.getElem?_eq_none (Nat.le_of_not_lt hk)])
  have hSm := hid (make_small f xss (by omega) hgl.out hB)
  have hfew : Hid ((makeWords f xss).length ≤ 1000) := hid (Nat.le_trans (setOf_make f xss).few hn)
  have hr : Hid (right f xss = decide (check f xss = 0 ∧ makeWords f xss = xss)) := hid rfl
  replace hP := hid hP
  replace hB := hid hB
  go_enter Try.func24, Try.ntmps24
  go_wp2_with fail
  have hG0 := hid (grown_alloc (grown_refl w none) (.cells #[.bool f, .slice P xss.length c] 24))
  have H0 : Holds (w.alloc (.cells #[.bool f, .slice P xss.length c] 24)) w.heap.size 24 #[.bool f, .slice P xss.length c] := Holds.new _ _ _
  refine (patMake_is f P c xss _ hn hl hB.out (hP.out.grown hG0.out)).mono ?_
  rintro e w1 ⟨v, rfl, hv, hg1⟩
  have hG1 := hid (grown_trans hG0.out hg1)
  have H1 := H0.kept0 hg1
  clear hg1 H0 hG0
  have d0 := H1.cell 0
  have d1 := H1.cell 1
  have hlt1 := H1.lt
  simp at d0 d1
  obtain ⟨h, hh⟩ : ∃ h, w.heap.size = h := ⟨_, rfl⟩
  rw [hh] at H1 d0 d1 hlt1 ⊢
  replace hh := hid hh
  replace H1 := hid H1
  generalize check f xss = e0 at hv hr ⊢
  by_cases he : e0 = 0
  · subst he
    rw [if_pos rfl] at hv
    obtain ⟨A, cA, l, rfl, hlm, hrows⟩ := hv
    have hArr := hid hrows.arrs.2
    rw [hlm] at hArr
    have hll : l.length = (makeWords f xss).length := by rw [← hlm]; simp
    rw [hll]
    clear hll hlm hrows
    generalize makeWords f xss = acc at hArr hSm hr hfew ⊢
    go_wp2_with fail
    refine (patSame_is f f A P cA c acc xss _ hfew.out (hArr.out.grown (grown_alloc (grown_refl w1 none) _)) (hP.out.grown (grown_alloc hG1.out _)) (fun i => (hSm.out.2 i).2) hB.out).mono ?_
    rintro e w3 ⟨rfl, hg3⟩
    have hG3 := hid (grown_trans (grown_alloc hG1.out _) hg3)
    clear hg3
    have hr2 : Hid (right f xss = decide (f = f ∧ acc = xss)) := hid (hr.out.trans (by simp))
    rw [← hr2.out]
    clear hr hSm
    generalize hre : right f xss = r
    go_wp2_with fail
    go_ret
    exact ⟨by rw [hre]; rfl, hG3.out⟩
  · have hne : (e0 == 0) = false := by rw [beq_eq_false_iff_ne]; exact he
    have hr2 : Hid (right f xss = false) := hid (hr.out.trans (decide_eq_false (fun h => he h.1)))
    rw [if_neg he] at hv
    subst hv
    replace he := hid he
    clear hr hSm
    go_wp2_with fail
    go_ret
    exact ⟨by rw [hr2.out]; rfl, grown_alloc hG1.out _⟩
end Go.Proofs.Ytmahiodejhakpaa

namespace Go.Proofs.Ytmahiodejhakpaa
open Go.RowKit PlainLetter PlainPatset PlainOcc

abbrev hitV (h : Hit) : Value := .agg #[.int .i64 h.1, .int .i64 h.2]

/-- A slice of hits reads as this list. -/
def Hits (w : World) (A : Option Addr) (l : List Hit) : Prop :=
  l ≠ [] → ∃ b off, A = some ⟨b, off, none⟩ ∧ b < w.heap.size ∧ ∀ i, i < l.length → w.cell? ⟨b, off + i * 2, none⟩ = some (.int .i64 (l.getD i (0, 0)).1) ∧ w.cell? ⟨b, off + i * 2 + 1, none⟩ = some (.int .i64 (l.getD i (0, 0)).2)

theorem Hits.nil (w : World) (A : Option Addr) : Hits w A [] := fun h => absurd rfl h

theorem Hits.at_ {w : World} {A : Option Addr} {l : List Hit} (h : Hits w A l) {i : Nat} (hi : i < l.length) :
    ∃ b off, A = some ⟨b, off, none⟩ ∧ b < w.heap.size ∧ ∀ j, j < l.length → w.cell? ⟨b, off + j * 2, none⟩ = some (.int .i64 (l.getD j (0, 0)).1) ∧ w.cell? ⟨b, off + j * 2 + 1, none⟩ = some (.int .i64 (l.getD j (0, 0)).2) :=
  h (by intro e; subst e; simp at hi)

theorem Hits.grown {w w' : World} {A : Option Addr} {l : List Hit} (h : Hits w A l) (hg : w.grownBy w' none) : Hits w' A l := fun hz => by
  obtain ⟨b, off, rfl, hb, hc⟩ := h hz
  exact ⟨b, off, rfl, Nat.lt_of_lt_of_le hb hg.size, fun i hi => ⟨((gcell hg).1 b _ hb).trans (hc i hi).1, ((gcell hg).1 b _ hb).trans (hc i hi).2⟩⟩

theorem Hits.take {w : World} {A : Option Addr} {l : List Hit} (h : Hits w A l) (n : Nat) : Hits w A (l.take n) := fun hz => by
  obtain ⟨b, off, rfl, hb, hc⟩ := h (by intro e; subst e; simp at hz)
  refine ⟨b, off, rfl, hb, fun i hi => ?_⟩
  simp only [List.length_take] at hi
  have := hc i (by omega)
  simpa [List.getD, show i < n by omega] using this
end Go.Proofs.Ytmahiodejhakpaa
