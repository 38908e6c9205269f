/- The numbers of words' beginnings, and how many there are. Plain mathematics, of no program. -/
import Derived.Test.YtojbkhheaondhaaK1
set_option linter.unusedSimpArgs false
set_option linter.unusedVariables false
namespace Go.Proofs.Ytojbkhheaondhaa.PlainNumbers
open PlainLetter PlainPatset

/-- The number of a beginning: 0 of the empty one. -/
def posn (ps : List (List Int)) (p : List Int) : Nat := if p = [] then 0 else ps.idxOf p + 1
def lastOf (p : List Int) : Int := p.getLast?.getD 0
def keys (ps : List (List Int)) : List (Int × Int) := ps.map fun p => ((posn ps p.dropLast : Nat), lastOf p)
def addP (ps : List (List Int)) (z : List Int) : List (List Int) := if z ∈ ps then ps else ps ++ [z]
def wordP (ps : List (List Int)) (x : List Int) : Nat → List (List Int)
  | 0 => ps
  | j + 1 => addP (wordP ps x j) (x.take (j + 1))
def allP (ps : List (List Int)) : List (List Int) → List (List Int)
  | [] => ps
  | x :: l => allP (wordP ps x x.length) l
def numOf (ks : List (Int × Int)) (k : Int × Int) : Nat := ks.idxOf k + 1
def addKey (ks : List (Int × Int)) (k : Int × Int) : List (Int × Int) := if k ∈ ks then ks else ks ++ [k]

/-- Beginnings, each once, with those that stand ahead of them. -/
structure Good (ps : List (List Int)) : Prop where
  once : ps.Nodup
  full : ∀ p ∈ ps, p ≠ []
  ahead : ∀ p ∈ ps, p.dropLast = [] ∨ p.dropLast ∈ ps

theorem posn_le {ps : List (List Int)} {p : List Int} (h : p = [] ∨ p ∈ ps) : posn ps p ≤ ps.length := by
  unfold posn
  split
  · omega
  · rename_i h0
    have := List.idxOf_lt_length_iff.2 (h.resolve_left h0)
    omega

theorem idxOf_inj {α : Type} [BEq α] [LawfulBEq α] {l : List α} {a b : α} (ha : a ∈ l) (hb : b ∈ l) (h : l.idxOf a = l.idxOf b) : a = b := by
  have h1 := List.idxOf_lt_length_iff.2 ha
  have h2 := List.idxOf_lt_length_iff.2 hb
  have e1 : l[l.idxOf a] = a := List.getElem_idxOf h1
  have e2 : l[l.idxOf b] = b := List.getElem_idxOf h2
  rw [← e1, ← e2]
  congr 1

theorem posn_inj {ps : List (List Int)} {p q : List Int} (hp : p = [] ∨ p ∈ ps) (hq : q = [] ∨ q ∈ ps) (h : posn ps p = posn ps q) : p = q := by
  unfold posn at h
  by_cases h1 : p = []
  · by_cases h2 : q = []
    · rw [h1, h2]
    · rw [if_pos h1, if_neg h2] at h; omega
  · by_cases h2 : q = []
    · rw [if_neg h1, if_pos h2] at h; omega
    · rw [if_neg h1, if_neg h2] at h
      exact idxOf_inj (hp.resolve_left h1) (hq.resolve_left h2) (by omega)

theorem posn_append {ps : List (List Int)} {p : List Int} (z : List Int) (h : p = [] ∨ p ∈ ps) : posn (ps ++ [z]) p = posn ps p := by
  unfold posn
  split
  · rfl
  · rename_i h0
    rw [List.idxOf_append, if_pos (h.resolve_left h0)]

theorem lastOf_snoc (u : List Int) (c : Int) : lastOf (u ++ [c]) = c := by simp [lastOf]
theorem ends_eq {p : List Int} {u : List Int} {c : Int} (h : p ≠ []) (h1 : p.dropLast = u) (h2 : lastOf p = c) : p = u ++ [c] := by
  rw [← List.dropLast_concat_getLast h, h1]
  congr 2
  rw [← h2]
  unfold lastOf
  rw [List.getLast?_eq_some_getLast h]
  rfl

theorem keys_len (ps : List (List Int)) : (keys ps).length = ps.length := by simp [keys]

theorem key_mem {ps : List (List Int)} (hg : Good ps) {u : List Int} {c : Int} (hu : u = [] ∨ u ∈ ps) : (((posn ps u : Nat) : Int), c) ∈ keys ps ↔ u ++ [c] ∈ ps := by
  unfold keys
  rw [List.mem_map]
  constructor
  · rintro ⟨p, hp, he⟩
    injection he with h1 h2
    have := posn_inj (hg.ahead p hp) hu (by omega)
    rwa [← ends_eq (hg.full p hp) this h2]
  · intro h
    exact ⟨_, h, by rw [List.dropLast_concat, lastOf_snoc]⟩

theorem idxOf_map {α β : Type} [BEq α] [LawfulBEq α] [BEq β] [LawfulBEq β] (f : α → β) (a : α) : ∀ (l : List α), (∀ x ∈ l, f x = f a → x = a) → (l.map f).idxOf (f a) = l.idxOf a
  | [], _ => rfl
  | x :: l, h => by
    rw [List.map_cons, List.idxOf_cons, List.idxOf_cons]
    by_cases hx : x = a
    · subst hx; simp
    · have hf : f x ≠ f a := fun e => hx (h x (by simp) e)
      rw [beq_eq_false_iff_ne.2 hx, beq_eq_false_iff_ne.2 hf]
      simp only [cond_false]
      rw [idxOf_map f a l (fun y hy => h y (by simp [hy]))]

theorem key_idx {ps : List (List Int)} (hg : Good ps) {u : List Int} {c : Int} (hu : u = [] ∨ u ∈ ps) : (keys ps).idxOf (((posn ps u : Nat) : Int), c) = ps.idxOf (u ++ [c]) := by
  have := idxOf_map (fun p : List Int => (((posn ps p.dropLast : Nat) : Int), lastOf p)) (u ++ [c]) ps (fun x hx he => by
    simp only [List.dropLast_concat, lastOf_snoc] at he
    injection he with h1 h2
    exact ends_eq (hg.full x hx) (posn_inj (hg.ahead x hx) hu (by omega)) h2)
  simp only [List.dropLast_concat, lastOf_snoc] at this
  exact this

theorem keys_append {ps : List (List Int)} (hg : Good ps) {u : List Int} {c : Int} (hu : u = [] ∨ u ∈ ps) : keys (ps ++ [u ++ [c]]) = keys ps ++ [(((posn ps u : Nat) : Int), c)] := by
  unfold keys
  rw [List.map_append]
  congr 1
  · refine List.map_congr_left fun p hp => ?_
    rw [posn_append _ (hg.ahead p hp)]
  · simp only [List.map_cons, List.map_nil, List.dropLast_concat, lastOf_snoc]
    rw [posn_append _ hu]

/-- **A beginning's number, by the number of what stands ahead and its last byte.** -/
theorem key_step {ps : List (List Int)} (hg : Good ps) {u : List Int} {c : Int} (hu : u = [] ∨ u ∈ ps) :
    addKey (keys ps) (((posn ps u : Nat) : Int), c) = keys (addP ps (u ++ [c])) ∧ numOf (keys ps) (((posn ps u : Nat) : Int), c) = posn (addP ps (u ++ [c])) (u ++ [c]) ∧ Good (addP ps (u ++ [c])) ∧ u ++ [c] ∈ addP ps (u ++ [c]) := by
  have hm := key_mem (c := c) hg hu
  have hi := key_idx (c := c) hg hu
  have hne : u ++ [c] ≠ [] := by simp
  unfold addKey addP numOf posn
  by_cases h : u ++ [c] ∈ ps
  · unfold posn at hm hi
    rw [if_pos (hm.2 h), if_pos h, if_neg hne, hi]
    exact ⟨rfl, rfl, hg, h⟩
  · have hmn := fun hh => h (hm.1 hh)
    have hka := keys_append (c := c) hg hu
    unfold posn at hmn hi hka
    rw [if_neg hmn, if_neg h, if_neg hne, hi]
    refine ⟨hka.symm, ?_, ⟨?_, ?_, ?_⟩, by simp⟩
    · rw [List.idxOf_append, if_neg h, List.idxOf_cons_self, List.idxOf_eq_length h]; omega
    · rw [List.nodup_append]
      refine ⟨hg.once, by simp, fun a ha b hb => ?_⟩
      obtain rfl : b = u ++ [c] := by simpa using hb
      rintro rfl
      exact h ha
    · intro p hp
      rcases List.mem_append.1 hp with hp | hp
      · exact hg.full p hp
      · obtain rfl : p = u ++ [c] := by simpa using hp
        exact hne
    · intro p hp
      rcases List.mem_append.1 hp with hp | hp
      · exact (hg.ahead p hp).imp id (fun h => by simp [h])
      · obtain rfl : p = u ++ [c] := by simpa using hp
        rw [List.dropLast_concat]
        exact hu.imp id (fun h => by simp [h])

theorem addP_len (ps : List (List Int)) (z : List Int) : (addP ps z).length = if z ∈ ps then ps.length else ps.length + 1 := by
  unfold addP; split <;> simp

/-- The greatest number: how many there are. -/
theorem greatest_step {ps : List (List Int)} {z : List Int} (hz : z ≠ []) : max ps.length (posn (addP ps z) z) = (addP ps z).length ∧ posn (addP ps z) z ≤ ps.length + 1 := by
  unfold addP posn
  rw [if_neg hz]
  by_cases h : z ∈ ps
  · rw [if_pos h]
    have := List.idxOf_lt_length_iff.2 h
    omega
  · rw [if_neg h, List.idxOf_append, if_neg h, List.idxOf_cons_self]
    simp

theorem take_snoc (x : List Int) (j : Nat) (h : j < x.length) : x.take (j + 1) = x.take j ++ [x.getD j 0] := by
  rw [List.take_succ_eq_append_getElem h]
  simp [List.getD, h]

/-- A word's beginnings, one by one. -/
theorem word_good {ps : List (List Int)} (hg : Good ps) (x : List Int) : ∀ j, j ≤ x.length → Good (wordP ps x j) ∧ (x.take j = [] ∨ x.take j ∈ wordP ps x j)
  | 0, _ => ⟨hg, .inl (by simp)⟩
  | j + 1, h => by
    obtain ⟨h1, h2⟩ := word_good hg x j (by omega)
    have := key_step (c := x.getD j 0) h1 h2
    rw [← take_snoc x j (by omega)] at this
    exact ⟨this.2.2.1, .inr this.2.2.2⟩

theorem all_snoc (x : List Int) : ∀ (l ps : List (List Int)), allP ps (l ++ [x]) = wordP (allP ps l) x x.length
  | [], ps => rfl
  | y :: l, ps => by simp only [List.cons_append, allP]; exact all_snoc x l _
theorem all_good : ∀ (l : List (List Int)) {ps : List (List Int)}, Good ps → Good (allP ps l)
  | [], ps, h => h
  | x :: l, ps, h => all_good l (word_good h x x.length (Nat.le_refl _)).1
theorem good_nil : Good [] := ⟨List.nodup_nil, (fun p h => by cases h), (fun p h => by cases h)⟩

theorem mem_addP {ps : List (List Int)} {z y : List Int} : y ∈ addP ps z ↔ y ∈ ps ∨ y = z := by
  unfold addP
  split
  · rename_i h
    exact ⟨.inl, fun h' => h'.elim id (fun e => e ▸ h)⟩
  · simp
theorem mem_wordP {ps : List (List Int)} {x y : List Int} : ∀ j, y ∈ wordP ps x j ↔ y ∈ ps ∨ ∃ i, 1 ≤ i ∧ i ≤ j ∧ y = x.take i
  | 0 => ⟨.inl, fun h => h.elim id (fun ⟨i, h1, h2, _⟩ => by omega)⟩
  | j + 1 => by
    unfold wordP
    rw [mem_addP, mem_wordP j]
    constructor
    · rintro ((h | ⟨i, h1, h2, h3⟩) | h)
      · exact .inl h
      · exact .inr ⟨i, h1, by omega, h3⟩
      · exact .inr ⟨j + 1, by omega, by omega, h⟩
    · rintro (h | ⟨i, h1, h2, h3⟩)
      · exact .inl (.inl h)
      · by_cases hi : i ≤ j
        · exact .inl (.inr ⟨i, h1, hi, h3⟩)
        · obtain rfl : i = j + 1 := by omega
          exact .inr h3

/-- What a beginning is: of some word. -/
def Begins (pre ps : List (List Int)) : Prop := ∀ z, z ∈ ps ↔ ∃ y ∈ pre, ∃ i, 1 ≤ i ∧ i ≤ y.length ∧ z = y.take i

theorem take_common : ∀ (x y : List Int) (i : Nat), i ≤ x.length → (i ≤ common x y ↔ ∃ k, k ≤ y.length ∧ x.take i = y.take k)
  | [], y, i, h => by
    obtain rfl : i = 0 := by simpa using h
    exact ⟨fun _ => ⟨0, by simp, by simp⟩, fun _ => by simp⟩
  | a :: x, [], i, h => by
    constructor
    · intro h1
      obtain rfl : i = 0 := by simpa [common] using h1
      exact ⟨0, by simp, by simp⟩
    · rintro ⟨k, hk, he⟩
      have := congrArg List.length he
      simp at this
      simp [common, this]
  | a :: x, b :: y, 0, h => ⟨fun _ => ⟨0, by simp, by simp⟩, fun _ => by simp⟩
  | a :: x, b :: y, i + 1, h => by
    have ih := take_common x y i (by simpa using h)
    unfold common
    by_cases hab : a = b
    · subst hab
      rw [if_pos rfl]
      constructor
      · intro h1
        obtain ⟨k, hk, he⟩ := ih.1 (by omega)
        exact ⟨k + 1, by simp; omega, by simp [he]⟩
      · rintro ⟨k, hk, he⟩
        cases k with
        | zero => simp at he
        | succ k =>
          have := ih.2 ⟨k, by simpa using hk, by simpa using he⟩
          omega
    · rw [if_neg hab]
      constructor
      · intro h1; omega
      · rintro ⟨k, hk, he⟩
        cases k with
        | zero => simp at he
        | succ k => simp at he; exact absurd he.1 hab

theorem begins_old {pre ps : List (List Int)} (hb : Begins pre ps) (x : List Int) (i : Nat) (h1 : 1 ≤ i) (h : i ≤ x.length) : x.take i ∈ ps ↔ i ≤ old pre x := by
  rw [hb]
  constructor
  · rintro ⟨y, hy, k, k1, k2, he⟩
    have := (take_common x y i h).2 ⟨k, k2, he⟩
    have := old_mem (x := x) hy
    omega
  · intro hi
    rcases old_or pre x with h0 | ⟨y, hy, h0⟩
    · omega
    · obtain ⟨k, hk, he⟩ := (take_common x y i h).1 (by omega)
      refine ⟨y, hy, k, ?_, hk, he⟩
      have := congrArg List.length he
      simp at this
      omega

theorem word_len {pre ps : List (List Int)} (hb : Begins pre ps) (x : List Int) : ∀ j, j ≤ x.length → (wordP ps x j).length = ps.length + (j - old pre x)
  | 0, _ => by simp [wordP]
  | j + 1, h => by
    have ih := word_len hb x j (by omega)
    unfold wordP
    have hbo := begins_old hb x (j + 1) (by omega) h
    rw [addP_len]
    by_cases ho : j + 1 ≤ old pre x
    · rw [if_pos ((mem_wordP j).2 (.inl (hbo.2 ho)))]; omega
    · rw [if_neg]
      · omega
      · intro hm
        rcases (mem_wordP j).1 hm with h' | ⟨i, h1, h2, h3⟩
        · exact ho (hbo.1 h')
        · have := congrArg List.length h3
          simp at this
          omega

theorem begins_word {pre ps : List (List Int)} (hb : Begins pre ps) (x : List Int) : Begins (pre ++ [x]) (wordP ps x x.length) := fun z => by
  rw [mem_wordP, hb]
  constructor
  · rintro (⟨y, hy, h⟩ | ⟨i, h1, h2, h3⟩)
    · exact ⟨y, by simp [hy], h⟩
    · exact ⟨x, by simp, i, h1, h2, h3⟩
  · rintro ⟨y, hy, i, h1, h2, h3⟩
    rcases List.mem_append.1 hy with hy | hy
    · exact .inl ⟨y, hy, i, h1, h2, h3⟩
    · obtain rfl : y = x := by simpa using hy
      exact .inr ⟨i, h1, h2, h3⟩

theorem all_len : ∀ (l pre ps : List (List Int)), Begins pre ps → (allP ps l).length = ps.length + nodesFrom pre l
  | [], pre, ps, _ => rfl
  | x :: l, pre, ps, hb => by
    unfold allP nodesFrom
    rw [all_len l (pre ++ [x]) _ (begins_word hb x), word_len hb x x.length (Nat.le_refl _)]
    omega

/-- **How many different beginnings there are, the empty one with them.** -/
theorem nodes_all (f : Bool) (xss : List (List Int)) : nodes f xss = 1 + (allP [] (xss.map (foldIf f))).length := by
  unfold nodes nodesOf
  rw [all_len _ [] [] (fun z => by simp)]
  simp

theorem wordP_len_le (ps : List (List Int)) (x : List Int) : ∀ j, (wordP ps x j).length ≤ ps.length + j
  | 0 => Nat.le_refl _
  | j + 1 => by
    have := wordP_len_le ps x j
    unfold wordP
    rw [addP_len]
    split <;> omega
theorem allP_len_le : ∀ (l ps : List (List Int)), (allP ps l).length ≤ ps.length + l.flatten.length
  | [], ps => by simp [allP]
  | x :: l, ps => by
    have h1 := allP_len_le l (wordP ps x x.length)
    have h2 := wordP_len_le ps x x.length
    unfold allP
    rw [List.flatten_cons, List.length_append]
    omega

end Go.Proofs.Ytojbkhheaondhaa.PlainNumbers
