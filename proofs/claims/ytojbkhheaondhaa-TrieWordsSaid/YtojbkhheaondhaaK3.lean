/- The tree of a set's words: its nodes in order. Plain mathematics, of no program. The tree of a set's words: how many nodes, the tree, its words. Plain mathematics, of no program. What follows for trees: nodes above stand ahead, each node has a kid or is a word, exchanged words. Plain mathematics, of no program. -/
import Derived.Test.YtojbkhheaondhaaK1
set_option linter.unusedSimpArgs false
set_option linter.unusedVariables false
namespace Go.Proofs.Ytojbkhheaondhaa.PlainTrie
open PlainLetter

/-- Of one length: the first byte in which they differ. -/
def lex : List Int → List Int → Bool
  | a :: as, b :: bs => if a = b then lex as bs else decide (a < b)
  | _, _ => false
def less (a b : List Int) : Bool := if a.length = b.length then lex a b else decide (a.length < b.length)
/-- A list in order, with one more. -/
def put (b : List Int) : List (List Int) → List (List Int)
  | [] => [b]
  | x :: l => if less x b = true then x :: put b l else if x = b then x :: l else b :: x :: l
/-- .. with the beginnings of a word, as far as from some length on up to another one. -/
def putTo (x : List Int) (l : List (List Int)) : Nat → List (List Int)
  | 0 => l
  | k + 1 => put (x.take (k + 1)) (putTo x l k)
def nodesTo (ws : List (List Int)) : Nat → List (List Int)
  | 0 => [[]]
  | i + 1 => putTo (ws.getD i []) (nodesTo ws i) (ws.getD i []).length
def nodes (ws : List (List Int)) : List (List Int) := nodesTo ws ws.length

theorem lex_irrefl : ∀ a, lex a a = false
  | [] => rfl
  | a :: as => by unfold lex; rw [if_pos rfl]; exact lex_irrefl as
theorem lex_trans : ∀ a b c, lex a b = true → lex b c = true → lex a c = true
  | [], _, _, h, _ => by simp [lex] at h
  | _ :: _, [], _, h, _ => by simp [lex] at h
  | _ :: _, _ :: _, [], _, h => by simp [lex] at h
  | a :: as, b :: bs, c :: cs, h, h' => by
    unfold lex at h h' ⊢
    split at h
    · rename_i e; subst e
      split at h'
      · rename_i e; subst e; rw [if_pos rfl]; exact lex_trans _ _ _ h h'
      · rename_i e; rw [if_neg e]; exact h'
    · rename_i e
      split at h'
      · rename_i e'; subst e'; rw [if_neg e]; exact h
      · rename_i e'
        simp only [decide_eq_true_eq] at h h'
        rw [if_neg (by omega)]
        simp only [decide_eq_true_eq]; omega
theorem lex_three : ∀ a b, a.length = b.length → lex a b = true ∨ a = b ∨ lex b a = true
  | [], [], _ => .inr (.inl rfl)
  | [], _ :: _, h => by simp at h
  | _ :: _, [], h => by simp at h
  | a :: as, b :: bs, h => by
    unfold lex
    by_cases e : a = b
    · subst e
      rw [if_pos rfl, if_pos rfl]
      rcases lex_three as bs (by simpa using h) with h1 | h1 | h1
      · exact .inl h1
      · exact .inr (.inl (by rw [h1]))
      · exact .inr (.inr h1)
    · rw [if_neg e, if_neg (Ne.symm e)]
      simp only [decide_eq_true_eq]
      omega
theorem less_irrefl (a : List Int) : less a a = false := by unfold less; rw [if_pos rfl]; exact lex_irrefl a
theorem less_trans {a b c : List Int} (h : less a b = true) (h' : less b c = true) : less a c = true := by
  unfold less at h h' ⊢
  split at h
  · split at h'
    · rw [if_pos (by omega)]; exact lex_trans _ _ _ h h'
    · rw [if_neg (by omega)]; simp only [decide_eq_true_eq] at h' ⊢; omega
  · simp only [decide_eq_true_eq] at h
    split at h'
    · rw [if_neg (by omega)]; simp only [decide_eq_true_eq]; omega
    · simp only [decide_eq_true_eq] at h'; rw [if_neg (by omega)]; simp only [decide_eq_true_eq]; omega
theorem less_three (a b : List Int) : less a b = true ∨ a = b ∨ less b a = true := by
  unfold less
  by_cases e : a.length = b.length
  · rw [if_pos e, if_pos e.symm]; exact lex_three a b e
  · rw [if_neg e, if_neg (Ne.symm e)]; simp only [decide_eq_true_eq]; omega
theorem less_shorter {a b : List Int} (h : a.length < b.length) : less a b = true := by
  unfold less; rw [if_neg (by omega)]; simpa using h
theorem less_length {a b : List Int} (h : less a b = true) : a.length ≤ b.length := by
  unfold less at h
  split at h
  · omega
  · simp only [decide_eq_true_eq] at h; omega
theorem less_ne {a b : List Int} (h : less a b = true) : a ≠ b := by rintro rfl; rw [less_irrefl] at h; cases h

def Rises (l : List (List Int)) : Prop := l.Pairwise fun a b => less a b = true

theorem mem_put (b y : List Int) : ∀ l, y ∈ put b l ↔ y = b ∨ y ∈ l
  | [] => by simp [put]
  | x :: l => by
    unfold put
    split
    · simp only [List.mem_cons, mem_put b y l]
      constructor
      · rintro (h | h | h) <;> simp [h]
      · rintro (h | h | h) <;> simp [h]
    · split
      · rename_i e; subst e
        simp only [List.mem_cons]
        constructor
        · rintro (h | h) <;> simp [h]
        · rintro (h | h | h) <;> simp [h]
      · simp only [List.mem_cons]
theorem put_rises (b : List Int) : ∀ l, Rises l → Rises (put b l)
  | [], _ => by simp [put, Rises]
  | x :: l, h => by
    have hx := (List.pairwise_cons.1 h).1
    have hl := (List.pairwise_cons.1 h).2
    unfold put
    split
    · rename_i h1
      refine List.pairwise_cons.2 ⟨fun y hy => ?_, put_rises b l hl⟩
      rcases (mem_put b y l).1 hy with rfl | hy
      · exact h1
      · exact hx y hy
    · split
      · exact h
      · rename_i h1 h2
        have hb : less b x = true := by
          rcases less_three x b with h | h | h
          · exact absurd h h1
          · exact absurd h h2
          · exact h
        refine List.pairwise_cons.2 ⟨fun y hy => ?_, h⟩
        rcases List.mem_cons.1 hy with rfl | hy
        · exact hb
        · exact less_trans hb (hx y hy)
theorem put_length (b : List Int) : ∀ l, Rises l → (put b l).length = l.length + if b ∈ l then 0 else 1
  | [], _ => by simp [put]
  | x :: l, h => by
    have hx := (List.pairwise_cons.1 h).1
    have hl := (List.pairwise_cons.1 h).2
    unfold put
    split
    · rename_i h1
      rw [List.length_cons, put_length b l hl, List.length_cons]
      have : b ∈ x :: l ↔ b ∈ l := by
        simp only [List.mem_cons]
        exact ⟨fun h => h.resolve_left (fun e => by subst e; exact less_ne h1 rfl), .inr⟩
      simp only [this]; omega
    · split
      · rename_i h2; subst h2; simp
      · rename_i h1 h2
        have hb : less b x = true := by
          rcases less_three x b with h | h | h
          · exact absurd h h1
          · exact absurd h h2
          · exact h
        have : b ∉ x :: l := by
          intro hm
          rcases List.mem_cons.1 hm with e | hm
          · exact h2 e.symm
          · exact less_ne (less_trans hb (hx b hm)) rfl
        rw [if_neg this]; simp
/-- What the loop finds. -/
theorem put_at (b : List Int) (l : List (List Int)) (k : Nat) (hk : k ≤ l.length) (h1 : ∀ j, j < k → less (l.getD j []) b = true) (h2 : k = l.length ∨ less (l.getD k []) b = false) :
    put b l = if k < l.length ∧ l.getD k [] = b then l else l.take k ++ b :: l.drop k := by
  induction l generalizing k with
  | nil => have : k = 0 := by simpa using hk
           subst this; simp [put]
  | cons x l ih =>
    cases k with
    | zero =>
      have h3 : less x b = false := by simpa using h2
      unfold put
      rw [if_neg (by rw [h3]; simp)]
      by_cases e : x = b
      · rw [if_pos e, if_pos (by simp [e])]
      · rw [if_neg e, if_neg (by simp [e])]; simp
    | succ k =>
      have h3 : less x b = true := h1 0 (by omega)
      unfold put
      rw [if_pos h3, ih k (by simpa using hk) (fun j hj => by have := h1 (j + 1) (by omega); simpa using this) (by simpa using h2)]
      simp only [List.length_cons, Nat.add_lt_add_iff_right, List.getD_cons_succ, List.take_succ_cons, List.drop_succ_cons, List.cons_append]
      split <;> rfl

theorem mem_putTo (x y : List Int) (l : List (List Int)) : ∀ k, y ∈ putTo x l k ↔ y ∈ l ∨ ∃ j, j < k ∧ y = x.take (j + 1)
  | 0 => by simp [putTo]
  | k + 1 => by
    unfold putTo
    rw [mem_put, mem_putTo x y l k]
    constructor
    · rintro (h | h | ⟨j, hj, h⟩)
      · exact .inr ⟨k, by omega, h⟩
      · exact .inl h
      · exact .inr ⟨j, by omega, h⟩
    · rintro (h | ⟨j, hj, h⟩)
      · exact .inr (.inl h)
      · by_cases e : j = k
        · subst e; exact .inl h
        · exact .inr (.inr ⟨j, by omega, h⟩)
theorem putTo_rises (x : List Int) (l : List (List Int)) (h : Rises l) : ∀ k, Rises (putTo x l k)
  | 0 => h
  | k + 1 => put_rises _ _ (putTo_rises x l h k)
theorem nodesTo_rises (ws : List (List Int)) : ∀ i, Rises (nodesTo ws i)
  | 0 => by simp [nodesTo, Rises]
  | i + 1 => putTo_rises _ _ (nodesTo_rises ws i) _
theorem mem_nodesTo (ws : List (List Int)) (y : List Int) : ∀ i, i ≤ ws.length → (y ∈ nodesTo ws i ↔ y = [] ∨ ∃ x ∈ ws.take i, y <+: x)
  | 0, _ => by simp [nodesTo]
  | i + 1, h => by
    unfold nodesTo
    rw [mem_putTo, mem_nodesTo ws y i (by omega)]
    have hi : i < ws.length := by omega
    have hg : ws.getD i [] = ws[i] := by simp [List.getD, hi]
    rw [hg, List.take_succ_eq_append_getElem hi]
    simp only [List.mem_append, List.mem_singleton]
    constructor
    · rintro ((h | ⟨x, hx, h⟩) | ⟨j, hj, h⟩)
      · exact .inl h
      · exact .inr ⟨x, .inl hx, h⟩
      · exact .inr ⟨_, .inr rfl, h ▸ List.take_prefix _ _⟩
    · rintro (h | ⟨x, hx | hx, h⟩)
      · exact .inl (.inl h)
      · exact .inl (.inr ⟨x, hx, h⟩)
      · subst hx
        rcases Nat.eq_zero_or_pos y.length with h0 | h0
        · exact .inl (.inl (List.length_eq_zero_iff.1 h0))
        · have := h.length_le
          refine .inr ⟨y.length - 1, by omega, ?_⟩
          rw [Nat.sub_add_cancel h0]
          exact List.prefix_iff_eq_take.1 h
theorem nodes_rises (ws : List (List Int)) : Rises (nodes ws) := nodesTo_rises ws _
theorem mem_nodes (ws : List (List Int)) (y : List Int) : y ∈ nodes ws ↔ y = [] ∨ ∃ x ∈ ws, y <+: x := by
  unfold nodes; rw [mem_nodesTo ws y _ (Nat.le_refl _), List.take_length]
theorem nodes_prefix {ws : List (List Int)} {x y : List Int} (h : x ∈ nodes ws) (hy : y <+: x) : y ∈ nodes ws := by
  rw [mem_nodes] at h ⊢
  rcases h with rfl | ⟨z, hz, h⟩
  · exact .inl (by simpa using hy)
  · exact .inr ⟨z, hz, hy.trans h⟩
theorem word_node {ws : List (List Int)} {x : List Int} (h : x ∈ ws) : x ∈ nodes ws := (mem_nodes ws x).2 (.inr ⟨x, h, List.prefix_refl x⟩)
theorem rises_nodup {l : List (List Int)} (h : Rises l) : l.Nodup := h.imp fun h => less_ne h
/-- Two lists in order with the same elements are one. -/
theorem rises_ext : ∀ {l m : List (List Int)}, Rises l → Rises m → (∀ x, x ∈ l ↔ x ∈ m) → l = m
  | [], [], _, _, _ => rfl
  | [], y :: m, _, _, h => by have := (h y).2 (by simp); simp at this
  | x :: l, [], _, _, h => by have := (h x).1 (by simp); simp at this
  | x :: l, y :: m, hl, hm, h => by
    have hx := (List.pairwise_cons.1 hl).1
    have hy := (List.pairwise_cons.1 hm).1
    have e : x = y := by
      rcases less_three x y with h1 | h1 | h1
      · rcases List.mem_cons.1 ((h x).1 (by simp)) with e | h2
        · exact e
        · exact absurd rfl (less_ne (less_trans h1 (hy x h2)))
      · exact h1
      · rcases List.mem_cons.1 ((h y).2 (by simp)) with e | h2
        · exact e.symm
        · exact absurd rfl (less_ne (less_trans h1 (hx y h2)))
    subst e
    rw [rises_ext (List.pairwise_cons.1 hl).2 (List.pairwise_cons.1 hm).2 fun z => ⟨fun hz => ?_, fun hz => ?_⟩]
    · rcases List.mem_cons.1 ((h z).1 (List.mem_cons_of_mem _ hz)) with e | h2
      · exact absurd e.symm (less_ne (hx z hz))
      · exact h2
    · rcases List.mem_cons.1 ((h z).2 (List.mem_cons_of_mem _ hz)) with e | h2
      · exact absurd e.symm (less_ne (hy z hz))
      · exact h2
theorem nodes_perm {s t : List (List Int)} (h : ∀ x, x ∈ s ↔ x ∈ t) : nodes s = nodes t :=
  rises_ext (nodes_rises s) (nodes_rises t) fun x => by
    rw [mem_nodes, mem_nodes]
    constructor
    · rintro (h1 | ⟨z, hz, h1⟩)
      · exact .inl h1
      · exact .inr ⟨z, (h z).1 hz, h1⟩
    · rintro (h1 | ⟨z, hz, h1⟩)
      · exact .inl h1
      · exact .inr ⟨z, (h z).2 hz, h1⟩
theorem nodes_first (ws : List (List Int)) : ∃ l, nodes ws = [] :: l := by
  have h := (mem_nodes ws []).2 (.inl rfl)
  have hr := nodes_rises ws
  cases e : nodes ws with
  | nil => rw [e] at h; simp at h
  | cons x l =>
    rw [e] at h hr
    rcases List.mem_cons.1 h with e | h
    · subst e; exact ⟨l, rfl⟩
    · have := less_length ((List.pairwise_cons.1 hr).1 _ h)
      have : x = [] := List.length_eq_zero_iff.1 (by simpa using this)
      subst this; exact ⟨l, rfl⟩

end Go.Proofs.Ytojbkhheaondhaa.PlainTrie

namespace Go.Proofs.Ytojbkhheaondhaa.PlainTrie
open PlainLetter

theorem prefix_common : ∀ (m : Nat) (x z : List Int), m ≤ x.length → (x.take m <+: z ↔ m ≤ PlainPatset.common x z)
  | 0, _, _, _ => by simp
  | m + 1, [], _, h => by simp at h
  | m + 1, a :: x, [], _ => by simp [PlainPatset.common]
  | m + 1, a :: x, b :: z, h => by
    rw [List.take_succ_cons, List.cons_prefix_cons, prefix_common m x z (by simpa using h)]
    rw [show PlainPatset.common (a :: x) (b :: z) = if a = b then PlainPatset.common x z + 1 else 0 from rfl]
    by_cases e : a = b
    · rw [if_pos e]; simp [e]
    · rw [if_neg e]; simp [e]
theorem old_some {l : List (List Int)} {x : List Int} {m : Nat} (h0 : 0 < m) : m ≤ PlainPatset.old l x ↔ ∃ z ∈ l, m ≤ PlainPatset.common x z := by
  constructor
  · intro h
    rcases PlainPatset.old_or l x with e | ⟨z, hz, e⟩
    · omega
    · exact ⟨z, hz, by omega⟩
  · rintro ⟨z, hz, h⟩
    exact Nat.le_trans h (PlainPatset.old_mem hz)
theorem putTo_length (ws : List (List Int)) (x : List Int) (i : Nat) (hi : i ≤ ws.length) : ∀ k, k ≤ x.length → (putTo x (nodesTo ws i) k).length = (nodesTo ws i).length + (k - PlainPatset.old (ws.take i) x)
  | 0, _ => by simp [putTo]
  | k + 1, hk => by
    unfold putTo
    rw [put_length _ _ (putTo_rises x _ (nodesTo_rises ws i) k), putTo_length ws x i hi k (by omega)]
    have key : x.take (k + 1) ∈ putTo x (nodesTo ws i) k ↔ k + 1 ≤ PlainPatset.old (ws.take i) x := by
      rw [mem_putTo, mem_nodesTo ws _ i hi, old_some (by omega)]
      constructor
      · rintro ((h | ⟨z, hz, h⟩) | ⟨j, hj, h⟩)
        · have := congrArg List.length h; rw [List.length_take, List.length_nil] at this; omega
        · exact ⟨z, hz, (prefix_common _ _ _ hk).1 h⟩
        · have := congrArg List.length h; rw [List.length_take, List.length_take] at this; omega
      · rintro ⟨z, hz, h⟩
        exact .inl (.inr ⟨z, hz, (prefix_common _ _ _ hk).2 h⟩)
    by_cases e : k + 1 ≤ PlainPatset.old (ws.take i) x
    · rw [if_pos (key.2 e)]; omega
    · rw [if_neg (fun h => e (key.1 h))]; omega
theorem nodesTo_length (ws : List (List Int)) : ∀ i, i ≤ ws.length → (nodesTo ws i).length = PlainPatset.nodesOf (ws.take i)
  | 0, _ => by simp [nodesTo, PlainPatset.nodesOf, PlainPatset.nodesFrom]
  | i + 1, h => by
    unfold nodesTo
    have hi : i < ws.length := by omega
    have hg : ws.getD i [] = ws[i] := by simp [List.getD, hi]
    rw [putTo_length ws _ i (by omega) _ (Nat.le_refl _), nodesTo_length ws i (by omega), hg, List.take_succ_eq_append_getElem hi, PlainPatset.nodesOf_more]
theorem nodes_length (ws : List (List Int)) : (nodes ws).length = PlainPatset.nodesOf ws := by
  unfold nodes; rw [nodesTo_length ws _ (Nat.le_refl _), List.take_length]

/-- Where a text stands in a list; -1: nowhere. -/
def place (l : List (List Int)) (b : List Int) : Int := if b ∈ l then (l.idxOf b : Int) else -1

theorem place_mem {l : List (List Int)} {b : List Int} (h : b ∈ l) : place l b = (l.idxOf b : Int) := if_pos h
theorem place_none {l : List (List Int)} {b : List Int} (h : b ∉ l) : place l b = -1 := if_neg h
theorem place_at {l : List (List Int)} (h : l.Nodup) (i : Nat) (hi : i < l.length) : place l l[i] = i := by
  rw [place_mem (List.getElem_mem hi), h.idxOf_getElem i hi]
theorem place_lt (l : List (List Int)) (b : List Int) : place l b < l.length := by
  unfold place
  split
  · rename_i h; have := List.idxOf_lt_length_iff.2 h; omega
  · omega
theorem place_get {l : List (List Int)} {b : List Int} {i : Nat} (h : place l b = i) : ∃ hi : i < l.length, l[i] = b := by
  unfold place at h
  split at h
  · rename_i hm
    have hi := List.idxOf_lt_length_iff.2 hm
    have e : l.idxOf b = i := by omega
    subst e
    exact ⟨hi, List.getElem_idxOf hi⟩
  · omega
/-- What the loop finds. -/
theorem place_loop {l : List (List Int)} {b : List Int} {k : Nat} (hk : k < l.length) (h1 : ∀ j, j < k → l.getD j [] ≠ b) (h2 : l.getD k [] = b) : place l b = k := by
  have hg : l[k] = b := by simpa [List.getD, hk] using h2
  have hm : b ∈ l := hg ▸ List.getElem_mem hk
  rw [place_mem hm]
  have hi := List.idxOf_lt_length_iff.2 hm
  have e := List.getElem_idxOf hi
  have h3 : ¬ l.idxOf b < k := fun h => h1 _ h (by simp [List.getD, hi])
  have h4 : l.idxOf b ≤ k := by
    rcases Nat.lt_or_ge k (l.idxOf b) with h | h
    · have := List.not_of_lt_findIdx (p := (· == b)) (xs := l) h
      simp [hg] at this
    · exact h
  omega
theorem place_loop_none {l : List (List Int)} {b : List Int} (h : ∀ j, j < l.length → l.getD j [] ≠ b) : place l b = -1 := by
  refine place_none fun hm => ?_
  obtain ⟨i, hi, e⟩ := List.getElem_of_mem hm
  exact h i hi (by simpa [List.getD, hi] using e)

structure Tree where
  up : List Int
  depth : List Int
  word : List Int
  byte : List Int
deriving DecidableEq

def make (ws : List (List Int)) : Tree where
  up := (nodes ws).map fun b => place (nodes ws) (b.take (b.length - 1))
  depth := (nodes ws).map fun b => (b.length : Int)
  word := (nodes ws).map fun b => place ws b
  byte := (nodes ws).map fun b => b.getD (b.length - 1) 0

def climb (up byte : List Int) : Nat → Int → List Int
  | 0, _ => []
  | f + 1, i => if 0 < i ∧ i < up.length ∧ i < byte.length then climb up byte f (up.getD i.toNat 0) ++ [byte.getD i.toNat 0] else []
def spell (t : Tree) (i : Int) : List Int := climb t.up t.byte 32 i
def wordsFrom (t : Tree) : Nat → Nat → List (List Int)
  | 0, _ => []
  | f + 1, w => if (w : Int) ∈ t.word then spell t (t.word.idxOf (w : Int) : Nat) :: wordsFrom t f (w + 1) else []
def words (t : Tree) : List (List Int) := wordsFrom t 64 0
/-- A list that is a set's words, without fold. -/
def Words (ws : List (List Int)) : Prop := PlainPatset.check false ws = 0 ∧ PlainPatset.makeWords false ws = ws
instance (ws : List (List Int)) : Decidable (Words ws) := by unfold Words; infer_instance
def right (t : Tree) : Bool := decide (t.up.length ≤ 400 ∧ t.word.length ≤ 400 ∧ Words (words t) ∧ make (words t) = t)

structure Fine (ws : List (List Int)) : Prop where
  some : ws ≠ []
  few : ws.length ≤ 64
  full : ∀ x ∈ ws, x ≠ []
  short : ∀ x ∈ ws, x.length ≤ 32
  nodes : PlainPatset.nodesOf ws ≤ 400
  once : ws.Nodup

theorem map_foldIf_false (l : List (List Int)) : l.map (foldIf false) = l := by
  rw [show foldIf false = id from funext fun a => by simp [foldIf]]; simp
theorem Words.fine {ws : List (List Int)} (h : Words ws) : Fine ws := by
  obtain ⟨h, hm⟩ := h
  have s := PlainPatset.setOf_make false ws
  rw [hm] at s
  unfold PlainPatset.check at h
  by_cases h1 : ws = []
  · rw [if_pos h1] at h; omega
  rw [if_neg h1] at h
  by_cases h2 : 64 < ws.length
  · rw [if_pos h2] at h; omega
  rw [if_neg h2] at h
  by_cases h3 : ∃ x ∈ ws, x = []
  · rw [if_pos h3] at h; omega
  rw [if_neg h3] at h
  by_cases h4 : ∃ x ∈ ws, 32 < x.length
  · rw [if_pos h4] at h; omega
  rw [if_neg h4] at h
  by_cases h5 : 600 < PlainPatset.total ws
  · rw [if_pos h5] at h; omega
  rw [if_neg h5] at h
  by_cases h6 : 400 < PlainPatset.nodes false ws
  · rw [if_pos h6] at h; omega
  refine ⟨h1, by omega, fun x hx e => h3 ⟨x, hx, e⟩, fun x hx => ?_, ?_, s.once⟩
  · rcases Nat.lt_or_ge 32 x.length with h | h
    · exact absurd ⟨x, hx, h⟩ h4
    · exact h
  · unfold PlainPatset.nodes at h6
    rw [map_foldIf_false] at h6
    omega

theorem nodes_short {ws : List (List Int)} (h : Fine ws) : ∀ b ∈ nodes ws, b.length ≤ 32 := fun b hb => by
  rcases (mem_nodes ws b).1 hb with rfl | ⟨x, hx, hp⟩
  · simp
  · exact Nat.le_trans hp.length_le (h.short x hx)

theorem make_length (ws : List (List Int)) : (make ws).up.length = (nodes ws).length ∧ (make ws).depth.length = (nodes ws).length ∧ (make ws).word.length = (nodes ws).length ∧ (make ws).byte.length = (nodes ws).length := by
  simp [make]

theorem climb_make (ws : List (List Int)) : ∀ (f i : Nat) (hi : i < (nodes ws).length), (nodes ws)[i].length ≤ f → climb (make ws).up (make ws).byte f i = (nodes ws)[i]
  | 0, i, hi, h => by unfold climb; exact (List.length_eq_zero_iff.1 (by omega)).symm
  | f + 1, i, hi, h => by
    unfold climb
    obtain ⟨l, hl⟩ := nodes_first ws
    by_cases h0 : i = 0
    · subst h0; rw [if_neg (by omega)]; simp [hl]
    · obtain ⟨h1, _, _, h4⟩ := make_length ws
      rw [if_pos ⟨by omega, by omega, by omega⟩]
      have hb : (nodes ws)[i] ∈ nodes ws := List.getElem_mem hi
      have hne : (nodes ws)[i] ≠ [] := fun e => by
        have h5 := place_at (rises_nodup (nodes_rises ws)) i hi
        rw [e] at h5
        have h6 : place (nodes ws) [] = 0 := by rw [hl]; simp [place]
        omega
      have hpos : 0 < (nodes ws)[i].length := List.length_pos_iff.2 hne
      have hp : (nodes ws)[i].take ((nodes ws)[i].length - 1) ∈ nodes ws := nodes_prefix hb (List.take_prefix _ _)
      have hj := List.idxOf_lt_length_iff.2 hp
      have e1 : (make ws).up.getD (i : Int).toNat 0 = ((nodes ws).idxOf ((nodes ws)[i].take ((nodes ws)[i].length - 1)) : Nat) := by
        simp [make, List.getD, hi, place_mem hp]
      have e2 : (make ws).byte.getD (i : Int).toNat 0 = (nodes ws)[i].getD ((nodes ws)[i].length - 1) 0 := by
        simp [make, List.getD, hi]
      have e3 := List.getElem_idxOf hj
      rw [e1, e2, climb_make ws f _ hj (by rw [e3]; simp; omega), e3]
      generalize (nodes ws)[i] = b at hpos ⊢
      have hlt : b.length - 1 < b.length := by omega
      rw [show b.getD (b.length - 1) 0 = b[b.length - 1] by simp [List.getD, hlt], ← List.take_succ_eq_append_getElem hlt, Nat.sub_add_cancel hpos, List.take_length]
theorem spell_make {ws : List (List Int)} (h : Fine ws) (i : Nat) (hi : i < (nodes ws).length) : spell (make ws) i = (nodes ws)[i] :=
  climb_make ws 32 i hi (nodes_short h _ (List.getElem_mem hi))

theorem word_make (ws : List (List Int)) (i : Nat) (hi : i < (nodes ws).length) : (make ws).word.getD i 0 = place ws (nodes ws)[i] := by simp [make, List.getD, hi]

theorem wordsFrom_make {ws : List (List Int)} (h : Fine ws) : ∀ f w, w + f = 64 → w ≤ ws.length → wordsFrom (make ws) f w = ws.drop w
  | 0, w, e, hw => by
    have := h.few
    unfold wordsFrom; rw [List.drop_eq_nil_of_le (by omega)]
  | f + 1, w, e, hw => by
    unfold wordsFrom
    rcases Nat.lt_or_ge w ws.length with hlt | hge
    · have hm : ws[w] ∈ nodes ws := word_node (List.getElem_mem hlt)
      have hj := List.idxOf_lt_length_iff.2 hm
      have e3 := List.getElem_idxOf hj
      have hmem : (w : Int) ∈ (make ws).word := by
        refine List.mem_map.2 ⟨ws[w], hm, place_at h.once w hlt⟩
      rw [if_pos hmem]
      have hi := List.idxOf_lt_length_iff.2 hmem
      have e4 := List.getElem_idxOf hi
      have hi' : (make ws).word.idxOf (w : Int) < (nodes ws).length := by rw [(make_length ws).2.2.1] at hi; exact hi
      have e5 : place ws (nodes ws)[(make ws).word.idxOf (w : Int)] = w := by
        rw [← word_make ws _ hi']; simp [List.getD, hi]
      obtain ⟨_, e6⟩ := place_get e5
      rw [spell_make h _ hi', ← e6, wordsFrom_make h f (w + 1) (by omega) hlt, List.drop_eq_getElem_cons hlt]
    · rw [if_neg, List.drop_eq_nil_of_le hge]
      intro hmem
      obtain ⟨b, _, hb⟩ := List.mem_map.1 hmem
      have := place_lt ws b
      omega
theorem words_make {ws : List (List Int)} (h : Fine ws) : words (make ws) = ws := by
  have := wordsFrom_make h 64 0 rfl (Nat.zero_le _)
  simpa [words] using this
theorem right_make {ws : List (List Int)} (h : Words ws) : right (make ws) = true := by
  have hf := h.fine
  have hn := hf.nodes
  obtain ⟨h1, _, h3, _⟩ := make_length ws
  unfold right
  rw [words_make hf]
  simp only [decide_eq_true_eq]
  rw [h1, h3, nodes_length]
  exact ⟨hn, hn, h, trivial⟩
theorem right_is {t : Tree} (h : right t = true) : ∃ ws, Words ws ∧ t = make ws ∧ words t = ws := by
  unfold right at h
  simp only [decide_eq_true_eq] at h
  exact ⟨words t, h.2.2.1, h.2.2.2.symm, rfl⟩
/-- A folded set's words are a set's words without fold, too. -/
theorem right_fold (f : Bool) {ws : List (List Int)} (h : PlainPatset.check f ws = 0) (h' : PlainPatset.makeWords f ws = ws) : Words ws := by
  have s := PlainPatset.setOf_make f ws
  rw [h'] at s
  have hn : PlainPatset.nodes f ws = PlainPatset.nodes false ws := by
    unfold PlainPatset.nodes; rw [s.folds.map, map_foldIf_false]
  refine ⟨?_, PlainPatset.makeWords_own false ws (fun x _ => by simp [foldIf]) s.once⟩
  unfold PlainPatset.check at h ⊢
  rw [← hn]; exact h

end Go.Proofs.Ytojbkhheaondhaa.PlainTrie

namespace Go.Proofs.Ytojbkhheaondhaa.PlainTrie
open PlainLetter

theorem rises_lt {l : List (List Int)} (h : Rises l) {i j : Nat} (hi : i < l.length) (hj : j < l.length) (hl : less l[i] l[j] = true) : i < j := by
  rcases Nat.lt_trichotomy i j with h1 | h1 | h1
  · exact h1
  · subst h1; rw [less_irrefl] at hl; cases hl
  · have := List.pairwise_iff_getElem.1 h j i hj hi h1
    have := less_trans hl this
    rw [less_irrefl] at this; cases this
theorem rises_at {l : List (List Int)} (h : Rises l) {i j : Nat} (hij : i < j) (hj : j < l.length) : less (l[i]'(by omega)) l[j] = true :=
  List.pairwise_iff_getElem.1 h i j (by omega) hj hij

/-- The node above stands ahead. -/
theorem up_lt {ws : List (List Int)} {i : Nat} (hi : i < (nodes ws).length) (h0 : 0 < i) :
    ∃ j, ∃ hj : j < (nodes ws).length, place (nodes ws) ((nodes ws)[i].take ((nodes ws)[i].length - 1)) = j ∧ j < i ∧ (nodes ws)[j] = (nodes ws)[i].take ((nodes ws)[i].length - 1) ∧ 0 < (nodes ws)[i].length := by
  obtain ⟨l, hl⟩ := nodes_first ws
  have hne : (nodes ws)[i] ≠ [] := fun e => by
    have h5 := place_at (rises_nodup (nodes_rises ws)) i hi
    rw [e] at h5
    have h6 : place (nodes ws) [] = 0 := by rw [hl]; simp [place]
    omega
  have hpos : 0 < (nodes ws)[i].length := List.length_pos_iff.2 hne
  have hp : (nodes ws)[i].take ((nodes ws)[i].length - 1) ∈ nodes ws := nodes_prefix (List.getElem_mem hi) (List.take_prefix _ _)
  have hj := List.idxOf_lt_length_iff.2 hp
  have e3 := List.getElem_idxOf hj
  refine ⟨_, hj, place_mem hp, rises_lt (nodes_rises ws) hj hi ?_, e3, hpos⟩
  rw [e3]
  exact less_shorter (by rw [List.length_take]; omega)

/-- Each node has a kid, or is a word. -/
theorem kid_or_word {ws : List (List Int)} (h : Fine ws) {b : List Int} (hb : b ∈ nodes ws) (hw : b ∉ ws) : ∃ y ∈ nodes ws, 0 < y.length ∧ y.take (y.length - 1) = b := by
  have step : ∀ x ∈ ws, b <+: x → b ≠ x → ∃ y ∈ nodes ws, 0 < y.length ∧ y.take (y.length - 1) = b := fun x hx hp hne => by
    have hlt : b.length < x.length := by
      rcases Nat.lt_or_ge b.length x.length with h1 | h1
      · exact h1
      · exact absurd (hp.eq_of_length (by have := hp.length_le; omega)) hne
    refine ⟨x.take (b.length + 1), nodes_prefix (word_node hx) (List.take_prefix _ _), by rw [List.length_take]; omega, ?_⟩
    have e1 : (x.take (b.length + 1)).length - 1 = b.length := by rw [List.length_take]; omega
    rw [e1, List.take_take, show min b.length (b.length + 1) = b.length by omega]
    exact (List.prefix_iff_eq_take.1 hp).symm
  rcases (mem_nodes ws b).1 hb with rfl | ⟨x, hx, hp⟩
  · obtain ⟨x, l, rfl⟩ := List.exists_cons_of_ne_nil h.some
    exact step x (by simp) (List.nil_prefix) (fun e => h.full x (by simp) e.symm)
  · exact step x hx hp (fun e => hw (e ▸ hx))

theorem check_perm {s t : List (List Int)} (h : s.Perm t) : PlainPatset.check false s = PlainPatset.check false t := by
  have h1 : s = [] ↔ t = [] := ⟨fun e => by subst e; exact h.symm.eq_nil, fun e => by subst e; exact h.eq_nil⟩
  have h2 := h.length_eq
  have h3 : (∃ x ∈ s, x = []) ↔ ∃ x ∈ t, x = [] := ⟨fun ⟨x, a, b⟩ => ⟨x, h.mem_iff.1 a, b⟩, fun ⟨x, a, b⟩ => ⟨x, h.mem_iff.2 a, b⟩⟩
  have h4 : (∃ x ∈ s, 32 < x.length) ↔ ∃ x ∈ t, 32 < x.length := ⟨fun ⟨x, a, b⟩ => ⟨x, h.mem_iff.1 a, b⟩, fun ⟨x, a, b⟩ => ⟨x, h.mem_iff.2 a, b⟩⟩
  have h5 : PlainPatset.total s = PlainPatset.total t := h.flatten.length_eq
  have h6 := PlainPatset.nodes_perm false h
  unfold PlainPatset.check
  simp only [h1, h2, h3, h4, h5, h6]
theorem words_perm {s t : List (List Int)} (h : s.Perm t) (hs : Words s) : Words t := by
  have hn := hs.fine.once
  exact ⟨by rw [← check_perm h]; exact hs.1, PlainPatset.makeWords_own false t (fun x _ => by simp [foldIf]) (h.nodup_iff.1 hn)⟩

/-- Two words exchanged: their numbers are, in the tree. -/
theorem place_swap {ws : List (List Int)} (h : ws.Nodup) {i k : Nat} (hi : i < ws.length) (hk : k < ws.length) (b : List Int) :
    place ((ws.set i ws[k]).set k ws[i]) b = if place ws b = i then (k : Int) else if place ws b = k then (i : Int) else place ws b := by
  have hp : ((ws.set i ws[k]).set k ws[i]).Perm ws := List.set_set_perm hi hk
  have hn : ((ws.set i ws[k]).set k ws[i]).Nodup := hp.nodup_iff.2 h
  have hlen : ((ws.set i ws[k]).set k ws[i]).length = ws.length := by simp
  by_cases hb : b ∈ ws
  · have hj := List.idxOf_lt_length_iff.2 hb
    have e3 := List.getElem_idxOf hj
    rw [place_mem hb]
    generalize ws.idxOf b = j at hj e3
    subst e3
    by_cases h1 : j = i
    · subst h1
      rw [if_pos rfl]
      have := place_at hn k (by rw [hlen]; exact hk)
      simpa using this
    · rw [if_neg (by omega)]
      by_cases h2 : j = k
      · subst h2
        rw [if_pos rfl]
        have := place_at hn i (by rw [hlen]; exact hi)
        rw [List.getElem_set_ne (by omega), List.getElem_set_self] at this
        exact this
      · rw [if_neg (by omega)]
        have := place_at hn j (by rw [hlen]; exact hj)
        rw [List.getElem_set_ne (by omega), List.getElem_set_ne (by omega)] at this
        exact this
  · have hb' : b ∉ (ws.set i ws[k]).set k ws[i] := fun hm => hb (hp.mem_iff.1 hm)
    rw [place_none hb, place_none hb', if_neg (by omega), if_neg (by omega)]
theorem make_swap {ws : List (List Int)} (h : Words ws) {i k : Nat} (hi : i < ws.length) (hk : k < ws.length) :
    make ((ws.set i ws[k]).set k ws[i]) = { make ws with word := (make ws).word.map fun x : Int => if x = (i : Int) then (k : Int) else if x = k then (i : Int) else x } ∧ Words ((ws.set i ws[k]).set k ws[i]) := by
  have hp : ((ws.set i ws[k]).set k ws[i]).Perm ws := List.set_set_perm hi hk
  refine ⟨?_, words_perm hp.symm h⟩
  have hN : nodes ((ws.set i ws[k]).set k ws[i]) = nodes ws := nodes_perm fun x => hp.mem_iff
  unfold make
  simp only [hN, List.map_map, Tree.mk.injEq, true_and, and_true]
  refine List.map_congr_left fun b _ => ?_
  exact place_swap h.fine.once hi hk b

end Go.Proofs.Ytojbkhheaondhaa.PlainTrie
