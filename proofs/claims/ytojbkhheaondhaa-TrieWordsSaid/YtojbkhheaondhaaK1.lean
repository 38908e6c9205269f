/- Plain facts on bytes and texts that are the same: no program is named here. Sets of words: what is wrong with a list, its nodes, its set. Plain mathematics, of no program. -/
set_option linter.unusedVariables false
set_option linter.unusedSimpArgs false
namespace Go.Proofs.Ytojbkhheaondhaa.PlainLetter

/-- A byte folded. -/
def fold (c : Int) : Int := if 65 ≤ c ∧ c ≤ 90 then c + 32 else c
def foldIf (f : Bool) (a : List Int) : List Int := if f = true then a.map fold else a
/-- Two texts are the same, by fold. -/
def same (f : Bool) (a b : List Int) : Bool := decide (foldIf f a = foldIf f b)
/-- A word stands at a place of a text. -/
def stands (f : Bool) (text : List Int) (place : Int) (word : List Int) : Bool :=
  decide ((word.length : Int) ≤ place ∧ place ≤ text.length) && same f ((text.take place.toNat).drop (place.toNat - word.length)) word
/-- The place of the first word that is the same as the text, from k on. -/
def whichFrom (f : Bool) (text : List Int) : Nat → List (List Int) → Int
  | _, [] => -1
  | k, x :: l => if same f text x = true then k else whichFrom f text (k + 1) l
def which (f : Bool) (text : List Int) (l : List (List Int)) : Int := whichFrom f text 0 l

theorem fold_in (c : Int) (h : 65 ≤ c ∧ c ≤ 90) : fold c = c + 32 := if_pos h
theorem fold_out (c : Int) (h : ¬ (65 ≤ c ∧ c ≤ 90)) : fold c = c := if_neg h
theorem fold_twice (c : Int) : fold (fold c) = fold c := by
  by_cases h : 65 ≤ c ∧ c ≤ 90
  · rw [fold_in c h, fold_out _ (by omega)]
  · rw [fold_out c h, fold_out c h]
theorem fold_byte (c : Int) (h : 0 ≤ c ∧ c ≤ 255) : 0 ≤ fold c ∧ fold c ≤ 255 := by unfold fold; split <;> omega
theorem fold_zero : fold 0 = 0 := by decide
theorem map_fold_twice (a : List Int) : (a.map fold).map fold = a.map fold := by
  rw [List.map_map]; exact List.map_congr_left fun c _ => fold_twice c
theorem same_true (a b : List Int) : same true a b = decide (a.map fold = b.map fold) := by simp [same, foldIf]
theorem same_false (a b : List Int) : same false a b = decide (a = b) := by simp [same, foldIf]
theorem same_folded (a b : List Int) : same true a b = same false (a.map fold) (b.map fold) := by rw [same_true, same_false]
theorem same_refl (f : Bool) (a : List Int) : same f a a = true := by simp [same]
theorem same_fold (a b : List Int) (h : same false a b = true) : same true a b = true := by
  rw [same_false] at h; rw [same_true]; have := of_decide_eq_true h; simp [this]
theorem same_own (a : List Int) : same true a (a.map fold) = true := by rw [same_true, map_fold_twice]; simp

theorem stands_eq (f : Bool) (text word : List Int) (p : Nat) (h1 : word.length ≤ p) (h2 : p ≤ text.length) : stands f text p word = same f ((text.take p).drop (p - word.length)) word := by
  simp [stands, h1, h2]
theorem stands_none (f : Bool) (text word : List Int) (place : Int) (h : ¬ ((word.length : Int) ≤ place ∧ place ≤ text.length)) : stands f text place word = false := by
  unfold stands
  rw [decide_eq_false h]
  rfl

/-- Joined texts stand one behind the other. -/
theorem stands_joined (f : Bool) (x y z : List Int) : stands f (x ++ y ++ z) ((x.length + y.length : Nat) : Int) y = true := by
  rw [stands_eq _ _ _ _ (by omega) (by simp)]
  have e : ((x ++ y ++ z).take (x.length + y.length)).drop (x.length + y.length - y.length) = y := by
    rw [show x.length + y.length = (x ++ y).length by simp, List.take_left, show (x ++ y).length - y.length = x.length by simp, List.drop_left]
  rw [e]
  exact same_refl f y

theorem whichFrom_le (f : Bool) (text : List Int) : ∀ (l : List (List Int)) (k : Nat), whichFrom f text k l = -1 ∨ ((k : Int) ≤ whichFrom f text k l ∧ whichFrom f text k l < k + l.length)
  | [], k => .inl rfl
  | x :: l, k => by
    unfold whichFrom
    split
    · right; simp; omega
    · rcases whichFrom_le f text l (k + 1) with h | h
      · exact .inl h
      · right; simp only [List.length_cons]; omega

/-- Where none of the first k is the same, it goes on behind them. -/
theorem which_skip (f : Bool) (text : List Int) (l : List (List Int)) : ∀ k, k ≤ l.length → (∀ j, j < k → same f text (l.getD j []) = false) → which f text l = whichFrom f text k (l.drop k)
  | 0, _, _ => by simp [which]
  | k + 1, hk, h => by
    rw [which_skip f text l k (by omega) (fun j hj => h j (by omega)), List.drop_eq_getElem_cons (by omega), whichFrom]
    have := h k (by omega)
    simp only [List.getD, List.getElem?_eq_getElem (show k < l.length by omega), Option.getD_some] at this
    rw [this]
    rfl
theorem which_hit (f : Bool) (text : List Int) (l : List (List Int)) (k : Nat) (hk : k < l.length) (h : ∀ j, j < k → same f text (l.getD j []) = false) (hit : same f text (l.getD k []) = true) : which f text l = k := by
  rw [which_skip f text l k (by omega) h, List.drop_eq_getElem_cons hk, whichFrom]
  simp only [List.getD, List.getElem?_eq_getElem hk, Option.getD_some] at hit
  rw [if_pos hit]
theorem which_none (f : Bool) (text : List Int) (l : List (List Int)) (h : ∀ j, j < l.length → same f text (l.getD j []) = false) : which f text l = -1 := by
  rw [which_skip f text l l.length (by omega) h, List.drop_length]; rfl

/-- What which tells, by each word. -/
theorem which_spec (f : Bool) (text : List Int) (l : List (List Int)) : (which f text l = -1 ∧ ∀ j, j < l.length → same f text (l.getD j []) = false) ∨
    (∃ k, k < l.length ∧ which f text l = k ∧ same f text (l.getD k []) = true ∧ ∀ j, j < k → same f text (l.getD j []) = false) := by
  by_cases h : ∃ k, k < l.length ∧ same f text (l.getD k []) = true
  · right
    have key : ∀ n, (∃ k, k ≤ n ∧ k < l.length ∧ same f text (l.getD k []) = true) → ∃ k, k < l.length ∧ same f text (l.getD k []) = true ∧ ∀ j, j < k → same f text (l.getD j []) = false := by
      intro n
      induction n with
      | zero =>
        rintro ⟨k, hk, hkl, hs⟩
        have hk0 : k = 0 := by omega
        subst hk0
        exact ⟨0, hkl, hs, fun j hj => absurd hj (Nat.not_lt_zero j)⟩
      | succ n ih =>
        rintro ⟨k, hk, hkl, hs⟩
        by_cases hb : ∃ j, j ≤ n ∧ j < l.length ∧ same f text (l.getD j []) = true
        · exact ih hb
        · refine ⟨k, hkl, hs, fun j hj => ?_⟩
          cases hsj : same f text (l.getD j []) with
          | false => rfl
          | true => exact absurd ⟨j, by omega, by omega, hsj⟩ hb
    obtain ⟨k, hk, hs⟩ := h
    obtain ⟨k, hkl, hs, hb⟩ := key k ⟨k, Nat.le_refl _, hk, hs⟩
    exact ⟨k, hkl, which_hit f text l k hkl hb hs, hs, hb⟩
  · left
    have hn : ∀ j, j < l.length → same f text (l.getD j []) = false := fun j hj => by
      cases hsj : same f text (l.getD j []) with
      | false => rfl
      | true => exact absurd ⟨j, hj, hsj⟩ h
    exact ⟨which_none f text l hn, hn⟩

end Go.Proofs.Ytojbkhheaondhaa.PlainLetter

namespace Go.Proofs.Ytojbkhheaondhaa.PlainPatset
open PlainLetter

/-- How many first bytes two texts have in common. -/
def common : List Int → List Int → Nat
  | a :: as, b :: bs => if a = b then common as bs + 1 else 0
  | _, _ => 0
/-- The longest beginning that some word has, too. -/
def old (l : List (List Int)) (x : List Int) : Nat := l.foldr (fun y m => max (common x y) m) 0
def nodesFrom (pre : List (List Int)) : List (List Int) → Nat
  | [] => 0
  | x :: l => (x.length - old pre x) + nodesFrom (pre ++ [x]) l
def nodesOf (l : List (List Int)) : Nat := 1 + nodesFrom [] l
def nodes (f : Bool) (xss : List (List Int)) : Nat := nodesOf (xss.map (foldIf f))
def total (xss : List (List Int)) : Nat := xss.flatten.length
def check (f : Bool) (xss : List (List Int)) : Int :=
  if xss = [] then 50 else if 64 < xss.length then 51 else if ∃ x ∈ xss, x = [] then 52 else if ∃ x ∈ xss, 32 < x.length then 53 else if 600 < total xss then 54 else if 400 < nodes f xss then 55 else 0
/-- The words of a list's set, behind those that there are. -/
def addWords (f : Bool) (acc : List (List Int)) : List (List Int) → List (List Int)
  | [] => acc
  | x :: l => addWords f (if which f x acc < 0 then acc ++ [foldIf f x] else acc) l
def makeWords (f : Bool) (xss : List (List Int)) : List (List Int) := addWords f [] xss
def longest (xss : List (List Int)) : Nat := xss.foldr (fun x m => max x.length m) 0

theorem common_comm : ∀ x y, common x y = common y x
  | [], [] => rfl
  | [], _ :: _ => rfl
  | _ :: _, [] => rfl
  | a :: x, b :: y => by
    unfold common
    by_cases h : a = b
    · rw [if_pos h, if_pos h.symm, common_comm x y]
    · rw [if_neg h, if_neg (Ne.symm h)]
theorem common_self : ∀ x, common x x = x.length
  | [] => rfl
  | a :: x => by unfold common; rw [if_pos rfl, common_self x]; rfl
theorem common_le : ∀ x y, common x y ≤ x.length
  | [], _ => by simp [common]
  | _ :: _, [] => by simp [common]
  | a :: x, b :: y => by
    unfold common
    split
    · have := common_le x y; simp; omega
    · simp
/-- Two beginnings in common with a third. -/
theorem common_three : ∀ x y z, min (common x y) (common x z) ≤ common y z
  | [], y, z => by simp [common]
  | _ :: _, [], _ => by simp [common]
  | _ :: _, _ :: _, [] => by simp [common]
  | a :: x, b :: y, c :: z => by
    unfold common
    by_cases h1 : a = b
    · by_cases h2 : a = c
      · rw [if_pos h1, if_pos h2, if_pos (h1.symm.trans h2)]
        have := common_three x y z
        omega
      · rw [if_neg h2]; simp
    · rw [if_neg h1]; simp

theorem old_cons (y : List Int) (l : List (List Int)) (x : List Int) : old (y :: l) x = max (common x y) (old l x) := rfl
theorem old_append (l m : List (List Int)) (x : List Int) : old (l ++ m) x = max (old l x) (old m x) := by
  induction l with
  | nil => simp [old]
  | cons y l ih => rw [List.cons_append, old_cons, old_cons, ih]; omega
theorem old_one (y x : List Int) : old [y] x = common x y := by simp [old]
theorem old_le (l : List (List Int)) (x : List Int) : old l x ≤ x.length := by
  induction l with
  | nil => simp [old]
  | cons y l ih => rw [old_cons]; have := common_le x y; omega
theorem old_mem {l : List (List Int)} {x y : List Int} (h : y ∈ l) : common x y ≤ old l x := by
  induction l with
  | nil => cases h
  | cons z l ih =>
    rw [old_cons]
    rcases List.mem_cons.1 h with rfl | h
    · omega
    · have := ih h; omega
theorem old_own {l : List (List Int)} {x : List Int} (h : x ∈ l) : old l x = x.length := by
  have h1 := old_mem (x := x) h
  rw [common_self] at h1
  have := old_le l x
  omega
theorem old_or (l : List (List Int)) (x : List Int) : old l x = 0 ∨ ∃ y ∈ l, old l x = common x y := by
  induction l with
  | nil => exact .inl rfl
  | cons z l ih =>
    rw [old_cons]
    by_cases h : old l x ≤ common x z
    · exact .inr ⟨z, by simp, by omega⟩
    · rcases ih with ih | ⟨y, hy, ih⟩
      · omega
      · exact .inr ⟨y, by simp [hy], by omega⟩
theorem old_perm {l m : List (List Int)} (h : l.Perm m) (x : List Int) : old l x = old m x := by
  induction h with
  | nil => rfl
  | cons y _ ih => rw [old_cons, old_cons, ih]
  | swap y z l => rw [old_cons, old_cons, old_cons, old_cons]; omega
  | trans _ _ ih1 ih2 => rw [ih1, ih2]

/-- Two new words: their order makes no difference. -/
theorem old_two (l : List (List Int)) (x y : List Int) : (x.length - old l x) + (y.length - old (l ++ [x]) y) = (y.length - old l y) + (x.length - old (l ++ [y]) x) := by
  rw [old_append, old_append, old_one, old_one, common_comm y x]
  have hx := old_le l x
  have hy := old_le l y
  have h1 := common_le x y
  have h2 := common_le y x
  rw [common_comm y x] at h2
  have key : ∀ a b : List Int, old l a < common a b → old l a = old l b → True := fun _ _ _ _ => trivial
  by_cases ha : common x y ≤ old l x
  · by_cases hb : common x y ≤ old l y
    · omega
    · -- b < c ≤ a
      have : old l x ≤ old l y := by
        rcases old_or l x with h | ⟨z, hz, h⟩
        · omega
        · have h3 := common_three x y z
          have h4 := old_mem (x := y) hz
          omega
      omega
  · have e1 : old l x ≤ old l y := by
      rcases old_or l x with h | ⟨z, hz, h⟩
      · omega
      · have h3 := common_three x y z
        have h4 := old_mem (x := y) hz
        omega
    by_cases hb : common x y ≤ old l y
    · have : old l y ≤ old l x ∨ common x y ≤ old l x := by
        rcases old_or l y with h | ⟨z, hz, h⟩
        · omega
        · have h3 := common_three y x z
          rw [common_comm y x] at h3
          have h4 := old_mem (x := x) hz
          omega
      omega
    · have e2 : old l y ≤ old l x := by
        rcases old_or l y with h | ⟨z, hz, h⟩
        · omega
        · have h3 := common_three y x z
          rw [common_comm y x] at h3
          have h4 := old_mem (x := x) hz
          omega
      omega

theorem nodesFrom_pre {l m : List (List Int)} (h : l.Perm m) : ∀ t, nodesFrom l t = nodesFrom m t
  | [] => rfl
  | x :: t => by unfold nodesFrom; rw [old_perm h x, nodesFrom_pre (h.append_right [x]) t]
theorem nodesFrom_perm {s t : List (List Int)} (h : s.Perm t) : ∀ pre, nodesFrom pre s = nodesFrom pre t := by
  induction h with
  | nil => intro pre; rfl
  | cons x _ ih => intro pre; unfold nodesFrom; rw [ih]
  | swap x y l =>
    intro pre
    unfold nodesFrom
    unfold nodesFrom
    have h1 := old_two pre x y
    have h2 : nodesFrom (pre ++ [y] ++ [x]) l = nodesFrom (pre ++ [x] ++ [y]) l := nodesFrom_pre (by
      rw [List.append_assoc, List.append_assoc]
      exact List.Perm.append_left pre (List.Perm.swap x y [])) l
    rw [h2]
    omega
  | trans _ _ ih1 ih2 => intro pre; rw [ih1, ih2]
theorem nodesFrom_append (s t : List (List Int)) : ∀ pre, nodesFrom pre (s ++ t) = nodesFrom pre s + nodesFrom (pre ++ s) t := by
  induction s with
  | nil => intro pre; simp [nodesFrom]
  | cons x s ih => intro pre; simp only [List.cons_append, nodesFrom]; rw [ih, List.append_assoc]; simp; omega

/-- **Where the words stand makes no difference.** -/
theorem nodes_perm (f : Bool) {s t : List (List Int)} (h : s.Perm t) : nodes f s = nodes f t := by
  unfold nodes nodesOf; rw [nodesFrom_perm (h.map _)]
/-- **A word more.** -/
theorem nodes_more (f : Bool) (l : List (List Int)) (x : List Int) : nodes f (l ++ [x]) = nodes f l + ((foldIf f x).length - old (l.map (foldIf f)) (foldIf f x)) := by
  unfold nodes nodesOf
  rw [List.map_append, nodesFrom_append]
  simp [nodesFrom]
  omega
theorem nodes_insert (f : Bool) (a b : List (List Int)) (x : List Int) : nodes f (a ++ x :: b) = nodes f (a ++ b) + ((foldIf f x).length - old ((a ++ b).map (foldIf f)) (foldIf f x)) := by
  rw [← nodes_more]
  refine nodes_perm f ?_
  have : (a ++ x :: b).Perm (x :: (a ++ b)) := List.perm_middle
  exact this.trans (List.perm_append_singleton x (a ++ b)).symm
theorem foldIf_length (f : Bool) (a : List Int) : (foldIf f a).length = a.length := by cases f <;> simp [foldIf]
theorem foldIf_twice (f : Bool) (a : List Int) : foldIf f (foldIf f a) = foldIf f a := by
  cases f with
  | false => rfl
  | true => simp only [foldIf, if_true]; exact map_fold_twice a
theorem same_iff (f : Bool) (a b : List Int) : same f a b = true ↔ foldIf f a = foldIf f b := by unfold same; simp

theorem foldIf_nil (f : Bool) : foldIf f [] = [] := by cases f <;> rfl

/-- Which tells: none, or the first. -/
theorem which_neg (f : Bool) (x : List Int) (acc : List (List Int)) : which f x acc < 0 ↔ foldIf f x ∉ acc.map (foldIf f) := by
  rcases which_spec f x acc with ⟨h, hall⟩ | ⟨k, hk, h, hs, _⟩
  · refine ⟨fun _ hm => ?_, fun _ => by omega⟩
    obtain ⟨y, hy, he⟩ := List.mem_map.1 hm
    obtain ⟨i, hi, rfl⟩ := List.mem_iff_getElem.1 hy
    have := hall i hi
    simp only [List.getD, List.getElem?_eq_getElem hi, Option.getD_some] at this
    rw [(same_iff f x _).2 he.symm] at this
    cases this
  · refine ⟨fun hn => by omega, fun hm => absurd ?_ hm⟩
    simp only [List.getD, List.getElem?_eq_getElem hk, Option.getD_some] at hs
    rw [(same_iff f x _).1 hs]
    exact List.mem_map_of_mem (List.getElem_mem hk)

/-- Words that are there already as they are folded. -/
def Folds (f : Bool) (acc : List (List Int)) : Prop := ∀ x ∈ acc, foldIf f x = x
theorem Folds.map {f : Bool} {acc : List (List Int)} (h : Folds f acc) : acc.map (foldIf f) = acc := by
  conv => rhs; rw [← List.map_id acc]
  exact List.map_congr_left fun x hx => h x hx

theorem addWords_snoc (f : Bool) (x : List Int) : ∀ l acc, addWords f acc (l ++ [x]) = (if which f x (addWords f acc l) < 0 then addWords f acc l ++ [foldIf f x] else addWords f acc l)
  | [], acc => rfl
  | y :: l, acc => by simp only [List.cons_append, addWords]; exact addWords_snoc f x l _

theorem makeWords_snoc (f : Bool) (x : List Int) (l : List (List Int)) : makeWords f (l ++ [x]) = if which f x (makeWords f l) < 0 then makeWords f l ++ [foldIf f x] else makeWords f l := addWords_snoc f x l []

/-- A set's words: folded, each once, no more than the list's, each of the list's. -/
structure SetOf (f : Bool) (l acc : List (List Int)) : Prop where
  folds : Folds f acc
  once : acc.Nodup
  mem : ∀ z, z ∈ acc ↔ ∃ x ∈ l, foldIf f x = z
  few : acc.length ≤ l.length
  small : acc.flatten.length ≤ l.flatten.length
  nodes : nodesOf acc = nodes f l

theorem nodesOf_more (l : List (List Int)) (x : List Int) : nodesOf (l ++ [x]) = nodesOf l + (x.length - old l x) := by
  unfold nodesOf; rw [nodesFrom_append]; simp [nodesFrom]; omega

theorem old_sub {l m : List (List Int)} (h : ∀ z, z ∈ l → z ∈ m) (x : List Int) : old l x ≤ old m x := by
  rcases old_or l x with h0 | ⟨y, hy, h1⟩
  · omega
  · rw [h1]; exact old_mem (h y hy)

theorem setOf_make (f : Bool) (l : List (List Int)) : SetOf f l (makeWords f l) := by
  suffices h : ∀ n l, l.length = n → SetOf f l (makeWords f l) from h _ l rfl
  intro n
  induction n with
  | zero =>
    intro l hl
    obtain rfl : l = [] := List.eq_nil_of_length_eq_zero hl
    exact ⟨(fun x hx => by cases hx), List.nodup_nil, fun z => by simp [makeWords, addWords], by simp [makeWords, addWords], by simp [makeWords, addWords], rfl⟩
  | succ n ih =>
    intro l hl
    obtain ⟨m, x, rfl⟩ : ∃ m x, l = m ++ [x] := by
      have hne : l ≠ [] := by intro e; subst e; simp at hl
      exact ⟨l.dropLast, l.getLast hne, (List.dropLast_concat_getLast hne).symm⟩
    have s := ih m (by simpa using hl)
    rw [makeWords_snoc]
    have hn := which_neg f x (makeWords f m)
    rw [s.folds.map] at hn
    have hol : old (m.map (foldIf f)) (foldIf f x) = old (makeWords f m) (foldIf f x) := by
      have h1 : old (m.map (foldIf f)) (foldIf f x) ≤ old (makeWords f m) (foldIf f x) := old_sub (fun z hz => by
        obtain ⟨y, hy, he⟩ := List.mem_map.1 hz
        exact (s.mem z).2 ⟨y, hy, he⟩) _
      have h2 : old (makeWords f m) (foldIf f x) ≤ old (m.map (foldIf f)) (foldIf f x) := old_sub (fun z hz => by
        obtain ⟨y, hy, he⟩ := (s.mem z).1 hz
        exact List.mem_map.2 ⟨y, hy, he⟩) _
      omega
    by_cases h : which f x (makeWords f m) < 0
    · rw [if_pos h]
      have hx := hn.1 h
      exact {
        folds := fun z hz => by
          rcases List.mem_append.1 hz with hz | hz
          · exact s.folds z hz
          · obtain rfl : z = foldIf f x := by simpa using hz
            exact foldIf_twice f x
        once := by
          rw [List.nodup_append]
          refine ⟨s.once, by simp, fun a ha b hb => ?_⟩
          obtain rfl : b = foldIf f x := by simpa using hb
          rintro rfl
          exact hx ha
        mem := fun z => by
          rw [List.mem_append, s.mem]
          constructor
          · rintro (⟨y, hy, he⟩ | hz)
            · exact ⟨y, by simp [hy], he⟩
            · exact ⟨x, by simp, (List.mem_singleton.1 hz).symm⟩
          · rintro ⟨y, hy, he⟩
            rcases List.mem_append.1 hy with hy | hy
            · exact .inl ⟨y, hy, he⟩
            · obtain rfl : y = x := by simpa using hy
              exact .inr (by simp [he])
        few := by have := s.few; simp; omega
        small := by have := s.small; simp [foldIf_length] at *; omega
        nodes := by rw [nodesOf_more, nodes_more, s.nodes, hol] }
    · rw [if_neg h]
      have hx : foldIf f x ∈ makeWords f m := by
        by_cases hm : foldIf f x ∈ makeWords f m
        · exact hm
        · exact absurd (hn.2 hm) h
      exact {
        folds := s.folds
        once := s.once
        mem := fun z => by
          rw [s.mem]
          constructor
          · rintro ⟨y, hy, he⟩
            exact ⟨y, by simp [hy], he⟩
          · rintro ⟨y, hy, he⟩
            rcases List.mem_append.1 hy with hy | hy
            · exact ⟨y, hy, he⟩
            · obtain rfl : y = x := by simpa using hy
              exact (s.mem z).1 (he ▸ hx)
        few := by have := s.few; simp; omega
        small := by have := s.small; simp at *; omega
        nodes := by rw [nodes_more, hol, old_own hx, s.nodes]; omega }

/-- Words that are folded and each once are their own set. -/
theorem makeWords_own (f : Bool) (l : List (List Int)) (hf : Folds f l) (ho : l.Nodup) : makeWords f l = l := by
  suffices h : ∀ n l, l.length = n → Folds f l → l.Nodup → makeWords f l = l from h _ l rfl hf ho
  intro n
  induction n with
  | zero => intro l hl _ _; obtain rfl : l = [] := List.eq_nil_of_length_eq_zero hl; rfl
  | succ n ih =>
    intro l hl hf ho
    obtain ⟨m, x, rfl⟩ : ∃ m x, l = m ++ [x] := by
      have hne : l ≠ [] := by intro e; subst e; simp at hl
      exact ⟨l.dropLast, l.getLast hne, (List.dropLast_concat_getLast hne).symm⟩
    have hfm : Folds f m := fun z hz => hf z (by simp [hz])
    have hfx : foldIf f x = x := hf x (by simp)
    rw [List.nodup_append] at ho
    have e := ih m (by simpa using hl) hfm ho.1
    rw [makeWords_snoc, e]
    have hn := which_neg f x m
    rw [hfm.map, hfx] at hn
    have hx : x ∉ m := fun h => ho.2.2 x h x (by simp) rfl
    rw [if_pos (hn.2 hx), hfx]

/-- **A set that is made may be.** -/
theorem right_make (f : Bool) (l : List (List Int)) (h : check f l = 0) : check f (makeWords f l) = 0 ∧ makeWords f (makeWords f l) = makeWords f l := by
  have s := setOf_make f l
  refine ⟨?_, makeWords_own f _ s.folds s.once⟩
  unfold check at h ⊢
  by_cases h1 : l = []
  · rw [if_pos h1] at h; omega
  rw [if_neg h1] at h
  by_cases h2 : 64 < l.length
  · rw [if_pos h2] at h; omega
  rw [if_neg h2] at h
  by_cases h3 : ∃ x ∈ l, x = []
  · rw [if_pos h3] at h; omega
  rw [if_neg h3] at h
  by_cases h4 : ∃ x ∈ l, 32 < x.length
  · rw [if_pos h4] at h; omega
  rw [if_neg h4] at h
  by_cases h5 : 600 < total l
  · rw [if_pos h5] at h; omega
  rw [if_neg h5] at h
  by_cases h6 : 400 < nodes f l
  · rw [if_pos h6] at h; omega
  have hne : makeWords f l ≠ [] := by
    obtain ⟨x, l', rfl⟩ := List.exists_cons_of_ne_nil h1
    intro e
    have := (s.mem (foldIf f x)).2 ⟨x, by simp, rfl⟩
    rw [e] at this
    cases this
  have hn : nodes f (makeWords f l) = nodes f l := by
    unfold nodes at *
    rw [s.folds.map]
    exact s.nodes
  rw [if_neg hne, if_neg (by have := s.few; omega), if_neg, if_neg, if_neg (by have := s.small; unfold total at *; omega), if_neg (by rw [hn]; omega)]
  · rintro ⟨z, hz, hzl⟩
    obtain ⟨x, hx, rfl⟩ := (s.mem z).1 hz
    rw [foldIf_length] at hzl
    exact h4 ⟨x, hx, hzl⟩
  · rintro ⟨z, hz, rfl⟩
    obtain ⟨x, hx, he⟩ := (s.mem []).1 hz
    have := congrArg List.length he
    rw [foldIf_length] at this
    exact h3 ⟨x, hx, List.eq_nil_of_length_eq_zero (by simpa using this)⟩

/-- A word's number, and whether it has one. -/
def number (f : Bool) (xss : List (List Int)) (x : List Int) : Int × Bool := if which f x xss < 0 then (0, false) else (which f x xss, true)
end Go.Proofs.Ytojbkhheaondhaa.PlainPatset
