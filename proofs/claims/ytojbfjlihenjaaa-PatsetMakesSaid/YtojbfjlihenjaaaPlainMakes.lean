/- Sets of words: which number each word of a list has. Plain mathematics, of no program. -/
import Derived.Test.YtojbfjlihenjaaaPlainPatset
set_option linter.unusedSimpArgs false
set_option linter.unusedVariables false
namespace Go.Proofs.Ytojbfjlihenjaaa.PlainPatset
open PlainLetter

theorem addWords_more (f : Bool) : ∀ (l acc : List (List Int)), ∃ rest, addWords f acc l = acc ++ rest
  | [], acc => ⟨[], by simp [addWords]⟩
  | x :: l, acc => by
    unfold addWords
    obtain ⟨r, h⟩ := addWords_more f l (if which f x acc < 0 then acc ++ [foldIf f x] else acc)
    rw [h]
    split
    · exact ⟨[foldIf f x] ++ r, by simp⟩
    · exact ⟨r, rfl⟩

theorem addWords_append (f : Bool) : ∀ (a b acc : List (List Int)), addWords f acc (a ++ b) = addWords f (addWords f acc a) b
  | [], b, acc => rfl
  | x :: a, b, acc => by simp only [List.cons_append, addWords]; exact addWords_append f a b _

theorem make_prefix (f : Bool) (l : List (List Int)) (i : Nat) : ∃ rest, makeWords f l = makeWords f (l.take i) ++ rest := by
  have h : makeWords f l = addWords f (makeWords f (l.take i)) (l.drop i) := by
    unfold makeWords
    rw [← addWords_append, List.take_append_drop]
  rw [h]
  exact addWords_more f _ _

theorem getD_left {a b : List (List Int)} {j : Nat} (h : j < a.length) : (a ++ b).getD j [] = a.getD j [] := by
  simp [List.getD, List.getElem?_append_left h]

theorem same_sym (f : Bool) (a b : List Int) (h : same f a b = true) : same f b a = true := (same_iff f b a).2 ((same_iff f a b).1 h).symm

/-- **Each word of a list has a number in its set: the next one, or one before.** -/
theorem makes_step (f : Bool) (l : List (List Int)) (i : Nat) (h : i < l.length) : ∃ n : Nat, which f (l.getD i []) (makeWords f l) = n ∧ n < (makeWords f l).length ∧ n ≤ (makeWords f (l.take i)).length ∧
    same f ((makeWords f l).getD n []) (l.getD i []) = true ∧ (makeWords f (l.take (i + 1))).length = if n = (makeWords f (l.take i)).length then n + 1 else (makeWords f (l.take i)).length := by
  have hs : makeWords f (l.take (i + 1)) = if which f (l.getD i []) (makeWords f (l.take i)) < 0 then makeWords f (l.take i) ++ [foldIf f (l.getD i [])] else makeWords f (l.take i) := by
    have e : l.take (i + 1) = l.take i ++ [l.getD i []] := by rw [List.take_add_one]; simp [List.getD, h]
    rw [e, makeWords_snoc]
  obtain ⟨rest, hr⟩ := make_prefix f l (i + 1)
  generalize l.getD i [] = x at hs ⊢
  generalize makeWords f (l.take i) = A at hs ⊢
  rcases which_spec f x A with ⟨hw, hno⟩ | ⟨k, hk, hw, hit, hno⟩
  · rw [if_pos (by omega)] at hs
    rw [hs] at hr ⊢
    rw [hr]
    have hat : (A ++ [foldIf f x] ++ rest).getD A.length [] = foldIf f x := by simp [List.getD]
    have hsame : same f x (foldIf f x) = true := (same_iff f _ _).2 (foldIf_twice f x).symm
    refine ⟨A.length, which_hit f x _ _ (by simp) (fun j hj => ?_) (by rw [hat]; exact hsame), by simp, Nat.le_refl _, by rw [hat]; exact same_sym f _ _ hsame, by simp⟩
    rw [List.append_assoc, getD_left hj]
    exact hno j hj
  · rw [if_neg (by omega)] at hs
    rw [hs] at hr ⊢
    rw [hr]
    refine ⟨k, which_hit f x _ _ (by simp; omega) (fun j hj => ?_) (by rw [getD_left hk]; exact hit), by simp; omega, by omega, by rw [getD_left hk]; exact same_sym f _ _ hit, by rw [if_neg (by omega)]⟩
    rw [getD_left (by omega)]
    exact hno j hj

/-- **Each word of a set has its own place as its number.** -/
theorem makes_own (f : Bool) (l : List (List Int)) (i : Nat) (h : i < (makeWords f l).length) : which f ((makeWords f l).getD i []) (makeWords f l) = i := by
  have s := setOf_make f l
  generalize makeWords f l = N at s h
  refine which_hit f _ _ _ h (fun j hj => ?_) (same_refl f _)
  have hjl : j < N.length := by omega
  have e1 : N.getD i [] = N[i] := by simp [List.getD, h]
  have e2 : N.getD j [] = N[j] := by simp [List.getD, hjl]
  cases hc : same f (N.getD i []) (N.getD j []) with
  | false => rfl
  | true =>
    exfalso
    have := (same_iff f _ _).1 hc
    rw [e1, e2, s.folds _ (List.getElem_mem h), s.folds _ (List.getElem_mem hjl)] at this
    have hn := s.once
    rw [List.nodup_iff_pairwise_ne, List.pairwise_iff_getElem] at hn
    exact hn j i hjl h hj this.symm

end Go.Proofs.Ytojbfjlihenjaaa.PlainPatset
