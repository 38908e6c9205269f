/- Sets of words: beginnings that are the same, byte by byte; two places exchanged. Plain mathematics, of no program. -/
import Derived.Test.YtojbfjlihenjaaaPlainPatset
set_option linter.unusedSimpArgs false
set_option linter.unusedVariables false
namespace Go.Proofs.Ytojbfjlihenjaaa.PlainPatset
open PlainLetter

theorem foldIf_take (f : Bool) (a : List Int) (n : Nat) : foldIf f (a.take n) = (foldIf f a).take n := by
  cases f with
  | false => rfl
  | true => simp [foldIf, List.map_take]

theorem take_common : ∀ (m : Nat) (x y : List Int), m ≤ x.length → m ≤ y.length → (x.take m = y.take m ↔ m ≤ common x y)
  | 0, x, y, _, _ => by simp
  | m + 1, [], y, h, _ => by simp at h
  | m + 1, x, [], _, h => by simp at h
  | m + 1, a :: x, b :: y, h, h' => by
    have ih := take_common m x y (by simpa using h) (by simpa using h')
    unfold common
    by_cases e : a = b
    · rw [if_pos e, List.take_succ_cons, List.take_succ_cons, List.cons.injEq, ih]; simp [e]
    · rw [if_neg e, List.take_succ_cons, List.take_succ_cons, List.cons.injEq]; simp [e]

theorem same_step (f : Bool) (x y : List Int) (c : Nat) (hx : c < x.length) (hy : c < y.length) : same f (x.take (c + 1)) (y.take (c + 1)) = decide (c + 1 ≤ common (foldIf f x) (foldIf f y)) := by
  have h1 := same_iff f (x.take (c + 1)) (y.take (c + 1))
  rw [foldIf_take, foldIf_take, take_common _ _ _ (by rw [foldIf_length]; omega) (by rw [foldIf_length]; omega)] at h1
  by_cases h : c + 1 ≤ common (foldIf f x) (foldIf f y)
  · rw [decide_eq_true h, h1.2 h]
  · rw [decide_eq_false h]
    cases hs : same f (x.take (c + 1)) (y.take (c + 1)) with
    | false => rfl
    | true => exact absurd (h1.1 hs) h

theorem common_le_both (f : Bool) (x y : List Int) : common (foldIf f x) (foldIf f y) ≤ x.length ∧ common (foldIf f x) (foldIf f y) ≤ y.length := by
  have h1 := common_le (foldIf f x) (foldIf f y)
  have h2 := common_le (foldIf f y) (foldIf f x)
  rw [foldIf_length] at h1 h2
  rw [common_comm] at h2
  exact ⟨h1, h2⟩

theorem nodesFrom_total : ∀ (l pre : List (List Int)), nodesFrom pre l ≤ l.flatten.length
  | [], _ => Nat.zero_le _
  | x :: l, pre => by
    have := nodesFrom_total l (pre ++ [x])
    simp only [nodesFrom, List.flatten_cons, List.length_append]
    omega
theorem flat_fold (f : Bool) : ∀ l : List (List Int), (l.map (foldIf f)).flatten.length = l.flatten.length
  | [] => rfl
  | x :: l => by simp only [List.map_cons, List.flatten_cons, List.length_append, foldIf_length, flat_fold f l]
theorem nodes_total (f : Bool) (l : List (List Int)) : nodes f l ≤ 1 + l.flatten.length := by
  have := nodesFrom_total (l.map (foldIf f)) []
  rw [flat_fold] at this
  unfold nodes nodesOf
  omega

theorem old_take (f : Bool) (xss : List (List Int)) (X : List Int) (j : Nat) (h : j < xss.length) : old ((xss.take (j + 1)).map (foldIf f)) X = max (old ((xss.take j).map (foldIf f)) X) (common X (foldIf f (xss.getD j []))) := by
  have e : xss.take (j + 1) = xss.take j ++ [xss.getD j []] := by rw [List.take_add_one]; simp [List.getD, h]
  rw [e, List.map_append, old_append, List.map_singleton, old_one]

theorem nodes_swap (f : Bool) (xss : List (List Int)) (i k : Nat) (hi : i < xss.length) (hk : k < xss.length) : nodes f ((xss.set i xss[k]).set k xss[i]) = nodes f xss :=
  nodes_perm f (List.set_set_perm hi hk)

end Go.Proofs.Ytojbfjlihenjaaa.PlainPatset
