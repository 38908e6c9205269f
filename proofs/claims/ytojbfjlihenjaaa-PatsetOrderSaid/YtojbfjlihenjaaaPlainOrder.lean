/- Sets of words: what is wrong with a list that has a word more. Plain mathematics, of no program. -/
import Derived.Test.YtojbfjlihenjaaaPlainPatset
set_option linter.unusedSimpArgs false
set_option linter.unusedVariables false
namespace Go.Proofs.Ytojbfjlihenjaaa.PlainPatset
open PlainLetter

/-- A list with words, not too many. -/
theorem check_mid (f : Bool) (l : List (List Int)) (h0 : l ≠ []) (h1 : ¬ 64 < l.length) :
    check f l = if (∃ x ∈ l, x = []) then 52 else if (∃ x ∈ l, 32 < x.length) then 53 else if 600 < total l then 54 else if 400 < nodes f l then 55 else 0 := by
  unfold check; rw [if_neg h0, if_neg h1]

theorem mid_empty (f : Bool) (l : List (List Int)) (h0 : l ≠ []) (h1 : ¬ 64 < l.length) : check f l = 52 ↔ ∃ x ∈ l, x = [] := by
  rw [check_mid f l h0 h1]
  by_cases a : ∃ x ∈ l, x = []
  · rw [if_pos a]; exact ⟨fun _ => a, fun _ => rfl⟩
  · rw [if_neg a]
    refine ⟨fun h => ?_, fun h => absurd h a⟩
    repeat' split at h
    all_goals omega

theorem mid_long (f : Bool) (l : List (List Int)) (h0 : l ≠ []) (h1 : ¬ 64 < l.length) (h2 : ¬ ∃ x ∈ l, x = []) : check f l = 53 ↔ ∃ x ∈ l, 32 < x.length := by
  rw [check_mid f l h0 h1, if_neg h2]
  by_cases a : ∃ x ∈ l, 32 < x.length
  · rw [if_pos a]; exact ⟨fun _ => a, fun _ => rfl⟩
  · rw [if_neg a]
    refine ⟨fun h => ?_, fun h => absurd h a⟩
    repeat' split at h
    all_goals omega

theorem ins_mem (P : List Int → Prop) (a b : List (List Int)) (x : List Int) : (∃ z ∈ a ++ x :: b, P z) ↔ P x ∨ ∃ z ∈ a ++ b, P z := by
  constructor
  · rintro ⟨z, hz, hp⟩
    simp only [List.mem_append, List.mem_cons] at hz
    rcases hz with hz | rfl | hz
    · exact .inr ⟨z, by simp [hz], hp⟩
    · exact .inl hp
    · exact .inr ⟨z, by simp [hz], hp⟩
  · rintro (hp | ⟨z, hz, hp⟩)
    · exact ⟨x, by simp, hp⟩
    · refine ⟨z, ?_, hp⟩
      simp only [List.mem_append, List.mem_cons] at hz ⊢
      rcases hz with hz | hz
      · exact .inl hz
      · exact .inr (.inr hz)

theorem ins_total (a b : List (List Int)) (x : List Int) : total (a ++ x :: b) = total (a ++ b) + x.length := by
  unfold total; simp; omega

/-- **A word more: none is forgotten, and the errors keep their order.** -/
theorem check_more (f : Bool) (a b : List (List Int)) (x : List Int) (h0 : a ++ b ≠ []) (h1 : (a ++ b).length + 1 ≤ 64) :
    check f (a ++ x :: b) = if x = [] ∨ check f (a ++ b) = 52 then 52 else if 32 < x.length ∨ check f (a ++ b) = 53 then 53 else if 600 < total (a ++ b) + x.length then 54 else if 400 < nodes f (a ++ x :: b) then 55 else 0 := by
  have m0 : a ++ x :: b ≠ [] := by simp
  have m1 : ¬ 64 < (a ++ x :: b).length := by simp at h1 ⊢; omega
  have l1 : ¬ 64 < (a ++ b).length := by omega
  rw [check_mid f _ m0 m1]
  have e1 := ins_mem (fun z => z = []) a b x
  have e2 := ins_mem (fun z => 32 < z.length) a b x
  have i1 := mid_empty f _ h0 l1
  by_cases c1 : x = [] ∨ check f (a ++ b) = 52
  · rw [if_pos c1, if_pos (e1.2 (c1.imp id i1.1))]
  · have c1' : ¬ ∃ z ∈ a ++ b, z = [] := fun h => c1 (.inr (i1.2 h))
    rw [if_neg c1, if_neg (fun h => c1 ((e1.1 h).imp id i1.2))]
    have i2 := mid_long f _ h0 l1 c1'
    by_cases c2 : 32 < x.length ∨ check f (a ++ b) = 53
    · rw [if_pos c2, if_pos (e2.2 (c2.imp id i2.1))]
    · rw [if_neg c2, if_neg (fun h => c2 ((e2.1 h).imp id i2.2)), ins_total]

theorem check_bytes (f : Bool) (l : List (List Int)) (h : check f l = 54) : 600 < total l := by
  unfold check at h
  repeat' split at h
  all_goals first | assumption | omega
theorem check_states (f : Bool) (l : List (List Int)) (h : check f l = 55) : 400 < nodes f l := by
  unfold check at h
  repeat' split at h
  all_goals first | assumption | omega
theorem nodes_le (f : Bool) (a b : List (List Int)) (x : List Int) : nodes f (a ++ b) ≤ nodes f (a ++ x :: b) := by
  rw [nodes_insert]; omega
theorem check_fits (f : Bool) (l : List (List Int)) (h : check f l = 0) : nodes f l ≤ 400 := by
  unfold check at h
  repeat' split at h
  all_goals omega

end Go.Proofs.Ytojbfjlihenjaaa.PlainPatset
