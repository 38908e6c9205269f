/- Plain facts on bytes and texts that are the same: no program is named here. -/
set_option linter.unusedVariables false
set_option linter.unusedSimpArgs false
namespace Go.Proofs.Ytojbfjlihenjaaa.PlainLetter

/-- A byte folded. -/
def fold (c : Int) : Int := if 65 ≤ c ∧ c ≤ 90 then c + 32 else c
def foldIf (f : Bool) (a : List Int) : List Int := if f = true then a.map fold else a
/-- Two texts are the same, by fold. -/
def same (f : Bool) (a b : List Int) : Bool := decide (foldIf f a = foldIf f b)
/-- A word stands at a place of a text. -/
def stands (f : Bool) (text : List Int) (place : Int) (word : List Int) : Bool :=
  decide ((word.length : Int) ≤ place ∧ place ≤ text.length) && same f ((text.take place.toNat).drop (place.toNat - word.length)) word
/-- The place of the first word that is the same as the text, from k on. -/
def whichFrom (f : Bool) (text : List Int) : Nat → List (List Int) → Int
  | _, [] => -1
  | k, x :: l => if same f text x = true then k else whichFrom f text (k + 1) l
def which (f : Bool) (text : List Int) (l : List (List Int)) : Int := whichFrom f text 0 l

theorem fold_in (c : Int) (h : 65 ≤ c ∧ c ≤ 90) : fold c = c + 32 := if_pos h
theorem fold_out (c : Int) (h : ¬ (65 ≤ c ∧ c ≤ 90)) : fold c = c := if_neg h
theorem fold_twice (c : Int) : fold (fold c) = fold c := by
  by_cases h : 65 ≤ c ∧ c ≤ 90
  · rw [fold_in c h, fold_out _ (by omega)]
  · rw [fold_out c h, fold_out c h]
theorem fold_byte (c : Int) (h : 0 ≤ c ∧ c ≤ 255) : 0 ≤ fold c ∧ fold c ≤ 255 := by unfold fold; split <;> omega
theorem fold_zero : fold 0 = 0 := by decide
theorem map_fold_twice (a : List Int) : (a.map fold).map fold = a.map fold := by
  rw [List.map_map]; exact List.map_congr_left fun c _ => fold_twice c
theorem same_true (a b : List Int) : same true a b = decide (a.map fold = b.map fold) := by simp [same, foldIf]
theorem same_false (a b : List Int) : same false a b = decide (a = b) := by simp [same, foldIf]
theorem same_folded (a b : List Int) : same true a b = same false (a.map fold) (b.map fold) := by rw [same_true, same_false]
theorem same_refl (f : Bool) (a : List Int) : same f a a = true := by simp [same]
theorem same_fold (a b : List Int) (h : same false a b = true) : same true a b = true := by
  rw [same_false] at h; rw [same_true]; have := of_decide_eq_true h; simp [this]
theorem same_own (a : List Int) : same true a (a.map fold) = true := by rw [same_true, map_fold_twice]; simp

theorem stands_eq (f : Bool) (text word : List Int) (p : Nat) (h1 : word.length ≤ p) (h2 : p ≤ text.length) : stands f text p word = same f ((text.take p).drop (p - word.length)) word := by
  simp [stands, h1, h2]
theorem stands_none (f : Bool) (text word : List Int) (place : Int) (h : ¬ ((word.length : Int) ≤ place ∧ place ≤ text.length)) : stands f text place word = false := by
  unfold stands
  rw [decide_eq_false h]
  rfl

/-- Joined texts stand one behind the other. -/
theorem stands_joined (f : Bool) (x y z : List Int) : stands f (x ++ y ++ z) ((x.length + y.length : Nat) : Int) y = true := by
  rw [stands_eq _ _ _ _ (by omega) (by simp)]
  have e : ((x ++ y ++ z).take (x.length + y.length)).drop (x.length + y.length - y.length) = y := by
    rw [show x.length + y.length = (x ++ y).length by simp, List.take_left, show (x ++ y).length - y.length = x.length by simp, List.drop_left]
  rw [e]
  exact same_refl f y

theorem whichFrom_le (f : Bool) (text : List Int) : ∀ (l : List (List Int)) (k : Nat), whichFrom f text k l = -1 ∨ ((k : Int) ≤ whichFrom f text k l ∧ whichFrom f text k l < k + l.length)
  | [], k => .inl rfl
  | x :: l, k => by
    unfold whichFrom
    split
    · right; simp; omega
    · rcases whichFrom_le f text l (k + 1) with h | h
      · exact .inl h
      · right; simp only [List.length_cons]; omega

/-- Where none of the first k is the same, it goes on behind them. -/
theorem which_skip (f : Bool) (text : List Int) (l : List (List Int)) : ∀ k, k ≤ l.length → (∀ j, j < k → same f text (l.getD j []) = false) → which f text l = whichFrom f text k (l.drop k)
  | 0, _, _ => by simp [which]
  | k + 1, hk, h => by
    rw [which_skip f text l k (by omega) (fun j hj => h j (by omega)), List.drop_eq_getElem_cons (by omega), whichFrom]
    have := h k (by omega)
    simp only [List.getD, List.getElem?_eq_getElem (show k < l.length by omega), Option.getD_some] at this
    rw [this]
    rfl
theorem which_hit (f : Bool) (text : List Int) (l : List (List Int)) (k : Nat) (hk : k < l.length) (h : ∀ j, j < k → same f text (l.getD j []) = false) (hit : same f text (l.getD k []) = true) : which f text l = k := by
  rw [which_skip f text l k (by omega) h, List.drop_eq_getElem_cons hk, whichFrom]
  simp only [List.getD, List.getElem?_eq_getElem hk, Option.getD_some] at hit
  rw [if_pos hit]
theorem which_none (f : Bool) (text : List Int) (l : List (List Int)) (h : ∀ j, j < l.length → same f text (l.getD j []) = false) : which f text l = -1 := by
  rw [which_skip f text l l.length (by omega) h, List.drop_length]; rfl

/-- What which tells, by each word. -/
theorem which_spec (f : Bool) (text : List Int) (l : List (List Int)) : (which f text l = -1 ∧ ∀ j, j < l.length → same f text (l.getD j []) = false) ∨
    (∃ k, k < l.length ∧ which f text l = k ∧ same f text (l.getD k []) = true ∧ ∀ j, j < k → same f text (l.getD j []) = false) := by
  by_cases h : ∃ k, k < l.length ∧ same f text (l.getD k []) = true
  · right
    have key : ∀ n, (∃ k, k ≤ n ∧ k < l.length ∧ same f text (l.getD k []) = true) → ∃ k, k < l.length ∧ same f text (l.getD k []) = true ∧ ∀ j, j < k → same f text (l.getD j []) = false := by
      intro n
      induction n with
      | zero =>
        rintro ⟨k, hk, hkl, hs⟩
        have hk0 : k = 0 := by omega
        subst hk0
        exact ⟨0, hkl, hs, fun j hj => absurd hj (Nat.not_lt_zero j)⟩
      | succ n ih =>
        rintro ⟨k, hk, hkl, hs⟩
        by_cases hb : ∃ j, j ≤ n ∧ j < l.length ∧ same f text (l.getD j []) = true
        · exact ih hb
        · refine ⟨k, hkl, hs, fun j hj => ?_⟩
          cases hsj : same f text (l.getD j []) with
          | false => rfl
          | true => exact absurd ⟨j, by omega, by omega, hsj⟩ hb
    obtain ⟨k, hk, hs⟩ := h
    obtain ⟨k, hkl, hs, hb⟩ := key k ⟨k, Nat.le_refl _, hk, hs⟩
    exact ⟨k, hkl, which_hit f text l k hkl hb hs, hs, hb⟩
  · left
    have hn : ∀ j, j < l.length → same f text (l.getD j []) = false := fun j hj => by
      cases hsj : same f text (l.getD j []) with
      | false => rfl
      | true => exact absurd ⟨j, hj, hsj⟩ h
    exact ⟨which_none f text l hn, hn⟩

end Go.Proofs.Ytojbfjlihenjaaa.PlainLetter
