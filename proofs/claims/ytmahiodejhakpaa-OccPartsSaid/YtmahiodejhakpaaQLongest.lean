/- The document's own answer: the longest word. -/
import Derived.Test.YtmahiodejhakpaaK12
set_option linter.unusedSimpArgs false
set_option linter.unusedVariables false
namespace Go.Proofs.Ytmahiodejhakpaa
open Go.RowKit PlainLetter PlainPatset

/-- The longest of the first i words. -/
theorem longest_append (l m : List (List Int)) : longest (l ++ m) = max (longest l) (longest m) := by
  induction l with
  | nil => simp [longest]
  | cons x l ih => simp only [longest, List.cons_append, List.foldr_cons] at *; rw [ih]; omega
theorem longest_succ (xss : List (List Int)) (i : Nat) (h : i < xss.length) : longest (xss.take (i + 1)) = max (longest (xss.take i)) (xss.getD i []).length := by
  rw [take_getD xss i [] h, longest_append]; simp [longest]

theorem refLongest_is (f : Bool) (P : Option Addr) (c : Nat) (xss : List (List Int)) (w : World) (hn : xss.length ≤ 100000) (hl : xss.flatten.length ≤ 100000) (hP : Arrs w P xss) :
    Calls Try.prog 13 #[.agg #[.bool f, .slice P xss.length c]] w fun e w' => e = .returned (.int .i64 (longest xss : Nat)) ∧ w.grownBy w' none := by
  have hP1 := hid (hP.grown (grown_alloc (grown_refl w none) (.cells #[.bool f, .slice P xss.length c] 24)))
  have hH : Holds (w.alloc (.cells #[.bool f, .slice P xss.length c] 24)) w.heap.size 24 #[.bool f, .slice P xss.length c] := Holds.new _ _ _
  have hgl : Hid (∀ i, (xss.getD i []).length ≤ xss.flatten.length) := hid (fun k => by
    by_cases hk : k < xss.length
    · have h1 := flatten_take_succ xss k hk
      have h2 := flatten_take_le xss (k + 1)
      rw [h1, List.length_append] at h2
      omega
    · simp [List.getD, List.getElem?_eq_none (Nat.le_of_not_lt hk)])
  have hle : Hid (∀ i, longest (xss.take i) ≤ xss.flatten.length) := hid (fun i => by
    induction i with
    | zero => simp [longest]
    | succ i ih =>
      by_cases hi : i < xss.length
      · rw [longest_succ xss i hi]; have := hgl.out i; omega
      · rw [List.take_of_length_le (by omega)]; rw [List.take_of_length_le (by omega)] at ih; exact ih)
  have hsu := hid (fun i h => longest_succ xss i h)
  clear hP
  go_enter Try.func13, Try.ntmps13
  go_wp2_with fail
  have hG0 : Hid (w.grownBy (w.alloc (.cells #[.bool f, .slice P xss.length c] 24)) none) := grown_alloc (grown_refl w none) _
  obtain ⟨W0, hW0⟩ : ∃ W0, w.alloc (.cells #[.bool f, .slice P xss.length c] 24) = W0 := ⟨_, rfl⟩
  rw [hW0] at hP1 hH hG0 ⊢
  clear hW0
  generalize w.heap.size = g at hH ⊢
  have c1 := hH.cell 1
  simp at c1
  clear hH
  go_loopw [3, 4] (fun u v wr => ∃ i m : Nat, i ≤ xss.length ∧ v = .int .i64 i ∧ u = .int .i64 m ∧ m = longest (xss.take i) ∧ wr = W0) (fun _ v _ => xss.length - (intOf v).toNat)
  case atStart => exact ⟨0, 0, by omega, rfl, rfl, by simp [longest], rfl⟩
  case round =>
    obtain ⟨i, m, hi, rfl, rfl, hm, hwr⟩ := hrel
    rw [hwr]
    have hml := hle.out i
    rw [← hm] at hml
    replace hm := hid hm
    replace hwr := hid hwr
    by_cases hlt : i < xss.length
    · obtain ⟨b, off, Ai, ci, rfl, hb, hcell, _⟩ := hP1.out.at_ hlt
      have hx := hgl.out i
      have hnew := hid (hsu.out i hlt)
      rw [← hm.out] at hnew
      generalize (xss.getD i []).length = n at hcell hx hnew
      have i0 : (0 : Int) ≤ (i : Int) := by omega
      have i1 : (i : Int) < (xss.length : Int) := by omega
      by_cases hmx : n ≤ m
      all_goals
        go_wp2_with fail
        go_roundw
        case rel => exact ⟨i + 1, max m n, by omega, by go_num, by first | (congr 1; omega) | (simp; omega), hnew.out.symm, by trivial⟩
        case measure => simp [intOf]; omega
    · obtain rfl : i = xss.length := by omega
      rw [List.take_length] at hm
      go_wp2_with fail
      go_ret
      exact ⟨by rw [← hm.out]; rfl, hG0.out⟩
end Go.Proofs.Ytmahiodejhakpaa
