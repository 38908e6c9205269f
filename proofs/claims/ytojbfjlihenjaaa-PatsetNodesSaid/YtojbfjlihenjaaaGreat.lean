/- The document's own answer: texts that are too great. -/
import Derived.Test.YtojbfjlihenjaaaBase
set_option linter.unusedSimpArgs false
set_option linter.unusedVariables false
namespace Go.Proofs.Ytojbfjlihenjaaa
open Go.RowKit

theorem flatten_take_succ (xss : List (List Int)) (k : Nat) (h : k < xss.length) : (xss.take (k + 1)).flatten = (xss.take k).flatten ++ xss.getD k [] := by
  rw [take_getD xss k [] h, List.flatten_append]; simp

theorem flatten_take_le (xss : List (List Int)) (k : Nat) : (xss.take k).flatten.length ≤ xss.flatten.length := by
  conv => rhs; rw [← List.take_append_drop k xss]
  rw [List.flatten_append, List.length_append]; omega

/-- What Great tells: where it says no, the texts are few and together short. -/
def GreatTexts (xss : List (List Int)) (w : World) : Ending → World → Prop := fun e w' =>
  w = w' ∧ (e = .returned (.bool true) ∨ (e = .returned (.bool false) ∧ xss.length ≤ 80 ∧ xss.flatten.length ≤ 3000))

set_option maxRecDepth 100000 in
set_option maxHeartbeats 800000 in
theorem greatTexts_is (P : Option Addr) (c : Nat) (xss : List (List Int)) (w : World) (hP : Arrs w P xss) (hl : xss.length ≤ 9223372036854775807) :
    Calls Try.prog 8 #[.slice P xss.length c] w (GreatTexts xss w) := by
  replace hP := hid hP
  go_enter Try.func8, Try.ntmps8
  go_wp2
  go_loop [3, 4] (fun s i => ∃ (k : Nat) (m : Int), k ≤ xss.length ∧ i = .int .i64 k ∧ s = .int .i64 m ∧ 0 ≤ m ∧ m ≤ 7000 ∧ (m ≤ 3000 → ((xss.take k).flatten.length : Int) = m)) (fun _ i => xss.length - (intOf i).toNat)
  case atStart => exact ⟨0, 0, by omega, rfl, rfl, by omega, by omega, fun _ => by simp⟩
  case round =>
    obtain ⟨k, m, hk, rfl, rfl, hm0, hm1, hall⟩ := hrel
    replace hall := hid hall
    by_cases hlt : k < xss.length
    · by_cases h80 : (k : Int) ≤ 80
      · by_cases h3 : m ≤ 3000
        · obtain ⟨b, off, Ai, ci, rfl, hb, hcell, _⟩ := hP.out.at_ hlt
          have hstep : Hid (∀ m' : Int, m' = m + min ((xss.getD k []).length : Int) 4000 → m' ≤ 3000 → ((xss.take (k + 1)).flatten.length : Int) = m') := by
            intro m' hm' h3'
            rw [flatten_take_succ xss k hlt, List.length_append]
            have := hall.out h3
            omega
          generalize (xss.getD k []).length = ln at hcell hstep
          have k0 : (0 : Int) ≤ (k : Int) := by omega
          have k1 : (k : Int) < (xss.length : Int) := by omega
          by_cases hmin : (ln : Int) ≤ 4000
          all_goals
            go_wp2
            go_round
            case rel => exact ⟨k + 1, m + min (ln : Int) 4000, by omega, by go_num, by first | (rw [Int.min_eq_left (by omega)]; done) | (rw [Int.min_eq_right (by omega)]; done) | (go_num), by omega, by omega, hstep.out _ rfl⟩
            case measure => simp [intOf]; omega
        · have h3' : 3000 < m := by omega
          by_cases hg : 80 < xss.length
          all_goals
            go_wp2
            go_ret
            exact ⟨rfl, .inl rfl⟩
      · have hg : 80 < xss.length := by omega
        go_wp2
        go_ret
        exact ⟨rfl, .inl rfl⟩
    · obtain rfl : k = xss.length := by omega
      by_cases hg : 80 < xss.length
      · go_wp2
        go_ret
        exact ⟨rfl, .inl rfl⟩
      · by_cases h3 : m ≤ 3000
        · have d1 : decide (80 < (xss.length : Int)) = false := by simp; omega
          have d2 : decide (3000 < m) = false := by simp; omega
          go_wp2
          go_ret
          exact ⟨rfl, .inr ⟨rfl, by omega, by have := hall.out h3; rw [List.take_length] at this; omega⟩⟩
        · go_wp2
          go_ret
          exact ⟨rfl, .inl rfl⟩

end Go.Proofs.Ytojbfjlihenjaaa
