/- The document's own answer: sets that are too great. -/
import Derived.Test.YtojbfjlihenjaaaQCheck
set_option linter.unusedSimpArgs false
set_option linter.unusedVariables false
namespace Go.Proofs.Ytojbfjlihenjaaa
open Go.RowKit PlainLetter PlainPatset

theorem refSetGreat_is (f : Bool) (P : Option Addr) (c : Nat) (xss : List (List Int)) (w : World) (hP : Arrs w P xss) (hl : xss.length ≤ 9223372036854775807) :
    Calls Try.prog 9 #[.agg #[.bool f, .slice P xss.length c]] w fun e w' => (e = .returned (.bool true) ∨ (e = .returned (.bool false) ∧ xss.length ≤ 80 ∧ xss.flatten.length ≤ 3000)) ∧ w.grownBy w' none := by
  replace hP := hid hP
  go_enter Try.func9, Try.ntmps9
  go_wp2_with fail
  refine (greatTexts_is P c xss _ (hP.out.grown (grown_alloc (grown_refl w none) _)) hl).mono ?_
  rintro e w1 ⟨rfl, rfl | ⟨rfl, h80, h3000⟩⟩
  · go_wp2_with fail
    go_ret
    exact ⟨.inl rfl, grown_alloc (grown_refl w none) _⟩
  · go_wp2_with fail
    go_ret
    exact ⟨.inr ⟨rfl, h80, h3000⟩, grown_alloc (grown_refl w none) _⟩

end Go.Proofs.Ytojbfjlihenjaaa
