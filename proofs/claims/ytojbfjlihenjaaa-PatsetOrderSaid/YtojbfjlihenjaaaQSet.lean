/- The document's own answer: sets that are too great; a word's number; the longest word; a set in memory of its own. -/
import Derived.Test.YtojbfjlihenjaaaLRefWhich
import Derived.Test.YtojbfjlihenjaaaOwnRows
import Derived.Test.YtojbfjlihenjaaaQGreat
import Derived.Test.YtojbfjlihenjaaaQLongest
set_option linter.unusedSimpArgs false
set_option linter.unusedVariables false
namespace Go.Proofs.Ytojbfjlihenjaaa
open Go.RowKit PlainLetter PlainPatset

/-- A word's number, and whether it has one. -/
def number (f : Bool) (xss : List (List Int)) (x : List Int) : Int × Bool := if which f x xss < 0 then (0, false) else (which f x xss, true)

theorem refNumber_is (f : Bool) (P A : Option Addr) (c d : Nat) (xss : List (List Int)) (x : List Int) (w : World) (hx : x.length ≤ 100000) (hxb : Bytes x) (hA : Arr w .u8 A x) (hP : Arrs w P xss) (hS : Small xss) :
    Calls Try.prog 14 #[.agg #[.bool f, .slice P xss.length c], .slice A x.length d] w fun e w' => e = .returned (.tuple #[.int .i64 (number f xss x).1, .bool (number f xss x).2]) ∧ w.grownBy w' none := by
  replace hP := hid hP
  replace hA := hid hA
  replace hS := hid hS
  replace hxb := hid hxb
  go_enter Try.func14, Try.ntmps14
  go_wp2_with fail
  refine (refWhich_is f A P d c x xss _ hx hxb.out (hA.out.grown (grown_alloc (grown_refl w none) _)) (hP.out.grown (grown_alloc (grown_refl w none) _)) hS.out).mono ?_
  rintro e w1 ⟨rfl, hg⟩
  have hG := hid (grown_trans (grown_alloc (grown_refl w none) _) hg)
  clear hg
  have hN : Hid (number f xss x = if which f x xss < 0 then (0, false) else (which f x xss, true)) := hid rfl
  have hlo := which_spec f x xss
  have hb : -1 ≤ which f x xss ∧ which f x xss ≤ xss.length := by
    rcases hlo with ⟨h, _⟩ | ⟨k, hk, h, _⟩ <;> omega
  clear hlo
  generalize which f x xss = K at hN hb ⊢
  by_cases hK : K < 0
  · have hN' := hid (hN.out.trans (if_pos hK))
    clear hN
    go_wp2_with fail
    go_ret2
    exact ⟨by rw [hN'.out]; rfl, hG.out⟩
  · have hN' := hid (hN.out.trans (if_neg hK))
    clear hN
    go_wp2_with fail
    go_ret2
    exact ⟨by rw [hN'.out]; rfl, hG.out⟩

end Go.Proofs.Ytojbfjlihenjaaa
