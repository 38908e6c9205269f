/- The document's own answer: which word a text is. -/
import Derived.Test.YtojbfjlihenjaaaLSame
set_option linter.unusedSimpArgs false
set_option linter.unusedVariables false
namespace Go.Proofs.Ytojbfjlihenjaaa
open Go.RowKit PlainLetter

theorem getD_mem {l : List (List Int)} {j : Nat} (h : j < l.length) : l.getD j [] ∈ l := by simp [List.getD, h]

set_option maxHeartbeats 800000 in
theorem refWhich_is (f : Bool) (A P : Option Addr) (c d : Nat) (text : List Int) (xss : List (List Int)) (w : World) (hla : text.length ≤ 100000) (ha : Bytes text) (hA : Arr w .u8 A text) (hP : Arrs w P xss) (hS : Small xss) :
    Calls Try.prog 32 #[.bool f, .slice A text.length c, .slice P xss.length d] w fun e w' => e = .returned (.int .i64 (which f text xss)) ∧ w.grownBy w' none := by
  obtain ⟨hS1, hS2⟩ := hS
  replace hS2 := hid hS2
  replace ha := hid ha
  replace hA := hid hA
  replace hP := hid hP
  go_enter Try.func32, Try.ntmps32
  go_wp2
  go_loopw [7] (fun i wr => ∃ k : Nat, k ≤ xss.length ∧ i = .int .i64 k ∧ (∀ j, j < k → same f text (xss.getD j []) = false) ∧ w.grownBy wr none) (fun i _ => xss.length - (intOf i).toNat)
  case atStart => exact ⟨0, Nat.zero_le _, rfl, fun j hj => absurd hj (Nat.not_lt_zero j), grown_refl _ _⟩
  case round =>
    obtain ⟨k, hk, rfl, hall, hG⟩ := hrel
    replace hall := hid hall
    by_cases hlt : k < xss.length
    · obtain ⟨b, off, Ai, ci, rfl, hb, hcell0, hAi⟩ := hP.out.at_ hlt
      have hcell := ((gcell hG).1 b (off + k) hb).trans hcell0
      have hAi' := hid (hAi.grown hG)
      have hA' := hid (hA.out.grown hG)
      obtain ⟨hxl, hxb⟩ := hS2.out k
      replace hxb := hid hxb
      replace hG := hid hG
      clear hcell0 hAi
      have hhit := hid (fun h => which_hit f text xss k hlt hall.out h)
      have hmiss : Hid (same f text (xss.getD k []) = false → ∀ j, j < k + 1 → same f text (xss.getD j []) = false) := fun h j hj => by
        by_cases hjk : j = k
        · subst hjk; exact h
        · exact hall.out j (by omega)
      generalize xss.getD k [] = xs at hcell hAi' hxl hxb hhit hmiss
      cases hsame : same f text xs with
      | true =>
        have hw := hid (hhit.out hsame)
        replace hsame := hid hsame
        go_wp2_with fail
        refine (refSame_is f A Ai c ci text xs wr hla hxl ha.out hxb.out hA'.out hAi'.out).mono ?_
        rintro e w1 ⟨rfl, hg⟩
        rw [hsame.out]
        go_wp2_with fail
        go_ret
        exact ⟨by rw [hw.out]; rfl, grown_trans hG.out hg⟩
      | false =>
        have hw := hid (hmiss.out hsame)
        replace hsame := hid hsame
        go_wp2_with fail
        refine (refSame_is f A Ai c ci text xs wr hla hxl ha.out hxb.out hA'.out hAi'.out).mono ?_
        rintro e w1 ⟨rfl, hg⟩
        rw [hsame.out]
        go_wp2_with fail
        go_roundw
        case rel => exact ⟨k + 1, by omega, by go_num, hw.out, grown_trans hG.out hg⟩
        case measure => simp [intOf]; omega
    · obtain rfl : k = xss.length := by omega
      have hw := hid (which_none f text xss hall.out)
      go_wp2
      go_ret
      exact ⟨by rw [hw.out]; rfl, hG⟩

end Go.Proofs.Ytojbfjlihenjaaa
