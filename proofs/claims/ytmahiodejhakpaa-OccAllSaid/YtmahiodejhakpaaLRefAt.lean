/- The document's own answer: where words stand. -/
import Derived.Test.YtmahiodejhakpaaK8
set_option linter.unusedSimpArgs false
set_option linter.unusedVariables false
set_option maxRecDepth 100000
namespace Go.Proofs.Ytmahiodejhakpaa
open Go.RowKit PlainLetter

set_option maxHeartbeats 800000 in
theorem refAt_is (f : Bool) (A B : Option Addr) (c d : Nat) (text word : List Int) (place : Int) (w : World) (hla : text.length ≤ 100000) (hlb : word.length ≤ 100000) (hc : text.length ≤ c) (hc2 : c ≤ maxLen) (ha : Bytes text) (hb : Bytes word)
    (hA : Arr w .u8 A text) (hB : Arr w .u8 B word) :
    Calls Try.prog 12 #[.bool f, .slice A text.length c, .int .i64 place, .slice B word.length d] w fun e w' => e = .returned (.bool (stands f text place word)) ∧ w.grownBy w' none := by
  unfold maxLen at hc2
  by_cases h : (word.length : Int) ≤ place ∧ place ≤ text.length
  · obtain ⟨h1, h2⟩ := h
    obtain ⟨p, rfl⟩ := Int.eq_ofNat_of_zero_le (show 0 ≤ place by omega)
    have hs := hid (stands_eq f text word p (by omega) (by omega))
    have hlen : ((text.take p).drop (p - word.length)).length = word.length := by simp; omega
    have hArr := (hA.take p).drop (i := p - word.length) (c := c) (by simp; omega)
    have hby : Bytes ((text.take p).drop (p - word.length)) := (ha.take p).drop _
    generalize (text.take p).drop (p - word.length) = sub at hs hlen hArr hby
    have hl2 : p - (p - word.length) = sub.length := by omega
    have q1 : (0 : Int) ≤ (p : Int) - (word.length : Int) := by omega
    have q2 : (p : Int) - (word.length : Int) ≤ (p : Int) := by omega
    have q3 : (p : Int) ≤ (c : Int) := by omega
    have q4 : ((p : Int) - (word.length : Int)).toNat = p - word.length := by omega
    replace hs := hid hs.out
    replace hlen := hid hlen
    replace hby := hid hby
    replace ha := hid ha
    replace hb := hid hb
    replace hl2 := hid hl2
    replace hB := hid hB
    clear hA hlen
    by_cases hcp : c = p - word.length
    all_goals
      first | rw [if_pos hcp] at hArr | rw [if_neg hcp] at hArr
      have hArr' := hid hArr
      clear hArr
      go_enter Try.func12, Try.ntmps12
      go_wp2_with fail
      rw [hl2.out]
      refine (refSame_is f _ B _ d sub word w (by have := hl2.out; omega) hlb hby.out hb.out hArr'.out hB.out).mono ?_
      rintro e w1 ⟨rfl, hg⟩
      rw [← hs.out]
      go_wp2_with fail
      go_ret
      exact ⟨rfl, hg⟩
  · have hs := hid (stands_none f text word place h)
    by_cases h1 : (word.length : Int) ≤ place
    · have h2 : ¬ place ≤ text.length := by omega
      clear h
      go_enter Try.func12, Try.ntmps12
      go_wp2_with fail
      go_ret
      exact ⟨by rw [hs.out]; rfl, grown_refl _ _⟩
    · clear h
      go_enter Try.func12, Try.ntmps12
      go_wp2_with fail
      go_ret
      exact ⟨by rw [hs.out]; rfl, grown_refl _ _⟩

end Go.Proofs.Ytmahiodejhakpaa
