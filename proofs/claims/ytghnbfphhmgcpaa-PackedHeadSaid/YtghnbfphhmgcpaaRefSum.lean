/- The document's own answer: sums of bytes. -/
import Derived.Test.YtghnbfphhmgcpaaProg
import Derived.Test.YtghnbfphhmgcpaaBase
import Derived.Test.YtghnbfphhmgcpaaTail
import Derived.Test.YtghnbfphhmgcpaaPlainSum
set_option linter.unusedSimpArgs false
set_option linter.unusedVariables false
namespace Go.Proofs.Ytghnbfphhmgcpaa
open Go.RowKit PlainSum


theorem refRight_yes (A B : Int) (w : World) (h : right (A, B) = true) :
    Calls Try.prog 45 #[.agg #[.int .i64 A, .int .i64 B]] w fun e w' => e = .returned (.bool true) ∧ w.grownBy w' none := by
  obtain ⟨h1, h2, h3, h4⟩ := (right_iff _).1 h
  clear h
  simp only at h1 h2 h3 h4
  go_enter Try.func45, Try.ntmps45
  go_wp2
  go_ret
  exact ⟨rfl, grown_alloc (grown_refl _ _) _⟩

theorem refRight_no (A B : Int) (w : World) (h : right (A, B) = false) :
    Calls Try.prog 45 #[.agg #[.int .i64 A, .int .i64 B]] w fun e w' => e = .returned (.bool false) ∧ w.grownBy w' none := by
  have h' : ¬ (0 ≤ A ∧ A ≤ 65520 ∧ 0 ≤ B ∧ B ≤ 65520) := fun hh => by
    have := (right_iff (A, B)).2 hh
    rw [h] at this
    cases this
  clear h
  by_cases h1 : 0 ≤ A
  · by_cases h2 : A ≤ 65520
    · by_cases h3 : 0 ≤ B
      · have h4 : ¬ B ≤ 65520 := by omega
        clear h'
        go_enter Try.func45, Try.ntmps45
        go_wp2
        go_ret
        exact ⟨rfl, grown_alloc (grown_refl _ _) _⟩
      · clear h'
        go_enter Try.func45, Try.ntmps45
        go_wp2
        go_ret
        exact ⟨rfl, grown_alloc (grown_refl _ _) _⟩
    · clear h'
      go_enter Try.func45, Try.ntmps45
      go_wp2
      go_ret
      exact ⟨rfl, grown_alloc (grown_refl _ _) _⟩
  · clear h'
    go_enter Try.func45, Try.ntmps45
    go_wp2
    go_ret
    exact ⟨rfl, grown_alloc (grown_refl _ _) _⟩

theorem refNew_is (w : World) :
    Calls Try.prog 35 #[] w fun e w' => e = .returned (.agg #[.int .i64 1, .int .i64 0]) ∧ w.grownBy w' none := by
  go_enter Try.func35, Try.ntmps35
  go_wp2
  exact bodyPost_ret (v := .agg #[.int .i64 1, .int .i64 0]) (by simp [results, Try.results35, go_sem]) rfl ⟨rfl, grown_alloc (grown_refl _ _) _⟩

theorem refValue_is (A B : Int) (w : World) :
    Calls Try.prog 33 #[.agg #[.int .i64 A, .int .i64 B]] w fun e w' => e = .returned (.int .u32 (value (A, B))) ∧ w.grownBy w' none := by
  cases hr : right (A, B) with
  | true =>
    have hv := hid (show value (A, B) = B * 65536 + A from if_pos hr)
    obtain ⟨h1, h2, h3, h4⟩ := (right_iff _).1 hr
    simp only at h1 h2 h3 h4
    have hw : IntKind.u32.wrap (B * 65536 + A) = B * 65536 + A := by simp [IntKind.wrap, IntKind.bits, IntKind.signed]; omega
    go_enter Try.func33, Try.ntmps33
    go_wp2_with fail
    refine (refRight_yes A B _ hr).mono ?_
    rintro e w1 ⟨rfl, hg1⟩
    obtain ⟨hc, hf⟩ := gcell hg1
    go_wp2
    go_ret
    exact ⟨by rw [hv.out]; rfl, grown_trans (grown_alloc (grown_refl _ _) _) hg1⟩
  | false =>
    have hv := hid (show value (A, B) = 0 from if_neg (by simp [hr]))
    go_enter Try.func33, Try.ntmps33
    go_wp2_with fail
    refine (refRight_no A B _ hr).mono ?_
    rintro e w1 ⟨rfl, hg1⟩
    go_wp2
    go_ret
    exact ⟨by rw [hv.out]; rfl, grown_trans (grown_alloc (grown_refl _ _) _) hg1⟩

end Go.Proofs.Ytghnbfphhmgcpaa
