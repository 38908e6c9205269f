/- The document's own answer: sums joined. -/
import Derived.Test.YtdlfphdgjonbdaaRefSum
import Derived.StillTailTactics
set_option linter.unusedVariables false
namespace Go.Proofs.Ytdlfphdgjonbdaa
open Go.RowKit PlainSum

theorem tmod_fix (t X : Int) (h : t.tmod 65521 = X) : -65520 ≤ X ∧ X ≤ 65520 ∧ (X < 0 → X + 65521 = t % 65521) ∧ (¬ X < 0 → X = t % 65521) := by
  by_cases h0 : 0 ≤ t
  · rw [Int.tmod_eq_emod_of_nonneg h0] at h
    omega
  · obtain ⟨u, rfl⟩ : ∃ u : Int, t = -u := ⟨-t, by omega⟩
    rw [Int.neg_tmod, Int.tmod_eq_emod_of_nonneg (by omega)] at h
    omega

theorem mul_bd (n A : Int) (h3 : 0 ≤ n) (h4 : n ≤ 2147483647) (h1 : 0 ≤ A) (h2 : A ≤ 65520) : 0 ≤ n * A ∧ n * A ≤ 2147483647 * 65520 :=
  ⟨Int.mul_nonneg h3 h1, Int.mul_le_mul h4 h2 h1 (by decide)⟩

set_option maxHeartbeats 800000 in
theorem refJoin_yes (A B C D n : Int) (w : World) (h1 : right (A, B) = true) (h2 : right (C, D) = true) (h3 : 0 ≤ n) (h4 : n ≤ 2147483647) :
    Calls Try.prog 10 #[.agg #[.int .i64 A, .int .i64 B], .agg #[.int .i64 C, .int .i64 D], .int .i64 n] w fun e w' =>
      e = .returned (.tuple #[.agg #[.int .i64 (join (A, B) (C, D) n).1, .int .i64 (join (A, B) (C, D) n).2], .int .i64 0]) ∧ w.grownBy w' none := by
  obtain ⟨a1, a2, a3, a4⟩ := (right_iff _).1 h1
  obtain ⟨a5, a6, a7, a8⟩ := (right_iff _).1 h2
  simp only at a1 a2 a3 a4 a5 a6 a7 a8
  obtain ⟨m1, m2⟩ := mul_bd n A h3 h4 a1 a2
  obtain ⟨X, hX⟩ : ∃ X, (A + C - 1).tmod 65521 = X := ⟨_, rfl⟩
  obtain ⟨Y, hY⟩ : ∃ Y, (B + D + n * A - n).tmod 65521 = Y := ⟨_, rfl⟩
  obtain ⟨x1, x2, x3, x4⟩ := tmod_fix _ _ hX
  obtain ⟨y1, y2, y3, y4⟩ := tmod_fix _ _ hY
  have j1 : (X < 0 ∧ Hid ((join (A, B) (C, D) n).1 = X + 65521)) ∨ (0 ≤ X ∧ Hid ((join (A, B) (C, D) n).1 = X)) := by
    by_cases h : X < 0
    · exact .inl ⟨h, (x3 h).symm⟩
    · exact .inr ⟨by omega, (x4 h).symm⟩
  have j2 : (Y < 0 ∧ Hid ((join (A, B) (C, D) n).2 = Y + 65521)) ∨ (0 ≤ Y ∧ Hid ((join (A, B) (C, D) n).2 = Y)) := by
    by_cases h : Y < 0
    · exact .inl ⟨h, (y3 h).symm⟩
    · exact .inr ⟨by omega, (y4 h).symm⟩
  clear x3 x4 y3 y4
  rcases j1 with ⟨hX0, j1⟩ | ⟨hX0, j1⟩
  all_goals
    rcases j2 with ⟨hY0, j2⟩ | ⟨hY0, j2⟩
    all_goals
      go_enter Try.func10, Try.ntmps10
      go_wp2_with fail
      refine (refRight_yes A B _ h1).mono ?_
      rintro e w1 ⟨rfl, hg1⟩
      obtain ⟨hc, hf⟩ := gcell hg1
      go_wp2_with fail
      refine (refRight_yes C D _ h2).mono ?_
      rintro e w2 ⟨rfl, hg2⟩
      obtain ⟨hc, hf⟩ := gcell (grown_trans hg1 hg2)
      have hH1 : Holds w2 (w.heap.size + 2) 23 #[.int .i64 0, .int .i64 0] := by
        have := Holds.new ((w.alloc (.cells #[.int .i64 A, .int .i64 B] 23)).alloc (.cells #[.int .i64 C, .int .i64 D] 23)) 23 #[.int .i64 0, .int .i64 0]
        rw [show ((w.alloc (.cells #[.int .i64 A, .int .i64 B] 23)).alloc (.cells #[.int .i64 C, .int .i64 D] 23)).heap.size = w.heap.size + 2 by simp] at this
        exact (this.kept hg1 (by simp)).kept hg2 (by simp)
      have hG := hid (grown_trans (grown_alloc (grown_alloc (grown_alloc (grown_refl _ _) _) _) _) (grown_trans hg1 hg2))
      have d0 := hH1.cell 0
      have d1 := hH1.cell 1
      have f0 := hH1.free 0
      have f1 := hH1.free 1
      simp at d0 d1
      have hlb := hH1.lt
      clear hH1 hg1 hg2
      go_wp2
      refine bodyPost_ret (v := .tuple #[.agg #[.int .i64 (join (A, B) (C, D) n).1, .int .i64 (join (A, B) (C, D) n).2], .int .i64 0]) (by
        rw [j1.out, j2.out]
        simp [results, Try.results10, go_sem, d0, d1]) rfl ⟨rfl, ?_⟩
      exact grown_set (grown_set hG.out (.inr (by simp; omega)) _) (.inr (by simp; omega)) _

/-- The cell of the sum that it tells, behind the boxes of two sums. -/
theorem cell3 {A B C D : Int} {w w' : World} (h : (((w.alloc (.cells #[.int .i64 A, .int .i64 B] 23)).alloc (.cells #[.int .i64 C, .int .i64 D] 23)).alloc (.cells #[.int .i64 0, .int .i64 0] 23)).grownBy w' none) :
    Holds w' (w.heap.size + 2) 23 #[.int .i64 0, .int .i64 0] ∧ w.grownBy w' none := by
  have := Holds.new ((w.alloc (.cells #[.int .i64 A, .int .i64 B] 23)).alloc (.cells #[.int .i64 C, .int .i64 D] 23)) 23 #[.int .i64 0, .int .i64 0]
  rw [show ((w.alloc (.cells #[.int .i64 A, .int .i64 B] 23)).alloc (.cells #[.int .i64 C, .int .i64 D] 23)).heap.size = w.heap.size + 2 by simp] at this
  exact ⟨this.kept h (by simp), grown_trans (grown_alloc (grown_alloc (grown_alloc (grown_refl _ _) _) _) _) h⟩

set_option maxHeartbeats 400000 in
theorem refJoin_no (A B C D n : Int) (w : World) (h : mayJoin (A, B) (C, D) n = false) :
    Calls Try.prog 10 #[.agg #[.int .i64 A, .int .i64 B], .agg #[.int .i64 C, .int .i64 D], .int .i64 n] w fun e w' =>
      e = .returned (.tuple #[.agg #[.int .i64 0, .int .i64 0], .int .i64 2]) ∧ w.grownBy w' none := by
  have fin : ∀ w2 : World, Holds w2 (w.heap.size + 2) 23 #[.int .i64 0, .int .i64 0] ∧ w.grownBy w2 none →
      w2.cell? ⟨w.heap.size + 2, 0, none⟩ = some (.int .i64 0) ∧ w2.cell? ⟨w.heap.size + 2, 1, none⟩ = some (.int .i64 0) ∧ w2.frozen? ⟨w.heap.size + 2, 0, none⟩ = false ∧ w2.frozen? ⟨w.heap.size + 2, 1, none⟩ = false ∧ w.heap.size + 2 < w2.heap.size ∧ Hid (w.grownBy w2 none) := by
    rintro w2 ⟨hH, hG⟩
    exact ⟨by simpa using hH.cell 0, by simpa using hH.cell 1, hH.free 0, hH.free 1, hH.lt, hG⟩
  replace fin := hid fin
  cases h1 : right (A, B) with
  | false =>
    clear h
    go_enter Try.func10, Try.ntmps10
    go_wp2_with fail
    refine (refRight_no A B _ h1).mono ?_
    rintro e w1 ⟨rfl, hg1⟩
    obtain ⟨d0, d1, f0, f1, hlb, hG⟩ := fin.out w1 (cell3 hg1)
    clear hg1
    go_wp2
    refine bodyPost_ret (v := .tuple #[.agg #[.int .i64 0, .int .i64 0], .int .i64 2]) (by simp [results, Try.results10, go_sem, d0, d1]) rfl ⟨rfl, ?_⟩
    exact grown_set (grown_set hG.out (.inr (by simp; omega)) _) (.inr (by simp; omega)) _
  | true =>
    cases h2 : right (C, D) with
    | false =>
      clear h
      go_enter Try.func10, Try.ntmps10
      go_wp2_with fail
      refine (refRight_yes A B _ h1).mono ?_
      rintro e w1 ⟨rfl, hg1⟩
      obtain ⟨hc, hf⟩ := gcell hg1
      go_wp2_with fail
      refine (refRight_no C D _ h2).mono ?_
      rintro e w2 ⟨rfl, hg2⟩
      obtain ⟨d0, d1, f0, f1, hlb, hG⟩ := fin.out w2 (cell3 (grown_trans hg1 hg2))
      clear hg1 hg2 hc hf
      go_wp2
      refine bodyPost_ret (v := .tuple #[.agg #[.int .i64 0, .int .i64 0], .int .i64 2]) (by simp [results, Try.results10, go_sem, d0, d1]) rfl ⟨rfl, ?_⟩
      exact grown_set (grown_set hG.out (.inr (by simp; omega)) _) (.inr (by simp; omega)) _
    | true =>
      have h' : n < 0 ∨ (0 ≤ n ∧ 2147483647 < n) := by
        simp only [mayJoin, h1, h2, Bool.true_and, decide_eq_false_iff_not] at h
        omega
      clear h
      rcases h' with h3 | ⟨h3, h4⟩
      all_goals
        go_enter Try.func10, Try.ntmps10
        go_wp2_with fail
        refine (refRight_yes A B _ h1).mono ?_
        rintro e w1 ⟨rfl, hg1⟩
        obtain ⟨hc, hf⟩ := gcell hg1
        go_wp2_with fail
        refine (refRight_yes C D _ h2).mono ?_
        rintro e w2 ⟨rfl, hg2⟩
        obtain ⟨d0, d1, f0, f1, hlb, hG⟩ := fin.out w2 (cell3 (grown_trans hg1 hg2))
        clear hg1 hg2 hc hf
        go_wp2
        refine bodyPost_ret (v := .tuple #[.agg #[.int .i64 0, .int .i64 0], .int .i64 2]) (by simp [results, Try.results10, go_sem, d0, d1]) rfl ⟨rfl, ?_⟩
        exact grown_set (grown_set hG.out (.inr (by simp; omega)) _) (.inr (by simp; omega)) _

end Go.Proofs.Ytdlfphdgjonbdaa
