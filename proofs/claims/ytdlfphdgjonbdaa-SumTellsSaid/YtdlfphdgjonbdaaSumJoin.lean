/- Package sum: sums joined. -/
import Derived.Test.YtdlfphdgjonbdaaTally
import Derived.Test.YtdlfphdgjonbdaaRefJoin
set_option linter.unusedVariables false
namespace Go.Proofs.Ytdlfphdgjonbdaa
open Go.RowKit PlainSum

set_option maxHeartbeats 800000 in
theorem sumJoin_yes (A B C D n : Int) (w : World) (h1 : right (A, B) = true) (h2 : right (C, D) = true) (h3 : 0 ≤ n) (h4 : n ≤ 2147483647) :
    Calls Try.prog 9 #[.agg #[.int .i64 A, .int .i64 B], .agg #[.int .i64 C, .int .i64 D], .int .i64 n] w fun e w' =>
      e = .returned (.tuple #[.agg #[.int .i64 (join (A, B) (C, D) n).1, .int .i64 (join (A, B) (C, D) n).2], .int .i64 0]) ∧ w.grownBy w' none := by
  go_enter Try.func9, Try.ntmps9
  go_wp2_with fail
  refine (sumRight_yes A B _ h1).mono ?_
  rintro e w1 ⟨rfl, hg1⟩
  obtain ⟨hc, hf⟩ := gcell hg1
  go_wp2_with fail
  refine (sumRight_yes C D _ h2).mono ?_
  rintro e w2 ⟨rfl, hg2⟩
  obtain ⟨hc, hf⟩ := gcell (grown_trans hg1 hg2)
  have hH0 : Holds w2 w.heap.size 23 #[.int .i64 A, .int .i64 B] := ((((Holds.new w 23 _).alloc _).alloc _).kept hg1 (by simp)).kept hg2 (by simp)
  have hH1 : Holds w2 (w.heap.size + 1) 23 #[.int .i64 C, .int .i64 D] := by
    have := Holds.new (w.alloc (.cells #[.int .i64 A, .int .i64 B] 23)) 23 #[.int .i64 C, .int .i64 D]
    rw [show (w.alloc (.cells #[.int .i64 A, .int .i64 B] 23)).heap.size = w.heap.size + 1 by simp] at this
    exact ((this.alloc _).kept hg1 (by simp)).kept hg2 (by simp)
  obtain ⟨hH2, hG2⟩ := cell3 (grown_trans hg1 hg2)
  replace hG2 := hid hG2
  have b0 := hH0.cell 0
  have b1 := hH0.cell 1
  have d0 := hH1.cell 0
  have d1 := hH1.cell 1
  simp at b0 b1 d0 d1
  have l0 := hH0.lt
  have l1 := hH1.lt
  have l2 := hH2.lt
  clear hg1 hg2 hc hf
  go_wp2_with fail
  have k0 : Holds (w2.alloc (.cells #[.int .i64 A, .int .i64 B] 47)) w2.heap.size 47 #[.int .i64 A, .int .i64 B] := Holds.new _ _ _
  refine (behind_is w2.heap.size A B C D n _ k0 h1 h2 h3 h4).mono ?_
  rintro e w3 ⟨⟨v, rfl⟩, hH3, hg3⟩
  have hH4 := (hH2.alloc (.cells #[.int .i64 A, .int .i64 B] 47)).kept hg3 (by simp; omega)
  have hG3 := hid (grown_trans hG2.out (grown_new ⟨hg3.os, hg3.tape, hg3.output, Nat.le_trans (by simp) hg3.size, fun j hj hr => (hg3.block j (by simp; omega) hr).trans (Below.heap_alloc w2 _ j hj)⟩ (by simp) : w2.grownBy w3 none))
  have c0 := hH3.cell 0
  have c1 := hH3.cell 1
  have e0 := hH4.cell 0
  have e1 := hH4.cell 1
  have f0 := hH4.free 0
  have f1 := hH4.free 1
  have l4 := hH4.lt
  simp at c0 c1 e0 e1
  clear hH0 hH1 hH2 hH3 hH4 hg3 b0 b1 d0 d1 k0
  generalize hJ : join (A, B) (C, D) n = J at c0 c1 ⊢
  obtain ⟨x, y⟩ := J
  simp only at c0 c1 ⊢
  replace hJ := hid hJ
  go_wp2_with fail
  refine bodyPost_ret (v := .tuple #[.agg #[.int .i64 x, .int .i64 y], .int .i64 0]) (by
    simp [results, Try.results9, go_sem, e0, e1]) rfl ⟨by rw [hJ.out], ?_⟩
  exact grown_set (grown_set hG3.out (.inr (by simp; omega)) _) (.inr (by simp; omega)) _

set_option maxHeartbeats 400000 in
theorem sumJoin_no (A B C D n : Int) (w : World) (h : mayJoin (A, B) (C, D) n = false) :
    Calls Try.prog 9 #[.agg #[.int .i64 A, .int .i64 B], .agg #[.int .i64 C, .int .i64 D], .int .i64 n] w fun e w' =>
      e = .returned (.tuple #[.agg #[.int .i64 0, .int .i64 0], .int .i64 2]) ∧ w.grownBy w' none := by
  have fin : ∀ w2 : World, Holds w2 (w.heap.size + 2) 23 #[.int .i64 0, .int .i64 0] ∧ w.grownBy w2 none →
      w2.cell? ⟨w.heap.size + 2, 0, none⟩ = some (.int .i64 0) ∧ w2.cell? ⟨w.heap.size + 2, 1, none⟩ = some (.int .i64 0) ∧ w2.frozen? ⟨w.heap.size + 2, 0, none⟩ = false ∧ w2.frozen? ⟨w.heap.size + 2, 1, none⟩ = false ∧ w.heap.size + 2 < w2.heap.size ∧ Hid (w.grownBy w2 none) := by
    rintro w2 ⟨hH, hG⟩
    exact ⟨by simpa using hH.cell 0, by simpa using hH.cell 1, hH.free 0, hH.free 1, hH.lt, hG⟩
  replace fin := hid fin
  cases h1 : right (A, B) with
  | false =>
    clear h
    go_enter Try.func9, Try.ntmps9
    go_wp2_with fail
    refine (sumRight_no A B _ h1).mono ?_
    rintro e w1 ⟨rfl, hg1⟩
    obtain ⟨d0, d1, f0, f1, hlb, hG⟩ := fin.out w1 (cell3 hg1)
    clear hg1
    go_wp2
    refine bodyPost_ret (v := .tuple #[.agg #[.int .i64 0, .int .i64 0], .int .i64 2]) (by simp [results, Try.results9, go_sem, d0, d1]) rfl ⟨rfl, ?_⟩
    exact grown_set (grown_set hG.out (.inr (by simp; omega)) _) (.inr (by simp; omega)) _
  | true =>
    cases h2 : right (C, D) with
    | false =>
      clear h
      go_enter Try.func9, Try.ntmps9
      go_wp2_with fail
      refine (sumRight_yes A B _ h1).mono ?_
      rintro e w1 ⟨rfl, hg1⟩
      obtain ⟨hc, hf⟩ := gcell hg1
      go_wp2_with fail
      refine (sumRight_no C D _ h2).mono ?_
      rintro e w2 ⟨rfl, hg2⟩
      obtain ⟨d0, d1, f0, f1, hlb, hG⟩ := fin.out w2 (cell3 (grown_trans hg1 hg2))
      clear hg1 hg2 hc hf
      go_wp2
      refine bodyPost_ret (v := .tuple #[.agg #[.int .i64 0, .int .i64 0], .int .i64 2]) (by simp [results, Try.results9, go_sem, d0, d1]) rfl ⟨rfl, ?_⟩
      exact grown_set (grown_set hG.out (.inr (by simp; omega)) _) (.inr (by simp; omega)) _
    | true =>
      have h' : n < 0 ∨ (0 ≤ n ∧ 2147483647 < n) := by
        simp only [mayJoin, h1, h2, Bool.true_and, decide_eq_false_iff_not] at h
        omega
      clear h
      rcases h' with h3 | ⟨h3, h4⟩
      all_goals
        go_enter Try.func9, Try.ntmps9
        go_wp2_with fail
        refine (sumRight_yes A B _ h1).mono ?_
        rintro e w1 ⟨rfl, hg1⟩
        obtain ⟨hc, hf⟩ := gcell hg1
        go_wp2_with fail
        refine (sumRight_yes C D _ h2).mono ?_
        rintro e w2 ⟨rfl, hg2⟩
        obtain ⟨d0, d1, f0, f1, hlb, hG⟩ := fin.out w2 (cell3 (grown_trans hg1 hg2))
        clear hg1 hg2 hc hf
        go_wp2
        refine bodyPost_ret (v := .tuple #[.agg #[.int .i64 0, .int .i64 0], .int .i64 2]) (by simp [results, Try.results9, go_sem, d0, d1]) rfl ⟨rfl, ?_⟩
        exact grown_set (grown_set hG.out (.inr (by simp; omega)) _) (.inr (by simp; omega)) _

end Go.Proofs.Ytdlfphdgjonbdaa
