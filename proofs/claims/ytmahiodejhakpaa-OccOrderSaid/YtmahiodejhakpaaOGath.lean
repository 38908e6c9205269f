/- Package occ: hits with their set: whether a Word is one, how many bytes its word has; which of two hits comes ahead. -/
import Derived.Test.YtmahiodejhakpaaK22
import Derived.Test.YtmahiodejhakpaaK19
import Derived.Test.YtmahiodejhakpaaShelf
import Derived.Deep.Light
set_option linter.unusedSimpArgs false
set_option linter.unusedVariables false
set_option maxRecDepth 100000
namespace Go.Proofs.Ytmahiodejhakpaa.G
open Go.RowKit PlainLetter PlainPatset PlainOcc

set_option maxHeartbeats 2000000 in
theorem known_is (f : Bool) (P : Option Addr) (n c : Nat) (v : Value) (h : Nat) (a1 a2 : Int) (w : World) (H : Holds w h 52 #[.bool f, .slice P n c, v]) :
    Calls Try.prog 27 #[.pointer (some ⟨h, 0, none⟩), hitV (a1, a2)] w fun e w' => e = .returned (.bool (decide (0 ≤ a2 ∧ a2 < n))) ∧ Gr w w' := by
  have hG0 : Hid (Gr w (w.alloc (.cells #[.int .i64 a1, .int .i64 a2] 35))) := gr_alloc (gr_refl w) _
  have H1 : Hid (Holds (w.alloc (.cells #[.int .i64 a1, .int .i64 a2] 35)) h 52 #[.bool f, .slice P n c, v]) := H.alloc _
  have H2 : Hid (Holds (w.alloc (.cells #[.int .i64 a1, .int .i64 a2] 35)) w.heap.size 35 #[.int .i64 a1, .int .i64 a2]) := Holds.new _ _ _
  replace H := hid H
  obtain ⟨X, hX⟩ : ∃ X, decide (0 ≤ a2 ∧ a2 < (n : Int)) = X := ⟨_, rfl⟩
  rw [hX]
  by_cases h0 : 0 ≤ a2
  · have b0 : decide (0 ≤ a2) = true := decide_eq_true h0
    have hV : Hid (decide (a2 < (n : Int)) = X) := hid (by rw [← hX]; by_cases h1 : a2 < (n : Int) <;> simp [h0, h1])
    replace h0 := hid h0
    replace hX := hid hX
    go_enter Try.func27, Try.ntmps27
    go_upto_region 1 with fail
    obtain ⟨W0, hW0⟩ : ∃ W0, w.alloc (.cells #[.int .i64 a1, .int .i64 a2] 35) = W0 := ⟨_, rfl⟩
    rw [hW0] at H1 H2 hG0 ⊢
    clear hW0
    obtain ⟨k, hk⟩ : ∃ k, w.heap.size = k := ⟨_, rfl⟩
    rw [hk] at H2 ⊢
    replace hk := hid hk
    apply wp_region_each [isv (.pointer (some ⟨k, 1, none⟩)), isv (.int .i64 a2), isv (.bool true), isv (.bool true), isv _, isv _, isv _, isv _, isv _, isv _, isv _, isv _, isv (.bool (decide (a2 < (n : Int)))), isv (.bool (decide (a2 < (n : Int)))), isv (.bool (decide (a2 < (n : Int))))]
      19 [some 5, some 6, some 7, some 8, some 9, some 10, some 11, some 12, some 13, some 14, some 15, some 16, some 17, some 18, some 4]
      [some 5, some 6, some 7, some 8, some 9, some 10, some 11, some 12, some 13, some 14, some 15, some 16, some 17, some 18, some 4]
      [[], [0], [1], [2], [3], [4, 3], [3], [6, 3], [7, 3], [8, 3], [9, 3], [10, 3], [5, 11, 3], [3, 12], [13]]
      [(0, .pointer (some ⟨h, 0, none⟩)), (3, .pointer (some ⟨k, 0, none⟩))] (by kernel_rfl) rfl (by kernel_rfl) rfl rfl (by kernel_rfl) (OutsOk.cons rfl rfl (OutsOk.cons rfl rfl OutsOk.nil)) ?st ?ob ?fin
    case ob =>
      refine Obs.consv rfl ?o0 (Obs.consv rfl ?o1 (Obs.consv rfl ?o2 (Obs.consv rfl ?o3 (Obs.consv rfl ?o4 (Obs.consv rfl ?o5 (Obs.consv rfl ?o6 (Obs.consv rfl ?o7 (Obs.consv rfl ?o8 (Obs.consv rfl ?o9 (Obs.consv rfl ?o10 (Obs.consv rfl ?o11 (Obs.consv rfl ?o12 (Obs.consv rfl ?o13 (Obs.consv rfl ?o14 Obs.nil))))))))))))))
      case o0 =>
        go_light
        intro ac w' hgw
        have k1 := H1.out.kept0 (grown_trans (grown_drew (grown_refl W0 none)) hgw.gr)
        have k2 := H2.out.kept0 (grown_trans (grown_drew (grown_refl W0 none)) hgw.gr)
        have c0 := k1.cell 0
        have c1 := k1.cell 1
        have c2 := k1.cell 2
        have d0 := k2.cell 0
        have d1 := k2.cell 1
        simp at c0 c1 c2 d0 d1
        clear k1 k2
        replace hgw := hid hgw
        simp only [outThen, preThen, slotIs, factAt, isv, List.getElem?_cons_zero, List.getElem?_cons_succ, Option.getD_some, forall_eq]
        intros
        rename_i hK
        replace hK := hid hK
        simp only [wantedAt]
        go_simp
        exact hK.out _ _ rfl (gr_refl _)
      case o1 =>
        go_light
        intro ac w' hgw
        have k1 := H1.out.kept0 (grown_trans (grown_drew (grown_refl W0 none)) hgw.gr)
        have k2 := H2.out.kept0 (grown_trans (grown_drew (grown_refl W0 none)) hgw.gr)
        have c0 := k1.cell 0
        have c1 := k1.cell 1
        have c2 := k1.cell 2
        have d0 := k2.cell 0
        have d1 := k2.cell 1
        simp at c0 c1 c2 d0 d1
        clear k1 k2
        replace hgw := hid hgw
        simp only [outThen, preThen, slotIs, factAt, isv, List.getElem?_cons_zero, List.getElem?_cons_succ, Option.getD_some, forall_eq]
        intros
        rename_i hK
        replace hK := hid hK
        simp only [wantedAt]
        go_simp
        exact hK.out _ _ rfl (gr_refl _)
      case o2 =>
        go_light
        intro ac w' hgw
        have k1 := H1.out.kept0 (grown_trans (grown_drew (grown_refl W0 none)) hgw.gr)
        have k2 := H2.out.kept0 (grown_trans (grown_drew (grown_refl W0 none)) hgw.gr)
        have c0 := k1.cell 0
        have c1 := k1.cell 1
        have c2 := k1.cell 2
        have d0 := k2.cell 0
        have d1 := k2.cell 1
        simp at c0 c1 c2 d0 d1
        clear k1 k2
        replace hgw := hid hgw
        simp only [outThen, preThen, slotIs, factAt, isv, List.getElem?_cons_zero, List.getElem?_cons_succ, Option.getD_some, forall_eq]
        intros
        rename_i hK
        replace hK := hid hK
        simp only [wantedAt]
        go_simp
        exact hK.out _ _ rfl (gr_refl _)
      case o3 =>
        go_light
        intro ac w' hgw
        have k1 := H1.out.kept0 (grown_trans (grown_drew (grown_refl W0 none)) hgw.gr)
        have k2 := H2.out.kept0 (grown_trans (grown_drew (grown_refl W0 none)) hgw.gr)
        have c0 := k1.cell 0
        have c1 := k1.cell 1
        have c2 := k1.cell 2
        have d0 := k2.cell 0
        have d1 := k2.cell 1
        simp at c0 c1 c2 d0 d1
        clear k1 k2
        replace hgw := hid hgw
        simp only [outThen, preThen, slotIs, factAt, isv, List.getElem?_cons_zero, List.getElem?_cons_succ, Option.getD_some, forall_eq]
        intros
        rename_i hK
        replace hK := hid hK
        simp only [wantedAt]
        go_simp
        exact hK.out _ _ rfl (gr_refl _)
      case o4 =>
        go_light
        intro ac w' hgw
        have k1 := H1.out.kept0 (grown_trans (grown_drew (grown_refl W0 none)) hgw.gr)
        have k2 := H2.out.kept0 (grown_trans (grown_drew (grown_refl W0 none)) hgw.gr)
        have c0 := k1.cell 0
        have c1 := k1.cell 1
        have c2 := k1.cell 2
        have d0 := k2.cell 0
        have d1 := k2.cell 1
        simp at c0 c1 c2 d0 d1
        clear k1 k2
        replace hgw := hid hgw
        simp only [outThen, preThen, slotIs, factAt, isv, List.getElem?_cons_zero, List.getElem?_cons_succ, Option.getD_some, forall_eq]
        intros
        rename_i hK
        replace hK := hid hK
        simp only [wantedAt]
        go_simp
        exact hK.out _ _ rfl (gr_refl _)
      case o5 =>
        go_light
        intro ac w' hgw
        have k1 := H1.out.kept0 (grown_trans (grown_drew (grown_refl W0 none)) hgw.gr)
        have k2 := H2.out.kept0 (grown_trans (grown_drew (grown_refl W0 none)) hgw.gr)
        have c0 := k1.cell 0
        have c1 := k1.cell 1
        have c2 := k1.cell 2
        have d0 := k2.cell 0
        have d1 := k2.cell 1
        simp at c0 c1 c2 d0 d1
        clear k1 k2
        replace hgw := hid hgw
        simp only [outThen, preThen, slotIs, factAt, isv, List.getElem?_cons_zero, List.getElem?_cons_succ, Option.getD_some, forall_eq]
        intros
        rename_i hK
        replace hK := hid hK
        simp only [wantedAt]
        go_simp
        exact hK.out _ _ rfl (gr_refl _)
      case o6 =>
        go_light
        intro ac w' hgw
        have k1 := H1.out.kept0 (grown_trans (grown_drew (grown_refl W0 none)) hgw.gr)
        have k2 := H2.out.kept0 (grown_trans (grown_drew (grown_refl W0 none)) hgw.gr)
        have c0 := k1.cell 0
        have c1 := k1.cell 1
        have c2 := k1.cell 2
        have d0 := k2.cell 0
        have d1 := k2.cell 1
        simp at c0 c1 c2 d0 d1
        clear k1 k2
        replace hgw := hid hgw
        simp only [outThen, preThen, slotIs, factAt, isv, List.getElem?_cons_zero, List.getElem?_cons_succ, Option.getD_some, forall_eq]
        intros
        rename_i hK
        replace hK := hid hK
        simp only [wantedAt]
        go_simp
        exact hK.out _ _ rfl (gr_refl _)
      case o7 =>
        go_light
        intro ac w' hgw
        have k1 := H1.out.kept0 (grown_trans (grown_drew (grown_refl W0 none)) hgw.gr)
        have k2 := H2.out.kept0 (grown_trans (grown_drew (grown_refl W0 none)) hgw.gr)
        have c0 := k1.cell 0
        have c1 := k1.cell 1
        have c2 := k1.cell 2
        have d0 := k2.cell 0
        have d1 := k2.cell 1
        simp at c0 c1 c2 d0 d1
        clear k1 k2
        replace hgw := hid hgw
        simp only [outThen, preThen, slotIs, factAt, isv, List.getElem?_cons_zero, List.getElem?_cons_succ, Option.getD_some, forall_eq]
        intros
        rename_i hK
        replace hK := hid hK
        simp only [wantedAt]
        go_simp
        exact hK.out _ _ rfl (gr_refl _)
      case o8 =>
        go_light
        intro ac w' hgw
        have k1 := H1.out.kept0 (grown_trans (grown_drew (grown_refl W0 none)) hgw.gr)
        have k2 := H2.out.kept0 (grown_trans (grown_drew (grown_refl W0 none)) hgw.gr)
        have c0 := k1.cell 0
        have c1 := k1.cell 1
        have c2 := k1.cell 2
        have d0 := k2.cell 0
        have d1 := k2.cell 1
        simp at c0 c1 c2 d0 d1
        clear k1 k2
        replace hgw := hid hgw
        simp only [outThen, preThen, slotIs, factAt, isv, List.getElem?_cons_zero, List.getElem?_cons_succ, Option.getD_some, forall_eq]
        intros
        rename_i hK
        replace hK := hid hK
        simp only [wantedAt]
        go_simp
        exact hK.out _ _ rfl (gr_refl _)
      case o9 =>
        go_light
        intro ac w' hgw
        have k1 := H1.out.kept0 (grown_trans (grown_drew (grown_refl W0 none)) hgw.gr)
        have k2 := H2.out.kept0 (grown_trans (grown_drew (grown_refl W0 none)) hgw.gr)
        have c0 := k1.cell 0
        have c1 := k1.cell 1
        have c2 := k1.cell 2
        have d0 := k2.cell 0
        have d1 := k2.cell 1
        simp at c0 c1 c2 d0 d1
        clear k1 k2
        replace hgw := hid hgw
        simp only [outThen, preThen, slotIs, factAt, isv, List.getElem?_cons_zero, List.getElem?_cons_succ, Option.getD_some, forall_eq]
        intros
        rename_i hK
        replace hK := hid hK
        simp only [wantedAt]
        go_simp
        exact hK.out _ _ rfl (gr_refl _)
      case o10 =>
        go_light
        intro ac w' hgw
        have k1 := H1.out.kept0 (grown_trans (grown_drew (grown_refl W0 none)) hgw.gr)
        have k2 := H2.out.kept0 (grown_trans (grown_drew (grown_refl W0 none)) hgw.gr)
        have c0 := k1.cell 0
        have c1 := k1.cell 1
        have c2 := k1.cell 2
        have d0 := k2.cell 0
        have d1 := k2.cell 1
        simp at c0 c1 c2 d0 d1
        clear k1 k2
        replace hgw := hid hgw
        simp only [outThen, preThen, slotIs, factAt, isv, List.getElem?_cons_zero, List.getElem?_cons_succ, Option.getD_some, forall_eq]
        intros
        rename_i hK
        replace hK := hid hK
        simp only [wantedAt]
        go_simp
        exact hK.out _ _ rfl (gr_refl _)
      case o11 =>
        go_light
        intro ac w' hgw
        have k1 := H1.out.kept0 (grown_trans (grown_drew (grown_refl W0 none)) hgw.gr)
        have k2 := H2.out.kept0 (grown_trans (grown_drew (grown_refl W0 none)) hgw.gr)
        have c0 := k1.cell 0
        have c1 := k1.cell 1
        have c2 := k1.cell 2
        have d0 := k2.cell 0
        have d1 := k2.cell 1
        simp at c0 c1 c2 d0 d1
        clear k1 k2
        replace hgw := hid hgw
        simp only [outThen, preThen, slotIs, factAt, isv, List.getElem?_cons_zero, List.getElem?_cons_succ, Option.getD_some, forall_eq]
        intros
        rename_i hK
        replace hK := hid hK
        simp only [wantedAt]
        go_simp
        exact hK.out _ _ rfl (gr_refl _)
      case o12 =>
        go_light
        intro ac w' hgw
        have k1 := H1.out.kept0 (grown_trans (grown_drew (grown_refl W0 none)) hgw.gr)
        have k2 := H2.out.kept0 (grown_trans (grown_drew (grown_refl W0 none)) hgw.gr)
        have c0 := k1.cell 0
        have c1 := k1.cell 1
        have c2 := k1.cell 2
        have d0 := k2.cell 0
        have d1 := k2.cell 1
        simp at c0 c1 c2 d0 d1
        clear k1 k2
        replace hgw := hid hgw
        simp only [outThen, preThen, slotIs, factAt, isv, List.getElem?_cons_zero, List.getElem?_cons_succ, Option.getD_some, forall_eq]
        intros
        rename_i hK
        replace hK := hid hK
        simp only [wantedAt]
        go_simp
        exact hK.out _ _ rfl (gr_refl _)
      case o13 =>
        go_light
        intro ac w' hgw
        have k1 := H1.out.kept0 (grown_trans (grown_drew (grown_refl W0 none)) hgw.gr)
        have k2 := H2.out.kept0 (grown_trans (grown_drew (grown_refl W0 none)) hgw.gr)
        have c0 := k1.cell 0
        have c1 := k1.cell 1
        have c2 := k1.cell 2
        have d0 := k2.cell 0
        have d1 := k2.cell 1
        simp at c0 c1 c2 d0 d1
        clear k1 k2
        replace hgw := hid hgw
        simp only [outThen, preThen, slotIs, factAt, isv, List.getElem?_cons_zero, List.getElem?_cons_succ, Option.getD_some, forall_eq]
        intros
        rename_i hK
        replace hK := hid hK
        simp only [wantedAt]
        go_simp
        exact hK.out _ _ rfl (gr_refl _)
      case o14 =>
        go_light
        intro ac w' hgw
        have k1 := H1.out.kept0 (grown_trans (grown_drew (grown_refl W0 none)) hgw.gr)
        have k2 := H2.out.kept0 (grown_trans (grown_drew (grown_refl W0 none)) hgw.gr)
        have c0 := k1.cell 0
        have c1 := k1.cell 1
        have c2 := k1.cell 2
        have d0 := k2.cell 0
        have d1 := k2.cell 1
        simp at c0 c1 c2 d0 d1
        clear k1 k2
        replace hgw := hid hgw
        simp only [outThen, preThen, slotIs, factAt, isv, List.getElem?_cons_zero, List.getElem?_cons_succ, Option.getD_some, forall_eq]
        intros
        rename_i hK
        replace hK := hid hK
        simp only [wantedAt]
        go_simp
        exact hK.out _ _ rfl (gr_refl _)
    case st =>
      repeat (first | exact AllStable.nil | (refine AllStable.cons ?_ ?_; focus (first | exact stable_isv _ | exact stable_isBytes _ | exact stable_isRow1 _ | exact stable_isRowOf _ _ | exact stable_isVar _ | exact stable_isVarOf _ _ _)))
    case fin =>
      intro w3 hgw
      simp only [finalIn, factAt, isv, List.getElem?_cons_zero, List.getElem?_cons_succ, Option.getD_some, forall_eq, slotIs, subj]
      simp only [Act.put, List.setIfInBounds_toArray, List.set_cons_zero, List.set_cons_succ]
      have hG3 := hid (gr_trans hG0.out (gr_trans (gr_drew (gr_refl W0)) hgw))
      clear hgw
      go_wp2_with fail
      go_ret
      exact ⟨by rw [← hV.out]; rfl, hG3.out⟩
  · have b0 : decide (0 ≤ a2) = false := decide_eq_false h0
    have hV : Hid (false = X) := hid (by rw [← hX]; simp [h0])
    replace h0 := hid h0
    replace hX := hid hX
    go_enter Try.func27, Try.ntmps27
    go_upto_region 1 with fail
    obtain ⟨W0, hW0⟩ : ∃ W0, w.alloc (.cells #[.int .i64 a1, .int .i64 a2] 35) = W0 := ⟨_, rfl⟩
    rw [hW0] at H1 H2 hG0 ⊢
    clear hW0
    obtain ⟨k, hk⟩ : ∃ k, w.heap.size = k := ⟨_, rfl⟩
    rw [hk] at H2 ⊢
    replace hk := hid hk
    apply wp_region_each [isv (.pointer (some ⟨k, 1, none⟩)), isv (.int .i64 a2), isv (.bool false), isv (.bool false), isv undef, isv undef, isv undef, isv undef, isv undef, isv undef, isv undef, isv undef, isv undef, isv (.bool false), isv (.bool false)]
      19 [some 5, some 6, some 7, some 8, some 9, some 10, some 11, some 12, some 13, some 14, some 15, some 16, some 17, some 18, some 4]
      [some 5, some 6, some 7, some 8, some 9, some 10, some 11, some 12, some 13, some 14, some 15, some 16, some 17, some 18, some 4]
      [[], [0], [1], [2], [3], [4, 3], [3], [6, 3], [7, 3], [8, 3], [9, 3], [10, 3], [5, 11, 3], [3, 12], [13]]
      [(0, .pointer (some ⟨h, 0, none⟩)), (3, .pointer (some ⟨k, 0, none⟩))] (by kernel_rfl) rfl (by kernel_rfl) rfl rfl (by kernel_rfl) (OutsOk.cons rfl rfl (OutsOk.cons rfl rfl OutsOk.nil)) ?st ?ob ?fin
    case ob =>
      refine Obs.consv rfl ?o0 (Obs.consv rfl ?o1 (Obs.consv rfl ?o2 (Obs.consv rfl ?o3 (Obs.consv rfl ?o4 (Obs.consv rfl ?o5 (Obs.consv rfl ?o6 (Obs.consv rfl ?o7 (Obs.consv rfl ?o8 (Obs.consv rfl ?o9 (Obs.consv rfl ?o10 (Obs.consv rfl ?o11 (Obs.consv rfl ?o12 (Obs.consv rfl ?o13 (Obs.consv rfl ?o14 Obs.nil))))))))))))))
      case o0 =>
        go_light
        intro ac w' hgw
        have k1 := H1.out.kept0 (grown_trans (grown_drew (grown_refl W0 none)) hgw.gr)
        have k2 := H2.out.kept0 (grown_trans (grown_drew (grown_refl W0 none)) hgw.gr)
        have c0 := k1.cell 0
        have c1 := k1.cell 1
        have c2 := k1.cell 2
        have d0 := k2.cell 0
        have d1 := k2.cell 1
        simp at c0 c1 c2 d0 d1
        clear k1 k2
        replace hgw := hid hgw
        simp only [outThen, preThen, slotIs, factAt, isv, List.getElem?_cons_zero, List.getElem?_cons_succ, Option.getD_some, forall_eq]
        intros
        rename_i hK
        replace hK := hid hK
        simp only [wantedAt]
        go_simp
        exact hK.out _ _ rfl (gr_refl _)
      case o1 =>
        go_light
        intro ac w' hgw
        have k1 := H1.out.kept0 (grown_trans (grown_drew (grown_refl W0 none)) hgw.gr)
        have k2 := H2.out.kept0 (grown_trans (grown_drew (grown_refl W0 none)) hgw.gr)
        have c0 := k1.cell 0
        have c1 := k1.cell 1
        have c2 := k1.cell 2
        have d0 := k2.cell 0
        have d1 := k2.cell 1
        simp at c0 c1 c2 d0 d1
        clear k1 k2
        replace hgw := hid hgw
        simp only [outThen, preThen, slotIs, factAt, isv, List.getElem?_cons_zero, List.getElem?_cons_succ, Option.getD_some, forall_eq]
        intros
        rename_i hK
        replace hK := hid hK
        simp only [wantedAt]
        go_simp
        exact hK.out _ _ rfl (gr_refl _)
      case o2 =>
        go_light
        intro ac w' hgw
        have k1 := H1.out.kept0 (grown_trans (grown_drew (grown_refl W0 none)) hgw.gr)
        have k2 := H2.out.kept0 (grown_trans (grown_drew (grown_refl W0 none)) hgw.gr)
        have c0 := k1.cell 0
        have c1 := k1.cell 1
        have c2 := k1.cell 2
        have d0 := k2.cell 0
        have d1 := k2.cell 1
        simp at c0 c1 c2 d0 d1
        clear k1 k2
        replace hgw := hid hgw
        simp only [outThen, preThen, slotIs, factAt, isv, List.getElem?_cons_zero, List.getElem?_cons_succ, Option.getD_some, forall_eq]
        intros
        rename_i hK
        replace hK := hid hK
        simp only [wantedAt]
        go_simp
        exact hK.out _ _ rfl (gr_refl _)
      case o3 =>
        go_light
        intro ac w' hgw
        have k1 := H1.out.kept0 (grown_trans (grown_drew (grown_refl W0 none)) hgw.gr)
        have k2 := H2.out.kept0 (grown_trans (grown_drew (grown_refl W0 none)) hgw.gr)
        have c0 := k1.cell 0
        have c1 := k1.cell 1
        have c2 := k1.cell 2
        have d0 := k2.cell 0
        have d1 := k2.cell 1
        simp at c0 c1 c2 d0 d1
        clear k1 k2
        replace hgw := hid hgw
        simp only [outThen, preThen, slotIs, factAt, isv, List.getElem?_cons_zero, List.getElem?_cons_succ, Option.getD_some, forall_eq]
        intros
        rename_i hK
        replace hK := hid hK
        simp only [wantedAt]
        go_simp
        exact hK.out _ _ rfl (gr_refl _)
      case o4 =>
        go_light
        intro ac w' hgw
        have k1 := H1.out.kept0 (grown_trans (grown_drew (grown_refl W0 none)) hgw.gr)
        have k2 := H2.out.kept0 (grown_trans (grown_drew (grown_refl W0 none)) hgw.gr)
        have c0 := k1.cell 0
        have c1 := k1.cell 1
        have c2 := k1.cell 2
        have d0 := k2.cell 0
        have d1 := k2.cell 1
        simp at c0 c1 c2 d0 d1
        clear k1 k2
        replace hgw := hid hgw
        simp only [outThen, preThen, slotIs, factAt, isv, List.getElem?_cons_zero, List.getElem?_cons_succ, Option.getD_some, forall_eq]
        intros
        rename_i hK
        replace hK := hid hK
        simp only [wantedAt]
        go_simp
        exact hK.out _ _ rfl (gr_refl _)
      case o5 =>
        go_light
        intro ac w' hgw
        have k1 := H1.out.kept0 (grown_trans (grown_drew (grown_refl W0 none)) hgw.gr)
        have k2 := H2.out.kept0 (grown_trans (grown_drew (grown_refl W0 none)) hgw.gr)
        have c0 := k1.cell 0
        have c1 := k1.cell 1
        have c2 := k1.cell 2
        have d0 := k2.cell 0
        have d1 := k2.cell 1
        simp at c0 c1 c2 d0 d1
        clear k1 k2
        replace hgw := hid hgw
        simp only [outThen, preThen, slotIs, factAt, isv, List.getElem?_cons_zero, List.getElem?_cons_succ, Option.getD_some, forall_eq]
        intros
        rename_i hK
        replace hK := hid hK
        simp only [wantedAt]
        go_simp
        exact hK.out _ _ rfl (gr_refl _)
      case o6 =>
        go_light
        intro ac w' hgw
        have k1 := H1.out.kept0 (grown_trans (grown_drew (grown_refl W0 none)) hgw.gr)
        have k2 := H2.out.kept0 (grown_trans (grown_drew (grown_refl W0 none)) hgw.gr)
        have c0 := k1.cell 0
        have c1 := k1.cell 1
        have c2 := k1.cell 2
        have d0 := k2.cell 0
        have d1 := k2.cell 1
        simp at c0 c1 c2 d0 d1
        clear k1 k2
        replace hgw := hid hgw
        simp only [outThen, preThen, slotIs, factAt, isv, List.getElem?_cons_zero, List.getElem?_cons_succ, Option.getD_some, forall_eq]
        intros
        rename_i hK
        replace hK := hid hK
        simp only [wantedAt]
        go_simp
        exact hK.out _ _ rfl (gr_refl _)
      case o7 =>
        go_light
        intro ac w' hgw
        have k1 := H1.out.kept0 (grown_trans (grown_drew (grown_refl W0 none)) hgw.gr)
        have k2 := H2.out.kept0 (grown_trans (grown_drew (grown_refl W0 none)) hgw.gr)
        have c0 := k1.cell 0
        have c1 := k1.cell 1
        have c2 := k1.cell 2
        have d0 := k2.cell 0
        have d1 := k2.cell 1
        simp at c0 c1 c2 d0 d1
        clear k1 k2
        replace hgw := hid hgw
        simp only [outThen, preThen, slotIs, factAt, isv, List.getElem?_cons_zero, List.getElem?_cons_succ, Option.getD_some, forall_eq]
        intros
        rename_i hK
        replace hK := hid hK
        simp only [wantedAt]
        go_simp
        exact hK.out _ _ rfl (gr_refl _)
      case o8 =>
        go_light
        intro ac w' hgw
        have k1 := H1.out.kept0 (grown_trans (grown_drew (grown_refl W0 none)) hgw.gr)
        have k2 := H2.out.kept0 (grown_trans (grown_drew (grown_refl W0 none)) hgw.gr)
        have c0 := k1.cell 0
        have c1 := k1.cell 1
        have c2 := k1.cell 2
        have d0 := k2.cell 0
        have d1 := k2.cell 1
        simp at c0 c1 c2 d0 d1
        clear k1 k2
        replace hgw := hid hgw
        simp only [outThen, preThen, slotIs, factAt, isv, List.getElem?_cons_zero, List.getElem?_cons_succ, Option.getD_some, forall_eq]
        intros
        rename_i hK
        replace hK := hid hK
        simp only [wantedAt]
        go_simp
        exact hK.out _ _ rfl (gr_refl _)
      case o9 =>
        go_light
        intro ac w' hgw
        have k1 := H1.out.kept0 (grown_trans (grown_drew (grown_refl W0 none)) hgw.gr)
        have k2 := H2.out.kept0 (grown_trans (grown_drew (grown_refl W0 none)) hgw.gr)
        have c0 := k1.cell 0
        have c1 := k1.cell 1
        have c2 := k1.cell 2
        have d0 := k2.cell 0
        have d1 := k2.cell 1
        simp at c0 c1 c2 d0 d1
        clear k1 k2
        replace hgw := hid hgw
        simp only [outThen, preThen, slotIs, factAt, isv, List.getElem?_cons_zero, List.getElem?_cons_succ, Option.getD_some, forall_eq]
        intros
        rename_i hK
        replace hK := hid hK
        simp only [wantedAt]
        go_simp
        exact hK.out _ _ rfl (gr_refl _)
      case o10 =>
        go_light
        intro ac w' hgw
        have k1 := H1.out.kept0 (grown_trans (grown_drew (grown_refl W0 none)) hgw.gr)
        have k2 := H2.out.kept0 (grown_trans (grown_drew (grown_refl W0 none)) hgw.gr)
        have c0 := k1.cell 0
        have c1 := k1.cell 1
        have c2 := k1.cell 2
        have d0 := k2.cell 0
        have d1 := k2.cell 1
        simp at c0 c1 c2 d0 d1
        clear k1 k2
        replace hgw := hid hgw
        simp only [outThen, preThen, slotIs, factAt, isv, List.getElem?_cons_zero, List.getElem?_cons_succ, Option.getD_some, forall_eq]
        intros
        rename_i hK
        replace hK := hid hK
        simp only [wantedAt]
        go_simp
        exact hK.out _ _ rfl (gr_refl _)
      case o11 =>
        go_light
        intro ac w' hgw
        have k1 := H1.out.kept0 (grown_trans (grown_drew (grown_refl W0 none)) hgw.gr)
        have k2 := H2.out.kept0 (grown_trans (grown_drew (grown_refl W0 none)) hgw.gr)
        have c0 := k1.cell 0
        have c1 := k1.cell 1
        have c2 := k1.cell 2
        have d0 := k2.cell 0
        have d1 := k2.cell 1
        simp at c0 c1 c2 d0 d1
        clear k1 k2
        replace hgw := hid hgw
        simp only [outThen, preThen, slotIs, factAt, isv, List.getElem?_cons_zero, List.getElem?_cons_succ, Option.getD_some, forall_eq]
        intros
        rename_i hK
        replace hK := hid hK
        simp only [wantedAt]
        go_simp
        exact hK.out _ _ rfl (gr_refl _)
      case o12 =>
        go_light
        intro ac w' hgw
        have k1 := H1.out.kept0 (grown_trans (grown_drew (grown_refl W0 none)) hgw.gr)
        have k2 := H2.out.kept0 (grown_trans (grown_drew (grown_refl W0 none)) hgw.gr)
        have c0 := k1.cell 0
        have c1 := k1.cell 1
        have c2 := k1.cell 2
        have d0 := k2.cell 0
        have d1 := k2.cell 1
        simp at c0 c1 c2 d0 d1
        clear k1 k2
        replace hgw := hid hgw
        simp only [outThen, preThen, slotIs, factAt, isv, List.getElem?_cons_zero, List.getElem?_cons_succ, Option.getD_some, forall_eq]
        intros
        rename_i hK
        replace hK := hid hK
        simp only [wantedAt]
        go_simp
        exact hK.out _ _ rfl (gr_refl _)
      case o13 =>
        go_light
        intro ac w' hgw
        have k1 := H1.out.kept0 (grown_trans (grown_drew (grown_refl W0 none)) hgw.gr)
        have k2 := H2.out.kept0 (grown_trans (grown_drew (grown_refl W0 none)) hgw.gr)
        have c0 := k1.cell 0
        have c1 := k1.cell 1
        have c2 := k1.cell 2
        have d0 := k2.cell 0
        have d1 := k2.cell 1
        simp at c0 c1 c2 d0 d1
        clear k1 k2
        replace hgw := hid hgw
        simp only [outThen, preThen, slotIs, factAt, isv, List.getElem?_cons_zero, List.getElem?_cons_succ, Option.getD_some, forall_eq]
        intros
        rename_i hK
        replace hK := hid hK
        simp only [wantedAt]
        go_simp
        exact hK.out _ _ rfl (gr_refl _)
      case o14 =>
        go_light
        intro ac w' hgw
        have k1 := H1.out.kept0 (grown_trans (grown_drew (grown_refl W0 none)) hgw.gr)
        have k2 := H2.out.kept0 (grown_trans (grown_drew (grown_refl W0 none)) hgw.gr)
        have c0 := k1.cell 0
        have c1 := k1.cell 1
        have c2 := k1.cell 2
        have d0 := k2.cell 0
        have d1 := k2.cell 1
        simp at c0 c1 c2 d0 d1
        clear k1 k2
        replace hgw := hid hgw
        simp only [outThen, preThen, slotIs, factAt, isv, List.getElem?_cons_zero, List.getElem?_cons_succ, Option.getD_some, forall_eq]
        intros
        rename_i hK
        replace hK := hid hK
        simp only [wantedAt]
        go_simp
        exact hK.out _ _ rfl (gr_refl _)
    case st =>
      repeat (first | exact AllStable.nil | (refine AllStable.cons ?_ ?_; focus (first | exact stable_isv _ | exact stable_isBytes _ | exact stable_isRow1 _ | exact stable_isRowOf _ _ | exact stable_isVar _ | exact stable_isVarOf _ _ _)))
    case fin =>
      intro w3 hgw
      simp only [finalIn, factAt, isv, List.getElem?_cons_zero, List.getElem?_cons_succ, Option.getD_some, forall_eq, slotIs, subj]
      simp only [Act.put, List.setIfInBounds_toArray, List.set_cons_zero, List.set_cons_succ]
      have hG3 := hid (gr_trans hG0.out (gr_trans (gr_drew (gr_refl W0)) hgw))
      clear hgw
      go_wp2_with fail
      go_ret
      exact ⟨by rw [← hV.out]; rfl, hG3.out⟩

set_option maxHeartbeats 2000000 in
theorem length_is (f : Bool) (P : Option Addr) (c : Nat) (xss : List (List Int)) (v : Value) (h : Nat) (a1 a2 : Int) (w : World) (H : Holds w h 52 #[.bool f, .slice P xss.length c, v]) (hP : Arrs w P xss) :
    Calls Try.prog 45 #[.pointer (some ⟨h, 0, none⟩), hitV (a1, a2)] w fun e w' => e = .returned (.int .i64 (lenOf xss a2)) ∧ Gr w w' := by
  have hG0 : Hid (Gr w (w.alloc (.cells #[.int .i64 a1, .int .i64 a2] 35))) := gr_alloc (gr_refl w) _
  have H1 : Hid (Holds (w.alloc (.cells #[.int .i64 a1, .int .i64 a2] 35)) h 52 #[.bool f, .slice P xss.length c, v]) := H.alloc _
  have H2 : Hid (Holds (w.alloc (.cells #[.int .i64 a1, .int .i64 a2] 35)) w.heap.size 35 #[.int .i64 a1, .int .i64 a2]) := Holds.new _ _ _
  have d0 := H2.out.cell 0
  have d1 := H2.out.cell 1
  simp at d0 d1
  have key := hid (known_is f P xss.length c v h a1 a2 _ H1.out)
  replace H := hid H
  have hL : Hid (lenOf xss a2 = if a2 < 0 ∨ (xss.length : Int) ≤ a2 then 0 else ((xss.getD a2.toNat []).length : Int)) := hid rfl
  by_cases hK : 0 ≤ a2 ∧ a2 < (xss.length : Int)
  · have hX : decide (0 ≤ a2 ∧ a2 < (xss.length : Int)) = true := decide_eq_true hK
    rw [hX] at key
    have hV := hid (hL.out.trans (if_neg (by omega)))
    obtain ⟨i, rfl⟩ : ∃ i : Nat, a2 = i := ⟨a2.toNat, by omega⟩
    rw [Int.toNat_natCast] at hV
    have hi : i < xss.length := by omega
    obtain ⟨b, off, Ai, ci, rfl, hb, hcell, _⟩ := hP.at_ hi
    have hb2 : Hid (b < w.heap.size) := hb
    replace hcell := hid hcell
    clear hb hP hX hL
    have i0 : (0 : Int) ≤ (i : Int) := by omega
    have i1 : (i : Int) < (xss.length : Int) := by omega
    generalize (xss.getD i []).length = m at hcell hV
    replace hK := hid hK
    go_enter Try.func45, Try.ntmps45
    go_upto_region 3 with (go_at_call 27; refine key.out.mono ?_; rintro e W0 ⟨rfl, hg⟩; replace hG0 := hid (gr_trans hG0.out hg); replace H1 := hid (H1.out.kept0 hg.gr); replace H2 := hid (H2.out.kept0 hg.gr); clear hg d0 d1; have d0 := H2.out.cell 0; have d1 := H2.out.cell 1; simp at d0 d1)
    clear d0 d1
    obtain ⟨k, hk⟩ : ∃ k, w.heap.size = k := ⟨_, rfl⟩
    rw [hk] at H2 hb2 ⊢
    replace hk := hid hk
    apply wp_region_each [isv _, isv _, isv _, isv _, isv _, isv _, isv _, isv _, isv _, isv (.int .i64 (m : Nat)), isv (.int .i64 (m : Nat))]
      19 [some 9, some 10, some 11, some 12, some 13, some 14, some 15, some 16, some 17, some 18, some 4]
      [some 9, some 10, some 11, some 12, some 13, some 14, some 15, some 16, some 17, some 18, some 4]
      [[], [0], [1], [2], [3], [], [5], [4, 6], [7], [8], [9]]
      [(0, .pointer (some ⟨h, 0, none⟩)), (3, .pointer (some ⟨k, 0, none⟩))] (by kernel_rfl) rfl (by kernel_rfl) rfl rfl (by kernel_rfl) (OutsOk.cons rfl rfl (OutsOk.cons rfl rfl OutsOk.nil)) ?st ?ob ?fin
    case ob =>
      refine Obs.consv rfl ?o0 (Obs.consv rfl ?o1 (Obs.consv rfl ?o2 (Obs.consv rfl ?o3 (Obs.consv rfl ?o4 (Obs.consv rfl ?o5 (Obs.consv rfl ?o6 (Obs.consv rfl ?o7 (Obs.consv rfl ?o8 (Obs.consv rfl ?o9 (Obs.consv rfl ?o10 Obs.nil))))))))))
      case o0 =>
        go_light
        intro ac w' hgw
        have k1 := H1.out.kept0 (grown_trans (grown_drew (grown_refl W0 none)) hgw.gr)
        have k2 := H2.out.kept0 (grown_trans (grown_drew (grown_refl W0 none)) hgw.gr)
        have c0 := k1.cell 0
        have c1 := k1.cell 1
        have c2 := k1.cell 2
        have d0 := k2.cell 0
        have d1 := k2.cell 1
        simp at c0 c1 c2 d0 d1
        have hcw := ((gcell (gr_trans hG0.out (gr_trans (gr_drew (gr_refl W0)) hgw)).gr).1 b _ (show b < w.heap.size by rw [hk.out]; exact hb2.out)).trans hcell.out
        clear k1 k2
        replace hgw := hid hgw
        simp only [outThen, preThen, slotIs, factAt, isv, List.getElem?_cons_zero, List.getElem?_cons_succ, Option.getD_some, forall_eq]
        intros
        rename_i hK
        replace hK := hid hK
        simp only [wantedAt]
        go_simp
        exact hK.out _ _ rfl (gr_refl _)
      case o1 =>
        go_light
        intro ac w' hgw
        have k1 := H1.out.kept0 (grown_trans (grown_drew (grown_refl W0 none)) hgw.gr)
        have k2 := H2.out.kept0 (grown_trans (grown_drew (grown_refl W0 none)) hgw.gr)
        have c0 := k1.cell 0
        have c1 := k1.cell 1
        have c2 := k1.cell 2
        have d0 := k2.cell 0
        have d1 := k2.cell 1
        simp at c0 c1 c2 d0 d1
        have hcw := ((gcell (gr_trans hG0.out (gr_trans (gr_drew (gr_refl W0)) hgw)).gr).1 b _ (show b < w.heap.size by rw [hk.out]; exact hb2.out)).trans hcell.out
        clear k1 k2
        replace hgw := hid hgw
        simp only [outThen, preThen, slotIs, factAt, isv, List.getElem?_cons_zero, List.getElem?_cons_succ, Option.getD_some, forall_eq]
        intros
        rename_i hK
        replace hK := hid hK
        simp only [wantedAt]
        go_simp
        exact hK.out _ _ rfl (gr_refl _)
      case o2 =>
        go_light
        intro ac w' hgw
        have k1 := H1.out.kept0 (grown_trans (grown_drew (grown_refl W0 none)) hgw.gr)
        have k2 := H2.out.kept0 (grown_trans (grown_drew (grown_refl W0 none)) hgw.gr)
        have c0 := k1.cell 0
        have c1 := k1.cell 1
        have c2 := k1.cell 2
        have d0 := k2.cell 0
        have d1 := k2.cell 1
        simp at c0 c1 c2 d0 d1
        have hcw := ((gcell (gr_trans hG0.out (gr_trans (gr_drew (gr_refl W0)) hgw)).gr).1 b _ (show b < w.heap.size by rw [hk.out]; exact hb2.out)).trans hcell.out
        clear k1 k2
        replace hgw := hid hgw
        simp only [outThen, preThen, slotIs, factAt, isv, List.getElem?_cons_zero, List.getElem?_cons_succ, Option.getD_some, forall_eq]
        intros
        rename_i hK
        replace hK := hid hK
        simp only [wantedAt]
        go_simp
        exact hK.out _ _ rfl (gr_refl _)
      case o3 =>
        go_light
        intro ac w' hgw
        have k1 := H1.out.kept0 (grown_trans (grown_drew (grown_refl W0 none)) hgw.gr)
        have k2 := H2.out.kept0 (grown_trans (grown_drew (grown_refl W0 none)) hgw.gr)
        have c0 := k1.cell 0
        have c1 := k1.cell 1
        have c2 := k1.cell 2
        have d0 := k2.cell 0
        have d1 := k2.cell 1
        simp at c0 c1 c2 d0 d1
        have hcw := ((gcell (gr_trans hG0.out (gr_trans (gr_drew (gr_refl W0)) hgw)).gr).1 b _ (show b < w.heap.size by rw [hk.out]; exact hb2.out)).trans hcell.out
        clear k1 k2
        replace hgw := hid hgw
        simp only [outThen, preThen, slotIs, factAt, isv, List.getElem?_cons_zero, List.getElem?_cons_succ, Option.getD_some, forall_eq]
        intros
        rename_i hK
        replace hK := hid hK
        simp only [wantedAt]
        go_simp
        exact hK.out _ _ rfl (gr_refl _)
      case o4 =>
        go_light
        intro ac w' hgw
        have k1 := H1.out.kept0 (grown_trans (grown_drew (grown_refl W0 none)) hgw.gr)
        have k2 := H2.out.kept0 (grown_trans (grown_drew (grown_refl W0 none)) hgw.gr)
        have c0 := k1.cell 0
        have c1 := k1.cell 1
        have c2 := k1.cell 2
        have d0 := k2.cell 0
        have d1 := k2.cell 1
        simp at c0 c1 c2 d0 d1
        have hcw := ((gcell (gr_trans hG0.out (gr_trans (gr_drew (gr_refl W0)) hgw)).gr).1 b _ (show b < w.heap.size by rw [hk.out]; exact hb2.out)).trans hcell.out
        clear k1 k2
        replace hgw := hid hgw
        simp only [outThen, preThen, slotIs, factAt, isv, List.getElem?_cons_zero, List.getElem?_cons_succ, Option.getD_some, forall_eq]
        intros
        rename_i hK
        replace hK := hid hK
        simp only [wantedAt]
        go_simp
        exact hK.out _ _ rfl (gr_refl _)
      case o5 =>
        go_light
        intro ac w' hgw
        have k1 := H1.out.kept0 (grown_trans (grown_drew (grown_refl W0 none)) hgw.gr)
        have k2 := H2.out.kept0 (grown_trans (grown_drew (grown_refl W0 none)) hgw.gr)
        have c0 := k1.cell 0
        have c1 := k1.cell 1
        have c2 := k1.cell 2
        have d0 := k2.cell 0
        have d1 := k2.cell 1
        simp at c0 c1 c2 d0 d1
        have hcw := ((gcell (gr_trans hG0.out (gr_trans (gr_drew (gr_refl W0)) hgw)).gr).1 b _ (show b < w.heap.size by rw [hk.out]; exact hb2.out)).trans hcell.out
        clear k1 k2
        replace hgw := hid hgw
        simp only [outThen, preThen, slotIs, factAt, isv, List.getElem?_cons_zero, List.getElem?_cons_succ, Option.getD_some, forall_eq]
        intros
        rename_i hK
        replace hK := hid hK
        simp only [wantedAt]
        go_simp
        exact hK.out _ _ rfl (gr_refl _)
      case o6 =>
        go_light
        intro ac w' hgw
        have k1 := H1.out.kept0 (grown_trans (grown_drew (grown_refl W0 none)) hgw.gr)
        have k2 := H2.out.kept0 (grown_trans (grown_drew (grown_refl W0 none)) hgw.gr)
        have c0 := k1.cell 0
        have c1 := k1.cell 1
        have c2 := k1.cell 2
        have d0 := k2.cell 0
        have d1 := k2.cell 1
        simp at c0 c1 c2 d0 d1
        have hcw := ((gcell (gr_trans hG0.out (gr_trans (gr_drew (gr_refl W0)) hgw)).gr).1 b _ (show b < w.heap.size by rw [hk.out]; exact hb2.out)).trans hcell.out
        clear k1 k2
        replace hgw := hid hgw
        simp only [outThen, preThen, slotIs, factAt, isv, List.getElem?_cons_zero, List.getElem?_cons_succ, Option.getD_some, forall_eq]
        intros
        rename_i hK
        replace hK := hid hK
        simp only [wantedAt]
        go_simp
        exact hK.out _ _ rfl (gr_refl _)
      case o7 =>
        go_light
        intro ac w' hgw
        have k1 := H1.out.kept0 (grown_trans (grown_drew (grown_refl W0 none)) hgw.gr)
        have k2 := H2.out.kept0 (grown_trans (grown_drew (grown_refl W0 none)) hgw.gr)
        have c0 := k1.cell 0
        have c1 := k1.cell 1
        have c2 := k1.cell 2
        have d0 := k2.cell 0
        have d1 := k2.cell 1
        simp at c0 c1 c2 d0 d1
        have hcw := ((gcell (gr_trans hG0.out (gr_trans (gr_drew (gr_refl W0)) hgw)).gr).1 b _ (show b < w.heap.size by rw [hk.out]; exact hb2.out)).trans hcell.out
        clear k1 k2
        replace hgw := hid hgw
        simp only [outThen, preThen, slotIs, factAt, isv, List.getElem?_cons_zero, List.getElem?_cons_succ, Option.getD_some, forall_eq]
        intros
        rename_i hK
        replace hK := hid hK
        simp only [wantedAt]
        go_simp
        exact hK.out _ _ rfl (gr_refl _)
      case o8 =>
        go_light
        intro ac w' hgw
        have k1 := H1.out.kept0 (grown_trans (grown_drew (grown_refl W0 none)) hgw.gr)
        have k2 := H2.out.kept0 (grown_trans (grown_drew (grown_refl W0 none)) hgw.gr)
        have c0 := k1.cell 0
        have c1 := k1.cell 1
        have c2 := k1.cell 2
        have d0 := k2.cell 0
        have d1 := k2.cell 1
        simp at c0 c1 c2 d0 d1
        have hcw := ((gcell (gr_trans hG0.out (gr_trans (gr_drew (gr_refl W0)) hgw)).gr).1 b _ (show b < w.heap.size by rw [hk.out]; exact hb2.out)).trans hcell.out
        clear k1 k2
        replace hgw := hid hgw
        simp only [outThen, preThen, slotIs, factAt, isv, List.getElem?_cons_zero, List.getElem?_cons_succ, Option.getD_some, forall_eq]
        intros
        rename_i hK
        replace hK := hid hK
        simp only [wantedAt]
        go_simp
        exact hK.out _ _ rfl (gr_refl _)
      case o9 =>
        go_light
        intro ac w' hgw
        have k1 := H1.out.kept0 (grown_trans (grown_drew (grown_refl W0 none)) hgw.gr)
        have k2 := H2.out.kept0 (grown_trans (grown_drew (grown_refl W0 none)) hgw.gr)
        have c0 := k1.cell 0
        have c1 := k1.cell 1
        have c2 := k1.cell 2
        have d0 := k2.cell 0
        have d1 := k2.cell 1
        simp at c0 c1 c2 d0 d1
        have hcw := ((gcell (gr_trans hG0.out (gr_trans (gr_drew (gr_refl W0)) hgw)).gr).1 b _ (show b < w.heap.size by rw [hk.out]; exact hb2.out)).trans hcell.out
        clear k1 k2
        replace hgw := hid hgw
        simp only [outThen, preThen, slotIs, factAt, isv, List.getElem?_cons_zero, List.getElem?_cons_succ, Option.getD_some, forall_eq]
        intros
        rename_i hK
        replace hK := hid hK
        simp only [wantedAt]
        go_simp
        exact hK.out _ _ rfl (gr_refl _)
      case o10 =>
        go_light
        intro ac w' hgw
        have k1 := H1.out.kept0 (grown_trans (grown_drew (grown_refl W0 none)) hgw.gr)
        have k2 := H2.out.kept0 (grown_trans (grown_drew (grown_refl W0 none)) hgw.gr)
        have c0 := k1.cell 0
        have c1 := k1.cell 1
        have c2 := k1.cell 2
        have d0 := k2.cell 0
        have d1 := k2.cell 1
        simp at c0 c1 c2 d0 d1
        have hcw := ((gcell (gr_trans hG0.out (gr_trans (gr_drew (gr_refl W0)) hgw)).gr).1 b _ (show b < w.heap.size by rw [hk.out]; exact hb2.out)).trans hcell.out
        clear k1 k2
        replace hgw := hid hgw
        simp only [outThen, preThen, slotIs, factAt, isv, List.getElem?_cons_zero, List.getElem?_cons_succ, Option.getD_some, forall_eq]
        intros
        rename_i hK
        replace hK := hid hK
        simp only [wantedAt]
        go_simp
        exact hK.out _ _ rfl (gr_refl _)
    case st =>
      repeat (first | exact AllStable.nil | (refine AllStable.cons ?_ ?_; focus (first | exact stable_isv _ | exact stable_isBytes _ | exact stable_isRow1 _ | exact stable_isRowOf _ _ | exact stable_isVar _ | exact stable_isVarOf _ _ _)))
    case fin =>
      intro w3 hgw
      simp only [finalIn, factAt, isv, List.getElem?_cons_zero, List.getElem?_cons_succ, Option.getD_some, forall_eq, slotIs, subj]
      simp only [Act.put, List.setIfInBounds_toArray, List.set_cons_zero, List.set_cons_succ]
      have hG3 := hid (gr_trans hG0.out (gr_trans (gr_drew (gr_refl W0)) hgw))
      clear hgw
      go_wp2_with fail
      go_ret
      exact ⟨by rw [hV.out]; rfl, hG3.out⟩
  · have hX : decide (0 ≤ a2 ∧ a2 < (xss.length : Int)) = false := decide_eq_false hK
    rw [hX] at key
    have hV := hid (hL.out.trans (if_pos (by omega)))
    clear hX hL hP
    replace hK := hid hK
    go_enter Try.func45, Try.ntmps45
    go_wp2_with (go_at_call 27; refine key.out.mono ?_; rintro e W0 ⟨rfl, hg⟩; replace hG0 := hid (gr_trans hG0.out hg); clear hg)
    go_ret
    exact ⟨by rw [hV.out]; rfl, hG0.out⟩

set_option maxHeartbeats 2000000 in
theorem cmpOr_is (A : Option Addr) (c : Nat) (zs : List Int) (w : World) (hn : zs.length ≤ 1000) (hA : Arr w .i64 A zs) :
    Calls Try.prog 43 #[.slice A zs.length c] w fun e w' => e = .returned (.int .i64 (orOf zs)) ∧ w' = w := by
  replace hA := hid hA
  go_enter Try.func43, Try.ntmps43
  go_wp2_with fail
  go_loopw [8] (fun i wr => ∃ k : Nat, k ≤ zs.length ∧ i = .int .i64 k ∧ wr = w ∧ orOf zs = orOf (zs.drop k)) (fun i _ => zs.length - (intOf i).toNat)
  case atStart => exact ⟨0, Nat.zero_le _, rfl, rfl, rfl⟩
  case round =>
    obtain ⟨k, hk, rfl, rfl, hr⟩ := hrel
    by_cases hlt : k < zs.length
    · obtain ⟨b, off, rfl, hb, hc⟩ := hA.out.at_ hlt
      have hcell := hc k hlt
      have hd := hid (orOf_drop zs k hlt)
      clear hc
      generalize zs.getD k 0 = x at hcell hd
      have q0 : (0 : Int) ≤ (k : Int) := by omega
      have q1 : (k : Int) < (zs.length : Int) := by omega
      replace hr := hid hr
      by_cases hx : x = 0
      · subst hx
        go_wp2_with fail
        go_roundw
        case rel => exact ⟨k + 1, by omega, by go_num, by first | rfl | trivial, by rw [hr.out, hd.out, if_pos rfl]⟩
        case measure => simp [intOf]; omega
      · have hne : (x != 0) = true := by simpa using hx
        have hV := hid (hr.out.trans (hd.out.trans (if_neg hx)))
        clear hd hr
        replace hx := hid hx
        go_wp2_with fail
        go_ret
        exact ⟨by rw [hV.out]; rfl, rfl⟩
    · obtain rfl : k = zs.length := by omega
      have hV : Hid (orOf zs = 0) := hid (by rw [hr]; simp [orOf])
      clear hr
      go_wp2_with fail
      go_ret
      exact ⟨by rw [hV.out]; rfl, rfl⟩

/-- A row of three numbers of the region's own. -/
def isThree (x y z : Int) : Fact := fun v w => ∃ g, v = .slice (some ⟨g, 0, none⟩) 3 3 ∧ Holds w g 3 #[.int .i64 x, .int .i64 y, .int .i64 z]
theorem stable_isThree (x y z : Int) : Stable (isThree x y z) := fun _ _ _ ⟨g, h1, h2⟩ hg => ⟨g, h1, h2.kept0 hg⟩
theorem three_arr {x y z : Int} {w : World} {g : Nat} (h : Holds w g 3 #[.int .i64 x, .int .i64 y, .int .i64 z]) : Arr w .i64 (some ⟨g, 0, none⟩) [x, y, z] := fun _ =>
  ⟨g, 0, rfl, h.lt, fun i hi => by
    rw [h.cell]
    match i, hi with
    | 0, _ => rfl
    | 1, _ => rfl
    | 2, _ => rfl⟩

set_option maxHeartbeats 4000000 in
theorem compare_is (f : Bool) (P : Option Addr) (c : Nat) (xss : List (List Int)) (v : Value) (h : Nat) (a b : Hit) (w : World) (H : Holds w h 52 #[.bool f, .slice P xss.length c, v]) (hP : Arrs w P xss) :
    Calls Try.prog 31 #[.pointer (some ⟨h, 0, none⟩), hitV a, hitV b] w fun e w' => e = .returned (.int .i64 (cmpHit xss a b)) ∧ Gr w w' := by
  obtain ⟨a1, a2⟩ := a
  obtain ⟨b1, b2⟩ := b
  have hC : Hid (cmpHit xss (a1, a2) (b1, b2) = orOf [Go.Lib.compareInt a1 b1, Go.Lib.compareInt (lenOf xss b2) (lenOf xss a2), Go.Lib.compareInt a2 b2]) := hid rfl
  have hG0 : Hid (Gr w ((w.alloc (.cells #[.int .i64 a1, .int .i64 a2] 35)).alloc (.cells #[.int .i64 b1, .int .i64 b2] 35))) := gr_alloc (gr_alloc (gr_refl w) _) _
  have H1 : Hid (Holds ((w.alloc (.cells #[.int .i64 a1, .int .i64 a2] 35)).alloc (.cells #[.int .i64 b1, .int .i64 b2] 35)) h 52 #[.bool f, .slice P xss.length c, v]) := (H.alloc _).alloc _
  have H2 : Hid (Holds ((w.alloc (.cells #[.int .i64 a1, .int .i64 a2] 35)).alloc (.cells #[.int .i64 b1, .int .i64 b2] 35)) w.heap.size 35 #[.int .i64 a1, .int .i64 a2]) := (Holds.new _ _ _).alloc _
  have H3 : Hid (Holds ((w.alloc (.cells #[.int .i64 a1, .int .i64 a2] 35)).alloc (.cells #[.int .i64 b1, .int .i64 b2] 35)) (w.heap.size + 1) 35 #[.int .i64 b1, .int .i64 b2]) := by
    refine Holds.new_at _ _ ?_
    simp
  replace H := hid H
  replace hP := hid hP
  go_enter Try.func31, Try.ntmps31
  go_upto_region 1 with fail
  obtain ⟨W0, hW0⟩ : ∃ W0, ((w.alloc (.cells #[.int .i64 a1, .int .i64 a2] 35)).alloc (.cells #[.int .i64 b1, .int .i64 b2] 35)) = W0 := ⟨_, rfl⟩
  rw [hW0] at H1 H2 H3 hG0 ⊢
  clear hW0
  obtain ⟨k, hk⟩ : ∃ k, w.heap.size = k := ⟨_, rfl⟩
  rw [hk] at H2 H3 ⊢
  replace hk := hid hk
  apply wp_region_each [isv _, isv (.int .i64 a1), isv _, isv (.int .i64 b1), isv (.int .i64 (Go.Lib.compareInt a1 b1)), isv _, isv (hitV (b1, b2)), isv (.int .i64 (lenOf xss b2)), isv _, isv (hitV (a1, a2)), isv (.int .i64 (lenOf xss a2)), isv (.int .i64 (Go.Lib.compareInt (lenOf xss b2) (lenOf xss a2))), isv _, isv (.int .i64 a2), isv _, isv (.int .i64 b2), isv (.int .i64 (Go.Lib.compareInt a2 b2)), isThree (Go.Lib.compareInt a1 b1) (Go.Lib.compareInt (lenOf xss b2) (lenOf xss a2)) (Go.Lib.compareInt a2 b2), isv (.int .i64 (cmpHit xss (a1, a2) (b1, b2))), isv (.int .i64 (cmpHit xss (a1, a2) (b1, b2)))]
    26 [some 7, some 8, some 9, some 10, some 11, some 12, some 13, some 14, some 15, some 16, some 17, some 18, some 19, some 20, some 21, some 22, some 23, some 24, some 25, some 6]
    [some 7, some 8, some 9, some 10, some 11, some 12, some 13, some 14, some 15, some 16, some 17, some 18, some 19, some 20, some 21, some 22, some 23, some 24, some 25, some 6]
    [[], [0], [], [2], [1, 3], [], [], [5, 6], [], [], [8, 9], [7, 10], [], [12], [], [14], [13, 15], [4, 11, 16], [17], [18]]
    [(0, .pointer (some ⟨h, 0, none⟩)), (4, .pointer (some ⟨k, 0, none⟩)), (5, .pointer (some ⟨k + 1, 0, none⟩))] (by kernel_rfl) rfl (by kernel_rfl) rfl rfl (by kernel_rfl) (OutsOk.cons rfl rfl (OutsOk.cons rfl rfl (OutsOk.cons rfl rfl OutsOk.nil))) ?st ?ob ?fin
  case ob =>
    refine Obs.consv rfl ?o0 (Obs.consv rfl ?o1 (Obs.consv rfl ?o2 (Obs.consv rfl ?o3 (Obs.consv rfl ?o4 (Obs.consv rfl ?o5 (Obs.consv rfl ?o6 (Obs.consv rfl ?o7 (Obs.consv rfl ?o8 (Obs.consv rfl ?o9 (Obs.consv rfl ?o10 (Obs.consv rfl ?o11 (Obs.consv rfl ?o12 (Obs.consv rfl ?o13 (Obs.consv rfl ?o14 (Obs.consv rfl ?o15 (Obs.consv rfl ?o16 (Obs.consv rfl ?o17 (Obs.consv rfl ?o18 (Obs.consv rfl ?o19 Obs.nil)))))))))))))))))))
    case o0 =>
      go_light
      intro ac w' hgw
      have k1 := H1.out.kept0 (grown_trans (grown_drew (grown_refl W0 none)) hgw.gr)
      have k2 := H2.out.kept0 (grown_trans (grown_drew (grown_refl W0 none)) hgw.gr)
      have k3 := H3.out.kept0 (grown_trans (grown_drew (grown_refl W0 none)) hgw.gr)
      have d0 := k2.cell 0
      have d1 := k2.cell 1
      have e0 := k3.cell 0
      have e1 := k3.cell 1
      simp at d0 d1 e0 e1
      have hPw := hid (hP.out.grown (grown_trans hG0.out.gr (grown_trans (grown_drew (grown_refl W0 none)) hgw.gr)))
      replace k1 := hid k1
      clear k2 k3
      replace hgw := hid hgw
      simp only [outThen, preThen, slotIs, factAt, isv, List.getElem?_cons_zero, List.getElem?_cons_succ, Option.getD_some, forall_eq]
      intros
      rename_i hK
      replace hK := hid hK
      simp only [wantedAt]
      go_simp
      exact hK.out _ _ rfl (gr_refl _)
    case o1 =>
      go_light
      intro ac w' hgw
      have k1 := H1.out.kept0 (grown_trans (grown_drew (grown_refl W0 none)) hgw.gr)
      have k2 := H2.out.kept0 (grown_trans (grown_drew (grown_refl W0 none)) hgw.gr)
      have k3 := H3.out.kept0 (grown_trans (grown_drew (grown_refl W0 none)) hgw.gr)
      have d0 := k2.cell 0
      have d1 := k2.cell 1
      have e0 := k3.cell 0
      have e1 := k3.cell 1
      simp at d0 d1 e0 e1
      have hPw := hid (hP.out.grown (grown_trans hG0.out.gr (grown_trans (grown_drew (grown_refl W0 none)) hgw.gr)))
      replace k1 := hid k1
      clear k2 k3
      replace hgw := hid hgw
      simp only [outThen, preThen, slotIs, factAt, isv, List.getElem?_cons_zero, List.getElem?_cons_succ, Option.getD_some, forall_eq]
      intros
      rename_i hK
      replace hK := hid hK
      simp only [wantedAt]
      go_simp
      exact hK.out _ _ rfl (gr_refl _)
    case o2 =>
      go_light
      intro ac w' hgw
      have k1 := H1.out.kept0 (grown_trans (grown_drew (grown_refl W0 none)) hgw.gr)
      have k2 := H2.out.kept0 (grown_trans (grown_drew (grown_refl W0 none)) hgw.gr)
      have k3 := H3.out.kept0 (grown_trans (grown_drew (grown_refl W0 none)) hgw.gr)
      have d0 := k2.cell 0
      have d1 := k2.cell 1
      have e0 := k3.cell 0
      have e1 := k3.cell 1
      simp at d0 d1 e0 e1
      have hPw := hid (hP.out.grown (grown_trans hG0.out.gr (grown_trans (grown_drew (grown_refl W0 none)) hgw.gr)))
      replace k1 := hid k1
      clear k2 k3
      replace hgw := hid hgw
      simp only [outThen, preThen, slotIs, factAt, isv, List.getElem?_cons_zero, List.getElem?_cons_succ, Option.getD_some, forall_eq]
      intros
      rename_i hK
      replace hK := hid hK
      simp only [wantedAt]
      go_simp
      exact hK.out _ _ rfl (gr_refl _)
    case o3 =>
      go_light
      intro ac w' hgw
      have k1 := H1.out.kept0 (grown_trans (grown_drew (grown_refl W0 none)) hgw.gr)
      have k2 := H2.out.kept0 (grown_trans (grown_drew (grown_refl W0 none)) hgw.gr)
      have k3 := H3.out.kept0 (grown_trans (grown_drew (grown_refl W0 none)) hgw.gr)
      have d0 := k2.cell 0
      have d1 := k2.cell 1
      have e0 := k3.cell 0
      have e1 := k3.cell 1
      simp at d0 d1 e0 e1
      have hPw := hid (hP.out.grown (grown_trans hG0.out.gr (grown_trans (grown_drew (grown_refl W0 none)) hgw.gr)))
      replace k1 := hid k1
      clear k2 k3
      replace hgw := hid hgw
      simp only [outThen, preThen, slotIs, factAt, isv, List.getElem?_cons_zero, List.getElem?_cons_succ, Option.getD_some, forall_eq]
      intros
      rename_i hK
      replace hK := hid hK
      simp only [wantedAt]
      go_simp
      exact hK.out _ _ rfl (gr_refl _)
    case o4 =>
      go_light
      intro ac w' hgw
      have k1 := H1.out.kept0 (grown_trans (grown_drew (grown_refl W0 none)) hgw.gr)
      have k2 := H2.out.kept0 (grown_trans (grown_drew (grown_refl W0 none)) hgw.gr)
      have k3 := H3.out.kept0 (grown_trans (grown_drew (grown_refl W0 none)) hgw.gr)
      have d0 := k2.cell 0
      have d1 := k2.cell 1
      have e0 := k3.cell 0
      have e1 := k3.cell 1
      simp at d0 d1 e0 e1
      have hPw := hid (hP.out.grown (grown_trans hG0.out.gr (grown_trans (grown_drew (grown_refl W0 none)) hgw.gr)))
      replace k1 := hid k1
      clear k2 k3
      replace hgw := hid hgw
      simp only [outThen, preThen, slotIs, factAt, isv, List.getElem?_cons_zero, List.getElem?_cons_succ, Option.getD_some, forall_eq]
      intros
      rename_i hK
      replace hK := hid hK
      simp only [wantedAt]
      go_simp
      refine (Try.cmp_Compare_int a1 b1 w').mono ?_
      rintro e w3 ⟨rfl, rfl⟩
      exact hK.out _ _ rfl (gr_refl _)
    case o5 =>
      go_light
      intro ac w' hgw
      have k1 := H1.out.kept0 (grown_trans (grown_drew (grown_refl W0 none)) hgw.gr)
      have k2 := H2.out.kept0 (grown_trans (grown_drew (grown_refl W0 none)) hgw.gr)
      have k3 := H3.out.kept0 (grown_trans (grown_drew (grown_refl W0 none)) hgw.gr)
      have d0 := k2.cell 0
      have d1 := k2.cell 1
      have e0 := k3.cell 0
      have e1 := k3.cell 1
      simp at d0 d1 e0 e1
      have hPw := hid (hP.out.grown (grown_trans hG0.out.gr (grown_trans (grown_drew (grown_refl W0 none)) hgw.gr)))
      replace k1 := hid k1
      clear k2 k3
      replace hgw := hid hgw
      simp only [outThen, preThen, slotIs, factAt, isv, List.getElem?_cons_zero, List.getElem?_cons_succ, Option.getD_some, forall_eq]
      intros
      rename_i hK
      replace hK := hid hK
      simp only [wantedAt]
      go_simp
      exact hK.out _ _ rfl (gr_refl _)
    case o6 =>
      go_light
      intro ac w' hgw
      have k1 := H1.out.kept0 (grown_trans (grown_drew (grown_refl W0 none)) hgw.gr)
      have k2 := H2.out.kept0 (grown_trans (grown_drew (grown_refl W0 none)) hgw.gr)
      have k3 := H3.out.kept0 (grown_trans (grown_drew (grown_refl W0 none)) hgw.gr)
      have d0 := k2.cell 0
      have d1 := k2.cell 1
      have e0 := k3.cell 0
      have e1 := k3.cell 1
      simp at d0 d1 e0 e1
      have hPw := hid (hP.out.grown (grown_trans hG0.out.gr (grown_trans (grown_drew (grown_refl W0 none)) hgw.gr)))
      replace k1 := hid k1
      clear k2 k3
      replace hgw := hid hgw
      simp only [outThen, preThen, slotIs, factAt, isv, List.getElem?_cons_zero, List.getElem?_cons_succ, Option.getD_some, forall_eq]
      intros
      rename_i hK
      replace hK := hid hK
      simp only [wantedAt]
      go_simp
      exact hK.out _ _ rfl (gr_refl _)
    case o7 =>
      go_light
      intro ac w' hgw
      have k1 := H1.out.kept0 (grown_trans (grown_drew (grown_refl W0 none)) hgw.gr)
      have k2 := H2.out.kept0 (grown_trans (grown_drew (grown_refl W0 none)) hgw.gr)
      have k3 := H3.out.kept0 (grown_trans (grown_drew (grown_refl W0 none)) hgw.gr)
      have d0 := k2.cell 0
      have d1 := k2.cell 1
      have e0 := k3.cell 0
      have e1 := k3.cell 1
      simp at d0 d1 e0 e1
      have hPw := hid (hP.out.grown (grown_trans hG0.out.gr (grown_trans (grown_drew (grown_refl W0 none)) hgw.gr)))
      replace k1 := hid k1
      clear k2 k3
      replace hgw := hid hgw
      simp only [outThen, preThen, slotIs, factAt, isv, List.getElem?_cons_zero, List.getElem?_cons_succ, Option.getD_some, forall_eq]
      intros
      rename_i hK
      replace hK := hid hK
      simp only [wantedAt]
      go_simp
      refine (length_is f P c xss v h b1 b2 w' k1.out hPw.out).mono ?_
      rintro e w3 ⟨rfl, hg⟩
      exact hK.out _ _ rfl hg
    case o8 =>
      go_light
      intro ac w' hgw
      have k1 := H1.out.kept0 (grown_trans (grown_drew (grown_refl W0 none)) hgw.gr)
      have k2 := H2.out.kept0 (grown_trans (grown_drew (grown_refl W0 none)) hgw.gr)
      have k3 := H3.out.kept0 (grown_trans (grown_drew (grown_refl W0 none)) hgw.gr)
      have d0 := k2.cell 0
      have d1 := k2.cell 1
      have e0 := k3.cell 0
      have e1 := k3.cell 1
      simp at d0 d1 e0 e1
      have hPw := hid (hP.out.grown (grown_trans hG0.out.gr (grown_trans (grown_drew (grown_refl W0 none)) hgw.gr)))
      replace k1 := hid k1
      clear k2 k3
      replace hgw := hid hgw
      simp only [outThen, preThen, slotIs, factAt, isv, List.getElem?_cons_zero, List.getElem?_cons_succ, Option.getD_some, forall_eq]
      intros
      rename_i hK
      replace hK := hid hK
      simp only [wantedAt]
      go_simp
      exact hK.out _ _ rfl (gr_refl _)
    case o9 =>
      go_light
      intro ac w' hgw
      have k1 := H1.out.kept0 (grown_trans (grown_drew (grown_refl W0 none)) hgw.gr)
      have k2 := H2.out.kept0 (grown_trans (grown_drew (grown_refl W0 none)) hgw.gr)
      have k3 := H3.out.kept0 (grown_trans (grown_drew (grown_refl W0 none)) hgw.gr)
      have d0 := k2.cell 0
      have d1 := k2.cell 1
      have e0 := k3.cell 0
      have e1 := k3.cell 1
      simp at d0 d1 e0 e1
      have hPw := hid (hP.out.grown (grown_trans hG0.out.gr (grown_trans (grown_drew (grown_refl W0 none)) hgw.gr)))
      replace k1 := hid k1
      clear k2 k3
      replace hgw := hid hgw
      simp only [outThen, preThen, slotIs, factAt, isv, List.getElem?_cons_zero, List.getElem?_cons_succ, Option.getD_some, forall_eq]
      intros
      rename_i hK
      replace hK := hid hK
      simp only [wantedAt]
      go_simp
      exact hK.out _ _ rfl (gr_refl _)
    case o10 =>
      go_light
      intro ac w' hgw
      have k1 := H1.out.kept0 (grown_trans (grown_drew (grown_refl W0 none)) hgw.gr)
      have k2 := H2.out.kept0 (grown_trans (grown_drew (grown_refl W0 none)) hgw.gr)
      have k3 := H3.out.kept0 (grown_trans (grown_drew (grown_refl W0 none)) hgw.gr)
      have d0 := k2.cell 0
      have d1 := k2.cell 1
      have e0 := k3.cell 0
      have e1 := k3.cell 1
      simp at d0 d1 e0 e1
      have hPw := hid (hP.out.grown (grown_trans hG0.out.gr (grown_trans (grown_drew (grown_refl W0 none)) hgw.gr)))
      replace k1 := hid k1
      clear k2 k3
      replace hgw := hid hgw
      simp only [outThen, preThen, slotIs, factAt, isv, List.getElem?_cons_zero, List.getElem?_cons_succ, Option.getD_some, forall_eq]
      intros
      rename_i hK
      replace hK := hid hK
      simp only [wantedAt]
      go_simp
      refine (length_is f P c xss v h a1 a2 w' k1.out hPw.out).mono ?_
      rintro e w3 ⟨rfl, hg⟩
      exact hK.out _ _ rfl hg
    case o11 =>
      go_light
      intro ac w' hgw
      have k1 := H1.out.kept0 (grown_trans (grown_drew (grown_refl W0 none)) hgw.gr)
      have k2 := H2.out.kept0 (grown_trans (grown_drew (grown_refl W0 none)) hgw.gr)
      have k3 := H3.out.kept0 (grown_trans (grown_drew (grown_refl W0 none)) hgw.gr)
      have d0 := k2.cell 0
      have d1 := k2.cell 1
      have e0 := k3.cell 0
      have e1 := k3.cell 1
      simp at d0 d1 e0 e1
      have hPw := hid (hP.out.grown (grown_trans hG0.out.gr (grown_trans (grown_drew (grown_refl W0 none)) hgw.gr)))
      replace k1 := hid k1
      clear k2 k3
      replace hgw := hid hgw
      simp only [outThen, preThen, slotIs, factAt, isv, List.getElem?_cons_zero, List.getElem?_cons_succ, Option.getD_some, forall_eq]
      intros
      rename_i hK
      replace hK := hid hK
      simp only [wantedAt]
      go_simp
      refine (Try.cmp_Compare_int _ _ w').mono ?_
      rintro e w3 ⟨rfl, rfl⟩
      exact hK.out _ _ rfl (gr_refl _)
    case o12 =>
      go_light
      intro ac w' hgw
      have k1 := H1.out.kept0 (grown_trans (grown_drew (grown_refl W0 none)) hgw.gr)
      have k2 := H2.out.kept0 (grown_trans (grown_drew (grown_refl W0 none)) hgw.gr)
      have k3 := H3.out.kept0 (grown_trans (grown_drew (grown_refl W0 none)) hgw.gr)
      have d0 := k2.cell 0
      have d1 := k2.cell 1
      have e0 := k3.cell 0
      have e1 := k3.cell 1
      simp at d0 d1 e0 e1
      have hPw := hid (hP.out.grown (grown_trans hG0.out.gr (grown_trans (grown_drew (grown_refl W0 none)) hgw.gr)))
      replace k1 := hid k1
      clear k2 k3
      replace hgw := hid hgw
      simp only [outThen, preThen, slotIs, factAt, isv, List.getElem?_cons_zero, List.getElem?_cons_succ, Option.getD_some, forall_eq]
      intros
      rename_i hK
      replace hK := hid hK
      simp only [wantedAt]
      go_simp
      exact hK.out _ _ rfl (gr_refl _)
    case o13 =>
      go_light
      intro ac w' hgw
      have k1 := H1.out.kept0 (grown_trans (grown_drew (grown_refl W0 none)) hgw.gr)
      have k2 := H2.out.kept0 (grown_trans (grown_drew (grown_refl W0 none)) hgw.gr)
      have k3 := H3.out.kept0 (grown_trans (grown_drew (grown_refl W0 none)) hgw.gr)
      have d0 := k2.cell 0
      have d1 := k2.cell 1
      have e0 := k3.cell 0
      have e1 := k3.cell 1
      simp at d0 d1 e0 e1
      have hPw := hid (hP.out.grown (grown_trans hG0.out.gr (grown_trans (grown_drew (grown_refl W0 none)) hgw.gr)))
      replace k1 := hid k1
      clear k2 k3
      replace hgw := hid hgw
      simp only [outThen, preThen, slotIs, factAt, isv, List.getElem?_cons_zero, List.getElem?_cons_succ, Option.getD_some, forall_eq]
      intros
      rename_i hK
      replace hK := hid hK
      simp only [wantedAt]
      go_simp
      exact hK.out _ _ rfl (gr_refl _)
    case o14 =>
      go_light
      intro ac w' hgw
      have k1 := H1.out.kept0 (grown_trans (grown_drew (grown_refl W0 none)) hgw.gr)
      have k2 := H2.out.kept0 (grown_trans (grown_drew (grown_refl W0 none)) hgw.gr)
      have k3 := H3.out.kept0 (grown_trans (grown_drew (grown_refl W0 none)) hgw.gr)
      have d0 := k2.cell 0
      have d1 := k2.cell 1
      have e0 := k3.cell 0
      have e1 := k3.cell 1
      simp at d0 d1 e0 e1
      have hPw := hid (hP.out.grown (grown_trans hG0.out.gr (grown_trans (grown_drew (grown_refl W0 none)) hgw.gr)))
      replace k1 := hid k1
      clear k2 k3
      replace hgw := hid hgw
      simp only [outThen, preThen, slotIs, factAt, isv, List.getElem?_cons_zero, List.getElem?_cons_succ, Option.getD_some, forall_eq]
      intros
      rename_i hK
      replace hK := hid hK
      simp only [wantedAt]
      go_simp
      exact hK.out _ _ rfl (gr_refl _)
    case o15 =>
      go_light
      intro ac w' hgw
      have k1 := H1.out.kept0 (grown_trans (grown_drew (grown_refl W0 none)) hgw.gr)
      have k2 := H2.out.kept0 (grown_trans (grown_drew (grown_refl W0 none)) hgw.gr)
      have k3 := H3.out.kept0 (grown_trans (grown_drew (grown_refl W0 none)) hgw.gr)
      have d0 := k2.cell 0
      have d1 := k2.cell 1
      have e0 := k3.cell 0
      have e1 := k3.cell 1
      simp at d0 d1 e0 e1
      have hPw := hid (hP.out.grown (grown_trans hG0.out.gr (grown_trans (grown_drew (grown_refl W0 none)) hgw.gr)))
      replace k1 := hid k1
      clear k2 k3
      replace hgw := hid hgw
      simp only [outThen, preThen, slotIs, factAt, isv, List.getElem?_cons_zero, List.getElem?_cons_succ, Option.getD_some, forall_eq]
      intros
      rename_i hK
      replace hK := hid hK
      simp only [wantedAt]
      go_simp
      exact hK.out _ _ rfl (gr_refl _)
    case o16 =>
      go_light
      intro ac w' hgw
      have k1 := H1.out.kept0 (grown_trans (grown_drew (grown_refl W0 none)) hgw.gr)
      have k2 := H2.out.kept0 (grown_trans (grown_drew (grown_refl W0 none)) hgw.gr)
      have k3 := H3.out.kept0 (grown_trans (grown_drew (grown_refl W0 none)) hgw.gr)
      have d0 := k2.cell 0
      have d1 := k2.cell 1
      have e0 := k3.cell 0
      have e1 := k3.cell 1
      simp at d0 d1 e0 e1
      have hPw := hid (hP.out.grown (grown_trans hG0.out.gr (grown_trans (grown_drew (grown_refl W0 none)) hgw.gr)))
      replace k1 := hid k1
      clear k2 k3
      replace hgw := hid hgw
      simp only [outThen, preThen, slotIs, factAt, isv, List.getElem?_cons_zero, List.getElem?_cons_succ, Option.getD_some, forall_eq]
      intros
      rename_i hK
      replace hK := hid hK
      simp only [wantedAt]
      go_simp
      refine (Try.cmp_Compare_int a2 b2 w').mono ?_
      rintro e w3 ⟨rfl, rfl⟩
      exact hK.out _ _ rfl (gr_refl _)
    case o17 =>
      go_light
      intro ac w' hgw
      have k1 := H1.out.kept0 (grown_trans (grown_drew (grown_refl W0 none)) hgw.gr)
      have k2 := H2.out.kept0 (grown_trans (grown_drew (grown_refl W0 none)) hgw.gr)
      have k3 := H3.out.kept0 (grown_trans (grown_drew (grown_refl W0 none)) hgw.gr)
      have d0 := k2.cell 0
      have d1 := k2.cell 1
      have e0 := k3.cell 0
      have e1 := k3.cell 1
      simp at d0 d1 e0 e1
      have hPw := hid (hP.out.grown (grown_trans hG0.out.gr (grown_trans (grown_drew (grown_refl W0 none)) hgw.gr)))
      replace k1 := hid k1
      clear k2 k3
      replace hgw := hid hgw
      simp only [outThen, preThen, slotIs, factAt, isv, List.getElem?_cons_zero, List.getElem?_cons_succ, Option.getD_some, forall_eq]
      intros
      rename_i hK
      replace hK := hid hK
      simp only [wantedAt]
      go_simp
      refine hK.out _ _ ⟨_, rfl, ?_⟩ (gr_alloc (gr_refl _) _)
      exact Holds.new _ _ _
    case o18 =>
      go_light
      intro ac w' hgw
      have k1 := H1.out.kept0 (grown_trans (grown_drew (grown_refl W0 none)) hgw.gr)
      have k2 := H2.out.kept0 (grown_trans (grown_drew (grown_refl W0 none)) hgw.gr)
      have k3 := H3.out.kept0 (grown_trans (grown_drew (grown_refl W0 none)) hgw.gr)
      have d0 := k2.cell 0
      have d1 := k2.cell 1
      have e0 := k3.cell 0
      have e1 := k3.cell 1
      simp at d0 d1 e0 e1
      have hPw := hid (hP.out.grown (grown_trans hG0.out.gr (grown_trans (grown_drew (grown_refl W0 none)) hgw.gr)))
      replace k1 := hid k1
      clear k2 k3
      replace hgw := hid hgw
      simp only [outThen, preThen, slotIs, factAt, isv, List.getElem?_cons_zero, List.getElem?_cons_succ, Option.getD_some, forall_eq]
      intros
      rename_i v1 h1 hv1 K hK
      obtain ⟨g, rfl, hg⟩ := h1
      have hA := three_arr hg
      replace hK := hid hK
      simp only [wantedAt]
      go_simp
      refine (cmpOr_is _ 3 _ w' (by simp) hA).mono ?_
      rintro e w3 ⟨rfl, rfl⟩
      rw [← hC.out]
      exact hK.out _ _ rfl (gr_refl _)
    case o19 =>
      go_light
      intro ac w' hgw
      have k1 := H1.out.kept0 (grown_trans (grown_drew (grown_refl W0 none)) hgw.gr)
      have k2 := H2.out.kept0 (grown_trans (grown_drew (grown_refl W0 none)) hgw.gr)
      have k3 := H3.out.kept0 (grown_trans (grown_drew (grown_refl W0 none)) hgw.gr)
      have d0 := k2.cell 0
      have d1 := k2.cell 1
      have e0 := k3.cell 0
      have e1 := k3.cell 1
      simp at d0 d1 e0 e1
      have hPw := hid (hP.out.grown (grown_trans hG0.out.gr (grown_trans (grown_drew (grown_refl W0 none)) hgw.gr)))
      replace k1 := hid k1
      clear k2 k3
      replace hgw := hid hgw
      simp only [outThen, preThen, slotIs, factAt, isv, List.getElem?_cons_zero, List.getElem?_cons_succ, Option.getD_some, forall_eq]
      intros
      rename_i hK
      replace hK := hid hK
      simp only [wantedAt]
      go_simp
      exact hK.out _ _ rfl (gr_refl _)
  case st =>
    repeat (first | exact AllStable.nil | (refine AllStable.cons ?_ ?_; focus (first | exact stable_isv _ | exact stable_isBytes _ | exact stable_isRow1 _ | exact stable_isRowOf _ _ | exact stable_isVar _ | exact stable_isVarOf _ _ _ | exact stable_isThree _ _ _)))
  case fin =>
    intro w3 hgw
    simp only [finalIn, factAt, isv, List.getElem?_cons_zero, List.getElem?_cons_succ, Option.getD_some, forall_eq, slotIs, subj]
    intro v17 h17
    simp only [Act.put, List.setIfInBounds_toArray, List.set_cons_zero, List.set_cons_succ]
    have hG3 := hid (gr_trans hG0.out (gr_trans (gr_drew (gr_refl W0)) hgw))
    clear hgw h17
    go_wp2_with fail
    go_ret
    exact ⟨rfl, hG3.out⟩

end Go.Proofs.Ytmahiodejhakpaa.G
