/- What the document's own examples come to. -/
import Derived.Test.YtdlfphdgjonbdaaVars
import Derived.Test.YtdlfphdgjonbdaaFeed
import Derived.Test.YtdlfphdgjonbdaaSumJoin
import Derived.Test.YtdlfphdgjonbdaaSumFour
import Derived.Test.YtdlfphdgjonbdaaStr
import Derived.Deep.CutRange
import Derived.Deep.Light
set_option linter.unusedVariables false
namespace Go.Proofs.Ytdlfphdgjonbdaa
open Go.RowKit PlainSum

theorem take_lit (A : Option Addr) (w : World) (hA : Arr w .u8 A [1, 2, 3, 4, 9]) :
    Calls Try.prog 11 #[.slice A 5 5] w fun e w' => ∃ A' c', e = .returned (.tuple #[.int .u32 16909060, .slice A' 1 c', .int .i64 0]) ∧ Arr w' .u8 A' [9] ∧ w.grownBy w' none :=
  (sumTakeFour_yes A 5 [1, 2, 3, 4, 9] w (by decide) (by decide) (by decide) (by decide) (fun k => by
    rcases k with _ | _ | _ | _ | _ | k <;> simp) hA).mono fun e w' ⟨A', c', h1, _, _, h2, h3⟩ => ⟨A', c', h1, h2, h3⟩

theorem small_nil : Small [] := ⟨by simp, fun i => ⟨by simp, fun k => by simp⟩⟩
theorem small_two {x y : Int} (h0 : 0 ≤ x) (h1 : x ≤ 255) (h2 : 0 ≤ y) (h3 : y ≤ 255) : Small [[x], [y]] := ⟨by simp, fun i => by
  rcases i with _ | _ | i
  · refine ⟨by simp, fun k => ?_⟩
    rcases k with _ | k <;> simp; omega
  · refine ⟨by simp, fun k => ?_⟩
    rcases k with _ | k <;> simp; omega
  · refine ⟨by simp, fun k => by simp⟩⟩

theorem of_nil (w : World) : Calls Try.prog 17 #[.slice none 0 0] w fun e w' => e = .returned (.int .u32 1) ∧ w.grownBy w' none :=
  (sumOf_is none 0 [] w (Arrs.nil _ _) small_nil).mono fun e w' ⟨h, hg⟩ => ⟨h.trans (by rw [show value (feed first [].flatten) = 1 by decide]), hg⟩
theorem of_5 (P : Option Addr) (w : World) (hP : Arrs w P [[5]]) : Calls Try.prog 17 #[.slice P 1 1] w fun e w' => e = .returned (.int .u32 393222) ∧ w.grownBy w' none :=
  (sumOf_is P 1 [[5]] w hP (small_one (by decide) (by decide))).mono fun e w' ⟨h, hg⟩ => ⟨h.trans (by rw [show value (feed first [[5]].flatten) = 393222 by decide]), hg⟩
theorem of_57 (P : Option Addr) (w : World) (hP : Arrs w P [[5], [7]]) : Calls Try.prog 17 #[.slice P 2 2] w fun e w' => e = .returned (.int .u32 1245197) ∧ w.grownBy w' none :=
  (sumOf_is P 2 [[5], [7]] w hP (small_two (by decide) (by decide) (by decide) (by decide))).mono fun e w' ⟨h, hg⟩ => ⟨h.trans (by rw [show value (feed first [[5], [7]].flatten) = 1245197 by decide]), hg⟩

theorem str9 : strOfNums [9] = ⟨#[9]⟩ := by simp [strOfNums]
theorem str1234 : strOfNums [1, 2, 3, 4] = ⟨#[1, 2, 3, 4]⟩ := by simp [strOfNums]

set_option maxRecDepth 100000 in
set_option maxHeartbeats 3000000 in
theorem wakes_true (w : World) : Calls Try.prog 8 #[] w fun e w' => e = .returned (.bool true) ∧ w.grownBy w' none := by
  go_enter Try.func8, Try.ntmps8
  go_wp2_with fail
  refine (sumNew_is _).mono ?_
  rintro e w1 ⟨rfl, hg1⟩
  go_wp2_with fail
  refine (sumFeed_is 1 0 _ 1 [[5]] _ (lit_new w1 [5]) (small_one (by decide) (by decide))).mono ?_
  rintro e w2 ⟨rfl, hg2⟩
  rw [feed5]
  have hG2 := grown_trans hg1 (grown_trans (grown_alloc (grown_alloc (grown_refl _ _) _) _) hg2)
  clear hg1 hg2
  go_upto_region 2 with fail
  have hH := Holds.new w2 23 #[.int .i64 6, .int .i64 6]
  have hG := hid (grown_alloc hG2 (.cells #[.int .i64 6, .int .i64 6] 23))
  clear hG2
  generalize w2.alloc (.cells #[.int .i64 6, .int .i64 6] 23) = W3 at hH hG ⊢
  generalize w2.heap.size = g at hH ⊢
  go_cut [2, 3] from 16 to 24 (fun u v wx => v = .int .i64 0 ∧ (∃ g', u = .pointer (some ⟨g', 0, none⟩) ∧ Holds wx g' 23 #[.int .i64 13, .int .i64 19]) ∧ Holds wx g 23 #[.int .i64 6, .int .i64 6] ∧ w.grownBy wx none)
  case first =>
    refine wp_region_each [isv (.agg #[.int .i64 6, .int .i64 6]), isv (.agg #[.int .i64 1, .int .i64 0]), isBytes [7], isRow1 [7], isv (.agg #[.int .i64 8, .int .i64 8]),
      isv (.tuple #[.agg #[.int .i64 13, .int .i64 19], .int .i64 0]), isv (.tuple #[.agg #[.int .i64 13, .int .i64 19], .int .i64 0]), isv (.agg #[.int .i64 13, .int .i64 19]), isv (.int .i64 0),
      isVar W3.heap.size, isVarOf W3.heap.size 13 19, isv (.int .i64 0)] 108 [some 17, some 18, some 19, some 20, some 21, some 22, some 16, some 23, some 24, some 2, none, some 3]
      [some 17, some 18, some 19, some 20, some 21, some 22, some 16, some 23, some 24, some 2, some 2, some 3]
      [[], [], [], [2], [1, 3], [0, 4], [5], [6], [6], [], [9, 7], [8]] [(1, .pointer (some ⟨g, 0, none⟩))] (by kernel_rfl) rfl (by kernel_rfl) rfl rfl (by kernel_rfl) (OutsOk.cons rfl rfl OutsOk.nil) ?st ?ob ?fin
    case st =>
      repeat (first | exact AllStable.nil | refine AllStable.cons (by first | exact stable_isv _ | exact stable_isBytes _ | exact stable_isRow1 _ | exact stable_isVar _ | exact stable_isVarOf _ _ _) ?_)
    case ob =>
      refine Obs.consv rfl ?_ (Obs.consv rfl ?_ (Obs.consv rfl ?_ (Obs.consv rfl ?_ (Obs.consv rfl ?_ (Obs.consv rfl ?_ (Obs.consv rfl ?_ (Obs.consv rfl ?_ (Obs.consv rfl ?_ (Obs.consv rfl ?_ (Obs.conss rfl ?_ (Obs.consv rfl ?_ Obs.nil)))))))))))
      case refine_11 => exact ob_store rfl rfl rfl rfl rfl (Nat.le_refl _) (by repeat (first | exact AllBut.nil | refine AllBut.cons (fun hne => by first | exact absurd rfl hne | exact sb_isv _ | exact sb_isBytes _ | exact sb_isRow1 _ | exact sb_isVar _) ?_))
      all_goals
        go_light
        intro a w' hgw
        have hHw := Holds.kept0 hgw hH.drew
        obtain ⟨c0, c1⟩ := hold2 hHw
        have hl := hHw.lt
        replace hgw := hid hgw
        replace hHw := hid hHw
        replace hH := hid hH
        simp only [outThen, preThen, slotIs, factAt, isv, List.getElem?_cons_zero, List.getElem?_cons_succ, Option.getD_some, forall_eq]
      · intros
        rename_i hK
        replace hK := hid hK
        simp only [wantedAt]
        go_simp
        exact hK.out _ _ rfl (grown_refl _ _)
      · intro _ K hK
        replace hK := hid hK
        simp only [wantedAt]
        go_simp
        refine (sumNew_is _).mono ?_
        rintro e w3 ⟨rfl, hg⟩
        exact hK.out _ _ rfl hg
      · intro _ K hK
        replace hK := hid hK
        simp only [wantedAt]
        go_simp
        exact hK.out _ _ ⟨_, rfl, Holds.new _ _ _⟩ (grown_alloc (grown_refl _ _) _)
      · intro _ v h hv K hK
        replace hK := hid hK
        obtain ⟨g1, rfl, h1⟩ := h
        simp only [wantedAt]
        go_simp
        exact hK.out _ _ ⟨_, g1, rfl, Holds.new _ _ _, h1.alloc _⟩ (grown_alloc (grown_refl _ _) _)
      · intro _ hv1 v2 h2 hv2 K hK
        replace hK := hid hK
        obtain ⟨g2, g1, rfl, h3, h4⟩ := h2
        simp only [wantedAt]
        go_simp
        refine (sumFeed_is 1 0 _ 1 [[7]] _ (arrs_lit h3 h4) (small_one (by decide) (by decide))).mono ?_
        rintro e w3 ⟨rfl, hg⟩
        rw [feed7]
        exact hK.out _ _ rfl hg
      · intro _ hv1 hv2 K hK
        replace hK := hid hK
        simp only [wantedAt]
        go_simp
        refine (sumJoin_yes 6 6 8 8 1 _ (by decide) (by decide) (by decide) (by decide)).mono ?_
        rintro e w3 ⟨rfl, hg⟩
        rw [join57]
        exact hK.out _ _ rfl hg
      · intros
        rename_i hK
        replace hK := hid hK
        simp only [wantedAt]
        go_simp
        exact hK.out _ _ rfl (grown_refl _ _)
      · intros
        rename_i hK
        replace hK := hid hK
        simp only [wantedAt]
        go_simp
        exact hK.out _ _ rfl (grown_refl _ _)
      · intros
        rename_i hK
        replace hK := hid hK
        simp only [wantedAt]
        go_simp
        exact hK.out _ _ rfl (grown_refl _ _)
      · intro _ K hK
        replace hK := hid hK
        simp only [wantedAt]
        go_simp
        exact hK.out _ _ ⟨_, 0, 0, rfl, hgw.out.size, Holds.new _ _ _⟩ (grown_alloc (grown_refl _ _) _)
      · intros
        rename_i hK
        replace hK := hid hK
        simp only [wantedAt]
        go_simp
        exact hK.out _ _ rfl (grown_refl _ _)
    case fin =>
      intro w' hgw
      simp only [finalIn, factAt, isv, List.getElem?_cons_zero, List.getElem?_cons_succ, Option.getD_some, forall_eq, slotIs, subj]
      rintro v1 ⟨g1, rfl, h1⟩ v2 ⟨g2, g3, rfl, h2, h3⟩ v3 _ v4 hv4 ⟨g4, h6, h4, h5⟩
      simp only [Act.put, List.setIfInBounds_toArray, List.set_cons_zero, List.set_cons_succ, List.getElem?_toArray, List.getElem?_cons_zero, List.getElem?_cons_succ, Option.some.injEq] at hv4
      subst hv4
      subst h6
      clear h1 h2 h3
      have hHw := hid (Holds.kept0 hgw hH.drew)
      replace hgw := hid hgw
      replace h5 := hid h5
      simp only [Act.put, List.setIfInBounds_toArray, List.set_cons_zero, List.set_cons_succ]
      go_wp2_with fail
      go_meet
      go_light
      exact ⟨rfl, ⟨g4, rfl, h5.out⟩, hHw.out, grown_trans (grown_drew hG.out) hgw.out⟩
  case rest =>
    obtain ⟨rfl, ⟨g', rfl, hT⟩, hH, hW⟩ := hcut
    obtain ⟨c0, c1⟩ := hold2 hH
    obtain ⟨t0, t1⟩ := hold2 hT
    replace hW := hid hW
    go_wp2_with fail
    refine (sumJoin_no 6 6 6 6 (-1) _ (by decide)).mono ?_
    rintro e w4 ⟨rfl, hg4⟩
    replace hH := hH.kept0 hg4
    replace hT := hT.kept0 hg4
    replace hW := hid (grown_trans hW.out hg4)
    clear hg4 c0 c1 t0 t1
    go_wp2_with fail
    have hb : Arr ((w4.alloc (.cells #[.int .i64 0, .int .i64 0] 23)).alloc (.cells #[.int .u8 1, .int .u8 2, .int .u8 3, .int .u8 4, .int .u8 9] 5)) .u8 (some ⟨w4.heap.size + 1, 0, none⟩) [1, 2, 3, 4, 9] := by
      have := bytes_new (w4.alloc (.cells #[.int .i64 0, .int .i64 0] 23)) [1, 2, 3, 4, 9]
      simpa using this
    refine (take_lit _ _ hb).mono ?_
    rintro e w5 ⟨A5, c5, rfl, h9, hg⟩
    replace hg := grown_trans (grown_alloc (grown_alloc (grown_refl w4 none) _) _) hg
    replace hH := hH.kept0 hg
    replace hT := hT.kept0 hg
    replace hW := hid (grown_trans hW.out hg)
    clear hg hb
    go_wp2_with fail
    refine (sumTakeFour_no _ 3 [1, 2, 3] _ (by decide)).mono ?_
    rintro e w6 ⟨⟨A6, c6, rfl⟩, hg⟩
    replace hg := grown_trans (grown_alloc (grown_refl w5 none) _) hg
    replace hH := hH.kept0 hg
    replace hT := hT.kept0 hg
    replace h9 := h9.grown hg
    replace hW := hid (grown_trans hW.out hg)
    clear hg
    go_wp2_with fail
    refine (of_nil _).mono ?_
    rintro e w7 ⟨rfl, hg⟩
    replace hH := hH.kept0 hg
    replace hT := hT.kept0 hg
    replace h9 := h9.grown hg
    replace hW := hid (grown_trans hW.out hg)
    clear hg
    go_wp2_with fail
    refine (of_5 _ _ (lit_new w7 [5])).mono ?_
    rintro e w8 ⟨rfl, hg⟩
    replace hg := grown_trans (grown_alloc (grown_alloc (grown_refl w7 none) _) _) hg
    replace hH := hH.kept0 hg
    replace hT := hT.kept0 hg
    replace h9 := h9.grown hg
    replace hW := hid (grown_trans hW.out hg)
    clear hg
    go_wp2_with fail
    have hb : Arrs (((w8.alloc (.cells #[.int .u8 5] 5)).alloc (.cells #[.int .u8 7] 5)).alloc (.cells #[.slice (some ⟨w8.heap.size, 0, none⟩) 1 1, .slice (some ⟨w8.heap.size + 1, 0, none⟩) 1 1] 26)) (some ⟨w8.heap.size + 2, 0, none⟩) [[5], [7]] := by
      have a1 := ((bytes_new w8 [5]).grown (grown_alloc (grown_refl _ _) (.cells #[.int .u8 7] 5))).grown (grown_alloc (grown_refl _ _) (.cells #[.slice (some ⟨w8.heap.size, 0, none⟩) 1 1, .slice (some ⟨w8.heap.size + 1, 0, none⟩) 1 1] 26))
      have a2 := (bytes_new (w8.alloc (.cells #[.int .u8 5] 5)) [7]).grown (grown_alloc (grown_refl _ _) (.cells #[.slice (some ⟨w8.heap.size, 0, none⟩) 1 1, .slice (some ⟨w8.heap.size + 1, 0, none⟩) 1 1] 26))
      have a3 := Holds.new ((w8.alloc (.cells #[.int .u8 5] 5)).alloc (.cells #[.int .u8 7] 5)) 26 #[.slice (some ⟨w8.heap.size, 0, none⟩) 1 1, .slice (some ⟨w8.heap.size + 1, 0, none⟩) 1 1]
      simp only [World.size_alloc] at a2 a3
      exact Arrs.two a3 a1 a2
    refine (of_57 _ _ hb).mono ?_
    rintro e w9 ⟨rfl, hg⟩
    replace hg := grown_trans (grown_alloc (grown_alloc (grown_alloc (grown_refl w8 none) _) _) _) hg
    clear hb
    replace hH := hH.kept0 hg
    replace hT := hT.kept0 hg
    replace h9 := h9.grown hg
    replace hW := hid (grown_trans hW.out hg)
    clear hg
    obtain ⟨c0, c1⟩ := hold2 hH
    go_wp2_with fail
    clear c0 c1
    refine (sumValue_is 6 6 _).mono ?_
    rintro e w10 ⟨rfl, hg⟩
    rw [show value (6, 6) = 393222 by decide]
    replace hH := hH.kept0 hg
    replace hT := hT.kept0 hg
    replace h9 := h9.grown hg
    replace hW := hid (grown_trans hW.out hg)
    clear hg
    obtain ⟨t0, t1⟩ := hold2 hT
    go_wp2_with fail
    clear t0 t1
    refine (sumValue_is 13 19 _).mono ?_
    rintro e w11 ⟨rfl, hg⟩
    rw [show value (13, 19) = 1245197 by decide]
    replace hH := hH.kept0 hg
    replace hT := hT.kept0 hg
    replace h9 := h9.grown hg
    replace hW := hid (grown_trans hW.out hg)
    clear hg
    have cv := conv_arr w11 A5 c5 [9] h9
    rw [str9] at cv
    simp only [List.length_cons, List.length_nil, Nat.zero_add] at cv
    go_wp2_with fail
    clear cv
    refine (sumFour_is 16909060 _ (by decide) (by decide)).mono ?_
    rintro e w12 ⟨A7, c7, rfl, _, _, h7, hg⟩
    replace hH := hH.kept0 hg
    replace hT := hT.kept0 hg
    replace h9 := h9.grown hg
    replace hW := hid (grown_trans hW.out hg)
    clear hg
    have cv := conv_arr w12 A7 c7 [1, 2, 3, 4] h7
    rw [str1234] at cv
    simp only [List.length_cons, List.length_nil, Nat.zero_add, Nat.reduceAdd] at cv
    have hlen : (four 16909060).length = 4 := rfl
    rw [hlen]
    clear hlen h7
    obtain ⟨c0, c1⟩ := hold2 hH
    go_wp2_with fail
    clear cv c0 c1
    refine (sumRight_yes 6 6 _ (by decide)).mono ?_
    rintro e w13 ⟨rfl, hg⟩
    replace hH := hH.kept0 hg
    replace hT := hT.kept0 hg
    replace h9 := h9.grown hg
    replace hW := hid (grown_trans hW.out hg)
    clear hg
    go_wp2_with fail
    refine (sumRight_no 65521 0 _ (by decide)).mono ?_
    rintro e w14 ⟨rfl, hg⟩
    replace hH := hH.kept0 hg
    replace hT := hT.kept0 hg
    replace h9 := h9.grown hg
    replace hW := hid (grown_trans hW.out hg)
    clear hg
    go_wp2_with fail
    go_ret
    exact ⟨rfl, hW.out⟩

end Go.Proofs.Ytdlfphdgjonbdaa
