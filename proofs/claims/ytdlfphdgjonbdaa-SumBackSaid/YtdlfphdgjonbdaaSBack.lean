/- The walk of the law SumBack: it returns true at every input. -/
import Derived.Test.YtdlfphdgjonbdaaWakes
import Derived.Test.YtdlfphdgjonbdaaCame
set_option linter.unusedVariables false
namespace Go.Proofs.Ytdlfphdgjonbdaa
open Go.RowKit PlainSum

theorem back_great (v A B C D : Int) (X : Option Addr) (n c : Nat) (w : World) (h : 300 < n) :
    Calls Try.prog 6 #[.int .u32 v, .slice X n c, .agg #[.int .i64 A, .int .i64 B], .agg #[.int .i64 C, .int .i64 D]] w fun e w' => e = .returned (.bool true) ∧ w.grownBy w' none := by
  go_enter Try.func6, Try.ntmps6
  go_wp2_with fail
  refine (wakes_true _).mono ?_
  rintro e w' ⟨rfl, hg⟩
  go_wp2_with fail
  go_ret
  exact ⟨rfl, grown_trans (grown_alloc (grown_alloc (grown_refl _ _) _) _) hg⟩

theorem four_bytes (v : Int) (h0 : 0 ≤ v) (h1 : v ≤ 4294967295) : Bytes (four v) := fun k => by
  rcases k with _ | _ | _ | _ | k <;> simp [four] <;> omega

set_option maxRecDepth 100000 in
set_option maxHeartbeats 2000000 in
theorem back_small (v A B C D : Int) (X : Option Addr) (c : Nat) (bs : List Int) (w : World) (h : bs.length ≤ 300) (hv0 : 0 ≤ v) (hv1 : v ≤ 4294967295) (hc : bs.length ≤ c) (hc2 : c ≤ maxLen) (hb : Bytes bs) (hX : Arr w .u8 X bs) :
    Calls Try.prog 6 #[.int .u32 v, .slice X bs.length c, .agg #[.int .i64 A, .int .i64 B], .agg #[.int .i64 C, .int .i64 D]] w fun e w' => e = .returned (.bool true) ∧ w.grownBy w' none := by
  replace hb := hid hb
  replace hX := hid hX
  obtain ⟨i0, hi0, hz0, hz1, hz2⟩ := info_parts Try.info5
  unfold maxLen at hc2
  go_enter Try.func6, Try.ntmps6
  go_wp2_with fail
  refine (sumFour_is v _ hv0 hv1).mono ?_
  rintro e w1 ⟨X4, c4, rfl, hc4, hd4, hF, hg⟩
  have hS : Holds w1 w.heap.size 23 #[.int .i64 A, .int .i64 B] := ((Holds.new w 23 _).alloc _).kept0 hg
  have hT : Holds w1 (w.heap.size + 1) 23 #[.int .i64 C, .int .i64 D] := by
    have := (Holds.new (w.alloc (.cells #[.int .i64 A, .int .i64 B] 23)) 23 #[.int .i64 C, .int .i64 D]).kept0 hg
    simpa using this
  have hG1 := hid (grown_trans (grown_alloc (grown_alloc (grown_refl w none) _) _) hg)
  clear hg
  have hl4 : (four v).length = 4 := rfl
  rw [hl4] at hc4
  rw [hl4]
  unfold maxLen at hd4
  have hby := hid (four_bytes v hv0 hv1)
  have hnum := hid (number_four v bs)
  generalize hff : four v = ff at hF hby hnum hl4
  replace hff := hid hff
  replace hl4 := hid hl4
  have hrow0 : (w1.alloc (.cells #[] 5)).ownsRow w1.heap.size 5 1 (.slice (some ⟨w1.heap.size, 0, none⟩) 0 0) ([] : List Int).length (([] : List Int).map (Value.int .u8)) :=
    World.ownsRow_made w1 #[] 0 (Nat.le_refl _) (by simp) (by simp)
  have hF1 := hF.grown (World.grownBy_alloc w1 (.cells #[] 5) none)
  have hX1 := hX.out.grown hG1.out
  replace hS := hid hS
  replace hT := hid hT
  go_wp2_with (first
    | (at_builtin; refine wpList_append_all rfl _ _ 26 rfl w1.heap.size 5 i0 .u8 1 Try.underlying26 hi0 hz0 hz1 hz2 _ _ bs _ _ _ _ hrow2 hx2 rfl rfl rfl (by decide) (by rw [hl4.out]; omega) (by have := hB2.size; simp at this; omega) ?_; intro v3 w3 hrow3 hB3)
    | (at_builtin; refine wpList_append_all rfl _ _ 26 rfl w1.heap.size 5 i0 .u8 1 Try.underlying26 hi0 hz0 hz1 hz2 _ [] ff _ _ _ _ hrow0 hF1 rfl rfl hl4.out (by decide) (by rw [hl4.out]; simp) (by simp) ?_; intro v2 w2 hrow2 hB2; rw [List.nil_append] at hrow2; have hx2 := hX1.grown (below_grown (((Below.refl _ w1).alloc (Nat.le_refl _) _).trans hB2))))
  obtain ⟨A3, c3, rfl, hc3, hd3⟩ := own_form hrow3
  have hA3 := Arr.of_own (k := .u8) hrow3
  have hB13 : w1.grownBy w3 none := below_grown ((((Below.refl _ w1).alloc (Nat.le_refl _) _).trans hB2).trans hB3)
  have hbb : Bytes (ff ++ bs) := fun k => by
    by_cases hk : k < ff.length
    · rw [show (ff ++ bs).getD k 0 = ff.getD k 0 by simp [List.getD, List.getElem?_append_left hk]]; exact hby.out k
    · rw [show (ff ++ bs).getD k 0 = bs.getD (k - ff.length) 0 by simp [List.getD, List.getElem?_append_right (Nat.le_of_not_lt hk)]]; exact hb.out _
  refine (sumTakeFour_yes A3 c3 (ff ++ bs) w3 (by rw [List.length_append, hl4.out]; omega) (by rw [List.length_append, hl4.out]; omega) hc3 hd3 hbb hA3).mono ?_
  rintro e w4 ⟨A5, c5, rfl, hc5, hd5, hA5, hg⟩
  have hdrop : (ff ++ bs).drop 4 = bs := by rw [← hl4.out, List.drop_left]
  rw [hdrop] at hA5 hc5
  rw [hdrop, hnum.out]
  have hG4 := hid (grown_trans hG1.out (grown_trans hB13 hg))
  have hS4 := hid ((hS.out.kept0 hB13).kept0 hg)
  have hT4 := hid ((hT.out.kept0 hB13).kept0 hg)
  clear hS hT hF hrow0 hF1 hX1 hrow2 hB2 hx2 hrow3 hB3 hA3 hB13 hbb hg hdrop hby hnum hff hG1 hc3 hd3 hd5
  have cv1 := conv_arr w4 A5 c5 bs hA5
  have cv2 := conv_arr w4 X c bs (hX.out.grown hG4.out)
  replace hA5 := hid hA5
  have h3 : (3 : Int) ≤ (c4 : Int) := by omega
  generalize (ff ++ bs).length = q3
  clear hl4
  go_wp2_with fail
  clear cv1 cv2
  refine (sumTakeFour_no X4 c4 [0, 0, 0] w4 (by decide)).mono ?_
  rintro e w5 ⟨⟨A6, c6, rfl⟩, hg⟩
  have hG5 := hid (grown_trans hG4.out hg)
  have hS5 := hid (hS4.out.kept0 hg)
  have hT5 := hid (hT4.out.kept0 hg)
  clear hS4 hT4 hG4 hg hA5 h3
  go_upto_region 8 with fail
  have lS := hid hS5.out.lt
  generalize hgs : w.heap.size = gs at hS5 hT5 lS ⊢
  replace hgs := hid hgs
  cases hr : right (A, B) with
  | false =>
    replace hr := hid hr
    apply wp_region_each [isv _, isv _, isv _, isv _, isv (.bool false), isv _, isv _, isv _, isv _, isv _, isv _, isv _, isv _, isv _, isv _, isv _, isv _, isv _, isv _, isv _, isv _, isv _, isv _, isv _, isv (.bool true), isv _, isv _]
      84 [some 58, some 59, some 60, some 61, some 62, some 63, some 64, some 65, some 66, some 67, some 68, some 69, some 70, some 71, some 72, some 73, some 74, some 75, some 76, some 77, some 78, some 79, some 80, some 81, some 82, some 83, some 8]
      [some 58, some 59, some 60, some 61, some 62, some 63, some 64, some 65, some 66, some 67, some 68, some 69, some 70, some 71, some 72, some 73, some 74, some 75, some 76, some 77, some 78, some 79, some 80, some 81, some 82, some 83, some 8]
      [[], [0], [1], [2], [3, 2], [4, 2], [5, 2], [6], [7, 6], [8, 6], [6, 9, 2], [10, 2], [11], [12, 11], [11], [14, 11], [13, 15, 11], [11], [11], [17, 18, 11], [16, 19, 11], [11, 20, 2], [2, 21], [22], [23], [23, 24], [25]]
      [(6, .pointer (some ⟨gs, 0, none⟩)), (7, .pointer (some ⟨gs + 1, 0, none⟩)), (15, .int .i64 10)] (by kernel_rfl) rfl (by kernel_rfl) rfl rfl (by kernel_rfl) (OutsOk.cons rfl rfl (OutsOk.cons rfl rfl (OutsOk.cons rfl rfl OutsOk.nil))) ?st ?ob ?fin
    case ob =>
      refine Obs.consv rfl ?o0 (Obs.consv rfl ?o1 (Obs.consv rfl ?o2 (Obs.consv rfl ?o3 (Obs.consv rfl ?o4 (Obs.consv rfl ?o5 (Obs.consv rfl ?o6 (Obs.consv rfl ?o7 (Obs.consv rfl ?o8 (Obs.consv rfl ?o9 (Obs.consv rfl ?o10 (Obs.consv rfl ?o11 (Obs.consv rfl ?o12 (Obs.consv rfl ?o13 (Obs.consv rfl ?o14 (Obs.consv rfl ?o15 (Obs.consv rfl ?o16 (Obs.consv rfl ?o17 (Obs.consv rfl ?o18 (Obs.consv rfl ?o19 (Obs.consv rfl ?o20 (Obs.consv rfl ?o21 (Obs.consv rfl ?o22 (Obs.consv rfl ?o23 (Obs.consv rfl ?o24 (Obs.consv rfl ?o25 (Obs.consv rfl ?o26 Obs.nil))))))))))))))))))))))))))
      case o0 =>
        go_light
        intro a w' hgw
        obtain ⟨p0, p1⟩ := hold2 (Holds.kept0 hgw hS5.out.drew)
        obtain ⟨q0, q1⟩ := hold2 (Holds.kept0 hgw hT5.out.drew)
        replace hgw := hid hgw
        simp only [outThen, preThen, slotIs, factAt, isv, List.getElem?_cons_zero, List.getElem?_cons_succ, Option.getD_some, forall_eq]
        intros
        rename_i hK
        replace hK := hid hK
        simp only [wantedAt]
        go_simp
        exact hK.out _ _ rfl (grown_refl _ _)
      case o1 =>
        go_light
        intro a w' hgw
        obtain ⟨p0, p1⟩ := hold2 (Holds.kept0 hgw hS5.out.drew)
        obtain ⟨q0, q1⟩ := hold2 (Holds.kept0 hgw hT5.out.drew)
        replace hgw := hid hgw
        simp only [outThen, preThen, slotIs, factAt, isv, List.getElem?_cons_zero, List.getElem?_cons_succ, Option.getD_some, forall_eq]
        intros
        rename_i hK
        replace hK := hid hK
        simp only [wantedAt]
        go_simp
        exact hK.out _ _ rfl (grown_refl _ _)
      case o2 =>
        go_light
        intro a w' hgw
        obtain ⟨p0, p1⟩ := hold2 (Holds.kept0 hgw hS5.out.drew)
        obtain ⟨q0, q1⟩ := hold2 (Holds.kept0 hgw hT5.out.drew)
        replace hgw := hid hgw
        simp only [outThen, preThen, slotIs, factAt, isv, List.getElem?_cons_zero, List.getElem?_cons_succ, Option.getD_some, forall_eq]
        intros
        rename_i hK
        replace hK := hid hK
        simp only [wantedAt]
        go_simp
        exact hK.out _ _ rfl (grown_refl _ _)
      case o3 =>
        go_light
        intro a w' hgw
        obtain ⟨p0, p1⟩ := hold2 (Holds.kept0 hgw hS5.out.drew)
        obtain ⟨q0, q1⟩ := hold2 (Holds.kept0 hgw hT5.out.drew)
        replace hgw := hid hgw
        simp only [outThen, preThen, slotIs, factAt, isv, List.getElem?_cons_zero, List.getElem?_cons_succ, Option.getD_some, forall_eq]
        intros
        rename_i hK
        replace hK := hid hK
        simp only [wantedAt]
        go_simp
        exact hK.out _ _ rfl (grown_refl _ _)
      case o4 =>
        go_light
        intro a w' hgw
        obtain ⟨p0, p1⟩ := hold2 (Holds.kept0 hgw hS5.out.drew)
        obtain ⟨q0, q1⟩ := hold2 (Holds.kept0 hgw hT5.out.drew)
        replace hgw := hid hgw
        simp only [outThen, preThen, slotIs, factAt, isv, List.getElem?_cons_zero, List.getElem?_cons_succ, Option.getD_some, forall_eq]
        intros
        rename_i hK
        replace hK := hid hK
        simp only [wantedAt]
        go_simp
        refine (sumRight_no A B _ hr.out).mono ?_
        rintro e w9 ⟨rfl, hg⟩
        exact hK.out _ _ rfl hg
      case o5 =>
        go_light
        intro a w' hgw
        obtain ⟨p0, p1⟩ := hold2 (Holds.kept0 hgw hS5.out.drew)
        obtain ⟨q0, q1⟩ := hold2 (Holds.kept0 hgw hT5.out.drew)
        replace hgw := hid hgw
        simp only [outThen, preThen, slotIs, factAt, isv, List.getElem?_cons_zero, List.getElem?_cons_succ, Option.getD_some, forall_eq]
        intros
        rename_i hK
        replace hK := hid hK
        simp only [wantedAt]
        go_simp
        exact hK.out _ _ rfl (grown_refl _ _)
      case o6 =>
        go_light
        intro a w' hgw
        obtain ⟨p0, p1⟩ := hold2 (Holds.kept0 hgw hS5.out.drew)
        obtain ⟨q0, q1⟩ := hold2 (Holds.kept0 hgw hT5.out.drew)
        replace hgw := hid hgw
        simp only [outThen, preThen, slotIs, factAt, isv, List.getElem?_cons_zero, List.getElem?_cons_succ, Option.getD_some, forall_eq]
        intros
        rename_i hK
        replace hK := hid hK
        simp only [wantedAt]
        go_simp
        exact hK.out _ _ rfl (grown_refl _ _)
      case o7 =>
        go_light
        intro a w' hgw
        obtain ⟨p0, p1⟩ := hold2 (Holds.kept0 hgw hS5.out.drew)
        obtain ⟨q0, q1⟩ := hold2 (Holds.kept0 hgw hT5.out.drew)
        replace hgw := hid hgw
        simp only [outThen, preThen, slotIs, factAt, isv, List.getElem?_cons_zero, List.getElem?_cons_succ, Option.getD_some, forall_eq]
        intros
        rename_i hK
        replace hK := hid hK
        simp only [wantedAt]
        go_simp
        exact hK.out _ _ rfl (grown_refl _ _)
      case o8 =>
        go_light
        intro a w' hgw
        obtain ⟨p0, p1⟩ := hold2 (Holds.kept0 hgw hS5.out.drew)
        obtain ⟨q0, q1⟩ := hold2 (Holds.kept0 hgw hT5.out.drew)
        replace hgw := hid hgw
        simp only [outThen, preThen, slotIs, factAt, isv, List.getElem?_cons_zero, List.getElem?_cons_succ, Option.getD_some, forall_eq]
        intros
        rename_i hK
        replace hK := hid hK
        simp only [wantedAt]
        go_simp
        exact hK.out _ _ rfl (grown_refl _ _)
      case o9 =>
        go_light
        intro a w' hgw
        obtain ⟨p0, p1⟩ := hold2 (Holds.kept0 hgw hS5.out.drew)
        obtain ⟨q0, q1⟩ := hold2 (Holds.kept0 hgw hT5.out.drew)
        replace hgw := hid hgw
        simp only [outThen, preThen, slotIs, factAt, isv, List.getElem?_cons_zero, List.getElem?_cons_succ, Option.getD_some, forall_eq]
        intros
        rename_i hK
        replace hK := hid hK
        simp only [wantedAt]
        go_simp
        exact hK.out _ _ rfl (grown_refl _ _)
      case o10 =>
        go_light
        intro a w' hgw
        obtain ⟨p0, p1⟩ := hold2 (Holds.kept0 hgw hS5.out.drew)
        obtain ⟨q0, q1⟩ := hold2 (Holds.kept0 hgw hT5.out.drew)
        replace hgw := hid hgw
        simp only [outThen, preThen, slotIs, factAt, isv, List.getElem?_cons_zero, List.getElem?_cons_succ, Option.getD_some, forall_eq]
        intros
        rename_i hK
        replace hK := hid hK
        simp only [wantedAt]
        go_simp
        exact hK.out _ _ rfl (grown_refl _ _)
      case o11 =>
        go_light
        intro a w' hgw
        obtain ⟨p0, p1⟩ := hold2 (Holds.kept0 hgw hS5.out.drew)
        obtain ⟨q0, q1⟩ := hold2 (Holds.kept0 hgw hT5.out.drew)
        replace hgw := hid hgw
        simp only [outThen, preThen, slotIs, factAt, isv, List.getElem?_cons_zero, List.getElem?_cons_succ, Option.getD_some, forall_eq]
        intros
        rename_i hK
        replace hK := hid hK
        simp only [wantedAt]
        go_simp
        exact hK.out _ _ rfl (grown_refl _ _)
      case o12 =>
        go_light
        intro a w' hgw
        obtain ⟨p0, p1⟩ := hold2 (Holds.kept0 hgw hS5.out.drew)
        obtain ⟨q0, q1⟩ := hold2 (Holds.kept0 hgw hT5.out.drew)
        replace hgw := hid hgw
        simp only [outThen, preThen, slotIs, factAt, isv, List.getElem?_cons_zero, List.getElem?_cons_succ, Option.getD_some, forall_eq]
        intros
        rename_i hK
        replace hK := hid hK
        simp only [wantedAt]
        go_simp
        exact hK.out _ _ rfl (grown_refl _ _)
      case o13 =>
        go_light
        intro a w' hgw
        obtain ⟨p0, p1⟩ := hold2 (Holds.kept0 hgw hS5.out.drew)
        obtain ⟨q0, q1⟩ := hold2 (Holds.kept0 hgw hT5.out.drew)
        replace hgw := hid hgw
        simp only [outThen, preThen, slotIs, factAt, isv, List.getElem?_cons_zero, List.getElem?_cons_succ, Option.getD_some, forall_eq]
        intros
        rename_i hK
        replace hK := hid hK
        simp only [wantedAt]
        go_simp
        exact hK.out _ _ rfl (grown_refl _ _)
      case o14 =>
        go_light
        intro a w' hgw
        obtain ⟨p0, p1⟩ := hold2 (Holds.kept0 hgw hS5.out.drew)
        obtain ⟨q0, q1⟩ := hold2 (Holds.kept0 hgw hT5.out.drew)
        replace hgw := hid hgw
        simp only [outThen, preThen, slotIs, factAt, isv, List.getElem?_cons_zero, List.getElem?_cons_succ, Option.getD_some, forall_eq]
        intros
        rename_i hK
        replace hK := hid hK
        simp only [wantedAt]
        go_simp
        exact hK.out _ _ rfl (grown_refl _ _)
      case o15 =>
        go_light
        intro a w' hgw
        obtain ⟨p0, p1⟩ := hold2 (Holds.kept0 hgw hS5.out.drew)
        obtain ⟨q0, q1⟩ := hold2 (Holds.kept0 hgw hT5.out.drew)
        replace hgw := hid hgw
        simp only [outThen, preThen, slotIs, factAt, isv, List.getElem?_cons_zero, List.getElem?_cons_succ, Option.getD_some, forall_eq]
        intros
        rename_i hK
        replace hK := hid hK
        simp only [wantedAt]
        go_simp
        exact hK.out _ _ rfl (grown_refl _ _)
      case o16 =>
        go_light
        intro a w' hgw
        obtain ⟨p0, p1⟩ := hold2 (Holds.kept0 hgw hS5.out.drew)
        obtain ⟨q0, q1⟩ := hold2 (Holds.kept0 hgw hT5.out.drew)
        replace hgw := hid hgw
        simp only [outThen, preThen, slotIs, factAt, isv, List.getElem?_cons_zero, List.getElem?_cons_succ, Option.getD_some, forall_eq]
        intros
        rename_i hK
        replace hK := hid hK
        simp only [wantedAt]
        go_simp
        exact hK.out _ _ rfl (grown_refl _ _)
      case o17 =>
        go_light
        intro a w' hgw
        obtain ⟨p0, p1⟩ := hold2 (Holds.kept0 hgw hS5.out.drew)
        obtain ⟨q0, q1⟩ := hold2 (Holds.kept0 hgw hT5.out.drew)
        replace hgw := hid hgw
        simp only [outThen, preThen, slotIs, factAt, isv, List.getElem?_cons_zero, List.getElem?_cons_succ, Option.getD_some, forall_eq]
        intros
        rename_i hK
        replace hK := hid hK
        simp only [wantedAt]
        go_simp
        exact hK.out _ _ rfl (grown_refl _ _)
      case o18 =>
        go_light
        intro a w' hgw
        obtain ⟨p0, p1⟩ := hold2 (Holds.kept0 hgw hS5.out.drew)
        obtain ⟨q0, q1⟩ := hold2 (Holds.kept0 hgw hT5.out.drew)
        replace hgw := hid hgw
        simp only [outThen, preThen, slotIs, factAt, isv, List.getElem?_cons_zero, List.getElem?_cons_succ, Option.getD_some, forall_eq]
        intros
        rename_i hK
        replace hK := hid hK
        simp only [wantedAt]
        go_simp
        exact hK.out _ _ rfl (grown_refl _ _)
      case o19 =>
        go_light
        intro a w' hgw
        obtain ⟨p0, p1⟩ := hold2 (Holds.kept0 hgw hS5.out.drew)
        obtain ⟨q0, q1⟩ := hold2 (Holds.kept0 hgw hT5.out.drew)
        replace hgw := hid hgw
        simp only [outThen, preThen, slotIs, factAt, isv, List.getElem?_cons_zero, List.getElem?_cons_succ, Option.getD_some, forall_eq]
        intros
        rename_i hK
        replace hK := hid hK
        simp only [wantedAt]
        go_simp
        exact hK.out _ _ rfl (grown_refl _ _)
      case o20 =>
        go_light
        intro a w' hgw
        obtain ⟨p0, p1⟩ := hold2 (Holds.kept0 hgw hS5.out.drew)
        obtain ⟨q0, q1⟩ := hold2 (Holds.kept0 hgw hT5.out.drew)
        replace hgw := hid hgw
        simp only [outThen, preThen, slotIs, factAt, isv, List.getElem?_cons_zero, List.getElem?_cons_succ, Option.getD_some, forall_eq]
        intros
        rename_i hK
        replace hK := hid hK
        simp only [wantedAt]
        go_simp
        exact hK.out _ _ rfl (grown_refl _ _)
      case o21 =>
        go_light
        intro a w' hgw
        obtain ⟨p0, p1⟩ := hold2 (Holds.kept0 hgw hS5.out.drew)
        obtain ⟨q0, q1⟩ := hold2 (Holds.kept0 hgw hT5.out.drew)
        replace hgw := hid hgw
        simp only [outThen, preThen, slotIs, factAt, isv, List.getElem?_cons_zero, List.getElem?_cons_succ, Option.getD_some, forall_eq]
        intros
        rename_i hK
        replace hK := hid hK
        simp only [wantedAt]
        go_simp
        exact hK.out _ _ rfl (grown_refl _ _)
      case o22 =>
        go_light
        intro a w' hgw
        obtain ⟨p0, p1⟩ := hold2 (Holds.kept0 hgw hS5.out.drew)
        obtain ⟨q0, q1⟩ := hold2 (Holds.kept0 hgw hT5.out.drew)
        replace hgw := hid hgw
        simp only [outThen, preThen, slotIs, factAt, isv, List.getElem?_cons_zero, List.getElem?_cons_succ, Option.getD_some, forall_eq]
        intros
        rename_i hK
        replace hK := hid hK
        simp only [wantedAt]
        go_simp
        exact hK.out _ _ rfl (grown_refl _ _)
      case o23 =>
        go_light
        intro a w' hgw
        obtain ⟨p0, p1⟩ := hold2 (Holds.kept0 hgw hS5.out.drew)
        obtain ⟨q0, q1⟩ := hold2 (Holds.kept0 hgw hT5.out.drew)
        replace hgw := hid hgw
        simp only [outThen, preThen, slotIs, factAt, isv, List.getElem?_cons_zero, List.getElem?_cons_succ, Option.getD_some, forall_eq]
        intros
        rename_i hK
        replace hK := hid hK
        simp only [wantedAt]
        go_simp
        exact hK.out _ _ rfl (grown_refl _ _)
      case o24 =>
        go_light
        intro a w' hgw
        obtain ⟨p0, p1⟩ := hold2 (Holds.kept0 hgw hS5.out.drew)
        obtain ⟨q0, q1⟩ := hold2 (Holds.kept0 hgw hT5.out.drew)
        replace hgw := hid hgw
        simp only [outThen, preThen, slotIs, factAt, isv, List.getElem?_cons_zero, List.getElem?_cons_succ, Option.getD_some, forall_eq]
        intros
        rename_i hK
        replace hK := hid hK
        simp only [wantedAt]
        go_simp
        refine (wakes_true _).mono ?_
        rintro e w9 ⟨rfl, hg⟩
        exact hK.out _ _ rfl hg
      case o25 =>
        go_light
        intro a w' hgw
        obtain ⟨p0, p1⟩ := hold2 (Holds.kept0 hgw hS5.out.drew)
        obtain ⟨q0, q1⟩ := hold2 (Holds.kept0 hgw hT5.out.drew)
        replace hgw := hid hgw
        simp only [outThen, preThen, slotIs, factAt, isv, List.getElem?_cons_zero, List.getElem?_cons_succ, Option.getD_some, forall_eq]
        intros
        rename_i hK
        replace hK := hid hK
        simp only [wantedAt]
        go_simp
        exact hK.out _ _ rfl (grown_refl _ _)
      case o26 =>
        go_light
        intro a w' hgw
        obtain ⟨p0, p1⟩ := hold2 (Holds.kept0 hgw hS5.out.drew)
        obtain ⟨q0, q1⟩ := hold2 (Holds.kept0 hgw hT5.out.drew)
        replace hgw := hid hgw
        simp only [outThen, preThen, slotIs, factAt, isv, List.getElem?_cons_zero, List.getElem?_cons_succ, Option.getD_some, forall_eq]
        intros
        rename_i hK
        replace hK := hid hK
        simp only [wantedAt]
        go_simp
        exact hK.out _ _ rfl (grown_refl _ _)
    case st =>
      repeat (first | exact AllStable.nil | (refine AllStable.cons ?_ ?_; focus (first | exact stable_isv _ | exact stable_isBytes _ | exact stable_isRow1 _ | exact stable_isRowOf _ _ | exact stable_isVar _ | exact stable_isVarOf _ _ _)))
    case fin =>
      intro w8 hgw
      simp only [finalIn, factAt, isv, List.getElem?_cons_zero, List.getElem?_cons_succ, Option.getD_some, forall_eq, slotIs, subj]
      simp only [Act.put, List.setIfInBounds_toArray, List.set_cons_zero, List.set_cons_succ]
      replace hG5 := hid (grown_trans (grown_drew hG5.out) hgw)
      clear hgw
      go_wp2_with fail
      go_ret
      exact ⟨rfl, hG5.out⟩
  | true =>
    cases ht : right (C, D) with
    | false =>
      replace hr := hid hr
      replace ht := hid ht
      apply wp_region_each [isv _, isv _, isv _, isv _, isv (.bool true), isv _, isv _, isv _, isv (.bool false), isv _, isv _, isv _, isv _, isv _, isv _, isv _, isv _, isv _, isv _, isv _, isv _, isv _, isv _, isv _, isv (.bool true), isv _, isv _]
        84 [some 58, some 59, some 60, some 61, some 62, some 63, some 64, some 65, some 66, some 67, some 68, some 69, some 70, some 71, some 72, some 73, some 74, some 75, some 76, some 77, some 78, some 79, some 80, some 81, some 82, some 83, some 8]
        [some 58, some 59, some 60, some 61, some 62, some 63, some 64, some 65, some 66, some 67, some 68, some 69, some 70, some 71, some 72, some 73, some 74, some 75, some 76, some 77, some 78, some 79, some 80, some 81, some 82, some 83, some 8]
        [[], [0], [1], [2], [3, 2], [4, 2], [5, 2], [6], [7, 6], [8, 6], [6, 9, 2], [10, 2], [11], [12, 11], [11], [14, 11], [13, 15, 11], [11], [11], [17, 18, 11], [16, 19, 11], [11, 20, 2], [2, 21], [22], [23], [23, 24], [25]]
        [(6, .pointer (some ⟨gs, 0, none⟩)), (7, .pointer (some ⟨gs + 1, 0, none⟩)), (15, .int .i64 10)] (by kernel_rfl) rfl (by kernel_rfl) rfl rfl (by kernel_rfl) (OutsOk.cons rfl rfl (OutsOk.cons rfl rfl (OutsOk.cons rfl rfl OutsOk.nil))) ?st ?ob ?fin
      case ob =>
        refine Obs.consv rfl ?o0 (Obs.consv rfl ?o1 (Obs.consv rfl ?o2 (Obs.consv rfl ?o3 (Obs.consv rfl ?o4 (Obs.consv rfl ?o5 (Obs.consv rfl ?o6 (Obs.consv rfl ?o7 (Obs.consv rfl ?o8 (Obs.consv rfl ?o9 (Obs.consv rfl ?o10 (Obs.consv rfl ?o11 (Obs.consv rfl ?o12 (Obs.consv rfl ?o13 (Obs.consv rfl ?o14 (Obs.consv rfl ?o15 (Obs.consv rfl ?o16 (Obs.consv rfl ?o17 (Obs.consv rfl ?o18 (Obs.consv rfl ?o19 (Obs.consv rfl ?o20 (Obs.consv rfl ?o21 (Obs.consv rfl ?o22 (Obs.consv rfl ?o23 (Obs.consv rfl ?o24 (Obs.consv rfl ?o25 (Obs.consv rfl ?o26 Obs.nil))))))))))))))))))))))))))
        case o0 =>
          go_light
          intro a w' hgw
          obtain ⟨p0, p1⟩ := hold2 (Holds.kept0 hgw hS5.out.drew)
          obtain ⟨q0, q1⟩ := hold2 (Holds.kept0 hgw hT5.out.drew)
          replace hgw := hid hgw
          simp only [outThen, preThen, slotIs, factAt, isv, List.getElem?_cons_zero, List.getElem?_cons_succ, Option.getD_some, forall_eq]
          intros
          rename_i hK
          replace hK := hid hK
          simp only [wantedAt]
          go_simp
          exact hK.out _ _ rfl (grown_refl _ _)
        case o1 =>
          go_light
          intro a w' hgw
          obtain ⟨p0, p1⟩ := hold2 (Holds.kept0 hgw hS5.out.drew)
          obtain ⟨q0, q1⟩ := hold2 (Holds.kept0 hgw hT5.out.drew)
          replace hgw := hid hgw
          simp only [outThen, preThen, slotIs, factAt, isv, List.getElem?_cons_zero, List.getElem?_cons_succ, Option.getD_some, forall_eq]
          intros
          rename_i hK
          replace hK := hid hK
          simp only [wantedAt]
          go_simp
          exact hK.out _ _ rfl (grown_refl _ _)
        case o2 =>
          go_light
          intro a w' hgw
          obtain ⟨p0, p1⟩ := hold2 (Holds.kept0 hgw hS5.out.drew)
          obtain ⟨q0, q1⟩ := hold2 (Holds.kept0 hgw hT5.out.drew)
          replace hgw := hid hgw
          simp only [outThen, preThen, slotIs, factAt, isv, List.getElem?_cons_zero, List.getElem?_cons_succ, Option.getD_some, forall_eq]
          intros
          rename_i hK
          replace hK := hid hK
          simp only [wantedAt]
          go_simp
          exact hK.out _ _ rfl (grown_refl _ _)
        case o3 =>
          go_light
          intro a w' hgw
          obtain ⟨p0, p1⟩ := hold2 (Holds.kept0 hgw hS5.out.drew)
          obtain ⟨q0, q1⟩ := hold2 (Holds.kept0 hgw hT5.out.drew)
          replace hgw := hid hgw
          simp only [outThen, preThen, slotIs, factAt, isv, List.getElem?_cons_zero, List.getElem?_cons_succ, Option.getD_some, forall_eq]
          intros
          rename_i hK
          replace hK := hid hK
          simp only [wantedAt]
          go_simp
          exact hK.out _ _ rfl (grown_refl _ _)
        case o4 =>
          go_light
          intro a w' hgw
          obtain ⟨p0, p1⟩ := hold2 (Holds.kept0 hgw hS5.out.drew)
          obtain ⟨q0, q1⟩ := hold2 (Holds.kept0 hgw hT5.out.drew)
          replace hgw := hid hgw
          simp only [outThen, preThen, slotIs, factAt, isv, List.getElem?_cons_zero, List.getElem?_cons_succ, Option.getD_some, forall_eq]
          intros
          rename_i hK
          replace hK := hid hK
          simp only [wantedAt]
          go_simp
          refine (sumRight_yes A B _ hr.out).mono ?_
          rintro e w9 ⟨rfl, hg⟩
          exact hK.out _ _ rfl hg
        case o5 =>
          go_light
          intro a w' hgw
          obtain ⟨p0, p1⟩ := hold2 (Holds.kept0 hgw hS5.out.drew)
          obtain ⟨q0, q1⟩ := hold2 (Holds.kept0 hgw hT5.out.drew)
          replace hgw := hid hgw
          simp only [outThen, preThen, slotIs, factAt, isv, List.getElem?_cons_zero, List.getElem?_cons_succ, Option.getD_some, forall_eq]
          intros
          rename_i hK
          replace hK := hid hK
          simp only [wantedAt]
          go_simp
          exact hK.out _ _ rfl (grown_refl _ _)
        case o6 =>
          go_light
          intro a w' hgw
          obtain ⟨p0, p1⟩ := hold2 (Holds.kept0 hgw hS5.out.drew)
          obtain ⟨q0, q1⟩ := hold2 (Holds.kept0 hgw hT5.out.drew)
          replace hgw := hid hgw
          simp only [outThen, preThen, slotIs, factAt, isv, List.getElem?_cons_zero, List.getElem?_cons_succ, Option.getD_some, forall_eq]
          intros
          rename_i hK
          replace hK := hid hK
          simp only [wantedAt]
          go_simp
          exact hK.out _ _ rfl (grown_refl _ _)
        case o7 =>
          go_light
          intro a w' hgw
          obtain ⟨p0, p1⟩ := hold2 (Holds.kept0 hgw hS5.out.drew)
          obtain ⟨q0, q1⟩ := hold2 (Holds.kept0 hgw hT5.out.drew)
          replace hgw := hid hgw
          simp only [outThen, preThen, slotIs, factAt, isv, List.getElem?_cons_zero, List.getElem?_cons_succ, Option.getD_some, forall_eq]
          intros
          rename_i hK
          replace hK := hid hK
          simp only [wantedAt]
          go_simp
          exact hK.out _ _ rfl (grown_refl _ _)
        case o8 =>
          go_light
          intro a w' hgw
          obtain ⟨p0, p1⟩ := hold2 (Holds.kept0 hgw hS5.out.drew)
          obtain ⟨q0, q1⟩ := hold2 (Holds.kept0 hgw hT5.out.drew)
          replace hgw := hid hgw
          simp only [outThen, preThen, slotIs, factAt, isv, List.getElem?_cons_zero, List.getElem?_cons_succ, Option.getD_some, forall_eq]
          intros
          rename_i hK
          replace hK := hid hK
          simp only [wantedAt]
          go_simp
          refine (sumRight_no C D _ ht.out).mono ?_
          rintro e w9 ⟨rfl, hg⟩
          exact hK.out _ _ rfl hg
        case o9 =>
          go_light
          intro a w' hgw
          obtain ⟨p0, p1⟩ := hold2 (Holds.kept0 hgw hS5.out.drew)
          obtain ⟨q0, q1⟩ := hold2 (Holds.kept0 hgw hT5.out.drew)
          replace hgw := hid hgw
          simp only [outThen, preThen, slotIs, factAt, isv, List.getElem?_cons_zero, List.getElem?_cons_succ, Option.getD_some, forall_eq]
          intros
          rename_i hK
          replace hK := hid hK
          simp only [wantedAt]
          go_simp
          exact hK.out _ _ rfl (grown_refl _ _)
        case o10 =>
          go_light
          intro a w' hgw
          obtain ⟨p0, p1⟩ := hold2 (Holds.kept0 hgw hS5.out.drew)
          obtain ⟨q0, q1⟩ := hold2 (Holds.kept0 hgw hT5.out.drew)
          replace hgw := hid hgw
          simp only [outThen, preThen, slotIs, factAt, isv, List.getElem?_cons_zero, List.getElem?_cons_succ, Option.getD_some, forall_eq]
          intros
          rename_i hK
          replace hK := hid hK
          simp only [wantedAt]
          go_simp
          exact hK.out _ _ rfl (grown_refl _ _)
        case o11 =>
          go_light
          intro a w' hgw
          obtain ⟨p0, p1⟩ := hold2 (Holds.kept0 hgw hS5.out.drew)
          obtain ⟨q0, q1⟩ := hold2 (Holds.kept0 hgw hT5.out.drew)
          replace hgw := hid hgw
          simp only [outThen, preThen, slotIs, factAt, isv, List.getElem?_cons_zero, List.getElem?_cons_succ, Option.getD_some, forall_eq]
          intros
          rename_i hK
          replace hK := hid hK
          simp only [wantedAt]
          go_simp
          exact hK.out _ _ rfl (grown_refl _ _)
        case o12 =>
          go_light
          intro a w' hgw
          obtain ⟨p0, p1⟩ := hold2 (Holds.kept0 hgw hS5.out.drew)
          obtain ⟨q0, q1⟩ := hold2 (Holds.kept0 hgw hT5.out.drew)
          replace hgw := hid hgw
          simp only [outThen, preThen, slotIs, factAt, isv, List.getElem?_cons_zero, List.getElem?_cons_succ, Option.getD_some, forall_eq]
          intros
          rename_i hK
          replace hK := hid hK
          simp only [wantedAt]
          go_simp
          exact hK.out _ _ rfl (grown_refl _ _)
        case o13 =>
          go_light
          intro a w' hgw
          obtain ⟨p0, p1⟩ := hold2 (Holds.kept0 hgw hS5.out.drew)
          obtain ⟨q0, q1⟩ := hold2 (Holds.kept0 hgw hT5.out.drew)
          replace hgw := hid hgw
          simp only [outThen, preThen, slotIs, factAt, isv, List.getElem?_cons_zero, List.getElem?_cons_succ, Option.getD_some, forall_eq]
          intros
          rename_i hK
          replace hK := hid hK
          simp only [wantedAt]
          go_simp
          exact hK.out _ _ rfl (grown_refl _ _)
        case o14 =>
          go_light
          intro a w' hgw
          obtain ⟨p0, p1⟩ := hold2 (Holds.kept0 hgw hS5.out.drew)
          obtain ⟨q0, q1⟩ := hold2 (Holds.kept0 hgw hT5.out.drew)
          replace hgw := hid hgw
          simp only [outThen, preThen, slotIs, factAt, isv, List.getElem?_cons_zero, List.getElem?_cons_succ, Option.getD_some, forall_eq]
          intros
          rename_i hK
          replace hK := hid hK
          simp only [wantedAt]
          go_simp
          exact hK.out _ _ rfl (grown_refl _ _)
        case o15 =>
          go_light
          intro a w' hgw
          obtain ⟨p0, p1⟩ := hold2 (Holds.kept0 hgw hS5.out.drew)
          obtain ⟨q0, q1⟩ := hold2 (Holds.kept0 hgw hT5.out.drew)
          replace hgw := hid hgw
          simp only [outThen, preThen, slotIs, factAt, isv, List.getElem?_cons_zero, List.getElem?_cons_succ, Option.getD_some, forall_eq]
          intros
          rename_i hK
          replace hK := hid hK
          simp only [wantedAt]
          go_simp
          exact hK.out _ _ rfl (grown_refl _ _)
        case o16 =>
          go_light
          intro a w' hgw
          obtain ⟨p0, p1⟩ := hold2 (Holds.kept0 hgw hS5.out.drew)
          obtain ⟨q0, q1⟩ := hold2 (Holds.kept0 hgw hT5.out.drew)
          replace hgw := hid hgw
          simp only [outThen, preThen, slotIs, factAt, isv, List.getElem?_cons_zero, List.getElem?_cons_succ, Option.getD_some, forall_eq]
          intros
          rename_i hK
          replace hK := hid hK
          simp only [wantedAt]
          go_simp
          exact hK.out _ _ rfl (grown_refl _ _)
        case o17 =>
          go_light
          intro a w' hgw
          obtain ⟨p0, p1⟩ := hold2 (Holds.kept0 hgw hS5.out.drew)
          obtain ⟨q0, q1⟩ := hold2 (Holds.kept0 hgw hT5.out.drew)
          replace hgw := hid hgw
          simp only [outThen, preThen, slotIs, factAt, isv, List.getElem?_cons_zero, List.getElem?_cons_succ, Option.getD_some, forall_eq]
          intros
          rename_i hK
          replace hK := hid hK
          simp only [wantedAt]
          go_simp
          exact hK.out _ _ rfl (grown_refl _ _)
        case o18 =>
          go_light
          intro a w' hgw
          obtain ⟨p0, p1⟩ := hold2 (Holds.kept0 hgw hS5.out.drew)
          obtain ⟨q0, q1⟩ := hold2 (Holds.kept0 hgw hT5.out.drew)
          replace hgw := hid hgw
          simp only [outThen, preThen, slotIs, factAt, isv, List.getElem?_cons_zero, List.getElem?_cons_succ, Option.getD_some, forall_eq]
          intros
          rename_i hK
          replace hK := hid hK
          simp only [wantedAt]
          go_simp
          exact hK.out _ _ rfl (grown_refl _ _)
        case o19 =>
          go_light
          intro a w' hgw
          obtain ⟨p0, p1⟩ := hold2 (Holds.kept0 hgw hS5.out.drew)
          obtain ⟨q0, q1⟩ := hold2 (Holds.kept0 hgw hT5.out.drew)
          replace hgw := hid hgw
          simp only [outThen, preThen, slotIs, factAt, isv, List.getElem?_cons_zero, List.getElem?_cons_succ, Option.getD_some, forall_eq]
          intros
          rename_i hK
          replace hK := hid hK
          simp only [wantedAt]
          go_simp
          exact hK.out _ _ rfl (grown_refl _ _)
        case o20 =>
          go_light
          intro a w' hgw
          obtain ⟨p0, p1⟩ := hold2 (Holds.kept0 hgw hS5.out.drew)
          obtain ⟨q0, q1⟩ := hold2 (Holds.kept0 hgw hT5.out.drew)
          replace hgw := hid hgw
          simp only [outThen, preThen, slotIs, factAt, isv, List.getElem?_cons_zero, List.getElem?_cons_succ, Option.getD_some, forall_eq]
          intros
          rename_i hK
          replace hK := hid hK
          simp only [wantedAt]
          go_simp
          exact hK.out _ _ rfl (grown_refl _ _)
        case o21 =>
          go_light
          intro a w' hgw
          obtain ⟨p0, p1⟩ := hold2 (Holds.kept0 hgw hS5.out.drew)
          obtain ⟨q0, q1⟩ := hold2 (Holds.kept0 hgw hT5.out.drew)
          replace hgw := hid hgw
          simp only [outThen, preThen, slotIs, factAt, isv, List.getElem?_cons_zero, List.getElem?_cons_succ, Option.getD_some, forall_eq]
          intros
          rename_i hK
          replace hK := hid hK
          simp only [wantedAt]
          go_simp
          exact hK.out _ _ rfl (grown_refl _ _)
        case o22 =>
          go_light
          intro a w' hgw
          obtain ⟨p0, p1⟩ := hold2 (Holds.kept0 hgw hS5.out.drew)
          obtain ⟨q0, q1⟩ := hold2 (Holds.kept0 hgw hT5.out.drew)
          replace hgw := hid hgw
          simp only [outThen, preThen, slotIs, factAt, isv, List.getElem?_cons_zero, List.getElem?_cons_succ, Option.getD_some, forall_eq]
          intros
          rename_i hK
          replace hK := hid hK
          simp only [wantedAt]
          go_simp
          exact hK.out _ _ rfl (grown_refl _ _)
        case o23 =>
          go_light
          intro a w' hgw
          obtain ⟨p0, p1⟩ := hold2 (Holds.kept0 hgw hS5.out.drew)
          obtain ⟨q0, q1⟩ := hold2 (Holds.kept0 hgw hT5.out.drew)
          replace hgw := hid hgw
          simp only [outThen, preThen, slotIs, factAt, isv, List.getElem?_cons_zero, List.getElem?_cons_succ, Option.getD_some, forall_eq]
          intros
          rename_i hK
          replace hK := hid hK
          simp only [wantedAt]
          go_simp
          exact hK.out _ _ rfl (grown_refl _ _)
        case o24 =>
          go_light
          intro a w' hgw
          obtain ⟨p0, p1⟩ := hold2 (Holds.kept0 hgw hS5.out.drew)
          obtain ⟨q0, q1⟩ := hold2 (Holds.kept0 hgw hT5.out.drew)
          replace hgw := hid hgw
          simp only [outThen, preThen, slotIs, factAt, isv, List.getElem?_cons_zero, List.getElem?_cons_succ, Option.getD_some, forall_eq]
          intros
          rename_i hK
          replace hK := hid hK
          simp only [wantedAt]
          go_simp
          refine (wakes_true _).mono ?_
          rintro e w9 ⟨rfl, hg⟩
          exact hK.out _ _ rfl hg
        case o25 =>
          go_light
          intro a w' hgw
          obtain ⟨p0, p1⟩ := hold2 (Holds.kept0 hgw hS5.out.drew)
          obtain ⟨q0, q1⟩ := hold2 (Holds.kept0 hgw hT5.out.drew)
          replace hgw := hid hgw
          simp only [outThen, preThen, slotIs, factAt, isv, List.getElem?_cons_zero, List.getElem?_cons_succ, Option.getD_some, forall_eq]
          intros
          rename_i hK
          replace hK := hid hK
          simp only [wantedAt]
          go_simp
          exact hK.out _ _ rfl (grown_refl _ _)
        case o26 =>
          go_light
          intro a w' hgw
          obtain ⟨p0, p1⟩ := hold2 (Holds.kept0 hgw hS5.out.drew)
          obtain ⟨q0, q1⟩ := hold2 (Holds.kept0 hgw hT5.out.drew)
          replace hgw := hid hgw
          simp only [outThen, preThen, slotIs, factAt, isv, List.getElem?_cons_zero, List.getElem?_cons_succ, Option.getD_some, forall_eq]
          intros
          rename_i hK
          replace hK := hid hK
          simp only [wantedAt]
          go_simp
          exact hK.out _ _ rfl (grown_refl _ _)
      case st =>
        repeat (first | exact AllStable.nil | (refine AllStable.cons ?_ ?_; focus (first | exact stable_isv _ | exact stable_isBytes _ | exact stable_isRow1 _ | exact stable_isRowOf _ _ | exact stable_isVar _ | exact stable_isVarOf _ _ _)))
      case fin =>
        intro w8 hgw
        simp only [finalIn, factAt, isv, List.getElem?_cons_zero, List.getElem?_cons_succ, Option.getD_some, forall_eq, slotIs, subj]
        simp only [Act.put, List.setIfInBounds_toArray, List.set_cons_zero, List.set_cons_succ]
        replace hG5 := hid (grown_trans (grown_drew hG5.out) hgw)
        clear hgw
        go_wp2_with fail
        go_ret
        exact ⟨rfl, hG5.out⟩
    | true =>
      have hval := value_inj (A, B) (C, D) hr ht
      replace hr := hid hr
      replace ht := hid ht
      by_cases hAC : A = C
      · subst hAC
        by_cases hBD : B = D
        · subst hBD
          clear hval
          apply wp_region_each [isv _, isv _, isv _, isv _, isv (.bool true), isv _, isv _, isv _, isv (.bool true), isv _, isv _, isv _, isv _, isv (.int .u32 (value (A, B))), isv _, isv (.int .u32 (value (A, B))), isv _, isv _, isv _, isv _, isv _, isv _, isv _, isv _, isv (.bool true), isv _, isv _]
            84 [some 58, some 59, some 60, some 61, some 62, some 63, some 64, some 65, some 66, some 67, some 68, some 69, some 70, some 71, some 72, some 73, some 74, some 75, some 76, some 77, some 78, some 79, some 80, some 81, some 82, some 83, some 8]
            [some 58, some 59, some 60, some 61, some 62, some 63, some 64, some 65, some 66, some 67, some 68, some 69, some 70, some 71, some 72, some 73, some 74, some 75, some 76, some 77, some 78, some 79, some 80, some 81, some 82, some 83, some 8]
            [[], [0], [1], [2], [3, 2], [4, 2], [5, 2], [6], [7, 6], [8, 6], [6, 9, 2], [10, 2], [11], [12, 11], [11], [14, 11], [13, 15, 11], [11], [11], [17, 18, 11], [16, 19, 11], [11, 20, 2], [2, 21], [22], [23], [23, 24], [25]]
            [(6, .pointer (some ⟨gs, 0, none⟩)), (7, .pointer (some ⟨gs + 1, 0, none⟩)), (15, .int .i64 10)] (by kernel_rfl) rfl (by kernel_rfl) rfl rfl (by kernel_rfl) (OutsOk.cons rfl rfl (OutsOk.cons rfl rfl (OutsOk.cons rfl rfl OutsOk.nil))) ?st ?ob ?fin
          case ob =>
            refine Obs.consv rfl ?o0 (Obs.consv rfl ?o1 (Obs.consv rfl ?o2 (Obs.consv rfl ?o3 (Obs.consv rfl ?o4 (Obs.consv rfl ?o5 (Obs.consv rfl ?o6 (Obs.consv rfl ?o7 (Obs.consv rfl ?o8 (Obs.consv rfl ?o9 (Obs.consv rfl ?o10 (Obs.consv rfl ?o11 (Obs.consv rfl ?o12 (Obs.consv rfl ?o13 (Obs.consv rfl ?o14 (Obs.consv rfl ?o15 (Obs.consv rfl ?o16 (Obs.consv rfl ?o17 (Obs.consv rfl ?o18 (Obs.consv rfl ?o19 (Obs.consv rfl ?o20 (Obs.consv rfl ?o21 (Obs.consv rfl ?o22 (Obs.consv rfl ?o23 (Obs.consv rfl ?o24 (Obs.consv rfl ?o25 (Obs.consv rfl ?o26 Obs.nil))))))))))))))))))))))))))
            case o0 =>
              go_light
              intro a w' hgw
              obtain ⟨p0, p1⟩ := hold2 (Holds.kept0 hgw hS5.out.drew)
              obtain ⟨q0, q1⟩ := hold2 (Holds.kept0 hgw hT5.out.drew)
              replace hgw := hid hgw
              simp only [outThen, preThen, slotIs, factAt, isv, List.getElem?_cons_zero, List.getElem?_cons_succ, Option.getD_some, forall_eq]
              intros
              rename_i hK
              replace hK := hid hK
              simp only [wantedAt]
              go_simp
              exact hK.out _ _ rfl (grown_refl _ _)
            case o1 =>
              go_light
              intro a w' hgw
              obtain ⟨p0, p1⟩ := hold2 (Holds.kept0 hgw hS5.out.drew)
              obtain ⟨q0, q1⟩ := hold2 (Holds.kept0 hgw hT5.out.drew)
              replace hgw := hid hgw
              simp only [outThen, preThen, slotIs, factAt, isv, List.getElem?_cons_zero, List.getElem?_cons_succ, Option.getD_some, forall_eq]
              intros
              rename_i hK
              replace hK := hid hK
              simp only [wantedAt]
              go_simp
              exact hK.out _ _ rfl (grown_refl _ _)
            case o2 =>
              go_light
              intro a w' hgw
              obtain ⟨p0, p1⟩ := hold2 (Holds.kept0 hgw hS5.out.drew)
              obtain ⟨q0, q1⟩ := hold2 (Holds.kept0 hgw hT5.out.drew)
              replace hgw := hid hgw
              simp only [outThen, preThen, slotIs, factAt, isv, List.getElem?_cons_zero, List.getElem?_cons_succ, Option.getD_some, forall_eq]
              intros
              rename_i hK
              replace hK := hid hK
              simp only [wantedAt]
              go_simp
              exact hK.out _ _ rfl (grown_refl _ _)
            case o3 =>
              go_light
              intro a w' hgw
              obtain ⟨p0, p1⟩ := hold2 (Holds.kept0 hgw hS5.out.drew)
              obtain ⟨q0, q1⟩ := hold2 (Holds.kept0 hgw hT5.out.drew)
              replace hgw := hid hgw
              simp only [outThen, preThen, slotIs, factAt, isv, List.getElem?_cons_zero, List.getElem?_cons_succ, Option.getD_some, forall_eq]
              intros
              rename_i hK
              replace hK := hid hK
              simp only [wantedAt]
              go_simp
              exact hK.out _ _ rfl (grown_refl _ _)
            case o4 =>
              go_light
              intro a w' hgw
              obtain ⟨p0, p1⟩ := hold2 (Holds.kept0 hgw hS5.out.drew)
              obtain ⟨q0, q1⟩ := hold2 (Holds.kept0 hgw hT5.out.drew)
              replace hgw := hid hgw
              simp only [outThen, preThen, slotIs, factAt, isv, List.getElem?_cons_zero, List.getElem?_cons_succ, Option.getD_some, forall_eq]
              intros
              rename_i hK
              replace hK := hid hK
              simp only [wantedAt]
              go_simp
              refine (sumRight_yes A B _ hr.out).mono ?_
              rintro e w9 ⟨rfl, hg⟩
              exact hK.out _ _ rfl hg
            case o5 =>
              go_light
              intro a w' hgw
              obtain ⟨p0, p1⟩ := hold2 (Holds.kept0 hgw hS5.out.drew)
              obtain ⟨q0, q1⟩ := hold2 (Holds.kept0 hgw hT5.out.drew)
              replace hgw := hid hgw
              simp only [outThen, preThen, slotIs, factAt, isv, List.getElem?_cons_zero, List.getElem?_cons_succ, Option.getD_some, forall_eq]
              intros
              rename_i hK
              replace hK := hid hK
              simp only [wantedAt]
              go_simp
              exact hK.out _ _ rfl (grown_refl _ _)
            case o6 =>
              go_light
              intro a w' hgw
              obtain ⟨p0, p1⟩ := hold2 (Holds.kept0 hgw hS5.out.drew)
              obtain ⟨q0, q1⟩ := hold2 (Holds.kept0 hgw hT5.out.drew)
              replace hgw := hid hgw
              simp only [outThen, preThen, slotIs, factAt, isv, List.getElem?_cons_zero, List.getElem?_cons_succ, Option.getD_some, forall_eq]
              intros
              rename_i hK
              replace hK := hid hK
              simp only [wantedAt]
              go_simp
              exact hK.out _ _ rfl (grown_refl _ _)
            case o7 =>
              go_light
              intro a w' hgw
              obtain ⟨p0, p1⟩ := hold2 (Holds.kept0 hgw hS5.out.drew)
              obtain ⟨q0, q1⟩ := hold2 (Holds.kept0 hgw hT5.out.drew)
              replace hgw := hid hgw
              simp only [outThen, preThen, slotIs, factAt, isv, List.getElem?_cons_zero, List.getElem?_cons_succ, Option.getD_some, forall_eq]
              intros
              rename_i hK
              replace hK := hid hK
              simp only [wantedAt]
              go_simp
              exact hK.out _ _ rfl (grown_refl _ _)
            case o8 =>
              go_light
              intro a w' hgw
              obtain ⟨p0, p1⟩ := hold2 (Holds.kept0 hgw hS5.out.drew)
              obtain ⟨q0, q1⟩ := hold2 (Holds.kept0 hgw hT5.out.drew)
              replace hgw := hid hgw
              simp only [outThen, preThen, slotIs, factAt, isv, List.getElem?_cons_zero, List.getElem?_cons_succ, Option.getD_some, forall_eq]
              intros
              rename_i hK
              replace hK := hid hK
              simp only [wantedAt]
              go_simp
              refine (sumRight_yes A B _ ht.out).mono ?_
              rintro e w9 ⟨rfl, hg⟩
              exact hK.out _ _ rfl hg
            case o9 =>
              go_light
              intro a w' hgw
              obtain ⟨p0, p1⟩ := hold2 (Holds.kept0 hgw hS5.out.drew)
              obtain ⟨q0, q1⟩ := hold2 (Holds.kept0 hgw hT5.out.drew)
              replace hgw := hid hgw
              simp only [outThen, preThen, slotIs, factAt, isv, List.getElem?_cons_zero, List.getElem?_cons_succ, Option.getD_some, forall_eq]
              intros
              rename_i hK
              replace hK := hid hK
              simp only [wantedAt]
              go_simp
              exact hK.out _ _ rfl (grown_refl _ _)
            case o10 =>
              go_light
              intro a w' hgw
              obtain ⟨p0, p1⟩ := hold2 (Holds.kept0 hgw hS5.out.drew)
              obtain ⟨q0, q1⟩ := hold2 (Holds.kept0 hgw hT5.out.drew)
              replace hgw := hid hgw
              simp only [outThen, preThen, slotIs, factAt, isv, List.getElem?_cons_zero, List.getElem?_cons_succ, Option.getD_some, forall_eq]
              intros
              rename_i hK
              replace hK := hid hK
              simp only [wantedAt]
              go_simp
              exact hK.out _ _ rfl (grown_refl _ _)
            case o11 =>
              go_light
              intro a w' hgw
              obtain ⟨p0, p1⟩ := hold2 (Holds.kept0 hgw hS5.out.drew)
              obtain ⟨q0, q1⟩ := hold2 (Holds.kept0 hgw hT5.out.drew)
              replace hgw := hid hgw
              simp only [outThen, preThen, slotIs, factAt, isv, List.getElem?_cons_zero, List.getElem?_cons_succ, Option.getD_some, forall_eq]
              intros
              rename_i hK
              replace hK := hid hK
              simp only [wantedAt]
              go_simp
              exact hK.out _ _ rfl (grown_refl _ _)
            case o12 =>
              go_light
              intro a w' hgw
              obtain ⟨p0, p1⟩ := hold2 (Holds.kept0 hgw hS5.out.drew)
              obtain ⟨q0, q1⟩ := hold2 (Holds.kept0 hgw hT5.out.drew)
              replace hgw := hid hgw
              simp only [outThen, preThen, slotIs, factAt, isv, List.getElem?_cons_zero, List.getElem?_cons_succ, Option.getD_some, forall_eq]
              intros
              rename_i hK
              replace hK := hid hK
              simp only [wantedAt]
              go_simp
              exact hK.out _ _ rfl (grown_refl _ _)
            case o13 =>
              go_light
              intro a w' hgw
              obtain ⟨p0, p1⟩ := hold2 (Holds.kept0 hgw hS5.out.drew)
              obtain ⟨q0, q1⟩ := hold2 (Holds.kept0 hgw hT5.out.drew)
              replace hgw := hid hgw
              simp only [outThen, preThen, slotIs, factAt, isv, List.getElem?_cons_zero, List.getElem?_cons_succ, Option.getD_some, forall_eq]
              intros
              rename_i hK
              replace hK := hid hK
              simp only [wantedAt]
              go_simp
              refine (sumValue_is A B _).mono ?_
              rintro e w9 ⟨rfl, hg⟩
              exact hK.out _ _ rfl hg
            case o14 =>
              go_light
              intro a w' hgw
              obtain ⟨p0, p1⟩ := hold2 (Holds.kept0 hgw hS5.out.drew)
              obtain ⟨q0, q1⟩ := hold2 (Holds.kept0 hgw hT5.out.drew)
              replace hgw := hid hgw
              simp only [outThen, preThen, slotIs, factAt, isv, List.getElem?_cons_zero, List.getElem?_cons_succ, Option.getD_some, forall_eq]
              intros
              rename_i hK
              replace hK := hid hK
              simp only [wantedAt]
              go_simp
              exact hK.out _ _ rfl (grown_refl _ _)
            case o15 =>
              go_light
              intro a w' hgw
              obtain ⟨p0, p1⟩ := hold2 (Holds.kept0 hgw hS5.out.drew)
              obtain ⟨q0, q1⟩ := hold2 (Holds.kept0 hgw hT5.out.drew)
              replace hgw := hid hgw
              simp only [outThen, preThen, slotIs, factAt, isv, List.getElem?_cons_zero, List.getElem?_cons_succ, Option.getD_some, forall_eq]
              intros
              rename_i hK
              replace hK := hid hK
              simp only [wantedAt]
              go_simp
              refine (sumValue_is A B _).mono ?_
              rintro e w9 ⟨rfl, hg⟩
              exact hK.out _ _ rfl hg
            case o16 =>
              go_light
              intro a w' hgw
              obtain ⟨p0, p1⟩ := hold2 (Holds.kept0 hgw hS5.out.drew)
              obtain ⟨q0, q1⟩ := hold2 (Holds.kept0 hgw hT5.out.drew)
              replace hgw := hid hgw
              simp only [outThen, preThen, slotIs, factAt, isv, List.getElem?_cons_zero, List.getElem?_cons_succ, Option.getD_some, forall_eq]
              intros
              rename_i hK
              replace hK := hid hK
              simp only [wantedAt]
              go_simp
              exact hK.out _ _ rfl (grown_refl _ _)
            case o17 =>
              go_light
              intro a w' hgw
              obtain ⟨p0, p1⟩ := hold2 (Holds.kept0 hgw hS5.out.drew)
              obtain ⟨q0, q1⟩ := hold2 (Holds.kept0 hgw hT5.out.drew)
              replace hgw := hid hgw
              simp only [outThen, preThen, slotIs, factAt, isv, List.getElem?_cons_zero, List.getElem?_cons_succ, Option.getD_some, forall_eq]
              intros
              rename_i hK
              replace hK := hid hK
              simp only [wantedAt]
              go_simp
              exact hK.out _ _ rfl (grown_refl _ _)
            case o18 =>
              go_light
              intro a w' hgw
              obtain ⟨p0, p1⟩ := hold2 (Holds.kept0 hgw hS5.out.drew)
              obtain ⟨q0, q1⟩ := hold2 (Holds.kept0 hgw hT5.out.drew)
              replace hgw := hid hgw
              simp only [outThen, preThen, slotIs, factAt, isv, List.getElem?_cons_zero, List.getElem?_cons_succ, Option.getD_some, forall_eq]
              intros
              rename_i hK
              replace hK := hid hK
              simp only [wantedAt]
              go_simp
              exact hK.out _ _ rfl (grown_refl _ _)
            case o19 =>
              go_light
              intro a w' hgw
              obtain ⟨p0, p1⟩ := hold2 (Holds.kept0 hgw hS5.out.drew)
              obtain ⟨q0, q1⟩ := hold2 (Holds.kept0 hgw hT5.out.drew)
              replace hgw := hid hgw
              simp only [outThen, preThen, slotIs, factAt, isv, List.getElem?_cons_zero, List.getElem?_cons_succ, Option.getD_some, forall_eq]
              intros
              rename_i hK
              replace hK := hid hK
              simp only [wantedAt]
              go_simp
              exact hK.out _ _ rfl (grown_refl _ _)
            case o20 =>
              go_light
              intro a w' hgw
              obtain ⟨p0, p1⟩ := hold2 (Holds.kept0 hgw hS5.out.drew)
              obtain ⟨q0, q1⟩ := hold2 (Holds.kept0 hgw hT5.out.drew)
              replace hgw := hid hgw
              simp only [outThen, preThen, slotIs, factAt, isv, List.getElem?_cons_zero, List.getElem?_cons_succ, Option.getD_some, forall_eq]
              intros
              rename_i hK
              replace hK := hid hK
              simp only [wantedAt]
              go_simp
              exact hK.out _ _ rfl (grown_refl _ _)
            case o21 =>
              go_light
              intro a w' hgw
              obtain ⟨p0, p1⟩ := hold2 (Holds.kept0 hgw hS5.out.drew)
              obtain ⟨q0, q1⟩ := hold2 (Holds.kept0 hgw hT5.out.drew)
              replace hgw := hid hgw
              simp only [outThen, preThen, slotIs, factAt, isv, List.getElem?_cons_zero, List.getElem?_cons_succ, Option.getD_some, forall_eq]
              intros
              rename_i hK
              replace hK := hid hK
              simp only [wantedAt]
              go_simp
              exact hK.out _ _ rfl (grown_refl _ _)
            case o22 =>
              go_light
              intro a w' hgw
              obtain ⟨p0, p1⟩ := hold2 (Holds.kept0 hgw hS5.out.drew)
              obtain ⟨q0, q1⟩ := hold2 (Holds.kept0 hgw hT5.out.drew)
              replace hgw := hid hgw
              simp only [outThen, preThen, slotIs, factAt, isv, List.getElem?_cons_zero, List.getElem?_cons_succ, Option.getD_some, forall_eq]
              intros
              rename_i hK
              replace hK := hid hK
              simp only [wantedAt]
              go_simp
              exact hK.out _ _ rfl (grown_refl _ _)
            case o23 =>
              go_light
              intro a w' hgw
              obtain ⟨p0, p1⟩ := hold2 (Holds.kept0 hgw hS5.out.drew)
              obtain ⟨q0, q1⟩ := hold2 (Holds.kept0 hgw hT5.out.drew)
              replace hgw := hid hgw
              simp only [outThen, preThen, slotIs, factAt, isv, List.getElem?_cons_zero, List.getElem?_cons_succ, Option.getD_some, forall_eq]
              intros
              rename_i hK
              replace hK := hid hK
              simp only [wantedAt]
              go_simp
              exact hK.out _ _ rfl (grown_refl _ _)
            case o24 =>
              go_light
              intro a w' hgw
              obtain ⟨p0, p1⟩ := hold2 (Holds.kept0 hgw hS5.out.drew)
              obtain ⟨q0, q1⟩ := hold2 (Holds.kept0 hgw hT5.out.drew)
              replace hgw := hid hgw
              simp only [outThen, preThen, slotIs, factAt, isv, List.getElem?_cons_zero, List.getElem?_cons_succ, Option.getD_some, forall_eq]
              intros
              rename_i hK
              replace hK := hid hK
              simp only [wantedAt]
              go_simp
              refine (wakes_true _).mono ?_
              rintro e w9 ⟨rfl, hg⟩
              exact hK.out _ _ rfl hg
            case o25 =>
              go_light
              intro a w' hgw
              obtain ⟨p0, p1⟩ := hold2 (Holds.kept0 hgw hS5.out.drew)
              obtain ⟨q0, q1⟩ := hold2 (Holds.kept0 hgw hT5.out.drew)
              replace hgw := hid hgw
              simp only [outThen, preThen, slotIs, factAt, isv, List.getElem?_cons_zero, List.getElem?_cons_succ, Option.getD_some, forall_eq]
              intros
              rename_i hK
              replace hK := hid hK
              simp only [wantedAt]
              go_simp
              exact hK.out _ _ rfl (grown_refl _ _)
            case o26 =>
              go_light
              intro a w' hgw
              obtain ⟨p0, p1⟩ := hold2 (Holds.kept0 hgw hS5.out.drew)
              obtain ⟨q0, q1⟩ := hold2 (Holds.kept0 hgw hT5.out.drew)
              replace hgw := hid hgw
              simp only [outThen, preThen, slotIs, factAt, isv, List.getElem?_cons_zero, List.getElem?_cons_succ, Option.getD_some, forall_eq]
              intros
              rename_i hK
              replace hK := hid hK
              simp only [wantedAt]
              go_simp
              exact hK.out _ _ rfl (grown_refl _ _)
          case st =>
            repeat (first | exact AllStable.nil | (refine AllStable.cons ?_ ?_; focus (first | exact stable_isv _ | exact stable_isBytes _ | exact stable_isRow1 _ | exact stable_isRowOf _ _ | exact stable_isVar _ | exact stable_isVarOf _ _ _)))
          case fin =>
            intro w8 hgw
            simp only [finalIn, factAt, isv, List.getElem?_cons_zero, List.getElem?_cons_succ, Option.getD_some, forall_eq, slotIs, subj]
            simp only [Act.put, List.setIfInBounds_toArray, List.set_cons_zero, List.set_cons_succ]
            replace hG5 := hid (grown_trans (grown_drew hG5.out) hgw)
            clear hgw
            go_wp2_with fail
            go_ret
            exact ⟨rfl, hG5.out⟩
        · have hne : value (A, B) ≠ value (A, D) := fun e => hBD (by have := hval.1 e; injection this)
          have n1 : (value (A, B) == value (A, D)) = false := by simpa using hne
          have n2 : decide (B = D) = false := by simpa using hBD
          have n3 : (B == D) = false := by simpa using hBD
          clear hval
          replace hne := hid hne
          replace hBD := hid hBD
          apply wp_region_each [isv _, isv _, isv _, isv _, isv (.bool true), isv _, isv _, isv _, isv (.bool true), isv _, isv _, isv _, isv _, isv (.int .u32 (value (A, B))), isv _, isv (.int .u32 (value (A, D))), isv _, isv _, isv _, isv _, isv _, isv _, isv _, isv _, isv (.bool true), isv _, isv _]
            84 [some 58, some 59, some 60, some 61, some 62, some 63, some 64, some 65, some 66, some 67, some 68, some 69, some 70, some 71, some 72, some 73, some 74, some 75, some 76, some 77, some 78, some 79, some 80, some 81, some 82, some 83, some 8]
            [some 58, some 59, some 60, some 61, some 62, some 63, some 64, some 65, some 66, some 67, some 68, some 69, some 70, some 71, some 72, some 73, some 74, some 75, some 76, some 77, some 78, some 79, some 80, some 81, some 82, some 83, some 8]
            [[], [0], [1], [2], [3, 2], [4, 2], [5, 2], [6], [7, 6], [8, 6], [6, 9, 2], [10, 2], [11], [12, 11], [11], [14, 11], [13, 15, 11], [11], [11], [17, 18, 11], [16, 19, 11], [11, 20, 2], [2, 21], [22], [23], [23, 24], [25]]
            [(6, .pointer (some ⟨gs, 0, none⟩)), (7, .pointer (some ⟨gs + 1, 0, none⟩)), (15, .int .i64 10)] (by kernel_rfl) rfl (by kernel_rfl) rfl rfl (by kernel_rfl) (OutsOk.cons rfl rfl (OutsOk.cons rfl rfl (OutsOk.cons rfl rfl OutsOk.nil))) ?st ?ob ?fin
          case ob =>
            refine Obs.consv rfl ?o0 (Obs.consv rfl ?o1 (Obs.consv rfl ?o2 (Obs.consv rfl ?o3 (Obs.consv rfl ?o4 (Obs.consv rfl ?o5 (Obs.consv rfl ?o6 (Obs.consv rfl ?o7 (Obs.consv rfl ?o8 (Obs.consv rfl ?o9 (Obs.consv rfl ?o10 (Obs.consv rfl ?o11 (Obs.consv rfl ?o12 (Obs.consv rfl ?o13 (Obs.consv rfl ?o14 (Obs.consv rfl ?o15 (Obs.consv rfl ?o16 (Obs.consv rfl ?o17 (Obs.consv rfl ?o18 (Obs.consv rfl ?o19 (Obs.consv rfl ?o20 (Obs.consv rfl ?o21 (Obs.consv rfl ?o22 (Obs.consv rfl ?o23 (Obs.consv rfl ?o24 (Obs.consv rfl ?o25 (Obs.consv rfl ?o26 Obs.nil))))))))))))))))))))))))))
            case o0 =>
              go_light
              intro a w' hgw
              obtain ⟨p0, p1⟩ := hold2 (Holds.kept0 hgw hS5.out.drew)
              obtain ⟨q0, q1⟩ := hold2 (Holds.kept0 hgw hT5.out.drew)
              replace hgw := hid hgw
              simp only [outThen, preThen, slotIs, factAt, isv, List.getElem?_cons_zero, List.getElem?_cons_succ, Option.getD_some, forall_eq]
              intros
              rename_i hK
              replace hK := hid hK
              simp only [wantedAt]
              go_simp
              exact hK.out _ _ rfl (grown_refl _ _)
            case o1 =>
              go_light
              intro a w' hgw
              obtain ⟨p0, p1⟩ := hold2 (Holds.kept0 hgw hS5.out.drew)
              obtain ⟨q0, q1⟩ := hold2 (Holds.kept0 hgw hT5.out.drew)
              replace hgw := hid hgw
              simp only [outThen, preThen, slotIs, factAt, isv, List.getElem?_cons_zero, List.getElem?_cons_succ, Option.getD_some, forall_eq]
              intros
              rename_i hK
              replace hK := hid hK
              simp only [wantedAt]
              go_simp
              exact hK.out _ _ rfl (grown_refl _ _)
            case o2 =>
              go_light
              intro a w' hgw
              obtain ⟨p0, p1⟩ := hold2 (Holds.kept0 hgw hS5.out.drew)
              obtain ⟨q0, q1⟩ := hold2 (Holds.kept0 hgw hT5.out.drew)
              replace hgw := hid hgw
              simp only [outThen, preThen, slotIs, factAt, isv, List.getElem?_cons_zero, List.getElem?_cons_succ, Option.getD_some, forall_eq]
              intros
              rename_i hK
              replace hK := hid hK
              simp only [wantedAt]
              go_simp
              exact hK.out _ _ rfl (grown_refl _ _)
            case o3 =>
              go_light
              intro a w' hgw
              obtain ⟨p0, p1⟩ := hold2 (Holds.kept0 hgw hS5.out.drew)
              obtain ⟨q0, q1⟩ := hold2 (Holds.kept0 hgw hT5.out.drew)
              replace hgw := hid hgw
              simp only [outThen, preThen, slotIs, factAt, isv, List.getElem?_cons_zero, List.getElem?_cons_succ, Option.getD_some, forall_eq]
              intros
              rename_i hK
              replace hK := hid hK
              simp only [wantedAt]
              go_simp
              exact hK.out _ _ rfl (grown_refl _ _)
            case o4 =>
              go_light
              intro a w' hgw
              obtain ⟨p0, p1⟩ := hold2 (Holds.kept0 hgw hS5.out.drew)
              obtain ⟨q0, q1⟩ := hold2 (Holds.kept0 hgw hT5.out.drew)
              replace hgw := hid hgw
              simp only [outThen, preThen, slotIs, factAt, isv, List.getElem?_cons_zero, List.getElem?_cons_succ, Option.getD_some, forall_eq]
              intros
              rename_i hK
              replace hK := hid hK
              simp only [wantedAt]
              go_simp
              refine (sumRight_yes A B _ hr.out).mono ?_
              rintro e w9 ⟨rfl, hg⟩
              exact hK.out _ _ rfl hg
            case o5 =>
              go_light
              intro a w' hgw
              obtain ⟨p0, p1⟩ := hold2 (Holds.kept0 hgw hS5.out.drew)
              obtain ⟨q0, q1⟩ := hold2 (Holds.kept0 hgw hT5.out.drew)
              replace hgw := hid hgw
              simp only [outThen, preThen, slotIs, factAt, isv, List.getElem?_cons_zero, List.getElem?_cons_succ, Option.getD_some, forall_eq]
              intros
              rename_i hK
              replace hK := hid hK
              simp only [wantedAt]
              go_simp
              exact hK.out _ _ rfl (grown_refl _ _)
            case o6 =>
              go_light
              intro a w' hgw
              obtain ⟨p0, p1⟩ := hold2 (Holds.kept0 hgw hS5.out.drew)
              obtain ⟨q0, q1⟩ := hold2 (Holds.kept0 hgw hT5.out.drew)
              replace hgw := hid hgw
              simp only [outThen, preThen, slotIs, factAt, isv, List.getElem?_cons_zero, List.getElem?_cons_succ, Option.getD_some, forall_eq]
              intros
              rename_i hK
              replace hK := hid hK
              simp only [wantedAt]
              go_simp
              exact hK.out _ _ rfl (grown_refl _ _)
            case o7 =>
              go_light
              intro a w' hgw
              obtain ⟨p0, p1⟩ := hold2 (Holds.kept0 hgw hS5.out.drew)
              obtain ⟨q0, q1⟩ := hold2 (Holds.kept0 hgw hT5.out.drew)
              replace hgw := hid hgw
              simp only [outThen, preThen, slotIs, factAt, isv, List.getElem?_cons_zero, List.getElem?_cons_succ, Option.getD_some, forall_eq]
              intros
              rename_i hK
              replace hK := hid hK
              simp only [wantedAt]
              go_simp
              exact hK.out _ _ rfl (grown_refl _ _)
            case o8 =>
              go_light
              intro a w' hgw
              obtain ⟨p0, p1⟩ := hold2 (Holds.kept0 hgw hS5.out.drew)
              obtain ⟨q0, q1⟩ := hold2 (Holds.kept0 hgw hT5.out.drew)
              replace hgw := hid hgw
              simp only [outThen, preThen, slotIs, factAt, isv, List.getElem?_cons_zero, List.getElem?_cons_succ, Option.getD_some, forall_eq]
              intros
              rename_i hK
              replace hK := hid hK
              simp only [wantedAt]
              go_simp
              refine (sumRight_yes A D _ ht.out).mono ?_
              rintro e w9 ⟨rfl, hg⟩
              exact hK.out _ _ rfl hg
            case o9 =>
              go_light
              intro a w' hgw
              obtain ⟨p0, p1⟩ := hold2 (Holds.kept0 hgw hS5.out.drew)
              obtain ⟨q0, q1⟩ := hold2 (Holds.kept0 hgw hT5.out.drew)
              replace hgw := hid hgw
              simp only [outThen, preThen, slotIs, factAt, isv, List.getElem?_cons_zero, List.getElem?_cons_succ, Option.getD_some, forall_eq]
              intros
              rename_i hK
              replace hK := hid hK
              simp only [wantedAt]
              go_simp
              exact hK.out _ _ rfl (grown_refl _ _)
            case o10 =>
              go_light
              intro a w' hgw
              obtain ⟨p0, p1⟩ := hold2 (Holds.kept0 hgw hS5.out.drew)
              obtain ⟨q0, q1⟩ := hold2 (Holds.kept0 hgw hT5.out.drew)
              replace hgw := hid hgw
              simp only [outThen, preThen, slotIs, factAt, isv, List.getElem?_cons_zero, List.getElem?_cons_succ, Option.getD_some, forall_eq]
              intros
              rename_i hK
              replace hK := hid hK
              simp only [wantedAt]
              go_simp
              exact hK.out _ _ rfl (grown_refl _ _)
            case o11 =>
              go_light
              intro a w' hgw
              obtain ⟨p0, p1⟩ := hold2 (Holds.kept0 hgw hS5.out.drew)
              obtain ⟨q0, q1⟩ := hold2 (Holds.kept0 hgw hT5.out.drew)
              replace hgw := hid hgw
              simp only [outThen, preThen, slotIs, factAt, isv, List.getElem?_cons_zero, List.getElem?_cons_succ, Option.getD_some, forall_eq]
              intros
              rename_i hK
              replace hK := hid hK
              simp only [wantedAt]
              go_simp
              exact hK.out _ _ rfl (grown_refl _ _)
            case o12 =>
              go_light
              intro a w' hgw
              obtain ⟨p0, p1⟩ := hold2 (Holds.kept0 hgw hS5.out.drew)
              obtain ⟨q0, q1⟩ := hold2 (Holds.kept0 hgw hT5.out.drew)
              replace hgw := hid hgw
              simp only [outThen, preThen, slotIs, factAt, isv, List.getElem?_cons_zero, List.getElem?_cons_succ, Option.getD_some, forall_eq]
              intros
              rename_i hK
              replace hK := hid hK
              simp only [wantedAt]
              go_simp
              exact hK.out _ _ rfl (grown_refl _ _)
            case o13 =>
              go_light
              intro a w' hgw
              obtain ⟨p0, p1⟩ := hold2 (Holds.kept0 hgw hS5.out.drew)
              obtain ⟨q0, q1⟩ := hold2 (Holds.kept0 hgw hT5.out.drew)
              replace hgw := hid hgw
              simp only [outThen, preThen, slotIs, factAt, isv, List.getElem?_cons_zero, List.getElem?_cons_succ, Option.getD_some, forall_eq]
              intros
              rename_i hK
              replace hK := hid hK
              simp only [wantedAt]
              go_simp
              refine (sumValue_is A B _).mono ?_
              rintro e w9 ⟨rfl, hg⟩
              exact hK.out _ _ rfl hg
            case o14 =>
              go_light
              intro a w' hgw
              obtain ⟨p0, p1⟩ := hold2 (Holds.kept0 hgw hS5.out.drew)
              obtain ⟨q0, q1⟩ := hold2 (Holds.kept0 hgw hT5.out.drew)
              replace hgw := hid hgw
              simp only [outThen, preThen, slotIs, factAt, isv, List.getElem?_cons_zero, List.getElem?_cons_succ, Option.getD_some, forall_eq]
              intros
              rename_i hK
              replace hK := hid hK
              simp only [wantedAt]
              go_simp
              exact hK.out _ _ rfl (grown_refl _ _)
            case o15 =>
              go_light
              intro a w' hgw
              obtain ⟨p0, p1⟩ := hold2 (Holds.kept0 hgw hS5.out.drew)
              obtain ⟨q0, q1⟩ := hold2 (Holds.kept0 hgw hT5.out.drew)
              replace hgw := hid hgw
              simp only [outThen, preThen, slotIs, factAt, isv, List.getElem?_cons_zero, List.getElem?_cons_succ, Option.getD_some, forall_eq]
              intros
              rename_i hK
              replace hK := hid hK
              simp only [wantedAt]
              go_simp
              refine (sumValue_is A D _).mono ?_
              rintro e w9 ⟨rfl, hg⟩
              exact hK.out _ _ rfl hg
            case o16 =>
              go_light
              intro a w' hgw
              obtain ⟨p0, p1⟩ := hold2 (Holds.kept0 hgw hS5.out.drew)
              obtain ⟨q0, q1⟩ := hold2 (Holds.kept0 hgw hT5.out.drew)
              replace hgw := hid hgw
              simp only [outThen, preThen, slotIs, factAt, isv, List.getElem?_cons_zero, List.getElem?_cons_succ, Option.getD_some, forall_eq]
              intros
              rename_i hK
              replace hK := hid hK
              simp only [wantedAt]
              go_simp
              exact hK.out _ _ rfl (grown_refl _ _)
            case o17 =>
              go_light
              intro a w' hgw
              obtain ⟨p0, p1⟩ := hold2 (Holds.kept0 hgw hS5.out.drew)
              obtain ⟨q0, q1⟩ := hold2 (Holds.kept0 hgw hT5.out.drew)
              replace hgw := hid hgw
              simp only [outThen, preThen, slotIs, factAt, isv, List.getElem?_cons_zero, List.getElem?_cons_succ, Option.getD_some, forall_eq]
              intros
              rename_i hK
              replace hK := hid hK
              simp only [wantedAt]
              go_simp
              exact hK.out _ _ rfl (grown_refl _ _)
            case o18 =>
              go_light
              intro a w' hgw
              obtain ⟨p0, p1⟩ := hold2 (Holds.kept0 hgw hS5.out.drew)
              obtain ⟨q0, q1⟩ := hold2 (Holds.kept0 hgw hT5.out.drew)
              replace hgw := hid hgw
              simp only [outThen, preThen, slotIs, factAt, isv, List.getElem?_cons_zero, List.getElem?_cons_succ, Option.getD_some, forall_eq]
              intros
              rename_i hK
              replace hK := hid hK
              simp only [wantedAt]
              go_simp
              exact hK.out _ _ rfl (grown_refl _ _)
            case o19 =>
              go_light
              intro a w' hgw
              obtain ⟨p0, p1⟩ := hold2 (Holds.kept0 hgw hS5.out.drew)
              obtain ⟨q0, q1⟩ := hold2 (Holds.kept0 hgw hT5.out.drew)
              replace hgw := hid hgw
              simp only [outThen, preThen, slotIs, factAt, isv, List.getElem?_cons_zero, List.getElem?_cons_succ, Option.getD_some, forall_eq]
              intros
              rename_i hK
              replace hK := hid hK
              simp only [wantedAt]
              go_simp
              exact hK.out _ _ rfl (grown_refl _ _)
            case o20 =>
              go_light
              intro a w' hgw
              obtain ⟨p0, p1⟩ := hold2 (Holds.kept0 hgw hS5.out.drew)
              obtain ⟨q0, q1⟩ := hold2 (Holds.kept0 hgw hT5.out.drew)
              replace hgw := hid hgw
              simp only [outThen, preThen, slotIs, factAt, isv, List.getElem?_cons_zero, List.getElem?_cons_succ, Option.getD_some, forall_eq]
              intros
              rename_i hK
              replace hK := hid hK
              simp only [wantedAt]
              go_simp
              exact hK.out _ _ rfl (grown_refl _ _)
            case o21 =>
              go_light
              intro a w' hgw
              obtain ⟨p0, p1⟩ := hold2 (Holds.kept0 hgw hS5.out.drew)
              obtain ⟨q0, q1⟩ := hold2 (Holds.kept0 hgw hT5.out.drew)
              replace hgw := hid hgw
              simp only [outThen, preThen, slotIs, factAt, isv, List.getElem?_cons_zero, List.getElem?_cons_succ, Option.getD_some, forall_eq]
              intros
              rename_i hK
              replace hK := hid hK
              simp only [wantedAt]
              go_simp
              exact hK.out _ _ rfl (grown_refl _ _)
            case o22 =>
              go_light
              intro a w' hgw
              obtain ⟨p0, p1⟩ := hold2 (Holds.kept0 hgw hS5.out.drew)
              obtain ⟨q0, q1⟩ := hold2 (Holds.kept0 hgw hT5.out.drew)
              replace hgw := hid hgw
              simp only [outThen, preThen, slotIs, factAt, isv, List.getElem?_cons_zero, List.getElem?_cons_succ, Option.getD_some, forall_eq]
              intros
              rename_i hK
              replace hK := hid hK
              simp only [wantedAt]
              go_simp
              exact hK.out _ _ rfl (grown_refl _ _)
            case o23 =>
              go_light
              intro a w' hgw
              obtain ⟨p0, p1⟩ := hold2 (Holds.kept0 hgw hS5.out.drew)
              obtain ⟨q0, q1⟩ := hold2 (Holds.kept0 hgw hT5.out.drew)
              replace hgw := hid hgw
              simp only [outThen, preThen, slotIs, factAt, isv, List.getElem?_cons_zero, List.getElem?_cons_succ, Option.getD_some, forall_eq]
              intros
              rename_i hK
              replace hK := hid hK
              simp only [wantedAt]
              go_simp
              exact hK.out _ _ rfl (grown_refl _ _)
            case o24 =>
              go_light
              intro a w' hgw
              obtain ⟨p0, p1⟩ := hold2 (Holds.kept0 hgw hS5.out.drew)
              obtain ⟨q0, q1⟩ := hold2 (Holds.kept0 hgw hT5.out.drew)
              replace hgw := hid hgw
              simp only [outThen, preThen, slotIs, factAt, isv, List.getElem?_cons_zero, List.getElem?_cons_succ, Option.getD_some, forall_eq]
              intros
              rename_i hK
              replace hK := hid hK
              simp only [wantedAt]
              go_simp
              refine (wakes_true _).mono ?_
              rintro e w9 ⟨rfl, hg⟩
              exact hK.out _ _ rfl hg
            case o25 =>
              go_light
              intro a w' hgw
              obtain ⟨p0, p1⟩ := hold2 (Holds.kept0 hgw hS5.out.drew)
              obtain ⟨q0, q1⟩ := hold2 (Holds.kept0 hgw hT5.out.drew)
              replace hgw := hid hgw
              simp only [outThen, preThen, slotIs, factAt, isv, List.getElem?_cons_zero, List.getElem?_cons_succ, Option.getD_some, forall_eq]
              intros
              rename_i hK
              replace hK := hid hK
              simp only [wantedAt]
              go_simp
              exact hK.out _ _ rfl (grown_refl _ _)
            case o26 =>
              go_light
              intro a w' hgw
              obtain ⟨p0, p1⟩ := hold2 (Holds.kept0 hgw hS5.out.drew)
              obtain ⟨q0, q1⟩ := hold2 (Holds.kept0 hgw hT5.out.drew)
              replace hgw := hid hgw
              simp only [outThen, preThen, slotIs, factAt, isv, List.getElem?_cons_zero, List.getElem?_cons_succ, Option.getD_some, forall_eq]
              intros
              rename_i hK
              replace hK := hid hK
              simp only [wantedAt]
              go_simp
              exact hK.out _ _ rfl (grown_refl _ _)
          case st =>
            repeat (first | exact AllStable.nil | (refine AllStable.cons ?_ ?_; focus (first | exact stable_isv _ | exact stable_isBytes _ | exact stable_isRow1 _ | exact stable_isRowOf _ _ | exact stable_isVar _ | exact stable_isVarOf _ _ _)))
          case fin =>
            intro w8 hgw
            simp only [finalIn, factAt, isv, List.getElem?_cons_zero, List.getElem?_cons_succ, Option.getD_some, forall_eq, slotIs, subj]
            simp only [Act.put, List.setIfInBounds_toArray, List.set_cons_zero, List.set_cons_succ]
            replace hG5 := hid (grown_trans (grown_drew hG5.out) hgw)
            clear hgw
            go_wp2_with fail
            go_ret
            exact ⟨rfl, hG5.out⟩
      · have hne : value (A, B) ≠ value (C, D) := fun e => hAC (by have := hval.1 e; injection this)
        have n1 : (value (A, B) == value (C, D)) = false := by simpa using hne
        have n2 : decide (A = C) = false := by simpa using hAC
        have n3 : (A == C) = false := by simpa using hAC
        clear hval
        replace hne := hid hne
        replace hAC := hid hAC
        apply wp_region_each [isv _, isv _, isv _, isv _, isv (.bool true), isv _, isv _, isv _, isv (.bool true), isv _, isv _, isv _, isv _, isv (.int .u32 (value (A, B))), isv _, isv (.int .u32 (value (C, D))), isv _, isv _, isv _, isv _, isv _, isv _, isv _, isv _, isv (.bool true), isv _, isv _]
          84 [some 58, some 59, some 60, some 61, some 62, some 63, some 64, some 65, some 66, some 67, some 68, some 69, some 70, some 71, some 72, some 73, some 74, some 75, some 76, some 77, some 78, some 79, some 80, some 81, some 82, some 83, some 8]
          [some 58, some 59, some 60, some 61, some 62, some 63, some 64, some 65, some 66, some 67, some 68, some 69, some 70, some 71, some 72, some 73, some 74, some 75, some 76, some 77, some 78, some 79, some 80, some 81, some 82, some 83, some 8]
          [[], [0], [1], [2], [3, 2], [4, 2], [5, 2], [6], [7, 6], [8, 6], [6, 9, 2], [10, 2], [11], [12, 11], [11], [14, 11], [13, 15, 11], [11], [11], [17, 18, 11], [16, 19, 11], [11, 20, 2], [2, 21], [22], [23], [23, 24], [25]]
          [(6, .pointer (some ⟨gs, 0, none⟩)), (7, .pointer (some ⟨gs + 1, 0, none⟩)), (15, .int .i64 10)] (by kernel_rfl) rfl (by kernel_rfl) rfl rfl (by kernel_rfl) (OutsOk.cons rfl rfl (OutsOk.cons rfl rfl (OutsOk.cons rfl rfl OutsOk.nil))) ?st ?ob ?fin
        case ob =>
          refine Obs.consv rfl ?o0 (Obs.consv rfl ?o1 (Obs.consv rfl ?o2 (Obs.consv rfl ?o3 (Obs.consv rfl ?o4 (Obs.consv rfl ?o5 (Obs.consv rfl ?o6 (Obs.consv rfl ?o7 (Obs.consv rfl ?o8 (Obs.consv rfl ?o9 (Obs.consv rfl ?o10 (Obs.consv rfl ?o11 (Obs.consv rfl ?o12 (Obs.consv rfl ?o13 (Obs.consv rfl ?o14 (Obs.consv rfl ?o15 (Obs.consv rfl ?o16 (Obs.consv rfl ?o17 (Obs.consv rfl ?o18 (Obs.consv rfl ?o19 (Obs.consv rfl ?o20 (Obs.consv rfl ?o21 (Obs.consv rfl ?o22 (Obs.consv rfl ?o23 (Obs.consv rfl ?o24 (Obs.consv rfl ?o25 (Obs.consv rfl ?o26 Obs.nil))))))))))))))))))))))))))
          case o0 =>
            go_light
            intro a w' hgw
            obtain ⟨p0, p1⟩ := hold2 (Holds.kept0 hgw hS5.out.drew)
            obtain ⟨q0, q1⟩ := hold2 (Holds.kept0 hgw hT5.out.drew)
            replace hgw := hid hgw
            simp only [outThen, preThen, slotIs, factAt, isv, List.getElem?_cons_zero, List.getElem?_cons_succ, Option.getD_some, forall_eq]
            intros
            rename_i hK
            replace hK := hid hK
            simp only [wantedAt]
            go_simp
            exact hK.out _ _ rfl (grown_refl _ _)
          case o1 =>
            go_light
            intro a w' hgw
            obtain ⟨p0, p1⟩ := hold2 (Holds.kept0 hgw hS5.out.drew)
            obtain ⟨q0, q1⟩ := hold2 (Holds.kept0 hgw hT5.out.drew)
            replace hgw := hid hgw
            simp only [outThen, preThen, slotIs, factAt, isv, List.getElem?_cons_zero, List.getElem?_cons_succ, Option.getD_some, forall_eq]
            intros
            rename_i hK
            replace hK := hid hK
            simp only [wantedAt]
            go_simp
            exact hK.out _ _ rfl (grown_refl _ _)
          case o2 =>
            go_light
            intro a w' hgw
            obtain ⟨p0, p1⟩ := hold2 (Holds.kept0 hgw hS5.out.drew)
            obtain ⟨q0, q1⟩ := hold2 (Holds.kept0 hgw hT5.out.drew)
            replace hgw := hid hgw
            simp only [outThen, preThen, slotIs, factAt, isv, List.getElem?_cons_zero, List.getElem?_cons_succ, Option.getD_some, forall_eq]
            intros
            rename_i hK
            replace hK := hid hK
            simp only [wantedAt]
            go_simp
            exact hK.out _ _ rfl (grown_refl _ _)
          case o3 =>
            go_light
            intro a w' hgw
            obtain ⟨p0, p1⟩ := hold2 (Holds.kept0 hgw hS5.out.drew)
            obtain ⟨q0, q1⟩ := hold2 (Holds.kept0 hgw hT5.out.drew)
            replace hgw := hid hgw
            simp only [outThen, preThen, slotIs, factAt, isv, List.getElem?_cons_zero, List.getElem?_cons_succ, Option.getD_some, forall_eq]
            intros
            rename_i hK
            replace hK := hid hK
            simp only [wantedAt]
            go_simp
            exact hK.out _ _ rfl (grown_refl _ _)
          case o4 =>
            go_light
            intro a w' hgw
            obtain ⟨p0, p1⟩ := hold2 (Holds.kept0 hgw hS5.out.drew)
            obtain ⟨q0, q1⟩ := hold2 (Holds.kept0 hgw hT5.out.drew)
            replace hgw := hid hgw
            simp only [outThen, preThen, slotIs, factAt, isv, List.getElem?_cons_zero, List.getElem?_cons_succ, Option.getD_some, forall_eq]
            intros
            rename_i hK
            replace hK := hid hK
            simp only [wantedAt]
            go_simp
            refine (sumRight_yes A B _ hr.out).mono ?_
            rintro e w9 ⟨rfl, hg⟩
            exact hK.out _ _ rfl hg
          case o5 =>
            go_light
            intro a w' hgw
            obtain ⟨p0, p1⟩ := hold2 (Holds.kept0 hgw hS5.out.drew)
            obtain ⟨q0, q1⟩ := hold2 (Holds.kept0 hgw hT5.out.drew)
            replace hgw := hid hgw
            simp only [outThen, preThen, slotIs, factAt, isv, List.getElem?_cons_zero, List.getElem?_cons_succ, Option.getD_some, forall_eq]
            intros
            rename_i hK
            replace hK := hid hK
            simp only [wantedAt]
            go_simp
            exact hK.out _ _ rfl (grown_refl _ _)
          case o6 =>
            go_light
            intro a w' hgw
            obtain ⟨p0, p1⟩ := hold2 (Holds.kept0 hgw hS5.out.drew)
            obtain ⟨q0, q1⟩ := hold2 (Holds.kept0 hgw hT5.out.drew)
            replace hgw := hid hgw
            simp only [outThen, preThen, slotIs, factAt, isv, List.getElem?_cons_zero, List.getElem?_cons_succ, Option.getD_some, forall_eq]
            intros
            rename_i hK
            replace hK := hid hK
            simp only [wantedAt]
            go_simp
            exact hK.out _ _ rfl (grown_refl _ _)
          case o7 =>
            go_light
            intro a w' hgw
            obtain ⟨p0, p1⟩ := hold2 (Holds.kept0 hgw hS5.out.drew)
            obtain ⟨q0, q1⟩ := hold2 (Holds.kept0 hgw hT5.out.drew)
            replace hgw := hid hgw
            simp only [outThen, preThen, slotIs, factAt, isv, List.getElem?_cons_zero, List.getElem?_cons_succ, Option.getD_some, forall_eq]
            intros
            rename_i hK
            replace hK := hid hK
            simp only [wantedAt]
            go_simp
            exact hK.out _ _ rfl (grown_refl _ _)
          case o8 =>
            go_light
            intro a w' hgw
            obtain ⟨p0, p1⟩ := hold2 (Holds.kept0 hgw hS5.out.drew)
            obtain ⟨q0, q1⟩ := hold2 (Holds.kept0 hgw hT5.out.drew)
            replace hgw := hid hgw
            simp only [outThen, preThen, slotIs, factAt, isv, List.getElem?_cons_zero, List.getElem?_cons_succ, Option.getD_some, forall_eq]
            intros
            rename_i hK
            replace hK := hid hK
            simp only [wantedAt]
            go_simp
            refine (sumRight_yes C D _ ht.out).mono ?_
            rintro e w9 ⟨rfl, hg⟩
            exact hK.out _ _ rfl hg
          case o9 =>
            go_light
            intro a w' hgw
            obtain ⟨p0, p1⟩ := hold2 (Holds.kept0 hgw hS5.out.drew)
            obtain ⟨q0, q1⟩ := hold2 (Holds.kept0 hgw hT5.out.drew)
            replace hgw := hid hgw
            simp only [outThen, preThen, slotIs, factAt, isv, List.getElem?_cons_zero, List.getElem?_cons_succ, Option.getD_some, forall_eq]
            intros
            rename_i hK
            replace hK := hid hK
            simp only [wantedAt]
            go_simp
            exact hK.out _ _ rfl (grown_refl _ _)
          case o10 =>
            go_light
            intro a w' hgw
            obtain ⟨p0, p1⟩ := hold2 (Holds.kept0 hgw hS5.out.drew)
            obtain ⟨q0, q1⟩ := hold2 (Holds.kept0 hgw hT5.out.drew)
            replace hgw := hid hgw
            simp only [outThen, preThen, slotIs, factAt, isv, List.getElem?_cons_zero, List.getElem?_cons_succ, Option.getD_some, forall_eq]
            intros
            rename_i hK
            replace hK := hid hK
            simp only [wantedAt]
            go_simp
            exact hK.out _ _ rfl (grown_refl _ _)
          case o11 =>
            go_light
            intro a w' hgw
            obtain ⟨p0, p1⟩ := hold2 (Holds.kept0 hgw hS5.out.drew)
            obtain ⟨q0, q1⟩ := hold2 (Holds.kept0 hgw hT5.out.drew)
            replace hgw := hid hgw
            simp only [outThen, preThen, slotIs, factAt, isv, List.getElem?_cons_zero, List.getElem?_cons_succ, Option.getD_some, forall_eq]
            intros
            rename_i hK
            replace hK := hid hK
            simp only [wantedAt]
            go_simp
            exact hK.out _ _ rfl (grown_refl _ _)
          case o12 =>
            go_light
            intro a w' hgw
            obtain ⟨p0, p1⟩ := hold2 (Holds.kept0 hgw hS5.out.drew)
            obtain ⟨q0, q1⟩ := hold2 (Holds.kept0 hgw hT5.out.drew)
            replace hgw := hid hgw
            simp only [outThen, preThen, slotIs, factAt, isv, List.getElem?_cons_zero, List.getElem?_cons_succ, Option.getD_some, forall_eq]
            intros
            rename_i hK
            replace hK := hid hK
            simp only [wantedAt]
            go_simp
            exact hK.out _ _ rfl (grown_refl _ _)
          case o13 =>
            go_light
            intro a w' hgw
            obtain ⟨p0, p1⟩ := hold2 (Holds.kept0 hgw hS5.out.drew)
            obtain ⟨q0, q1⟩ := hold2 (Holds.kept0 hgw hT5.out.drew)
            replace hgw := hid hgw
            simp only [outThen, preThen, slotIs, factAt, isv, List.getElem?_cons_zero, List.getElem?_cons_succ, Option.getD_some, forall_eq]
            intros
            rename_i hK
            replace hK := hid hK
            simp only [wantedAt]
            go_simp
            refine (sumValue_is A B _).mono ?_
            rintro e w9 ⟨rfl, hg⟩
            exact hK.out _ _ rfl hg
          case o14 =>
            go_light
            intro a w' hgw
            obtain ⟨p0, p1⟩ := hold2 (Holds.kept0 hgw hS5.out.drew)
            obtain ⟨q0, q1⟩ := hold2 (Holds.kept0 hgw hT5.out.drew)
            replace hgw := hid hgw
            simp only [outThen, preThen, slotIs, factAt, isv, List.getElem?_cons_zero, List.getElem?_cons_succ, Option.getD_some, forall_eq]
            intros
            rename_i hK
            replace hK := hid hK
            simp only [wantedAt]
            go_simp
            exact hK.out _ _ rfl (grown_refl _ _)
          case o15 =>
            go_light
            intro a w' hgw
            obtain ⟨p0, p1⟩ := hold2 (Holds.kept0 hgw hS5.out.drew)
            obtain ⟨q0, q1⟩ := hold2 (Holds.kept0 hgw hT5.out.drew)
            replace hgw := hid hgw
            simp only [outThen, preThen, slotIs, factAt, isv, List.getElem?_cons_zero, List.getElem?_cons_succ, Option.getD_some, forall_eq]
            intros
            rename_i hK
            replace hK := hid hK
            simp only [wantedAt]
            go_simp
            refine (sumValue_is C D _).mono ?_
            rintro e w9 ⟨rfl, hg⟩
            exact hK.out _ _ rfl hg
          case o16 =>
            go_light
            intro a w' hgw
            obtain ⟨p0, p1⟩ := hold2 (Holds.kept0 hgw hS5.out.drew)
            obtain ⟨q0, q1⟩ := hold2 (Holds.kept0 hgw hT5.out.drew)
            replace hgw := hid hgw
            simp only [outThen, preThen, slotIs, factAt, isv, List.getElem?_cons_zero, List.getElem?_cons_succ, Option.getD_some, forall_eq]
            intros
            rename_i hK
            replace hK := hid hK
            simp only [wantedAt]
            go_simp
            exact hK.out _ _ rfl (grown_refl _ _)
          case o17 =>
            go_light
            intro a w' hgw
            obtain ⟨p0, p1⟩ := hold2 (Holds.kept0 hgw hS5.out.drew)
            obtain ⟨q0, q1⟩ := hold2 (Holds.kept0 hgw hT5.out.drew)
            replace hgw := hid hgw
            simp only [outThen, preThen, slotIs, factAt, isv, List.getElem?_cons_zero, List.getElem?_cons_succ, Option.getD_some, forall_eq]
            intros
            rename_i hK
            replace hK := hid hK
            simp only [wantedAt]
            go_simp
            exact hK.out _ _ rfl (grown_refl _ _)
          case o18 =>
            go_light
            intro a w' hgw
            obtain ⟨p0, p1⟩ := hold2 (Holds.kept0 hgw hS5.out.drew)
            obtain ⟨q0, q1⟩ := hold2 (Holds.kept0 hgw hT5.out.drew)
            replace hgw := hid hgw
            simp only [outThen, preThen, slotIs, factAt, isv, List.getElem?_cons_zero, List.getElem?_cons_succ, Option.getD_some, forall_eq]
            intros
            rename_i hK
            replace hK := hid hK
            simp only [wantedAt]
            go_simp
            exact hK.out _ _ rfl (grown_refl _ _)
          case o19 =>
            go_light
            intro a w' hgw
            obtain ⟨p0, p1⟩ := hold2 (Holds.kept0 hgw hS5.out.drew)
            obtain ⟨q0, q1⟩ := hold2 (Holds.kept0 hgw hT5.out.drew)
            replace hgw := hid hgw
            simp only [outThen, preThen, slotIs, factAt, isv, List.getElem?_cons_zero, List.getElem?_cons_succ, Option.getD_some, forall_eq]
            intros
            rename_i hK
            replace hK := hid hK
            simp only [wantedAt]
            go_simp
            exact hK.out _ _ rfl (grown_refl _ _)
          case o20 =>
            go_light
            intro a w' hgw
            obtain ⟨p0, p1⟩ := hold2 (Holds.kept0 hgw hS5.out.drew)
            obtain ⟨q0, q1⟩ := hold2 (Holds.kept0 hgw hT5.out.drew)
            replace hgw := hid hgw
            simp only [outThen, preThen, slotIs, factAt, isv, List.getElem?_cons_zero, List.getElem?_cons_succ, Option.getD_some, forall_eq]
            intros
            rename_i hK
            replace hK := hid hK
            simp only [wantedAt]
            go_simp
            exact hK.out _ _ rfl (grown_refl _ _)
          case o21 =>
            go_light
            intro a w' hgw
            obtain ⟨p0, p1⟩ := hold2 (Holds.kept0 hgw hS5.out.drew)
            obtain ⟨q0, q1⟩ := hold2 (Holds.kept0 hgw hT5.out.drew)
            replace hgw := hid hgw
            simp only [outThen, preThen, slotIs, factAt, isv, List.getElem?_cons_zero, List.getElem?_cons_succ, Option.getD_some, forall_eq]
            intros
            rename_i hK
            replace hK := hid hK
            simp only [wantedAt]
            go_simp
            exact hK.out _ _ rfl (grown_refl _ _)
          case o22 =>
            go_light
            intro a w' hgw
            obtain ⟨p0, p1⟩ := hold2 (Holds.kept0 hgw hS5.out.drew)
            obtain ⟨q0, q1⟩ := hold2 (Holds.kept0 hgw hT5.out.drew)
            replace hgw := hid hgw
            simp only [outThen, preThen, slotIs, factAt, isv, List.getElem?_cons_zero, List.getElem?_cons_succ, Option.getD_some, forall_eq]
            intros
            rename_i hK
            replace hK := hid hK
            simp only [wantedAt]
            go_simp
            exact hK.out _ _ rfl (grown_refl _ _)
          case o23 =>
            go_light
            intro a w' hgw
            obtain ⟨p0, p1⟩ := hold2 (Holds.kept0 hgw hS5.out.drew)
            obtain ⟨q0, q1⟩ := hold2 (Holds.kept0 hgw hT5.out.drew)
            replace hgw := hid hgw
            simp only [outThen, preThen, slotIs, factAt, isv, List.getElem?_cons_zero, List.getElem?_cons_succ, Option.getD_some, forall_eq]
            intros
            rename_i hK
            replace hK := hid hK
            simp only [wantedAt]
            go_simp
            exact hK.out _ _ rfl (grown_refl _ _)
          case o24 =>
            go_light
            intro a w' hgw
            obtain ⟨p0, p1⟩ := hold2 (Holds.kept0 hgw hS5.out.drew)
            obtain ⟨q0, q1⟩ := hold2 (Holds.kept0 hgw hT5.out.drew)
            replace hgw := hid hgw
            simp only [outThen, preThen, slotIs, factAt, isv, List.getElem?_cons_zero, List.getElem?_cons_succ, Option.getD_some, forall_eq]
            intros
            rename_i hK
            replace hK := hid hK
            simp only [wantedAt]
            go_simp
            refine (wakes_true _).mono ?_
            rintro e w9 ⟨rfl, hg⟩
            exact hK.out _ _ rfl hg
          case o25 =>
            go_light
            intro a w' hgw
            obtain ⟨p0, p1⟩ := hold2 (Holds.kept0 hgw hS5.out.drew)
            obtain ⟨q0, q1⟩ := hold2 (Holds.kept0 hgw hT5.out.drew)
            replace hgw := hid hgw
            simp only [outThen, preThen, slotIs, factAt, isv, List.getElem?_cons_zero, List.getElem?_cons_succ, Option.getD_some, forall_eq]
            intros
            rename_i hK
            replace hK := hid hK
            simp only [wantedAt]
            go_simp
            exact hK.out _ _ rfl (grown_refl _ _)
          case o26 =>
            go_light
            intro a w' hgw
            obtain ⟨p0, p1⟩ := hold2 (Holds.kept0 hgw hS5.out.drew)
            obtain ⟨q0, q1⟩ := hold2 (Holds.kept0 hgw hT5.out.drew)
            replace hgw := hid hgw
            simp only [outThen, preThen, slotIs, factAt, isv, List.getElem?_cons_zero, List.getElem?_cons_succ, Option.getD_some, forall_eq]
            intros
            rename_i hK
            replace hK := hid hK
            simp only [wantedAt]
            go_simp
            exact hK.out _ _ rfl (grown_refl _ _)
        case st =>
          repeat (first | exact AllStable.nil | (refine AllStable.cons ?_ ?_; focus (first | exact stable_isv _ | exact stable_isBytes _ | exact stable_isRow1 _ | exact stable_isRowOf _ _ | exact stable_isVar _ | exact stable_isVarOf _ _ _)))
        case fin =>
          intro w8 hgw
          simp only [finalIn, factAt, isv, List.getElem?_cons_zero, List.getElem?_cons_succ, Option.getD_some, forall_eq, slotIs, subj]
          simp only [Act.put, List.setIfInBounds_toArray, List.set_cons_zero, List.set_cons_succ]
          replace hG5 := hid (grown_trans (grown_drew hG5.out) hgw)
          clear hgw
          go_wp2_with fail
          go_ret
          exact ⟨rfl, hG5.out⟩

/-- **The law SumBack, walked.** -/
theorem back_walk (v A B C D : Int) (X : Option Addr) (c : Nat) (bs : List Int) (w : World) (hv0 : 0 ≤ v) (hv1 : v ≤ 4294967295) (hc : bs.length ≤ c) (hc2 : c ≤ maxLen) (hb : Bytes bs) (hX : Arr w .u8 X bs) :
    Calls Try.prog 6 #[.int .u32 v, .slice X bs.length c, .agg #[.int .i64 A, .int .i64 B], .agg #[.int .i64 C, .int .i64 D]] w fun e w' => e = .returned (.bool true) ∧ w.grownBy w' none := by
  by_cases h : 300 < bs.length
  · exact back_great v A B C D X bs.length c w h
  · exact back_small v A B C D X c bs w (by omega) hv0 hv1 hc hc2 hb hX

end Go.Proofs.Ytdlfphdgjonbdaa
