/- The walk of the law PackedTells: it returns true at every input. -/
import Derived.Test.YtghnbfphhmgcpaaPBack
set_option linter.unusedSimpArgs false
set_option linter.unusedVariables false
namespace Go.Proofs.Ytghnbfphhmgcpaa
open Go.RowKit Plain PlainSum PlainPacked

theorem got_words (bs : List Int) (hb : Bytes bs) (hl : bs.length ≤ 3000) : (got bs).2.1.length ≤ 3000 ∧ AllBytes (got bs).2.1 := by
  by_cases h : (got bs).2.2 = 0
  · obtain ⟨_, h1, _, h2⟩ := got_good bs (got bs).1 (got bs).2.1 hb hl (by rw [← h])
    exact ⟨h1, h2⟩
  · rw [(got_bad bs h).2]
    exact ⟨by simp, fun k => by simp [Bytes]⟩

set_option maxRecDepth 100000 in
set_option maxHeartbeats 4000000 in
theorem ptells_walk (f : Bool) (P Q A : Option Addr) (c1 c2 c3 : Nat) (xss yss : List (List Int)) (bs : List Int) (w : World) (hB : AllBytes xss) (hB' : AllBytes yss) (hb : Bytes bs) (hP : Arrs w P xss) (hQ : Arrs w Q yss) (hA : Arr w .u8 A bs)
    (hl : xss.length ≤ 9223372036854775807) (hl' : yss.length ≤ 9223372036854775807) (hc : bs.length ≤ c3) (hm : c3 ≤ maxLen) :
    Calls Try.prog 3 #[.bool f, .slice P xss.length c1, .slice Q yss.length c2, .slice A bs.length c3] w fun e w' => e = .returned (.bool true) ∧ w.grownBy w' none := by
  replace hP := hid hP
  replace hQ := hid hQ
  replace hA := hid hA
  replace hb := hid hb
  replace hB := hid hB
  replace hB' := hid hB'
  replace hm := hid hm
  replace hc := hid hc
  go_enter Try.func3, Try.ntmps3
  go_wp2_with fail
  refine (greatTexts_is P c1 xss w hP.out hl).mono ?_
  rintro e w1 ⟨rfl, rfl | ⟨rfl, h80, h3000⟩⟩
  · go_wp2_with fail
    refine (pwakes_true _).mono ?_
    rintro e w' ⟨rfl, hg⟩
    go_wp2_with fail
    go_ret
    exact ⟨rfl, hg⟩
  go_wp2_with fail
  refine (greatTexts_is Q c2 yss w hQ.out hl').mono ?_
  rintro e w1 ⟨rfl, rfl | ⟨rfl, h80', h3000'⟩⟩
  · go_wp2_with fail
    refine (pwakes_true _).mono ?_
    rintro e w' ⟨rfl, hg⟩
    go_wp2_with fail
    go_ret
    exact ⟨rfl, hg⟩
  by_cases h3 : bs.length ≤ 3000
  · have d3 : ¬ (3000 : Int) < (bs.length : Int) := by omega
    go_wp2_with fail
    refine (packTake_is A c3 bs w (by omega) hc.out hm.out hb.out hA.out).mono ?_
    rintro e w3 ⟨A3, c4, l, rfl, hlm, hrows, hg3⟩
    have hR := hrows.arrs.2
    rw [hlm] at hR
    have hll : l.length = (got bs).2.1.length := by rw [← hlm, List.length_map]
    rw [hll]
    have hG3 := hid hg3
    have hwb := got_words bs hb.out h3
    replace hR := hid hR
    clear hrows hg3 hlm hll
    obtain ⟨G, hG⟩ : ∃ G, got bs = G := ⟨_, rfl⟩
    rw [hG] at hR hwb ⊢
    obtain ⟨y, ws, er⟩ := G
    simp only at hR hwb ⊢
    obtain ⟨hwl, hwb⟩ := hwb
    replace hwb := hid hwb
    replace hG := hid hG
    go_wp2_with fail
    refine (refUnpack_is A c3 bs w3 (by omega) hc.out hm.out hb.out (hA.out.grown hG3.out)).mono ?_
    rw [hG.out]
    rintro e w4 ⟨A4, c5, l, rfl, hlm, hrows, hg4⟩
    simp only at hlm ⊢
    have hR4 := hrows.arrs.2
    rw [hlm] at hR4
    have hll : l.length = ws.length := by rw [← hlm, List.length_map]
    rw [hll]
    have hG4 := hid (grown_trans hG3.out hg4)
    have hR' := hid (hR.out.grown hg4)
    replace hR4 := hid hR4
    clear hrows hg4 hlm hll hR
    go_wp2_with fail
    refine (packHead_is A c3 bs w4 (by omega) hc.out hm.out hb.out (hA.out.grown hG4.out)).mono ?_
    rintro e w5 ⟨rfl, hg5⟩
    have hG5 := hid (grown_trans hG4.out hg5)
    have hR5 := hid (hR'.out.grown hg5)
    have hR5' := hid (hR4.out.grown hg5)
    clear hg5 hR' hR4
    obtain ⟨F, hF⟩ : ∃ F, headFold bs = F := ⟨_, rfl⟩
    obtain ⟨E, hE⟩ : ∃ E, headErr bs = E := ⟨_, rfl⟩
    rw [hF, hE]
    replace hF := hid hF
    replace hE := hid hE
    go_wp2_with fail
    refine (refHead_is A c3 bs w5 (by omega) hc.out hm.out hb.out (hA.out.grown hG5.out)).mono ?_
    rw [hF.out, hE.out]
    rintro e w6 ⟨rfl, hg6⟩
    have hG6 := hid (grown_trans hG5.out hg6)
    have hR6 := hid (hR5.out.grown hg6)
    have hR6' := hid (hR5'.out.grown hg6)
    clear hg6 hR5 hR5'
    go_wp2_with fail
    refine (refSameWords_is A3 A4 c4 c5 ws ws w6 (by omega) hR6.out hR6'.out hwb.out hwb.out).mono ?_
    rintro e w7 ⟨rfl, hg7⟩
    rw [decide_eq_true rfl]
    have hG7 := hid (grown_trans hG6.out hg7)
    clear hg7 hR6 hR6' hwb hwl
    have hze := hid (put_len_eq false f xss)
    go_upto_region 9 with fail
    obtain ⟨zs, hzs⟩ : ∃ zs, put f xss = zs := ⟨_, rfl⟩
    obtain ⟨D, hD⟩ : ∃ D, decide (xss = yss) = D := ⟨_, rfl⟩
    rw [hzs] at hze
    replace hzs := hid hzs
    replace hD := hid hD
    apply wp_region_each [isv _, isv _, isArrOf zs, isv (.string (strOfNums zs)), isv _, isv _, isArrOf zs, isv (.string (strOfNums zs)), isv (.bool true), isv (.bool true), isv _, isv (.int .i64 (zs.length : Int)), isv _, isv _, isArrOf zs, isv (.int .i64 (zs.length : Int)), isv _, isv _, isv _, isv _, isv _, isv (.bool D), isv _, isv _, isv (.bool D), isv _, isv _, isv _, isv (.bool true), isv _, isv _]
      107 [some 77, some 78, some 79, some 80, some 81, some 82, some 83, some 84, some 85, some 86, some 87, some 88, some 89, some 90, some 91, some 92, some 93, some 94, some 95, some 96, some 97, some 98, some 99, some 100, some 101, some 102, some 103, some 104, some 105, some 106, some 8]
      [some 77, some 78, some 79, some 80, some 81, some 82, some 83, some 84, some 85, some 86, some 87, some 88, some 89, some 90, some 91, some 92, some 93, some 94, some 95, some 96, some 97, some 98, some 99, some 100, some 101, some 102, some 103, some 104, some 105, some 106, some 8]
      [[], [], [0, 1], [2], [], [], [4, 5], [6], [3, 7], [8], [9], [10, 9], [9], [9], [12, 13, 9], [14, 9], [11, 15, 9], [9, 16], [17], [18], [18], [19, 20, 18], [18], [18], [22, 23, 18], [21, 24, 18], [18, 25], [26], [27], [27, 28], [29]]
      [(0, .bool f), (1, .slice P xss.length c1), (2, .slice Q yss.length c2)] (by kernel_rfl) rfl (by kernel_rfl) rfl rfl (by kernel_rfl) (OutsOk.cons rfl rfl (OutsOk.cons rfl rfl (OutsOk.cons rfl rfl OutsOk.nil))) ?st ?ob ?fin
    case ob =>
      refine Obs.consv rfl ?o0 (Obs.consv rfl ?o1 (Obs.consv rfl ?o2 (Obs.consv rfl ?o3 (Obs.consv rfl ?o4 (Obs.consv rfl ?o5 (Obs.consv rfl ?o6 (Obs.consv rfl ?o7 (Obs.consv rfl ?o8 (Obs.consv rfl ?o9 (Obs.consv rfl ?o10 (Obs.consv rfl ?o11 (Obs.consv rfl ?o12 (Obs.consv rfl ?o13 (Obs.consv rfl ?o14 (Obs.consv rfl ?o15 (Obs.consv rfl ?o16 (Obs.consv rfl ?o17 (Obs.consv rfl ?o18 (Obs.consv rfl ?o19 (Obs.consv rfl ?o20 (Obs.consv rfl ?o21 (Obs.consv rfl ?o22 (Obs.consv rfl ?o23 (Obs.consv rfl ?o24 (Obs.consv rfl ?o25 (Obs.consv rfl ?o26 (Obs.consv rfl ?o27 (Obs.consv rfl ?o28 (Obs.consv rfl ?o29 (Obs.consv rfl ?o30 Obs.nil))))))))))))))))))))))))))))))
      case o0 =>
        go_light
        intro ac w' hgw
        replace hgw := hid hgw
        simp only [outThen, preThen, slotIs, factAt, isv, List.getElem?_cons_zero, List.getElem?_cons_succ, Option.getD_some, forall_eq]
        intros
        rename_i hK
        replace hK := hid hK
        simp only [wantedAt]
        go_simp
        exact hK.out _ _ rfl (grown_refl _ _)
      case o1 =>
        go_light
        intro ac w' hgw
        replace hgw := hid hgw
        simp only [outThen, preThen, slotIs, factAt, isv, List.getElem?_cons_zero, List.getElem?_cons_succ, Option.getD_some, forall_eq]
        intros
        rename_i hK
        replace hK := hid hK
        simp only [wantedAt]
        go_simp
        exact hK.out _ _ rfl (grown_refl _ _)
      case o2 =>
        go_light
        intro ac w' hgw
        replace hgw := hid hgw
        simp only [outThen, preThen, slotIs, factAt, isv, List.getElem?_cons_zero, List.getElem?_cons_succ, Option.getD_some, forall_eq]
        intros
        rename_i hK
        replace hK := hid hK
        simp only [wantedAt]
        go_simp
        refine (packPut_is f P c1 xss _ (by omega) h3000 hB.out (hP.out.grown (grown_trans hG7.out (grown_trans (grown_drew (grown_refl w7 none)) hgw.out)))).mono ?_
        intro e w9 ho
        rw [hzs.out] at ho
        obtain ⟨X9, d9, rfl, _, _, h9, hg⟩ := ho.arr
        exact hK.out _ _ ⟨X9, d9, rfl, h9⟩ hg
      case o3 =>
        go_light
        intro ac w' hgw
        replace hgw := hid hgw
        simp only [outThen, preThen, slotIs, factAt, isv, List.getElem?_cons_zero, List.getElem?_cons_succ, Option.getD_some, forall_eq]
        intro _ _ _ v1 h1 hv K hK
        replace hK := hid hK
        obtain ⟨X9, d9, rfl, h9⟩ := h1
        have cv := conv_arr w' X9 d9 zs h9
        clear h9
        simp only [wantedAt]
        go_simp
        exact hK.out _ _ rfl (grown_refl _ _)
      case o4 =>
        go_light
        intro ac w' hgw
        replace hgw := hid hgw
        simp only [outThen, preThen, slotIs, factAt, isv, List.getElem?_cons_zero, List.getElem?_cons_succ, Option.getD_some, forall_eq]
        intros
        rename_i hK
        replace hK := hid hK
        simp only [wantedAt]
        go_simp
        exact hK.out _ _ rfl (grown_refl _ _)
      case o5 =>
        go_light
        intro ac w' hgw
        replace hgw := hid hgw
        simp only [outThen, preThen, slotIs, factAt, isv, List.getElem?_cons_zero, List.getElem?_cons_succ, Option.getD_some, forall_eq]
        intros
        rename_i hK
        replace hK := hid hK
        simp only [wantedAt]
        go_simp
        exact hK.out _ _ rfl (grown_refl _ _)
      case o6 =>
        go_light
        intro ac w' hgw
        replace hgw := hid hgw
        simp only [outThen, preThen, slotIs, factAt, isv, List.getElem?_cons_zero, List.getElem?_cons_succ, Option.getD_some, forall_eq]
        intros
        rename_i hK
        replace hK := hid hK
        simp only [wantedAt]
        go_simp
        refine (refPacked_is f P c1 xss _ (by omega) h3000 hB.out (hP.out.grown (grown_trans hG7.out (grown_trans (grown_drew (grown_refl w7 none)) hgw.out)))).mono ?_
        intro e w9 ho
        rw [hzs.out] at ho
        obtain ⟨X9, d9, rfl, _, _, h9, hg⟩ := ho.arr
        exact hK.out _ _ ⟨X9, d9, rfl, h9⟩ hg
      case o7 =>
        go_light
        intro ac w' hgw
        replace hgw := hid hgw
        simp only [outThen, preThen, slotIs, factAt, isv, List.getElem?_cons_zero, List.getElem?_cons_succ, Option.getD_some, forall_eq]
        intro _ _ _ v1 h1 hv K hK
        replace hK := hid hK
        obtain ⟨X9, d9, rfl, h9⟩ := h1
        have cv := conv_arr w' X9 d9 zs h9
        clear h9
        simp only [wantedAt]
        go_simp
        exact hK.out _ _ rfl (grown_refl _ _)
      case o8 =>
        go_light
        intro ac w' hgw
        replace hgw := hid hgw
        simp only [outThen, preThen, slotIs, factAt, isv, List.getElem?_cons_zero, List.getElem?_cons_succ, Option.getD_some, forall_eq]
        intros
        rename_i hK
        replace hK := hid hK
        generalize strOfNums zs = sb at *
        simp only [wantedAt]
        go_simp
        exact hK.out _ _ rfl (grown_refl _ _)
      case o9 =>
        go_light
        intro ac w' hgw
        replace hgw := hid hgw
        simp only [outThen, preThen, slotIs, factAt, isv, List.getElem?_cons_zero, List.getElem?_cons_succ, Option.getD_some, forall_eq]
        intros
        rename_i hK
        replace hK := hid hK
        simp only [wantedAt]
        go_simp
        exact hK.out _ _ rfl (grown_refl _ _)
      case o10 =>
        go_light
        intro ac w' hgw
        replace hgw := hid hgw
        simp only [outThen, preThen, slotIs, factAt, isv, List.getElem?_cons_zero, List.getElem?_cons_succ, Option.getD_some, forall_eq]
        intros
        rename_i hK
        replace hK := hid hK
        simp only [wantedAt]
        go_simp
        exact hK.out _ _ rfl (grown_refl _ _)
      case o11 =>
        go_light
        intro ac w' hgw
        replace hgw := hid hgw
        simp only [outThen, preThen, slotIs, factAt, isv, List.getElem?_cons_zero, List.getElem?_cons_succ, Option.getD_some, forall_eq]
        intros
        rename_i hK
        replace hK := hid hK
        simp only [wantedAt]
        go_simp
        refine (packSize_is P c1 xss _ (by omega) h3000 hB.out (hP.out.grown (grown_trans hG7.out (grown_trans (grown_drew (grown_refl w7 none)) hgw.out)))).mono ?_
        rintro e w9 ⟨rfl, hg⟩
        rw [hze.out]
        exact hK.out _ _ rfl hg
      case o12 =>
        go_light
        intro ac w' hgw
        replace hgw := hid hgw
        simp only [outThen, preThen, slotIs, factAt, isv, List.getElem?_cons_zero, List.getElem?_cons_succ, Option.getD_some, forall_eq]
        intros
        rename_i hK
        replace hK := hid hK
        simp only [wantedAt]
        go_simp
        exact hK.out _ _ rfl (grown_refl _ _)
      case o13 =>
        go_light
        intro ac w' hgw
        replace hgw := hid hgw
        simp only [outThen, preThen, slotIs, factAt, isv, List.getElem?_cons_zero, List.getElem?_cons_succ, Option.getD_some, forall_eq]
        intros
        rename_i hK
        replace hK := hid hK
        simp only [wantedAt]
        go_simp
        exact hK.out _ _ rfl (grown_refl _ _)
      case o14 =>
        go_light
        intro ac w' hgw
        replace hgw := hid hgw
        simp only [outThen, preThen, slotIs, factAt, isv, List.getElem?_cons_zero, List.getElem?_cons_succ, Option.getD_some, forall_eq]
        intros
        rename_i hK
        replace hK := hid hK
        simp only [wantedAt]
        go_simp
        refine (refPacked_is f P c1 xss _ (by omega) h3000 hB.out (hP.out.grown (grown_trans hG7.out (grown_trans (grown_drew (grown_refl w7 none)) hgw.out)))).mono ?_
        intro e w9 ho
        rw [hzs.out] at ho
        obtain ⟨X9, d9, rfl, _, _, h9, hg⟩ := ho.arr
        exact hK.out _ _ ⟨X9, d9, rfl, h9⟩ hg
      case o15 =>
        go_light
        intro ac w' hgw
        replace hgw := hid hgw
        simp only [outThen, preThen, slotIs, factAt, isv, List.getElem?_cons_zero, List.getElem?_cons_succ, Option.getD_some, forall_eq]
        intro _ _ _ v1 h1 hv hv2 K hK
        replace hK := hid hK
        obtain ⟨X9, d9, rfl, h9⟩ := h1
        clear h9
        simp only [wantedAt]
        go_simp
        exact hK.out _ _ rfl (grown_refl _ _)
      case o16 =>
        go_light
        intro ac w' hgw
        replace hgw := hid hgw
        simp only [outThen, preThen, slotIs, factAt, isv, List.getElem?_cons_zero, List.getElem?_cons_succ, Option.getD_some, forall_eq]
        intros
        rename_i hK
        replace hK := hid hK
        simp only [wantedAt]
        go_simp
        exact hK.out _ _ rfl (grown_refl _ _)
      case o17 =>
        go_light
        intro ac w' hgw
        replace hgw := hid hgw
        simp only [outThen, preThen, slotIs, factAt, isv, List.getElem?_cons_zero, List.getElem?_cons_succ, Option.getD_some, forall_eq]
        intros
        rename_i hK
        replace hK := hid hK
        simp only [wantedAt]
        go_simp
        exact hK.out _ _ rfl (grown_refl _ _)
      case o18 =>
        go_light
        intro ac w' hgw
        replace hgw := hid hgw
        simp only [outThen, preThen, slotIs, factAt, isv, List.getElem?_cons_zero, List.getElem?_cons_succ, Option.getD_some, forall_eq]
        intros
        rename_i hK
        replace hK := hid hK
        simp only [wantedAt]
        go_simp
        exact hK.out _ _ rfl (grown_refl _ _)
      case o19 =>
        go_light
        intro ac w' hgw
        replace hgw := hid hgw
        simp only [outThen, preThen, slotIs, factAt, isv, List.getElem?_cons_zero, List.getElem?_cons_succ, Option.getD_some, forall_eq]
        intros
        rename_i hK
        replace hK := hid hK
        simp only [wantedAt]
        go_simp
        exact hK.out _ _ rfl (grown_refl _ _)
      case o20 =>
        go_light
        intro ac w' hgw
        replace hgw := hid hgw
        simp only [outThen, preThen, slotIs, factAt, isv, List.getElem?_cons_zero, List.getElem?_cons_succ, Option.getD_some, forall_eq]
        intros
        rename_i hK
        replace hK := hid hK
        simp only [wantedAt]
        go_simp
        exact hK.out _ _ rfl (grown_refl _ _)
      case o21 =>
        go_light
        intro ac w' hgw
        replace hgw := hid hgw
        simp only [outThen, preThen, slotIs, factAt, isv, List.getElem?_cons_zero, List.getElem?_cons_succ, Option.getD_some, forall_eq]
        intros
        rename_i hK
        replace hK := hid hK
        simp only [wantedAt]
        go_simp
        refine (packSame_is P Q c1 c2 xss yss _ hl (hP.out.grown (grown_trans hG7.out (grown_trans (grown_drew (grown_refl w7 none)) hgw.out))) (hQ.out.grown (grown_trans hG7.out (grown_trans (grown_drew (grown_refl w7 none)) hgw.out))) hB.out hB'.out).mono ?_
        rintro e w9 ⟨rfl, hg⟩
        rw [hD.out]
        exact hK.out _ _ rfl hg
      case o22 =>
        go_light
        intro ac w' hgw
        replace hgw := hid hgw
        simp only [outThen, preThen, slotIs, factAt, isv, List.getElem?_cons_zero, List.getElem?_cons_succ, Option.getD_some, forall_eq]
        intros
        rename_i hK
        replace hK := hid hK
        simp only [wantedAt]
        go_simp
        exact hK.out _ _ rfl (grown_refl _ _)
      case o23 =>
        go_light
        intro ac w' hgw
        replace hgw := hid hgw
        simp only [outThen, preThen, slotIs, factAt, isv, List.getElem?_cons_zero, List.getElem?_cons_succ, Option.getD_some, forall_eq]
        intros
        rename_i hK
        replace hK := hid hK
        simp only [wantedAt]
        go_simp
        exact hK.out _ _ rfl (grown_refl _ _)
      case o24 =>
        go_light
        intro ac w' hgw
        replace hgw := hid hgw
        simp only [outThen, preThen, slotIs, factAt, isv, List.getElem?_cons_zero, List.getElem?_cons_succ, Option.getD_some, forall_eq]
        intros
        rename_i hK
        replace hK := hid hK
        simp only [wantedAt]
        go_simp
        refine (refSameWords_is P Q c1 c2 xss yss _ hl (hP.out.grown (grown_trans hG7.out (grown_trans (grown_drew (grown_refl w7 none)) hgw.out))) (hQ.out.grown (grown_trans hG7.out (grown_trans (grown_drew (grown_refl w7 none)) hgw.out))) hB.out hB'.out).mono ?_
        rintro e w9 ⟨rfl, hg⟩
        rw [hD.out]
        exact hK.out _ _ rfl hg
      case o25 =>
        go_light
        intro ac w' hgw
        replace hgw := hid hgw
        simp only [outThen, preThen, slotIs, factAt, isv, List.getElem?_cons_zero, List.getElem?_cons_succ, Option.getD_some, forall_eq]
        intros
        rename_i hK
        replace hK := hid hK
        simp only [wantedAt]
        go_simp
        exact hK.out _ _ rfl (grown_refl _ _)
      case o26 =>
        go_light
        intro ac w' hgw
        replace hgw := hid hgw
        simp only [outThen, preThen, slotIs, factAt, isv, List.getElem?_cons_zero, List.getElem?_cons_succ, Option.getD_some, forall_eq]
        intros
        rename_i hK
        replace hK := hid hK
        simp only [wantedAt]
        go_simp
        exact hK.out _ _ rfl (grown_refl _ _)
      case o27 =>
        go_light
        intro ac w' hgw
        replace hgw := hid hgw
        simp only [outThen, preThen, slotIs, factAt, isv, List.getElem?_cons_zero, List.getElem?_cons_succ, Option.getD_some, forall_eq]
        intros
        rename_i hK
        replace hK := hid hK
        simp only [wantedAt]
        go_simp
        exact hK.out _ _ rfl (grown_refl _ _)
      case o28 =>
        go_light
        intro ac w' hgw
        replace hgw := hid hgw
        simp only [outThen, preThen, slotIs, factAt, isv, List.getElem?_cons_zero, List.getElem?_cons_succ, Option.getD_some, forall_eq]
        intros
        rename_i hK
        replace hK := hid hK
        simp only [wantedAt]
        go_simp
        refine (pwakes_true _).mono ?_
        rintro e w9 ⟨rfl, hg⟩
        exact hK.out _ _ rfl hg
      case o29 =>
        go_light
        intro ac w' hgw
        replace hgw := hid hgw
        simp only [outThen, preThen, slotIs, factAt, isv, List.getElem?_cons_zero, List.getElem?_cons_succ, Option.getD_some, forall_eq]
        intros
        rename_i hK
        replace hK := hid hK
        simp only [wantedAt]
        go_simp
        exact hK.out _ _ rfl (grown_refl _ _)
      case o30 =>
        go_light
        intro ac w' hgw
        replace hgw := hid hgw
        simp only [outThen, preThen, slotIs, factAt, isv, List.getElem?_cons_zero, List.getElem?_cons_succ, Option.getD_some, forall_eq]
        intros
        rename_i hK
        replace hK := hid hK
        simp only [wantedAt]
        go_simp
        exact hK.out _ _ rfl (grown_refl _ _)
    case st =>
      repeat (first | exact AllStable.nil | (refine AllStable.cons ?_ ?_; focus (first | exact stable_isv _ | exact stable_isBytes _ | exact stable_isRow1 _ | exact stable_isRowOf _ _ | exact stable_isArrOf _)))
    case fin =>
      intro w8 hgw
      simp only [finalIn, factAt, isv, List.getElem?_cons_zero, List.getElem?_cons_succ, Option.getD_some, forall_eq, slotIs, subj]
      rintro v1 ⟨X8, d8, rfl, _⟩ v2 ⟨X9, d9, rfl, _⟩ v3 ⟨X10, d10, rfl, _⟩
      simp only [Act.put, List.setIfInBounds_toArray, List.set_cons_zero, List.set_cons_succ]
      have hG8 := hid (grown_trans hG7.out (grown_trans (grown_drew (grown_refl w7 none)) hgw))
      clear hgw
      go_wp2_with fail
      go_ret
      exact ⟨rfl, hG8.out⟩
  · have d3 : (3000 : Int) < (bs.length : Int) := by omega
    go_wp2_with fail
    refine (pwakes_true _).mono ?_
    rintro e w' ⟨rfl, hg⟩
    go_wp2_with fail
    go_ret
    exact ⟨rfl, hg⟩
end Go.Proofs.Ytghnbfphhmgcpaa
