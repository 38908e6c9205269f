/- The law PatsetMakes: a set that is made may be; each word of the list has a number in it. -/
import Derived.Test.YtojbfjlihenjaaaQWakes
import Derived.Test.YtojbfjlihenjaaaPlainMakes
set_option linter.unusedSimpArgs false
set_option linter.unusedVariables false
namespace Go.Proofs.Ytojbfjlihenjaaa
open Go.RowKit PlainLetter PlainPatset

theorem right_of_make (f : Bool) (l : List (List Int)) (h : check f l = 0) : right f (makeWords f l) = true := decide_eq_true (right_make f l h)

set_option maxRecDepth 100000 in
set_option maxHeartbeats 8000000 in
theorem qmakes_walk (f : Bool) (P : Option Addr) (c : Nat) (xss : List (List Int)) (w : World) (hB : ∀ i, Bytes (xss.getD i [])) (hP : Arrs w P xss) (hl : xss.length ≤ 9223372036854775807) :
    Calls Try.prog 4 #[.bool f, .slice P xss.length c] w fun e w' => e = .returned (.bool true) ∧ w.grownBy w' none := by
  replace hB := hid hB
  replace hP := hid hP
  go_enter Try.func4, Try.ntmps4
  go_wp2_with fail
  refine (greatTexts_is P c xss _ hP.out hl).mono ?_
  rintro e w1 ⟨rfl, rfl | ⟨rfl, h80, h3000⟩⟩
  · go_wp2_with fail
    refine (qwakes_true _).mono ?_
    rintro e w2 ⟨rfl, hg⟩
    replace hg := hid hg
    go_wp2_with fail
    go_ret
    exact ⟨rfl, hg.out⟩
  go_wp2_with fail
  refine (patMake_is f P c xss _ (by omega) (by omega) hB.out hP.out).mono ?_
  rintro e w1 ⟨v, rfl, hv, hg1⟩
  by_cases h0 : check f xss = 0
  · rw [if_pos h0] at hv
    obtain ⟨A, cA, l, rfl, hlm, hrows⟩ := hv
    have hArr := hrows.arrs.2
    rw [hlm] at hArr
    have hll : l.length = (makeWords f xss).length := by rw [← hlm]; simp
    rw [hll, h0]
    clear hll hlm hrows
    have s := setOf_make f xss
    have hr := hid (right_of_make f xss h0)
    have hstp := hid (fun i h => makes_step f xss i h)
    have hown := hid (fun i h => makes_own f xss i h)
    have hfew := s.few
    have hsmall := s.small
    have hsm0 := make_small f xss (by omega) (fun i => by
      by_cases hk : i < xss.length
      · have h1 := flatten_take_succ xss i hk
        have h2 := flatten_take_le xss (i + 1)
        rw [h1, List.length_append] at h2
        omega
      · simp [List.getD, List.getElem?_eq_none (Nat.le_of_not_lt hk)]) hB.out
    have hMB := hid (fun i => (hsm0.2 i).2)
    have hMl : ∀ i, ((makeWords f xss).getD i []).length ≤ 100000 := fun i => (hsm0.2 i).1
    clear hsm0 s
    have hnx := hid (show (makeWords f (xss.take xss.length)).length = (makeWords f xss).length by rw [List.take_length])
    obtain ⟨M, hM⟩ : ∃ M, makeWords f xss = M := ⟨_, rfl⟩
    simp only [hM] at hArr hr hstp hown hfew hsmall hMB hMl hnx ⊢
    clear hM
    have hgl : ∀ i, (xss.getD i []).length ≤ 3000 := fun i => by
      by_cases hk : i < xss.length
      · have h1 := flatten_take_succ xss i hk
        have h2 := flatten_take_le xss (i + 1)
        rw [h1, List.length_append] at h2
        omega
      · simp [List.getD, List.getElem?_eq_none (Nat.le_of_not_lt hk)]
    go_upto_region 4 with fail
    have hH := Holds.new w1 24 #[.bool f, .slice A M.length cA]
    have hG := hid (grown_alloc hg1 (.cells #[.bool f, .slice A M.length cA] 24))
    have hAM := hid (hArr.grown (grown_alloc (grown_refl w1 none) (.cells #[.bool f, .slice A M.length cA] 24)))
    obtain ⟨W2, hW⟩ : ∃ W, (w1.alloc (.cells #[.bool f, .slice A M.length cA] 24)) = W := ⟨_, rfl⟩
    rw [hW] at hH hG hAM ⊢
    clear hW hArr hg1
    obtain ⟨h, hh⟩ : ∃ h, w1.heap.size = h := ⟨_, rfl⟩
    rw [hh] at hH ⊢
    clear hh
    have d0 := hH.cell 0
    have d1 := hH.cell 1
    simp at d0 d1
    have hHh := hid hH
    clear hH
    go_wp2_with fail
    have hq := patRight_is f A cA M W2 (by omega) (by omega) hMB.out hAM.out
    rw [hr.out] at hq
    refine hq.mono ?_
    clear hq
    rintro e W3 ⟨rfl, hg⟩
    replace hG := hid (grown_trans hG.out hg)
    replace hAM := hid (hAM.out.grown hg)
    replace hHh := hid (hHh.out.kept0 hg)
    clear hg d0 d1
    have d0 := hHh.out.cell 0
    have d1 := hHh.out.cell 1
    simp at d0 d1
    have q1 : ¬ ((xss.length : Int) < (M.length : Int)) := by omega
    have q2 : (f != f) = false := by simp
    go_wp2_with fail
    obtain ⟨wo, rfl⟩ : ∃ wo : World, wo = W3 := ⟨_, rfl⟩
    clear d0 d1
    go_loopw [7, 8] (fun u v wr => ∃ i m : Nat, i ≤ xss.length ∧ v = .int .i64 i ∧ u = .int .i64 m ∧ Hid ((makeWords f (xss.take i)).length = m) ∧ wo.grownBy wr none) (fun _ v _ => xss.length - (intOf v).toNat)
    case atStart => exact ⟨0, 0, by omega, rfl, rfl, hid (by simp [makeWords, addWords]), grown_refl _ _⟩
    case round =>
      obtain ⟨i, m, hi, rfl, rfl, hm, hgr⟩ := hrel
      have hAM2 := hid (hAM.out.grown hgr)
      have hH2 := hHh.out.kept0 hgr
      have hG2 := hid (grown_trans hG.out hgr)
      by_cases hlt : i < xss.length
      · obtain ⟨n, hw, hn3, hn2, hsm1, hstep⟩ := hstp.out i hlt
        rw [hm.out] at hn2 hstep
        obtain ⟨b, off, Ai, ci, rfl, hb, hcell0, hAi⟩ := (hP.out.grown hG2.out).at_ hlt
        have hcx := hid hcell0
        have hAx := hid hAi
        have hbl := hid hb
        have hxb := hid (hB.out i)
        have hxl := hgl i
        have hsm := hid hsm1
        replace hstep := hid hstep
        have hnum : Hid (number f M (xss.getD i []) = ((n : Int), true)) := hid (by unfold number; rw [if_neg (by omega), hw])
        have hmle : m ≤ 80 := by
          have h1 := (setOf_make f (xss.take i)).few
          rw [hm.out] at h1
          have h2 := List.length_take_le' i xss
          omega
        clear hsm1 hcell0 hAi hb hw hm
        generalize xss.getD i [] = x at hcx hAx hxb hxl hsm hnum
        have d0 := hid (hH2.cell 0)
        have d1 := hid (hH2.cell 1)
        simp at d0 d1
        have hhl := hid hH2.lt
        clear hH2 hAM
        have hAM := hAM2
        replace hG := hid hgr
        clear hAM2 hG2 hgr hHh
        have i0 : (0 : Int) ≤ (i : Int) := by omega
        have i1 : (i : Int) < (xss.length : Int) := by omega
        have n0 : ¬ ((n : Int) < 0) := by omega
        have n1 : (0 : Int) ≤ (n : Int) := by omega
        have n2 : (n : Int) < (M.length : Int) := by omega
        have n3 : ¬ ((M.length : Int) ≤ (n : Int)) := by omega
        have n4 : ¬ ((m : Int) < (n : Int)) := by omega
        go_upto_region 12 with fail
        apply wp_region_each [isv _, isv _, isv _, isv _, isv _, isv (.tuple #[.int .i64 (n : Nat), .bool true]), isv _, isv _, isv _, isv _, isv _]
          145 [some 68, some 69, some 70, some 71, some 72, some 73, some 67, some 74, some 75, some 9, some 10]
          [some 68, some 69, some 70, some 71, some 72, some 73, some 67, some 74, some 75, some 9, some 10]
          [[], [], [], [1, 2], [3], [0, 4], [5], [6], [6], [7], [8]]
          [(1, .slice (some ⟨b, off, none⟩) xss.length c), (5, .pointer (some ⟨h, 0, none⟩)), (8, .int .i64 (i : Nat))] (by kernel_rfl) rfl (by kernel_rfl) rfl rfl (by kernel_rfl) (OutsOk.cons rfl rfl (OutsOk.cons rfl rfl (OutsOk.cons rfl rfl OutsOk.nil))) ?st ?ob ?fin
        case ob =>
          refine Obs.consv rfl ?o0 (Obs.consv rfl ?o1 (Obs.consv rfl ?o2 (Obs.consv rfl ?o3 (Obs.consv rfl ?o4 (Obs.consv rfl ?o5 (Obs.consv rfl ?o6 (Obs.consv rfl ?o7 (Obs.consv rfl ?o8 (Obs.consv rfl ?o9 (Obs.consv rfl ?o10 Obs.nil))))))))))
          case o0 =>
            go_light
            intro ac w' hgw
            replace hgw := hid (grown_trans (grown_drew (grown_refl wr none)) hgw)
            simp only [outThen, preThen, slotIs, factAt, isv, List.getElem?_cons_zero, List.getElem?_cons_succ, Option.getD_some, forall_eq]
            have k0 := ((gcell hgw.out).1 h 0 hhl.out).trans d0.out
            have k1 := ((gcell hgw.out).1 h 1 hhl.out).trans d1.out
            intros
            rename_i hK
            replace hK := hid hK
            simp only [wantedAt]
            go_simp
            exact hK.out _ _ rfl (grown_refl _ _)
          case o1 =>
            go_light
            intro ac w' hgw
            replace hgw := hid (grown_trans (grown_drew (grown_refl wr none)) hgw)
            simp only [outThen, preThen, slotIs, factAt, isv, List.getElem?_cons_zero, List.getElem?_cons_succ, Option.getD_some, forall_eq]
            intros
            rename_i hK
            replace hK := hid hK
            simp only [wantedAt]
            go_simp
            exact hK.out _ _ rfl (grown_refl _ _)
          case o2 =>
            go_light
            intro ac w' hgw
            replace hgw := hid (grown_trans (grown_drew (grown_refl wr none)) hgw)
            simp only [outThen, preThen, slotIs, factAt, isv, List.getElem?_cons_zero, List.getElem?_cons_succ, Option.getD_some, forall_eq]
            intros
            rename_i hK
            replace hK := hid hK
            simp only [wantedAt]
            go_simp
            exact hK.out _ _ rfl (grown_refl _ _)
          case o3 =>
            go_light
            intro ac w' hgw
            replace hgw := hid (grown_trans (grown_drew (grown_refl wr none)) hgw)
            simp only [outThen, preThen, slotIs, factAt, isv, List.getElem?_cons_zero, List.getElem?_cons_succ, Option.getD_some, forall_eq]
            intros
            rename_i hK
            replace hK := hid hK
            simp only [wantedAt]
            go_simp
            exact hK.out _ _ rfl (grown_refl _ _)
          case o4 =>
            go_light
            intro ac w' hgw
            replace hgw := hid (grown_trans (grown_drew (grown_refl wr none)) hgw)
            simp only [outThen, preThen, slotIs, factAt, isv, List.getElem?_cons_zero, List.getElem?_cons_succ, Option.getD_some, forall_eq]
            have k2 := ((gcell hgw.out).1 b (off + i) hbl.out).trans hcx.out
            intros
            rename_i hK
            replace hK := hid hK
            simp only [wantedAt]
            go_simp
            exact hK.out _ _ rfl (grown_refl _ _)
          case o5 =>
            go_light
            intro ac w' hgw
            replace hgw := hid (grown_trans (grown_drew (grown_refl wr none)) hgw)
            simp only [outThen, preThen, slotIs, factAt, isv, List.getElem?_cons_zero, List.getElem?_cons_succ, Option.getD_some, forall_eq]
            intros
            rename_i hK
            replace hK := hid hK
            simp only [wantedAt]
            go_simp
            have hq := patNumber_is f A Ai cA ci M x w' (by omega) hxb.out (hAx.out.grown hgw.out) (hAM.out.grown hgw.out) (by omega) (by omega) hMB.out
            rw [hnum.out] at hq
            refine hq.mono ?_
            rintro e w9 ⟨rfl, hg⟩
            exact hK.out _ _ rfl hg
          case o6 =>
            go_light
            intro ac w' hgw
            replace hgw := hid (grown_trans (grown_drew (grown_refl wr none)) hgw)
            simp only [outThen, preThen, slotIs, factAt, isv, List.getElem?_cons_zero, List.getElem?_cons_succ, Option.getD_some, forall_eq]
            intros
            rename_i hK
            replace hK := hid hK
            simp only [wantedAt]
            go_simp
            exact hK.out _ _ rfl (grown_refl _ _)
          case o7 =>
            go_light
            intro ac w' hgw
            replace hgw := hid (grown_trans (grown_drew (grown_refl wr none)) hgw)
            simp only [outThen, preThen, slotIs, factAt, isv, List.getElem?_cons_zero, List.getElem?_cons_succ, Option.getD_some, forall_eq]
            intros
            rename_i hK
            replace hK := hid hK
            simp only [wantedAt]
            go_simp
            exact hK.out _ _ rfl (grown_refl _ _)
          case o8 =>
            go_light
            intro ac w' hgw
            replace hgw := hid (grown_trans (grown_drew (grown_refl wr none)) hgw)
            simp only [outThen, preThen, slotIs, factAt, isv, List.getElem?_cons_zero, List.getElem?_cons_succ, Option.getD_some, forall_eq]
            intros
            rename_i hK
            replace hK := hid hK
            simp only [wantedAt]
            go_simp
            exact hK.out _ _ rfl (grown_refl _ _)
          case o9 =>
            go_light
            intro ac w' hgw
            replace hgw := hid (grown_trans (grown_drew (grown_refl wr none)) hgw)
            simp only [outThen, preThen, slotIs, factAt, isv, List.getElem?_cons_zero, List.getElem?_cons_succ, Option.getD_some, forall_eq]
            intros
            rename_i hK
            replace hK := hid hK
            simp only [wantedAt]
            go_simp
            exact hK.out _ _ rfl (grown_refl _ _)
          case o10 =>
            go_light
            intro ac w' hgw
            replace hgw := hid (grown_trans (grown_drew (grown_refl wr none)) hgw)
            simp only [outThen, preThen, slotIs, factAt, isv, List.getElem?_cons_zero, List.getElem?_cons_succ, Option.getD_some, forall_eq]
            intros
            rename_i hK
            replace hK := hid hK
            simp only [wantedAt]
            go_simp
            exact hK.out _ _ rfl (grown_refl _ _)
        case st =>
          repeat (first | exact AllStable.nil | (refine AllStable.cons ?_ ?_; focus (first | exact stable_isv _ | exact stable_isBytes _ | exact stable_isRow1 _ | exact stable_isRowOf _ _ | exact stable_isVar _ | exact stable_isVarOf _ _ _)))
        case fin =>
          intro w3 hgw
          simp only [finalIn, factAt, isv, List.getElem?_cons_zero, List.getElem?_cons_succ, Option.getD_some, forall_eq, slotIs, subj]
          simp only [Act.put, List.setIfInBounds_toArray, List.set_cons_zero, List.set_cons_succ]
          have hgx := hid (grown_trans (grown_drew (grown_refl wr none)) hgw)
          replace hAx := hid (hAx.out.grown hgx.out)
          replace hAM := hid (hAM.out.grown hgx.out)
          replace hcx := hid (((gcell hgx.out).1 b (off + i) hbl.out).trans hcx.out)
          replace d0 := hid (((gcell hgx.out).1 h 0 hhl.out).trans d0.out)
          replace d1 := hid (((gcell hgx.out).1 h 1 hhl.out).trans d1.out)
          replace hbl := hid (Nat.lt_of_lt_of_le hbl.out hgx.out.size)
          replace hhl := hid (Nat.lt_of_lt_of_le hhl.out hgx.out.size)
          replace hG := hid (grown_trans hG.out hgx.out)
          clear hgw hgx
          obtain ⟨ba, oa, An, cn, hAe, hbal, hcn, hAn⟩ := hAM.out.at_ (i := n) hn3
          subst hAe
          have hyb := hid (hMB.out n)
          have hyl := hMl n
          generalize M.getD n [] = y at hcn hAn hyb hsm hyl
          replace hcn := hid hcn
          replace hAn := hid hAn
          replace hbal := hid hbal
          go_upto_region 13 with fail
          apply wp_region_each [isv (.bool true), isv (.bool false), isv (.bool false), isv (.int .i64 (n : Nat)), isv (.bool false), isv (.bool false), isv (.bool false), isv (.int .i64 (n : Nat)), isv (.int .i64 (m : Nat)), isv (.bool false), isv (.bool false), isv (.bool false), isv (.int .i64 (n : Nat)), isv (.pointer (some ⟨h, 1, none⟩)), isv (.slice (some ⟨ba, oa, none⟩) M.length cA), isv (.int .i64 (M.length : Nat)), isv (.bool false), isv (.bool false), isv (.bool false), isv (.bool f), isv (.pointer (some ⟨h, 1, none⟩)), isv (.slice (some ⟨ba, oa, none⟩) M.length cA), isv (.int .i64 (n : Nat)), isv (.pointer (some ⟨ba, oa + n, none⟩)), isv (.slice An y.length cn), isv (.slice (some ⟨b, off, none⟩) xss.length c), isv (.int .i64 (i : Nat)), isv (.pointer (some ⟨b, off + i, none⟩)), isv (.slice Ai x.length ci), isv (.bool true), isv (.bool false), isv (.bool false)]
            145 [some 76, some 77, some 78, some 79, some 80, some 81, some 82, some 83, some 84, some 85, some 86, some 87, some 88, some 89, some 90, some 91, some 92, some 93, some 94, some 95, some 96, some 97, some 98, some 99, some 100, some 101, some 102, some 103, some 104, some 105, some 106, some 107]
            [some 76, some 77, some 78, some 79, some 80, some 81, some 82, some 83, some 84, some 85, some 86, some 87, some 88, some 89, some 90, some 91, some 92, some 93, some 94, some 95, some 96, some 97, some 98, some 99, some 100, some 101, some 102, some 103, some 104, some 105, some 106, some 107]
            [[], [0], [1], [2], [3, 2], [2, 4], [5], [6], [6], [7, 8, 6], [6, 9], [10], [11], [11], [13, 11], [14, 11], [12, 15, 11], [11, 16], [17], [18], [18], [20, 18], [18], [21, 22, 18], [23, 18], [18], [18], [25, 26, 18], [27, 18], [19, 24, 28, 18], [29, 18], [18, 30]]
            [(0, .bool f), (1, .slice (some ⟨b, off, none⟩) xss.length c), (5, .pointer (some ⟨h, 0, none⟩)), (7, .int .i64 (m : Nat)), (8, .int .i64 (i : Nat)), (9, .int .i64 (n : Nat)), (10, .bool true)] (by kernel_rfl) rfl (by kernel_rfl) rfl rfl (by kernel_rfl) (OutsOk.cons rfl rfl (OutsOk.cons rfl rfl (OutsOk.cons rfl rfl (OutsOk.cons rfl rfl (OutsOk.cons rfl rfl (OutsOk.cons rfl rfl (OutsOk.cons rfl rfl OutsOk.nil))))))) ?st ?ob ?fin
          case ob =>
            refine Obs.consv rfl ?o0 (Obs.consv rfl ?o1 (Obs.consv rfl ?o2 (Obs.consv rfl ?o3 (Obs.consv rfl ?o4 (Obs.consv rfl ?o5 (Obs.consv rfl ?o6 (Obs.consv rfl ?o7 (Obs.consv rfl ?o8 (Obs.consv rfl ?o9 (Obs.consv rfl ?o10 (Obs.consv rfl ?o11 (Obs.consv rfl ?o12 (Obs.consv rfl ?o13 (Obs.consv rfl ?o14 (Obs.consv rfl ?o15 (Obs.consv rfl ?o16 (Obs.consv rfl ?o17 (Obs.consv rfl ?o18 (Obs.consv rfl ?o19 (Obs.consv rfl ?o20 (Obs.consv rfl ?o21 (Obs.consv rfl ?o22 (Obs.consv rfl ?o23 (Obs.consv rfl ?o24 (Obs.consv rfl ?o25 (Obs.consv rfl ?o26 (Obs.consv rfl ?o27 (Obs.consv rfl ?o28 (Obs.consv rfl ?o29 (Obs.consv rfl ?o30 (Obs.consv rfl ?o31 Obs.nil)))))))))))))))))))))))))))))))
            case o0 =>
              go_light
              intro ac w' hgw
              replace hgw := hid (grown_trans (grown_drew (grown_refl w3 none)) hgw)
              simp only [outThen, preThen, slotIs, factAt, isv, List.getElem?_cons_zero, List.getElem?_cons_succ, Option.getD_some, forall_eq]
              intros
              rename_i hK
              replace hK := hid hK
              simp only [wantedAt]
              go_simp
              exact hK.out _ _ rfl (grown_refl _ _)
            case o1 =>
              go_light
              intro ac w' hgw
              replace hgw := hid (grown_trans (grown_drew (grown_refl w3 none)) hgw)
              simp only [outThen, preThen, slotIs, factAt, isv, List.getElem?_cons_zero, List.getElem?_cons_succ, Option.getD_some, forall_eq]
              intros
              rename_i hK
              replace hK := hid hK
              simp only [wantedAt]
              go_simp
              exact hK.out _ _ rfl (grown_refl _ _)
            case o2 =>
              go_light
              intro ac w' hgw
              replace hgw := hid (grown_trans (grown_drew (grown_refl w3 none)) hgw)
              simp only [outThen, preThen, slotIs, factAt, isv, List.getElem?_cons_zero, List.getElem?_cons_succ, Option.getD_some, forall_eq]
              intros
              rename_i hK
              replace hK := hid hK
              simp only [wantedAt]
              go_simp
              exact hK.out _ _ rfl (grown_refl _ _)
            case o3 =>
              go_light
              intro ac w' hgw
              replace hgw := hid (grown_trans (grown_drew (grown_refl w3 none)) hgw)
              simp only [outThen, preThen, slotIs, factAt, isv, List.getElem?_cons_zero, List.getElem?_cons_succ, Option.getD_some, forall_eq]
              intros
              rename_i hK
              replace hK := hid hK
              simp only [wantedAt]
              go_simp
              exact hK.out _ _ rfl (grown_refl _ _)
            case o4 =>
              go_light
              intro ac w' hgw
              replace hgw := hid (grown_trans (grown_drew (grown_refl w3 none)) hgw)
              simp only [outThen, preThen, slotIs, factAt, isv, List.getElem?_cons_zero, List.getElem?_cons_succ, Option.getD_some, forall_eq]
              intros
              rename_i hK
              replace hK := hid hK
              simp only [wantedAt]
              go_simp
              exact hK.out _ _ rfl (grown_refl _ _)
            case o5 =>
              go_light
              intro ac w' hgw
              replace hgw := hid (grown_trans (grown_drew (grown_refl w3 none)) hgw)
              simp only [outThen, preThen, slotIs, factAt, isv, List.getElem?_cons_zero, List.getElem?_cons_succ, Option.getD_some, forall_eq]
              intros
              rename_i hK
              replace hK := hid hK
              simp only [wantedAt]
              go_simp
              exact hK.out _ _ rfl (grown_refl _ _)
            case o6 =>
              go_light
              intro ac w' hgw
              replace hgw := hid (grown_trans (grown_drew (grown_refl w3 none)) hgw)
              simp only [outThen, preThen, slotIs, factAt, isv, List.getElem?_cons_zero, List.getElem?_cons_succ, Option.getD_some, forall_eq]
              intros
              rename_i hK
              replace hK := hid hK
              simp only [wantedAt]
              go_simp
              exact hK.out _ _ rfl (grown_refl _ _)
            case o7 =>
              go_light
              intro ac w' hgw
              replace hgw := hid (grown_trans (grown_drew (grown_refl w3 none)) hgw)
              simp only [outThen, preThen, slotIs, factAt, isv, List.getElem?_cons_zero, List.getElem?_cons_succ, Option.getD_some, forall_eq]
              intros
              rename_i hK
              replace hK := hid hK
              simp only [wantedAt]
              go_simp
              exact hK.out _ _ rfl (grown_refl _ _)
            case o8 =>
              go_light
              intro ac w' hgw
              replace hgw := hid (grown_trans (grown_drew (grown_refl w3 none)) hgw)
              simp only [outThen, preThen, slotIs, factAt, isv, List.getElem?_cons_zero, List.getElem?_cons_succ, Option.getD_some, forall_eq]
              intros
              rename_i hK
              replace hK := hid hK
              simp only [wantedAt]
              go_simp
              exact hK.out _ _ rfl (grown_refl _ _)
            case o9 =>
              go_light
              intro ac w' hgw
              replace hgw := hid (grown_trans (grown_drew (grown_refl w3 none)) hgw)
              simp only [outThen, preThen, slotIs, factAt, isv, List.getElem?_cons_zero, List.getElem?_cons_succ, Option.getD_some, forall_eq]
              intros
              rename_i hK
              replace hK := hid hK
              simp only [wantedAt]
              go_simp
              exact hK.out _ _ rfl (grown_refl _ _)
            case o10 =>
              go_light
              intro ac w' hgw
              replace hgw := hid (grown_trans (grown_drew (grown_refl w3 none)) hgw)
              simp only [outThen, preThen, slotIs, factAt, isv, List.getElem?_cons_zero, List.getElem?_cons_succ, Option.getD_some, forall_eq]
              intros
              rename_i hK
              replace hK := hid hK
              simp only [wantedAt]
              go_simp
              exact hK.out _ _ rfl (grown_refl _ _)
            case o11 =>
              go_light
              intro ac w' hgw
              replace hgw := hid (grown_trans (grown_drew (grown_refl w3 none)) hgw)
              simp only [outThen, preThen, slotIs, factAt, isv, List.getElem?_cons_zero, List.getElem?_cons_succ, Option.getD_some, forall_eq]
              intros
              rename_i hK
              replace hK := hid hK
              simp only [wantedAt]
              go_simp
              exact hK.out _ _ rfl (grown_refl _ _)
            case o12 =>
              go_light
              intro ac w' hgw
              replace hgw := hid (grown_trans (grown_drew (grown_refl w3 none)) hgw)
              simp only [outThen, preThen, slotIs, factAt, isv, List.getElem?_cons_zero, List.getElem?_cons_succ, Option.getD_some, forall_eq]
              intros
              rename_i hK
              replace hK := hid hK
              simp only [wantedAt]
              go_simp
              exact hK.out _ _ rfl (grown_refl _ _)
            case o13 =>
              go_light
              intro ac w' hgw
              replace hgw := hid (grown_trans (grown_drew (grown_refl w3 none)) hgw)
              simp only [outThen, preThen, slotIs, factAt, isv, List.getElem?_cons_zero, List.getElem?_cons_succ, Option.getD_some, forall_eq]
              intros
              rename_i hK
              replace hK := hid hK
              simp only [wantedAt]
              go_simp
              exact hK.out _ _ rfl (grown_refl _ _)
            case o14 =>
              go_light
              intro ac w' hgw
              replace hgw := hid (grown_trans (grown_drew (grown_refl w3 none)) hgw)
              simp only [outThen, preThen, slotIs, factAt, isv, List.getElem?_cons_zero, List.getElem?_cons_succ, Option.getD_some, forall_eq]
              have k1 := ((gcell hgw.out).1 h 1 hhl.out).trans d1.out
              intros
              rename_i hK
              replace hK := hid hK
              simp only [wantedAt]
              go_simp
              exact hK.out _ _ rfl (grown_refl _ _)
            case o15 =>
              go_light
              intro ac w' hgw
              replace hgw := hid (grown_trans (grown_drew (grown_refl w3 none)) hgw)
              simp only [outThen, preThen, slotIs, factAt, isv, List.getElem?_cons_zero, List.getElem?_cons_succ, Option.getD_some, forall_eq]
              intros
              rename_i hK
              replace hK := hid hK
              simp only [wantedAt]
              go_simp
              exact hK.out _ _ rfl (grown_refl _ _)
            case o16 =>
              go_light
              intro ac w' hgw
              replace hgw := hid (grown_trans (grown_drew (grown_refl w3 none)) hgw)
              simp only [outThen, preThen, slotIs, factAt, isv, List.getElem?_cons_zero, List.getElem?_cons_succ, Option.getD_some, forall_eq]
              intros
              rename_i hK
              replace hK := hid hK
              simp only [wantedAt]
              go_simp
              exact hK.out _ _ rfl (grown_refl _ _)
            case o17 =>
              go_light
              intro ac w' hgw
              replace hgw := hid (grown_trans (grown_drew (grown_refl w3 none)) hgw)
              simp only [outThen, preThen, slotIs, factAt, isv, List.getElem?_cons_zero, List.getElem?_cons_succ, Option.getD_some, forall_eq]
              intros
              rename_i hK
              replace hK := hid hK
              simp only [wantedAt]
              go_simp
              exact hK.out _ _ rfl (grown_refl _ _)
            case o18 =>
              go_light
              intro ac w' hgw
              replace hgw := hid (grown_trans (grown_drew (grown_refl w3 none)) hgw)
              simp only [outThen, preThen, slotIs, factAt, isv, List.getElem?_cons_zero, List.getElem?_cons_succ, Option.getD_some, forall_eq]
              intros
              rename_i hK
              replace hK := hid hK
              simp only [wantedAt]
              go_simp
              exact hK.out _ _ rfl (grown_refl _ _)
            case o19 =>
              go_light
              intro ac w' hgw
              replace hgw := hid (grown_trans (grown_drew (grown_refl w3 none)) hgw)
              simp only [outThen, preThen, slotIs, factAt, isv, List.getElem?_cons_zero, List.getElem?_cons_succ, Option.getD_some, forall_eq]
              intros
              rename_i hK
              replace hK := hid hK
              simp only [wantedAt]
              go_simp
              exact hK.out _ _ rfl (grown_refl _ _)
            case o20 =>
              go_light
              intro ac w' hgw
              replace hgw := hid (grown_trans (grown_drew (grown_refl w3 none)) hgw)
              simp only [outThen, preThen, slotIs, factAt, isv, List.getElem?_cons_zero, List.getElem?_cons_succ, Option.getD_some, forall_eq]
              intros
              rename_i hK
              replace hK := hid hK
              simp only [wantedAt]
              go_simp
              exact hK.out _ _ rfl (grown_refl _ _)
            case o21 =>
              go_light
              intro ac w' hgw
              replace hgw := hid (grown_trans (grown_drew (grown_refl w3 none)) hgw)
              simp only [outThen, preThen, slotIs, factAt, isv, List.getElem?_cons_zero, List.getElem?_cons_succ, Option.getD_some, forall_eq]
              have k1 := ((gcell hgw.out).1 h 1 hhl.out).trans d1.out
              intros
              rename_i hK
              replace hK := hid hK
              simp only [wantedAt]
              go_simp
              exact hK.out _ _ rfl (grown_refl _ _)
            case o22 =>
              go_light
              intro ac w' hgw
              replace hgw := hid (grown_trans (grown_drew (grown_refl w3 none)) hgw)
              simp only [outThen, preThen, slotIs, factAt, isv, List.getElem?_cons_zero, List.getElem?_cons_succ, Option.getD_some, forall_eq]
              intros
              rename_i hK
              replace hK := hid hK
              simp only [wantedAt]
              go_simp
              exact hK.out _ _ rfl (grown_refl _ _)
            case o23 =>
              go_light
              intro ac w' hgw
              replace hgw := hid (grown_trans (grown_drew (grown_refl w3 none)) hgw)
              simp only [outThen, preThen, slotIs, factAt, isv, List.getElem?_cons_zero, List.getElem?_cons_succ, Option.getD_some, forall_eq]
              intros
              rename_i hK
              replace hK := hid hK
              simp only [wantedAt]
              go_simp
              exact hK.out _ _ rfl (grown_refl _ _)
            case o24 =>
              go_light
              intro ac w' hgw
              replace hgw := hid (grown_trans (grown_drew (grown_refl w3 none)) hgw)
              simp only [outThen, preThen, slotIs, factAt, isv, List.getElem?_cons_zero, List.getElem?_cons_succ, Option.getD_some, forall_eq]
              have k4 := ((gcell hgw.out).1 ba (oa + n) hbal.out).trans hcn.out
              intros
              rename_i hK
              replace hK := hid hK
              simp only [wantedAt]
              go_simp
              exact hK.out _ _ rfl (grown_refl _ _)
            case o25 =>
              go_light
              intro ac w' hgw
              replace hgw := hid (grown_trans (grown_drew (grown_refl w3 none)) hgw)
              simp only [outThen, preThen, slotIs, factAt, isv, List.getElem?_cons_zero, List.getElem?_cons_succ, Option.getD_some, forall_eq]
              intros
              rename_i hK
              replace hK := hid hK
              simp only [wantedAt]
              go_simp
              exact hK.out _ _ rfl (grown_refl _ _)
            case o26 =>
              go_light
              intro ac w' hgw
              replace hgw := hid (grown_trans (grown_drew (grown_refl w3 none)) hgw)
              simp only [outThen, preThen, slotIs, factAt, isv, List.getElem?_cons_zero, List.getElem?_cons_succ, Option.getD_some, forall_eq]
              intros
              rename_i hK
              replace hK := hid hK
              simp only [wantedAt]
              go_simp
              exact hK.out _ _ rfl (grown_refl _ _)
            case o27 =>
              go_light
              intro ac w' hgw
              replace hgw := hid (grown_trans (grown_drew (grown_refl w3 none)) hgw)
              simp only [outThen, preThen, slotIs, factAt, isv, List.getElem?_cons_zero, List.getElem?_cons_succ, Option.getD_some, forall_eq]
              intros
              rename_i hK
              replace hK := hid hK
              simp only [wantedAt]
              go_simp
              exact hK.out _ _ rfl (grown_refl _ _)
            case o28 =>
              go_light
              intro ac w' hgw
              replace hgw := hid (grown_trans (grown_drew (grown_refl w3 none)) hgw)
              simp only [outThen, preThen, slotIs, factAt, isv, List.getElem?_cons_zero, List.getElem?_cons_succ, Option.getD_some, forall_eq]
              have k2 := ((gcell hgw.out).1 b (off + i) hbl.out).trans hcx.out
              intros
              rename_i hK
              replace hK := hid hK
              simp only [wantedAt]
              go_simp
              exact hK.out _ _ rfl (grown_refl _ _)
            case o29 =>
              go_light
              intro ac w' hgw
              replace hgw := hid (grown_trans (grown_drew (grown_refl w3 none)) hgw)
              simp only [outThen, preThen, slotIs, factAt, isv, List.getElem?_cons_zero, List.getElem?_cons_succ, Option.getD_some, forall_eq]
              intros
              rename_i hK
              replace hK := hid hK
              simp only [wantedAt]
              go_simp
              have hq := refSame_is f An Ai cn ci y x w' (by omega) (by omega) hyb.out hxb.out (hAn.out.grown hgw.out) (hAx.out.grown hgw.out)
              rw [hsm.out] at hq
              refine hq.mono ?_
              rintro e w9 ⟨rfl, hg⟩
              exact hK.out _ _ rfl hg
            case o30 =>
              go_light
              intro ac w' hgw
              replace hgw := hid (grown_trans (grown_drew (grown_refl w3 none)) hgw)
              simp only [outThen, preThen, slotIs, factAt, isv, List.getElem?_cons_zero, List.getElem?_cons_succ, Option.getD_some, forall_eq]
              intros
              rename_i hK
              replace hK := hid hK
              simp only [wantedAt]
              go_simp
              exact hK.out _ _ rfl (grown_refl _ _)
            case o31 =>
              go_light
              intro ac w' hgw
              replace hgw := hid (grown_trans (grown_drew (grown_refl w3 none)) hgw)
              simp only [outThen, preThen, slotIs, factAt, isv, List.getElem?_cons_zero, List.getElem?_cons_succ, Option.getD_some, forall_eq]
              intros
              rename_i hK
              replace hK := hid hK
              simp only [wantedAt]
              go_simp
              exact hK.out _ _ rfl (grown_refl _ _)
          case st =>
            repeat (first | exact AllStable.nil | (refine AllStable.cons ?_ ?_; focus (first | exact stable_isv _ | exact stable_isBytes _ | exact stable_isRow1 _ | exact stable_isRowOf _ _ | exact stable_isVar _ | exact stable_isVarOf _ _ _)))
          case fin =>
            intro w4 hgw
            simp only [finalIn, factAt, isv, List.getElem?_cons_zero, List.getElem?_cons_succ, Option.getD_some, forall_eq, slotIs, subj]
            simp only [Act.put, List.setIfInBounds_toArray, List.set_cons_zero, List.set_cons_succ]
            have hG4 := hid (grown_trans (grown_drew hG.out) hgw)
            clear hgw
            by_cases hnm : n = m
            · have q5 : ((n : Int) == (m : Int)) = true := by rw [beq_iff_eq]; omega
              have hm2 := hid (hstep.out.trans (if_pos hnm))
              replace hnm := hid hnm
              go_wp2_with fail
              go_roundw
              case rel => exact ⟨i + 1, m + 1, by omega, by go_num, by go_num, hid (by rw [hm2.out, hnm.out]), hG4.out⟩
              case measure => simp [intOf]; omega
            · have q5 : ((n : Int) == (m : Int)) = false := by rw [beq_eq_false_iff_ne]; omega
              have hm2 := hid (hstep.out.trans (if_neg hnm))
              replace hnm := hid hnm
              go_wp2_with fail
              go_roundw
              case rel => exact ⟨i + 1, m, by omega, by go_num, rfl, hid hm2.out, hG4.out⟩
              case measure => simp [intOf]; omega
      · obtain rfl : i = xss.length := by omega
        have hmM : Hid (m = M.length) := hid (by rw [← hm.out, hnx.out])
        clear hm hgr
        replace hH2 := hid hH2
        go_wp2_with fail
        obtain rfl : m = M.length := hmM.out
        obtain ⟨wo2, rfl⟩ : ∃ wo : World, wo = wr := ⟨_, rfl⟩
        go_loopw [11] (fun v wx => ∃ j : Nat, j ≤ M.length ∧ v = .int .i64 j ∧ wo2.grownBy wx none) (fun v _ => M.length - (intOf v).toNat)
        case atStart => exact ⟨0, by omega, rfl, grown_refl _ _⟩
        case round =>
          obtain ⟨j, hj, rfl, hgr2⟩ := hrel
          have hAM3 := hid (hAM2.out.grown hgr2)
          have hH3 := hH2.out.kept0 hgr2
          have d0 := hid (hH3.cell 0)
          have d1 := hid (hH3.cell 1)
          simp at d0 d1
          have hhl := hid hH3.lt
          clear hH3
          by_cases hjl : j < M.length
          · obtain ⟨ba, oa, Ai, ci, hAe, hb, hcell0, hAi⟩ := hAM3.out.at_ hjl
            subst hAe
            have hcx := hid hcell0
            have hAx := hid hAi
            have hbl := hid hb
            have hxb := hid (hMB.out j)
            have hxl := hMl j
            have hnum : Hid (number f M (M.getD j []) = ((j : Int), true)) := hid (by unfold number; rw [hown.out j hjl, if_neg (by omega)])
            clear hcell0 hAi hb hAM hAM2
            have hgx1 : M.getD j [] = M.getD j [] := rfl
            have hxm : (M.getD j []).length ≤ 3000 := by
              have h1 := flatten_take_succ M j hjl
              have h2 := flatten_take_le M (j + 1)
              rw [h1, List.length_append] at h2
              omega
            clear hgx1
            generalize M.getD j [] = x at hcx hAx hxb hxl hnum hxm
            have hAM := hAM3
            replace hG := hid hgr2
            clear hgr2 hAM3
            have j0 : (0 : Int) ≤ (j : Int) := by omega
            have j1 : (j : Int) < (M.length : Int) := by omega
            have j2 : ((j : Int) != (j : Int)) = false := by simp
            have dd := d1.out
            go_upto_region 20 with fail
            clear dd
            apply wp_region_each [isv _, isv _, isv _, isv _, isv _, isv _, isv (.tuple #[.int .i64 (j : Nat), .bool true]), isv _, isv _, isv _, isv _, isv _]
              145 [some 121, some 122, some 123, some 124, some 125, some 126, some 127, some 120, some 128, some 129, some 12, some 13]
              [some 121, some 122, some 123, some 124, some 125, some 126, some 127, some 120, some 128, some 129, some 12, some 13]
              [[], [], [1], [], [2, 3], [4], [0, 5], [6], [7], [7], [8], [9]]
              [(5, .pointer (some ⟨h, 0, none⟩)), (11, .int .i64 (j : Nat))] (by kernel_rfl) rfl (by kernel_rfl) rfl rfl (by kernel_rfl) (OutsOk.cons rfl rfl (OutsOk.cons rfl rfl OutsOk.nil)) ?st ?ob ?fin
            case ob =>
              refine Obs.consv rfl ?o0 (Obs.consv rfl ?o1 (Obs.consv rfl ?o2 (Obs.consv rfl ?o3 (Obs.consv rfl ?o4 (Obs.consv rfl ?o5 (Obs.consv rfl ?o6 (Obs.consv rfl ?o7 (Obs.consv rfl ?o8 (Obs.consv rfl ?o9 (Obs.consv rfl ?o10 (Obs.consv rfl ?o11 Obs.nil)))))))))))
              case o0 =>
                go_light
                intro ac w' hgw
                replace hgw := hid (grown_trans (grown_drew (grown_refl wr none)) hgw)
                simp only [outThen, preThen, slotIs, factAt, isv, List.getElem?_cons_zero, List.getElem?_cons_succ, Option.getD_some, forall_eq]
                have k0 := ((gcell hgw.out).1 h 0 hhl.out).trans d0.out
                have k1 := ((gcell hgw.out).1 h 1 hhl.out).trans d1.out
                intros
                rename_i hK
                replace hK := hid hK
                simp only [wantedAt]
                go_simp
                exact hK.out _ _ rfl (grown_refl _ _)
              case o1 =>
                go_light
                intro ac w' hgw
                replace hgw := hid (grown_trans (grown_drew (grown_refl wr none)) hgw)
                simp only [outThen, preThen, slotIs, factAt, isv, List.getElem?_cons_zero, List.getElem?_cons_succ, Option.getD_some, forall_eq]
                intros
                rename_i hK
                replace hK := hid hK
                simp only [wantedAt]
                go_simp
                exact hK.out _ _ rfl (grown_refl _ _)
              case o2 =>
                go_light
                intro ac w' hgw
                replace hgw := hid (grown_trans (grown_drew (grown_refl wr none)) hgw)
                simp only [outThen, preThen, slotIs, factAt, isv, List.getElem?_cons_zero, List.getElem?_cons_succ, Option.getD_some, forall_eq]
                have k1 := ((gcell hgw.out).1 h 1 hhl.out).trans d1.out
                intros
                rename_i hK
                replace hK := hid hK
                simp only [wantedAt]
                go_simp
                exact hK.out _ _ rfl (grown_refl _ _)
              case o3 =>
                go_light
                intro ac w' hgw
                replace hgw := hid (grown_trans (grown_drew (grown_refl wr none)) hgw)
                simp only [outThen, preThen, slotIs, factAt, isv, List.getElem?_cons_zero, List.getElem?_cons_succ, Option.getD_some, forall_eq]
                intros
                rename_i hK
                replace hK := hid hK
                simp only [wantedAt]
                go_simp
                exact hK.out _ _ rfl (grown_refl _ _)
              case o4 =>
                go_light
                intro ac w' hgw
                replace hgw := hid (grown_trans (grown_drew (grown_refl wr none)) hgw)
                simp only [outThen, preThen, slotIs, factAt, isv, List.getElem?_cons_zero, List.getElem?_cons_succ, Option.getD_some, forall_eq]
                intros
                rename_i hK
                replace hK := hid hK
                simp only [wantedAt]
                go_simp
                exact hK.out _ _ rfl (grown_refl _ _)
              case o5 =>
                go_light
                intro ac w' hgw
                replace hgw := hid (grown_trans (grown_drew (grown_refl wr none)) hgw)
                simp only [outThen, preThen, slotIs, factAt, isv, List.getElem?_cons_zero, List.getElem?_cons_succ, Option.getD_some, forall_eq]
                have k2 := ((gcell hgw.out).1 ba (oa + j) hbl.out).trans hcx.out
                intros
                rename_i hK
                replace hK := hid hK
                simp only [wantedAt]
                go_simp
                exact hK.out _ _ rfl (grown_refl _ _)
              case o6 =>
                go_light
                intro ac w' hgw
                replace hgw := hid (grown_trans (grown_drew (grown_refl wr none)) hgw)
                simp only [outThen, preThen, slotIs, factAt, isv, List.getElem?_cons_zero, List.getElem?_cons_succ, Option.getD_some, forall_eq]
                intros
                rename_i hK
                replace hK := hid hK
                simp only [wantedAt]
                go_simp
                have hq := patNumber_is f (some ⟨ba, oa, none⟩) Ai cA ci M x w' (by omega) hxb.out (hAx.out.grown hgw.out) (hAM.out.grown hgw.out) (by omega) (by omega) hMB.out
                rw [hnum.out] at hq
                refine hq.mono ?_
                rintro e w9 ⟨rfl, hg⟩
                exact hK.out _ _ rfl hg
              case o7 =>
                go_light
                intro ac w' hgw
                replace hgw := hid (grown_trans (grown_drew (grown_refl wr none)) hgw)
                simp only [outThen, preThen, slotIs, factAt, isv, List.getElem?_cons_zero, List.getElem?_cons_succ, Option.getD_some, forall_eq]
                intros
                rename_i hK
                replace hK := hid hK
                simp only [wantedAt]
                go_simp
                exact hK.out _ _ rfl (grown_refl _ _)
              case o8 =>
                go_light
                intro ac w' hgw
                replace hgw := hid (grown_trans (grown_drew (grown_refl wr none)) hgw)
                simp only [outThen, preThen, slotIs, factAt, isv, List.getElem?_cons_zero, List.getElem?_cons_succ, Option.getD_some, forall_eq]
                intros
                rename_i hK
                replace hK := hid hK
                simp only [wantedAt]
                go_simp
                exact hK.out _ _ rfl (grown_refl _ _)
              case o9 =>
                go_light
                intro ac w' hgw
                replace hgw := hid (grown_trans (grown_drew (grown_refl wr none)) hgw)
                simp only [outThen, preThen, slotIs, factAt, isv, List.getElem?_cons_zero, List.getElem?_cons_succ, Option.getD_some, forall_eq]
                intros
                rename_i hK
                replace hK := hid hK
                simp only [wantedAt]
                go_simp
                exact hK.out _ _ rfl (grown_refl _ _)
              case o10 =>
                go_light
                intro ac w' hgw
                replace hgw := hid (grown_trans (grown_drew (grown_refl wr none)) hgw)
                simp only [outThen, preThen, slotIs, factAt, isv, List.getElem?_cons_zero, List.getElem?_cons_succ, Option.getD_some, forall_eq]
                intros
                rename_i hK
                replace hK := hid hK
                simp only [wantedAt]
                go_simp
                exact hK.out _ _ rfl (grown_refl _ _)
              case o11 =>
                go_light
                intro ac w' hgw
                replace hgw := hid (grown_trans (grown_drew (grown_refl wr none)) hgw)
                simp only [outThen, preThen, slotIs, factAt, isv, List.getElem?_cons_zero, List.getElem?_cons_succ, Option.getD_some, forall_eq]
                intros
                rename_i hK
                replace hK := hid hK
                simp only [wantedAt]
                go_simp
                exact hK.out _ _ rfl (grown_refl _ _)
            case st =>
              repeat (first | exact AllStable.nil | (refine AllStable.cons ?_ ?_; focus (first | exact stable_isv _ | exact stable_isBytes _ | exact stable_isRow1 _ | exact stable_isRowOf _ _ | exact stable_isVar _ | exact stable_isVarOf _ _ _)))
            case fin =>
              intro w3 hgw
              simp only [finalIn, factAt, isv, List.getElem?_cons_zero, List.getElem?_cons_succ, Option.getD_some, forall_eq, slotIs, subj]
              simp only [Act.put, List.setIfInBounds_toArray, List.set_cons_zero, List.set_cons_succ]
              have hG3 := hid (grown_trans (grown_drew hG.out) hgw)
              clear hgw
              go_wp2_with fail
              go_roundw
              case rel => exact ⟨j + 1, by omega, by go_num, hG3.out⟩
              case measure => simp [intOf]; omega
          · obtain rfl : j = M.length := by omega
            replace d1 := d1.out
            have j3 : ((M.length : Int) == (M.length : Int)) = true := by simp
            have hG3 := hid (grown_trans hG2.out hgr2)
            clear hgr2
            go_wp2_with fail
            refine (qwakes_true _).mono ?_
            rintro e w5 ⟨rfl, hg⟩
            replace hG3 := hid (grown_trans hG3.out hg)
            clear hg
            go_wp2_with fail
            go_ret
            exact ⟨rfl, hG3.out⟩
  · rw [if_neg h0] at hv
    subst hv
    go_upto_region 4 with fail
    have hH := Holds.new w1 24 #[.bool false, .slice none 0 0]
    have hG := hid (grown_alloc hg1 (.cells #[.bool false, .slice none 0 0] 24))
    obtain ⟨W2, hW⟩ : ∃ W, (w1.alloc (.cells #[.bool false, .slice none 0 0] 24)) = W := ⟨_, rfl⟩
    rw [hW] at hH hG ⊢
    clear hW hg1
    obtain ⟨h, hh⟩ : ∃ h, w1.heap.size = h := ⟨_, rfl⟩
    rw [hh] at hH ⊢
    clear hh
    have hHh := hid hH
    clear hH
    obtain ⟨er, her⟩ : ∃ er, check f xss = er := ⟨_, rfl⟩
    rw [her] at h0 ⊢
    have hne : (er != 0) = true := by rw [bne_iff_ne]; exact h0
    have q3 : (er == er) = true := by simp
    replace h0 := hid h0
    go_wp2_with fail
    have hq := patCheck_is f P c xss W2 (by omega) (by omega) hB.out (hP.out.grown hG.out)
    rw [her] at hq
    refine hq.mono ?_
    clear hq
    rintro e W3 ⟨rfl, hg⟩
    replace hG := hid (grown_trans hG.out hg)
    replace hHh := hHh.out.kept0 hg
    have d0 := hHh.cell 0
    have d1 := hHh.cell 1
    simp at d0 d1
    clear hg hHh
    go_wp2_with fail
    refine (qwakes_true _).mono ?_
    rintro e w5 ⟨rfl, hg⟩
    replace hG := hid (grown_trans hG.out hg)
    clear hg
    go_wp2_with fail
    go_ret
    exact ⟨rfl, hG.out⟩
end Go.Proofs.Ytojbfjlihenjaaa
