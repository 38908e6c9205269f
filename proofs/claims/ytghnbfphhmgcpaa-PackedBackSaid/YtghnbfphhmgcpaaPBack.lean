/- The walk of the law PackedBack: it returns true at every input. -/
import Derived.Test.YtghnbfphhmgcpaaPWakes
set_option linter.unusedSimpArgs false
set_option linter.unusedVariables false
namespace Go.Proofs.Ytghnbfphhmgcpaa
open Go.RowKit Plain PlainSum PlainPacked

theorem words_ge : ∀ (ws : List (List Int)), ws.length + ws.flatten.length ≤ (words ws).length
  | [] => by simp [words]
  | w :: ws => by
    have := words_ge ws
    have := enc_pos w.length
    simp only [words, List.length_append, List.length_cons, List.flatten_cons]
    omega
theorem words_all : ∀ (ws : List (List Int)), (∀ c ∈ words ws, isByte c) → ∀ w ∈ ws, ∀ c ∈ w, isByte c
  | [], _, w, hw => by cases hw
  | x :: ws, h, w, hw => by
    simp only [words, List.mem_append] at h
    rcases List.mem_cons.1 hw with rfl | hw
    · exact fun c hc => h c (.inl (.inr hc))
    · exact words_all ws (fun c hc => h c (.inr hc)) w hw
theorem allBytes_of {ws : List (List Int)} (h : ∀ w ∈ ws, ∀ c ∈ w, isByte c) : AllBytes ws := fun k => by
  by_cases hk : k < ws.length
  · exact bytes_of (h _ (by simp [List.getD, hk]))
  · simp only [List.getD, List.getElem?_eq_none (Nat.le_of_not_lt hk), Option.getD_none]
    exact fun i => by simp

/-- What is taken of bytes: put again it is these, and small as they are. -/
theorem got_good (bs : List Int) (y : Bool) (ws : List (List Int)) (hb : Bytes bs) (hl : bs.length ≤ 3000) (h : got bs = (y, ws, 0)) : put y ws = bs ∧ ws.length ≤ 3000 ∧ ws.flatten.length ≤ 3000 ∧ AllBytes ws := by
  obtain ⟨hp, _⟩ := put_got bs y ws (of_bytes hb) h
  have h1 := len_put y ws
  have h2 := words_ge ws
  rw [hp] at h1
  refine ⟨hp, by omega, by omega, allBytes_of (words_all ws fun c hc => of_bytes hb c ?_)⟩
  rw [← hp]
  unfold put summed aheadOf
  simp [hc]
theorem got_bad (bs : List Int) (h : (got bs).2.2 ≠ 0) : (got bs).1 = false ∧ (got bs).2.1 = [] := by
  rcases got_cases bs with ⟨_, h1⟩ | ⟨_, h1 | h1 | ⟨ws, h1⟩⟩
  · rw [h1]; exact ⟨rfl, rfl⟩
  · rw [h1]; exact ⟨rfl, rfl⟩
  · rw [h1]; exact ⟨rfl, rfl⟩
  · rw [h1] at h; exact absurd rfl h
theorem put_len_eq (f g : Bool) (ws : List (List Int)) : (put f ws).length = (put g ws).length := by rw [len_put, len_put]
theorem put_bytes (f : Bool) (xss : List (List Int)) (hb : AllBytes xss) : Bytes (put f xss) := by
  refine bytes_of fun c hc => ?_
  unfold put summed at hc
  rcases List.mem_append.1 hc with hc | hc
  · exact of_bytes (ahead_bytes f xss hb) c hc
  · exact four_byte _ (value_bd _) c hc
theorem put_len_le (f : Bool) (xss : List (List Int)) (hn : xss.length ≤ 3000) (hl : xss.flatten.length ≤ 3000) : (put f xss).length ≤ 20004 := by
  have := ahead_le f xss hn hl
  unfold put; rw [len_summed]; omega
theorem told_small (xss : List (List Int)) (hn : xss.length ≤ 3000) (hl : xss.flatten.length ≤ 3000) : PlainPacked.Told xss := ⟨by omega, fun w hw => by
  obtain ⟨k, hk, rfl⟩ := List.mem_iff_getElem.1 hw
  have := getD_flatten_len xss k
  simp only [List.getD, List.getElem?_eq_getElem hk, Option.getD_some] at this
  omega⟩

set_option maxRecDepth 100000 in
set_option maxHeartbeats 4000000 in
theorem pback_walk (f : Bool) (P A : Option Addr) (c1 c2 : Nat) (xss : List (List Int)) (bs : List Int) (w : World) (hB : AllBytes xss) (hb : Bytes bs) (hP : Arrs w P xss) (hA : Arr w .u8 A bs) (hl : xss.length ≤ 9223372036854775807) (hc : bs.length ≤ c2) (hm : c2 ≤ maxLen) :
    Calls Try.prog 4 #[.bool f, .slice P xss.length c1, .slice A bs.length c2] w fun e w' => e = .returned (.bool true) ∧ w.grownBy w' none := by
  replace hP := hid hP
  replace hA := hid hA
  replace hb := hid hb
  replace hB := hid hB
  replace hm := hid hm
  replace hc := hid hc
  go_enter Try.func4, Try.ntmps4
  go_wp2_with fail
  refine (greatTexts_is P c1 xss w hP.out hl).mono ?_
  rintro e w1 ⟨rfl, rfl | ⟨rfl, h80, h3000⟩⟩
  · go_wp2_with fail
    refine (pwakes_true _).mono ?_
    rintro e w' ⟨rfl, hg⟩
    go_wp2_with fail
    go_ret
    exact ⟨rfl, hg⟩
  by_cases h3 : bs.length ≤ 3000
  · have d3 : ¬ (3000 : Int) < (bs.length : Int) := by omega
    go_wp2_with fail
    refine (packPut_is f P c1 xss w (by omega) h3000 hB.out hP.out).mono ?_
    intro e w2 ho
    obtain ⟨A2, cc2, rfl, hcc2, hmm2, hA2, hg2⟩ := ho.arr
    clear ho
    have hgot := hid (got_put f xss (told_small xss (by omega) h3000))
    have hzb := hid (put_bytes f xss hB.out)
    have hzl := hid (put_len_le f xss (by omega) h3000)
    have hze := hid (put_len_eq false f xss)
    generalize put f xss = zs at hcc2 hA2 hgot hzb hzl hze ⊢
    replace hcc2 := hid hcc2
    replace hmm2 := hid hmm2
    have hG2 := hid hg2
    have hA2' := hid hA2
    clear hg2 hA2
    go_wp2_with fail
    refine (packTake_is A2 cc2 zs w2 (by have := hzl.out; omega) hcc2.out hmm2.out hzb.out hA2'.out).mono ?_
    rw [hgot.out]
    rintro e w3 ⟨A3, c3, l, rfl, hlm, hrows, hg3⟩
    simp only at hlm ⊢
    have hR := hrows.arrs.2
    rw [hlm] at hR
    have hll : l.length = xss.length := by rw [← hlm, List.length_map]
    rw [hll]
    have hG3 := hid (grown_trans hG2.out hg3)
    replace hR := hid hR
    clear hrows hg3 hlm hll hgot
    go_wp2_with fail
    refine (refSameWords_is P A3 c1 c3 xss xss w3 hl (hP.out.grown hG3.out) hR.out hB.out hB.out).mono ?_
    rintro e w4 ⟨rfl, hg4⟩
    rw [decide_eq_true rfl]
    have hG4 := hid (grown_trans hG3.out hg4)
    clear hg4
    go_wp2_with fail
    refine (packSize_is P c1 xss w4 (by omega) h3000 hB.out (hP.out.grown hG4.out)).mono ?_
    rintro e w5 ⟨rfl, hg5⟩
    rw [hze.out]
    have hG5 := hid (grown_trans hG4.out hg5)
    clear hg5
    generalize zs.length = zl
    go_wp2_with fail
    refine (packTake_is A c2 bs w5 (by omega) hc.out hm.out hb.out (hA.out.grown hG5.out)).mono ?_
    rintro e w6 ⟨A6, c6, m, rfl, hlm, hrows, hg6⟩
    have hG6 := hid (grown_trans hG5.out hg6)
    have hgood := hid (fun y ws h => got_good bs y ws hb.out h3 h)
    have hbad := hid (got_bad bs)
    have hR6 := hrows.arrs.2
    rw [hlm] at hR6
    have hml : m.length = (got bs).2.1.length := by rw [← hlm, List.length_map]
    rw [hml]
    clear hrows hg6 hml
    generalize got bs = G at hgood hbad hlm hR6 ⊢
    obtain ⟨y, ws, er⟩ := G
    simp only at hbad hlm hR6 ⊢
    replace hlm := hid hlm
    replace hR6 := hid hR6
    by_cases her : er = 0
    · subst her
      obtain ⟨hput, hw1, hw2, hw3⟩ := hgood.out y ws rfl
      have hput' := hid hput
      replace hw3 := hid hw3
      clear hgood hbad hput
      go_upto_region 10 with fail
      apply wp_region_each [isv _, isv _, isArrOf bs, isv (.string (strOfNums bs)), isv _, isv (.string (strOfNums bs)), isv _, isv _, isv (.bool true), isv _, isv _]
        79 [some 69, some 70, some 71, some 72, some 73, some 74, some 75, some 76, some 77, some 78, some 6]
        [some 69, some 70, some 71, some 72, some 73, some 74, some 75, some 76, some 77, some 78, some 6]
        [[], [], [0, 1], [2], [], [4], [3, 5], [6], [7], [7, 8], [9]]
        [(2, .slice A bs.length c2), (11, .bool y), (12, .slice A6 ws.length c6)] (by kernel_rfl) rfl (by kernel_rfl) rfl rfl (by kernel_rfl) (OutsOk.cons rfl rfl (OutsOk.cons rfl rfl (OutsOk.cons rfl rfl OutsOk.nil))) ?st ?ob ?fin
      case ob =>
        refine Obs.consv rfl ?o0 (Obs.consv rfl ?o1 (Obs.consv rfl ?o2 (Obs.consv rfl ?o3 (Obs.consv rfl ?o4 (Obs.consv rfl ?o5 (Obs.consv rfl ?o6 (Obs.consv rfl ?o7 (Obs.consv rfl ?o8 (Obs.consv rfl ?o9 (Obs.consv rfl ?o10 Obs.nil))))))))))
        case o0 =>
          go_light
          intro ac w' hgw
          replace hgw := hid hgw
          simp only [outThen, preThen, slotIs, factAt, isv, List.getElem?_cons_zero, List.getElem?_cons_succ, Option.getD_some, forall_eq]
          intros
          rename_i hK
          replace hK := hid hK
          simp only [wantedAt]
          go_simp
          exact hK.out _ _ rfl (grown_refl _ _)
        case o1 =>
          go_light
          intro ac w' hgw
          replace hgw := hid hgw
          simp only [outThen, preThen, slotIs, factAt, isv, List.getElem?_cons_zero, List.getElem?_cons_succ, Option.getD_some, forall_eq]
          intros
          rename_i hK
          replace hK := hid hK
          simp only [wantedAt]
          go_simp
          exact hK.out _ _ rfl (grown_refl _ _)
        case o2 =>
          go_light
          intro ac w' hgw
          replace hgw := hid hgw
          simp only [outThen, preThen, slotIs, factAt, isv, List.getElem?_cons_zero, List.getElem?_cons_succ, Option.getD_some, forall_eq]
          intros
          rename_i hK
          replace hK := hid hK
          simp only [wantedAt]
          go_simp
          refine (packPut_is y A6 c6 ws _ hw1 hw2 hw3.out (hR6.out.grown (grown_trans (grown_drew (grown_refl w6 none)) hgw.out))).mono ?_
          intro e w9 ho
          rw [hput'.out] at ho
          obtain ⟨X9, d9, rfl, _, _, h9, hg⟩ := ho.arr
          exact hK.out _ _ ⟨X9, d9, rfl, h9⟩ hg
        case o3 =>
          go_light
          intro ac w' hgw
          replace hgw := hid hgw
          simp only [outThen, preThen, slotIs, factAt, isv, List.getElem?_cons_zero, List.getElem?_cons_succ, Option.getD_some, forall_eq]
          intro _ _ _ v1 h1 hv K hK
          replace hK := hid hK
          obtain ⟨X9, d9, rfl, h9⟩ := h1
          have cv := conv_arr w' X9 d9 bs h9
          clear h9
          simp only [wantedAt]
          go_simp
          exact hK.out _ _ rfl (grown_refl _ _)
        case o4 =>
          go_light
          intro ac w' hgw
          replace hgw := hid hgw
          simp only [outThen, preThen, slotIs, factAt, isv, List.getElem?_cons_zero, List.getElem?_cons_succ, Option.getD_some, forall_eq]
          intros
          rename_i hK
          replace hK := hid hK
          simp only [wantedAt]
          go_simp
          exact hK.out _ _ rfl (grown_refl _ _)
        case o5 =>
          go_light
          intro ac w' hgw
          replace hgw := hid hgw
          simp only [outThen, preThen, slotIs, factAt, isv, List.getElem?_cons_zero, List.getElem?_cons_succ, Option.getD_some, forall_eq]
          intros
          rename_i hK
          replace hK := hid hK
          have cv := conv_arr w' A c2 bs (hA.out.grown (grown_trans hG6.out (grown_trans (grown_drew (grown_refl w6 none)) hgw.out)))
          simp only [wantedAt]
          go_simp
          exact hK.out _ _ rfl (grown_refl _ _)
        case o6 =>
          go_light
          intro ac w' hgw
          replace hgw := hid hgw
          simp only [outThen, preThen, slotIs, factAt, isv, List.getElem?_cons_zero, List.getElem?_cons_succ, Option.getD_some, forall_eq]
          intros
          rename_i hK
          replace hK := hid hK
          simp only [wantedAt]
          go_simp
          exact hK.out _ _ rfl (grown_refl _ _)
        case o7 =>
          go_light
          intro ac w' hgw
          replace hgw := hid hgw
          simp only [outThen, preThen, slotIs, factAt, isv, List.getElem?_cons_zero, List.getElem?_cons_succ, Option.getD_some, forall_eq]
          intros
          rename_i hK
          replace hK := hid hK
          simp only [wantedAt]
          go_simp
          exact hK.out _ _ rfl (grown_refl _ _)
        case o8 =>
          go_light
          intro ac w' hgw
          replace hgw := hid hgw
          simp only [outThen, preThen, slotIs, factAt, isv, List.getElem?_cons_zero, List.getElem?_cons_succ, Option.getD_some, forall_eq]
          intros
          rename_i hK
          replace hK := hid hK
          generalize strOfNums bs = sb at *
          simp only [wantedAt]
          go_simp
          refine (pwakes_true _).mono ?_
          rintro e w9 ⟨rfl, hg⟩
          exact hK.out _ _ rfl hg
        case o9 =>
          go_light
          intro ac w' hgw
          replace hgw := hid hgw
          simp only [outThen, preThen, slotIs, factAt, isv, List.getElem?_cons_zero, List.getElem?_cons_succ, Option.getD_some, forall_eq]
          intros
          rename_i hK
          replace hK := hid hK
          simp only [wantedAt]
          go_simp
          exact hK.out _ _ rfl (grown_refl _ _)
        case o10 =>
          go_light
          intro ac w' hgw
          replace hgw := hid hgw
          simp only [outThen, preThen, slotIs, factAt, isv, List.getElem?_cons_zero, List.getElem?_cons_succ, Option.getD_some, forall_eq]
          intros
          rename_i hK
          replace hK := hid hK
          simp only [wantedAt]
          go_simp
          exact hK.out _ _ rfl (grown_refl _ _)
      case st =>
        repeat (first | exact AllStable.nil | (refine AllStable.cons ?_ ?_; focus (first | exact stable_isv _ | exact stable_isBytes _ | exact stable_isRow1 _ | exact stable_isRowOf _ _ | exact stable_isArrOf _)))
      case fin =>
        intro w8 hgw
        simp only [finalIn, factAt, isv, List.getElem?_cons_zero, List.getElem?_cons_succ, Option.getD_some, forall_eq, slotIs, subj]
        rintro v1 ⟨X8, d8, rfl, _⟩
        simp only [Act.put, List.setIfInBounds_toArray, List.set_cons_zero, List.set_cons_succ]
        have hG8 := hid (grown_trans hG6.out (grown_trans (grown_drew (grown_refl w6 none)) hgw))
        clear hgw
        generalize strOfNums bs = sb
        go_wp2_with fail
        go_ret
        exact ⟨rfl, hG8.out⟩
    · have her' : (er != 0) = true := by rw [bne_iff_ne]; exact her
      obtain ⟨hy, hws⟩ := hbad.out her
      subst hy
      subst hws
      clear hgood hbad hlm hR6
      go_wp2_with fail
      refine (pwakes_true _).mono ?_
      rintro e w7 ⟨rfl, hg⟩
      have hG7 := hid (grown_trans hG6.out hg)
      clear hg
      go_wp2_with fail
      go_ret
      exact ⟨rfl, hG7.out⟩
  · have d3 : (3000 : Int) < (bs.length : Int) := by omega
    go_wp2_with fail
    refine (pwakes_true _).mono ?_
    rintro e w' ⟨rfl, hg⟩
    go_wp2_with fail
    go_ret
    exact ⟨rfl, hg⟩
end Go.Proofs.Ytghnbfphhmgcpaa
