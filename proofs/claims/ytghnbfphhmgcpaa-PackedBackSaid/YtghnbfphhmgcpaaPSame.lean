/- The document's own answer: the same words. -/
import Derived.Test.YtghnbfphhmgcpaaRefTake
import Derived.Test.YtghnbfphhmgcpaaStrs
import Derived.Deep.Light
set_option linter.unusedSimpArgs false
set_option linter.unusedVariables false
namespace Go.Proofs.Ytghnbfphhmgcpaa
open Go.RowKit

theorem getD_same {l m : List (List Int)} (hl : l.length = m.length) (h : ∀ k, k < l.length → l.getD k [] = m.getD k []) : l = m := by
  refine List.ext_getElem hl (fun i hi hi' => ?_)
  have := h i hi
  simpa [List.getD, hi, hi'] using this

set_option maxRecDepth 100000 in
set_option maxHeartbeats 1000000 in
theorem refSameWords_is (A B : Option Addr) (c d : Nat) (xss yss : List (List Int)) (w : World) (hl : xss.length ≤ 9223372036854775807) (hA : Arrs w A xss) (hB : Arrs w B yss) (hx : ∀ i, Bytes (xss.getD i [])) (hy : ∀ i, Bytes (yss.getD i [])) :
    Calls Try.prog 14 #[.slice A xss.length c, .slice B yss.length d] w fun e w' => e = .returned (.bool (decide (xss = yss))) ∧ w.grownBy w' none := by
  replace hA := hid hA
  replace hB := hid hB
  replace hx := hid hx
  replace hy := hid hy
  by_cases hlen : xss.length = yss.length
  · rw [← hlen]
    replace hlen := hid hlen
    go_enter Try.func14, Try.ntmps14
    go_wp2_with fail
    go_loopw [5] (fun i wr => ∃ k : Nat, k ≤ xss.length ∧ i = .int .i64 k ∧ w.grownBy wr none ∧ ∀ j, j < k → xss.getD j [] = yss.getD j []) (fun i _ => xss.length - (intOf i).toNat)
    case atStart => exact ⟨0, Nat.zero_le _, rfl, grown_refl _ _, fun j hj => absurd hj (Nat.not_lt_zero _)⟩
    case round =>
      obtain ⟨k, hk0, rfl, hG, hsame⟩ := hrel
      replace hsame := hid hsame
      by_cases hlt : k < xss.length
      · obtain ⟨b, off, Ai, ci, rfl, hb0, hcell0, hAi⟩ := hA.out.at_ hlt
        obtain ⟨b2, off2, Bi, di, rfl, hb20, hcell20, hBi⟩ := hB.out.at_ (i := k) (by rw [← hlen.out]; exact hlt)
        have hcx := hid (((gcell hG).1 b (off + k) hb0).trans hcell0)
        have hcy := hid (((gcell hG).1 b2 (off2 + k) hb20).trans hcell20)
        have hbl : Hid (b < wr.heap.size) := Nat.lt_of_lt_of_le hb0 hG.size
        have hb2l : Hid (b2 < wr.heap.size) := Nat.lt_of_lt_of_le hb20 hG.size
        have hA1 := hid (hAi.grown hG)
        have hB1 := hid (hBi.grown hG)
        have hse := hid (str_eq (xss.getD k []) (yss.getD k []) (hx.out k) (hy.out k))
        replace hG := hid hG
        clear hcell0 hcell20 hAi hBi hb0 hb20
        generalize hxs : xss.getD k [] = xs at hcx hA1 hse
        generalize hys : yss.getD k [] = ys at hcy hB1 hse
        replace hxs := hid hxs
        replace hys := hid hys
        have q0 : (0 : Int) ≤ (k : Int) := by omega
        have q1 : (k : Int) < (xss.length : Int) := by omega
        go_wp2_with fail
        apply wp_region_each [isv _, isv _, isv _, isv _, isv (.string (strOfNums xs)), isv _, isv _, isv _, isv _, isv (.string (strOfNums ys)), isv _]
          28 [some 17, some 18, some 19, some 20, some 21, some 22, some 23, some 24, some 25, some 26, some 27]
          [some 17, some 18, some 19, some 20, some 21, some 22, some 23, some 24, some 25, some 26, some 27]
          [[], [], [0, 1], [2], [3], [], [], [5, 6], [7], [8], [4, 9]]
          [(0, .slice (some ⟨b, off, none⟩) xss.length c), (1, .slice (some ⟨b2, off2, none⟩) xss.length d), (5, .int .i64 k)] (by kernel_rfl) rfl (by kernel_rfl) rfl rfl (by kernel_rfl) (OutsOk.cons rfl rfl (OutsOk.cons rfl rfl (OutsOk.cons rfl rfl OutsOk.nil))) ?st ?ob ?fin
        case ob =>
          refine Obs.consv rfl ?o0 (Obs.consv rfl ?o1 (Obs.consv rfl ?o2 (Obs.consv rfl ?o3 (Obs.consv rfl ?o4 (Obs.consv rfl ?o5 (Obs.consv rfl ?o6 (Obs.consv rfl ?o7 (Obs.consv rfl ?o8 (Obs.consv rfl ?o9 (Obs.consv rfl ?o10 Obs.nil))))))))))
          case o0 =>
            go_light
            intro ac w' hgw
            have hcxw := ((gcell hgw).1 b (off + k) hbl.out).trans hcx.out
            have hcyw := ((gcell hgw).1 b2 (off2 + k) hb2l.out).trans hcy.out
            replace hgw := hid hgw
            simp only [outThen, preThen, slotIs, factAt, isv, List.getElem?_cons_zero, List.getElem?_cons_succ, Option.getD_some, forall_eq]
            intros
            rename_i hK
            replace hK := hid hK
            simp only [wantedAt]
            go_simp
            exact hK.out _ _ rfl (grown_refl _ _)
          case o1 =>
            go_light
            intro ac w' hgw
            have hcxw := ((gcell hgw).1 b (off + k) hbl.out).trans hcx.out
            have hcyw := ((gcell hgw).1 b2 (off2 + k) hb2l.out).trans hcy.out
            replace hgw := hid hgw
            simp only [outThen, preThen, slotIs, factAt, isv, List.getElem?_cons_zero, List.getElem?_cons_succ, Option.getD_some, forall_eq]
            intros
            rename_i hK
            replace hK := hid hK
            simp only [wantedAt]
            go_simp
            exact hK.out _ _ rfl (grown_refl _ _)
          case o2 =>
            go_light
            intro ac w' hgw
            have hcxw := ((gcell hgw).1 b (off + k) hbl.out).trans hcx.out
            have hcyw := ((gcell hgw).1 b2 (off2 + k) hb2l.out).trans hcy.out
            replace hgw := hid hgw
            simp only [outThen, preThen, slotIs, factAt, isv, List.getElem?_cons_zero, List.getElem?_cons_succ, Option.getD_some, forall_eq]
            intros
            rename_i hK
            replace hK := hid hK
            simp only [wantedAt]
            go_simp
            exact hK.out _ _ rfl (grown_refl _ _)
          case o3 =>
            go_light
            intro ac w' hgw
            have hcxw := ((gcell hgw).1 b (off + k) hbl.out).trans hcx.out
            have hcyw := ((gcell hgw).1 b2 (off2 + k) hb2l.out).trans hcy.out
            replace hgw := hid hgw
            simp only [outThen, preThen, slotIs, factAt, isv, List.getElem?_cons_zero, List.getElem?_cons_succ, Option.getD_some, forall_eq]
            intros
            rename_i hK
            replace hK := hid hK
            simp only [wantedAt]
            go_simp
            exact hK.out _ _ rfl (grown_refl _ _)
          case o4 =>
            go_light
            intro ac w' hgw
            have hcxw := ((gcell hgw).1 b (off + k) hbl.out).trans hcx.out
            have hcyw := ((gcell hgw).1 b2 (off2 + k) hb2l.out).trans hcy.out
            replace hgw := hid hgw
            simp only [outThen, preThen, slotIs, factAt, isv, List.getElem?_cons_zero, List.getElem?_cons_succ, Option.getD_some, forall_eq]
            intros
            rename_i hK
            replace hK := hid hK
            have cv := conv_arr w' Ai ci xs ((hA1.out.grown (grown_drew (grown_refl wr none))).grown hgw.out)
            simp only [wantedAt]
            go_simp
            exact hK.out _ _ rfl (grown_refl _ _)
          case o5 =>
            go_light
            intro ac w' hgw
            have hcxw := ((gcell hgw).1 b (off + k) hbl.out).trans hcx.out
            have hcyw := ((gcell hgw).1 b2 (off2 + k) hb2l.out).trans hcy.out
            replace hgw := hid hgw
            simp only [outThen, preThen, slotIs, factAt, isv, List.getElem?_cons_zero, List.getElem?_cons_succ, Option.getD_some, forall_eq]
            intros
            rename_i hK
            replace hK := hid hK
            simp only [wantedAt]
            go_simp
            exact hK.out _ _ rfl (grown_refl _ _)
          case o6 =>
            go_light
            intro ac w' hgw
            have hcxw := ((gcell hgw).1 b (off + k) hbl.out).trans hcx.out
            have hcyw := ((gcell hgw).1 b2 (off2 + k) hb2l.out).trans hcy.out
            replace hgw := hid hgw
            simp only [outThen, preThen, slotIs, factAt, isv, List.getElem?_cons_zero, List.getElem?_cons_succ, Option.getD_some, forall_eq]
            intros
            rename_i hK
            replace hK := hid hK
            simp only [wantedAt]
            go_simp
            exact hK.out _ _ rfl (grown_refl _ _)
          case o7 =>
            go_light
            intro ac w' hgw
            have hcxw := ((gcell hgw).1 b (off + k) hbl.out).trans hcx.out
            have hcyw := ((gcell hgw).1 b2 (off2 + k) hb2l.out).trans hcy.out
            replace hgw := hid hgw
            simp only [outThen, preThen, slotIs, factAt, isv, List.getElem?_cons_zero, List.getElem?_cons_succ, Option.getD_some, forall_eq]
            intros
            rename_i hK
            replace hK := hid hK
            simp only [wantedAt]
            go_simp
            exact hK.out _ _ rfl (grown_refl _ _)
          case o8 =>
            go_light
            intro ac w' hgw
            have hcxw := ((gcell hgw).1 b (off + k) hbl.out).trans hcx.out
            have hcyw := ((gcell hgw).1 b2 (off2 + k) hb2l.out).trans hcy.out
            replace hgw := hid hgw
            simp only [outThen, preThen, slotIs, factAt, isv, List.getElem?_cons_zero, List.getElem?_cons_succ, Option.getD_some, forall_eq]
            intros
            rename_i hK
            replace hK := hid hK
            simp only [wantedAt]
            go_simp
            exact hK.out _ _ rfl (grown_refl _ _)
          case o9 =>
            go_light
            intro ac w' hgw
            have hcxw := ((gcell hgw).1 b (off + k) hbl.out).trans hcx.out
            have hcyw := ((gcell hgw).1 b2 (off2 + k) hb2l.out).trans hcy.out
            replace hgw := hid hgw
            simp only [outThen, preThen, slotIs, factAt, isv, List.getElem?_cons_zero, List.getElem?_cons_succ, Option.getD_some, forall_eq]
            intros
            rename_i hK
            replace hK := hid hK
            have cv := conv_arr w' Bi di ys ((hB1.out.grown (grown_drew (grown_refl wr none))).grown hgw.out)
            simp only [wantedAt]
            go_simp
            exact hK.out _ _ rfl (grown_refl _ _)
          case o10 =>
            go_light
            intro ac w' hgw
            have hcxw := ((gcell hgw).1 b (off + k) hbl.out).trans hcx.out
            have hcyw := ((gcell hgw).1 b2 (off2 + k) hb2l.out).trans hcy.out
            replace hgw := hid hgw
            simp only [outThen, preThen, slotIs, factAt, isv, List.getElem?_cons_zero, List.getElem?_cons_succ, Option.getD_some, forall_eq]
            intros
            rename_i hK
            replace hK := hid hK
            simp only [wantedAt]
            go_simp
            exact hK.out _ _ rfl (grown_refl _ _)
        case st =>
          repeat (first | exact AllStable.nil | (refine AllStable.cons ?_ ?_; focus (first | exact stable_isv _ | exact stable_isBytes _ | exact stable_isRow1 _ | exact stable_isRowOf _ _ | exact stable_isArrOf _)))
        case fin =>
          intro w3 hgw
          simp only [finalIn, factAt, isv, List.getElem?_cons_zero, List.getElem?_cons_succ, Option.getD_some, forall_eq, slotIs, subj]
          simp only [Act.put, List.setIfInBounds_toArray, List.set_cons_zero, List.set_cons_succ]
          have hG3 := hid (grown_trans (grown_drew hG.out) hgw)
          clear hgw hcx hcy hA1 hB1
          have he := hse.out
          generalize strOfNums xs = sx at he ⊢
          generalize strOfNums ys = sy at he ⊢
          by_cases heq : xs = ys
          · rw [decide_eq_true heq] at he
            simp only [bne, he, Bool.not_true]
            replace he := hid he
            replace heq := hid heq
            go_wp2_with fail
            go_roundw
            case rel => exact ⟨k + 1, by omega, by go_num, hG3.out, fun j hj => by
              by_cases hjk : j < k
              · exact hsame.out j hjk
              · obtain rfl : j = k := by omega
                exact hxs.out.trans (heq.out.trans hys.out.symm)⟩
            case measure => simp [intOf]; omega
          · rw [decide_eq_false heq] at he
            simp only [bne, he, Bool.not_false]
            replace he := hid he
            have hne : Hid (decide (xss = yss) = false) := decide_eq_false (fun h => heq (by rw [← hxs.out, ← hys.out, h]))
            replace heq := hid heq
            go_wp2_with fail
            go_ret
            exact ⟨by rw [hne.out]; rfl, hG3.out⟩
      · obtain rfl : k = xss.length := by omega
        have heq : Hid (decide (xss = yss) = true) := decide_eq_true (getD_same hlen.out hsame.out)
        replace hG := hid hG
        go_wp2_with fail
        go_ret
        exact ⟨by rw [heq.out]; rfl, hG.out⟩
  · have hne : Hid (decide (xss = yss) = false) := decide_eq_false (fun h => hlen (by rw [h]))
    have hn : ((xss.length : Int) == (yss.length : Int)) = false := by rw [beq_eq_false_iff_ne]; omega
    have hn' : ((xss.length : Int) != (yss.length : Int)) = true := by rw [bne_iff_ne]; omega
    replace hlen := hid hlen
    go_enter Try.func14, Try.ntmps14
    go_wp2_with fail
    go_ret
    exact ⟨by rw [hne.out]; rfl, grown_refl _ _⟩

end Go.Proofs.Ytghnbfphhmgcpaa
