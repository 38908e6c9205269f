/- Package letter: two texts that are the same. -/
import Derived.Test.YtojbfjlihenjaaaLHeld
set_option linter.unusedSimpArgs false
set_option linter.unusedVariables false
namespace Go.Proofs.Ytojbfjlihenjaaa
open Go.RowKit PlainLetter

theorem judge_is (f : Bool) (u : Value) (w : World) :
    Calls Try.prog 59 #[.agg #[u], .bool f] w fun e w' => e = .returned (.func (.func (if f = true then 65 else 66)) #[.agg #[u]] #[]) ∧ w.grownBy w' none := by
  cases f with
  | true => exact judge_yes u w
  | false => exact judge_no u w

set_option maxRecDepth 100000 in
set_option maxHeartbeats 1000000 in
theorem letSame_is (f : Bool) (A B : Option Addr) (c d : Nat) (a b : List Int) (w : World) (hla : a.length ≤ 100000) (hlb : b.length ≤ 100000) (ha : Bytes a) (hb : Bytes b) (hA : Arr w .u8 A a) (hB : Arr w .u8 B b) :
    Calls Try.prog 48 #[.bool f, .slice A a.length c, .slice B b.length d] w fun e w' => e = .returned (.bool (same f a b)) ∧ w.grownBy w' none := by
  replace ha := hid ha
  replace hb := hid hb
  replace hA := hid hA
  replace hB := hid hB
  go_enter Try.func48, Try.ntmps48
  go_upto_region 2 with fail
  have hc0 : Hid ((w.alloc (.cells #[.slice A a.length c] 83)).drew.cell? ⟨w.heap.size, 0, none⟩ = some (.slice A a.length c)) := by
    exact hid (by simp)
  apply wp_region_each [isv _, isv (.agg #[.slice A a.length c]), isv _, isv (.agg #[.slice A a.length c]), isv _, isv (.func (.func (if f = true then 65 else 66)) #[.agg #[.slice A a.length c]] #[]), isv (.bool (same f a b)), isv _]
    18 [some 11, some 12, some 13, some 14, some 15, some 16, some 17, some 6]
    [some 11, some 12, some 13, some 14, some 15, some 16, some 17, some 6]
    [[], [0], [], [], [], [3, 4], [1, 2, 5], [6]]
    [(0, .bool f), (2, .slice B b.length d), (7, .pointer (some ⟨w.heap.size, 0, none⟩))] (by kernel_rfl) rfl (by kernel_rfl) rfl rfl (by kernel_rfl) (OutsOk.cons rfl rfl (OutsOk.cons rfl rfl (OutsOk.cons rfl rfl OutsOk.nil))) ?st ?ob ?fin
  case ob =>
    refine Obs.consv rfl ?o0 (Obs.consv rfl ?o1 (Obs.consv rfl ?o2 (Obs.consv rfl ?o3 (Obs.consv rfl ?o4 (Obs.consv rfl ?o5 (Obs.consv rfl ?o6 (Obs.consv rfl ?o7 Obs.nil)))))))
    case o0 =>
      go_light
      intro ac w' hgw
      have hc := ((gcell hgw).1 w.heap.size 0 (by simp)).trans hc0.out
      replace hgw := hid hgw
      simp only [outThen, preThen, slotIs, factAt, isv, List.getElem?_cons_zero, List.getElem?_cons_succ, Option.getD_some, forall_eq]
      intros
      rename_i hK
      replace hK := hid hK
      simp only [wantedAt]
      go_simp
      exact hK.out _ _ rfl (grown_refl _ _)
    case o1 =>
      go_light
      intro ac w' hgw
      have hc := ((gcell hgw).1 w.heap.size 0 (by simp)).trans hc0.out
      replace hgw := hid hgw
      simp only [outThen, preThen, slotIs, factAt, isv, List.getElem?_cons_zero, List.getElem?_cons_succ, Option.getD_some, forall_eq]
      intros
      rename_i hK
      replace hK := hid hK
      simp only [wantedAt]
      go_simp
      exact hK.out _ _ rfl (grown_refl _ _)
    case o2 =>
      go_light
      intro ac w' hgw
      have hc := ((gcell hgw).1 w.heap.size 0 (by simp)).trans hc0.out
      replace hgw := hid hgw
      simp only [outThen, preThen, slotIs, factAt, isv, List.getElem?_cons_zero, List.getElem?_cons_succ, Option.getD_some, forall_eq]
      intros
      rename_i hK
      replace hK := hid hK
      simp only [wantedAt]
      go_simp
      exact hK.out _ _ rfl (grown_refl _ _)
    case o3 =>
      go_light
      intro ac w' hgw
      have hc := ((gcell hgw).1 w.heap.size 0 (by simp)).trans hc0.out
      replace hgw := hid hgw
      simp only [outThen, preThen, slotIs, factAt, isv, List.getElem?_cons_zero, List.getElem?_cons_succ, Option.getD_some, forall_eq]
      intros
      rename_i hK
      replace hK := hid hK
      simp only [wantedAt]
      go_simp
      exact hK.out _ _ rfl (grown_refl _ _)
    case o4 =>
      go_light
      intro ac w' hgw
      have hc := ((gcell hgw).1 w.heap.size 0 (by simp)).trans hc0.out
      replace hgw := hid hgw
      simp only [outThen, preThen, slotIs, factAt, isv, List.getElem?_cons_zero, List.getElem?_cons_succ, Option.getD_some, forall_eq]
      intros
      rename_i hK
      replace hK := hid hK
      simp only [wantedAt]
      go_simp
      exact hK.out _ _ rfl (grown_refl _ _)
    case o5 =>
      go_light
      intro ac w' hgw
      have hc := ((gcell hgw).1 w.heap.size 0 (by simp)).trans hc0.out
      replace hgw := hid hgw
      simp only [outThen, preThen, slotIs, factAt, isv, List.getElem?_cons_zero, List.getElem?_cons_succ, Option.getD_some, forall_eq]
      intros
      rename_i hK
      replace hK := hid hK
      simp only [wantedAt]
      go_simp
      refine (judge_is f _ _).mono ?_
      rintro e w3 ⟨rfl, hg⟩
      exact hK.out _ _ rfl hg
    case o6 =>
      go_light
      intro ac w' hgw
      have hc := ((gcell hgw).1 w.heap.size 0 (by simp)).trans hc0.out
      replace hgw := hid hgw
      simp only [outThen, preThen, slotIs, factAt, isv, List.getElem?_cons_zero, List.getElem?_cons_succ, Option.getD_some, forall_eq]
      intros
      rename_i hK
      replace hK := hid hK
      simp only [wantedAt]
      go_simp
      refine (held_is f A B c d a b _ hla ha.out hb.out (hA.out.grown (grown_trans (grown_drew (grown_alloc (grown_refl w none) _)) hgw.out)) (hB.out.grown (grown_trans (grown_drew (grown_alloc (grown_refl w none) _)) hgw.out)) _).mono ?_
      rintro e w3 ⟨rfl, hg⟩
      exact hK.out _ _ rfl hg
    case o7 =>
      go_light
      intro ac w' hgw
      have hc := ((gcell hgw).1 w.heap.size 0 (by simp)).trans hc0.out
      replace hgw := hid hgw
      simp only [outThen, preThen, slotIs, factAt, isv, List.getElem?_cons_zero, List.getElem?_cons_succ, Option.getD_some, forall_eq]
      intros
      rename_i hK
      replace hK := hid hK
      simp only [wantedAt]
      go_simp
      exact hK.out _ _ rfl (grown_refl _ _)
  case st =>
    repeat (first | exact AllStable.nil | (refine AllStable.cons ?_ ?_; focus (first | exact stable_isv _ | exact stable_isBytes _ | exact stable_isRow1 _ | exact stable_isRowOf _ _ | exact stable_isArrOf _)))
  case fin =>
    intro w3 hgw
    simp only [finalIn, factAt, isv, List.getElem?_cons_zero, List.getElem?_cons_succ, Option.getD_some, forall_eq, slotIs, subj]
    simp only [Act.put, List.setIfInBounds_toArray, List.set_cons_zero, List.set_cons_succ]
    have hG := hid (grown_trans (grown_drew (grown_alloc (grown_refl w none) _)) hgw)
    generalize (if f = true then 65 else 66) = ff
    go_wp2_with fail
    go_ret
    exact ⟨rfl, hG.out⟩

end Go.Proofs.Ytojbfjlihenjaaa

/- Package letter: the first word that is the same. -/
namespace Go.Proofs.Ytojbfjlihenjaaa
open Go.RowKit PlainLetter

set_option maxHeartbeats 800000 in
theorem letWhich_is (f : Bool) (A P : Option Addr) (c d : Nat) (text : List Int) (xss : List (List Int)) (w : World) (hla : text.length ≤ 100000) (ha : Bytes text) (hA : Arr w .u8 A text) (hP : Arrs w P xss) (hS : Small xss) :
    Calls Try.prog 34 #[.bool f, .slice A text.length c, .slice P xss.length d] w fun e w' => e = .returned (.int .i64 (which f text xss)) ∧ w.grownBy w' none := by
  obtain ⟨hS1, hS2⟩ := hS
  replace hS2 := hid hS2
  replace ha := hid ha
  replace hA := hid hA
  replace hP := hid hP
  go_enter Try.func34, Try.ntmps34
  go_wp2
  go_loopw [11] (fun i wr => ∃ k : Nat, k ≤ xss.length ∧ i = .int .i64 k ∧ (∀ j, j < k → same f text (xss.getD j []) = false) ∧ w.grownBy wr none) (fun i _ => xss.length - (intOf i).toNat)
  case atStart => exact ⟨0, Nat.zero_le _, rfl, fun j hj => absurd hj (Nat.not_lt_zero j), grown_refl _ _⟩
  case round =>
    obtain ⟨k, hk, rfl, hall, hG⟩ := hrel
    replace hall := hid hall
    by_cases hlt : k < xss.length
    · obtain ⟨b, off, Ai, ci, rfl, hb, hcell0, hAi⟩ := hP.out.at_ hlt
      have hcell := ((gcell hG).1 b (off + k) hb).trans hcell0
      have hAi' := hid (hAi.grown hG)
      have hA' := hid (hA.out.grown hG)
      obtain ⟨hxl, hxb⟩ := hS2.out k
      replace hxb := hid hxb
      replace hG := hid hG
      clear hcell0 hAi
      have hhit := hid (fun h => which_hit f text xss k hlt hall.out h)
      have hmiss : Hid (same f text (xss.getD k []) = false → ∀ j, j < k + 1 → same f text (xss.getD j []) = false) := fun h j hj => by
        by_cases hjk : j = k
        · subst hjk; exact h
        · exact hall.out j (by omega)
      generalize xss.getD k [] = xs at hcell hAi' hxl hxb hhit hmiss
      cases hsame : same f text xs with
      | true =>
        have hw := hid (hhit.out hsame)
        replace hsame := hid hsame
        go_wp2_with fail
        refine (letSame_is f A Ai c ci text xs wr hla hxl ha.out hxb.out hA'.out hAi'.out).mono ?_
        rintro e w1 ⟨rfl, hg⟩
        rw [hsame.out]
        go_wp2_with fail
        go_ret
        exact ⟨by rw [hw.out]; rfl, grown_trans hG.out hg⟩
      | false =>
        have hw := hid (hmiss.out hsame)
        replace hsame := hid hsame
        go_wp2_with fail
        refine (letSame_is f A Ai c ci text xs wr hla hxl ha.out hxb.out hA'.out hAi'.out).mono ?_
        rintro e w1 ⟨rfl, hg⟩
        rw [hsame.out]
        go_wp2_with fail
        go_roundw
        case rel => exact ⟨k + 1, by omega, by go_num, hw.out, grown_trans hG.out hg⟩
        case measure => simp [intOf]; omega
    · obtain rfl : k = xss.length := by omega
      have hw := hid (which_none f text xss hall.out)
      go_wp2
      go_ret
      exact ⟨by rw [hw.out]; rfl, hG⟩
end Go.Proofs.Ytojbfjlihenjaaa
