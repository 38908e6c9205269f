/- The document's own answer: texts that are the same. -/
import Derived.Test.YtojbfjlihenjaaaLRef
import Derived.Test.YtojbfjlihenjaaaStrs
set_option linter.unusedSimpArgs false
set_option linter.unusedVariables false
namespace Go.Proofs.Ytojbfjlihenjaaa
open Go.RowKit PlainLetter

theorem Bytes.fold {xs : List Int} (h : Bytes xs) : Bytes (xs.map fold) := fun k => by
  by_cases hk : k < xs.length
  · have := fold_byte (xs.getD k 0) (h k)
    simpa [List.getD, hk] using this
  · simp [List.getD, List.getElem?_eq_none (Nat.le_of_not_lt hk)]

set_option maxHeartbeats 800000 in
theorem refSame_is (f : Bool) (A B : Option Addr) (c d : Nat) (a b : List Int) (w : World) (hla : a.length ≤ 100000) (hlb : b.length ≤ 100000) (ha : Bytes a) (hb : Bytes b) (hA : Arr w .u8 A a) (hB : Arr w .u8 B b) :
    Calls Try.prog 26 #[.bool f, .slice A a.length c, .slice B b.length d] w fun e w' => e = .returned (.bool (same f a b)) ∧ w.grownBy w' none := by
  cases f with
  | false =>
    have hs := hid (str_eq a b ha hb)
    have hr := hid (same_false a b)
    have cv1 := conv_arr w A c a hA
    have cv2 := conv_arr w B d b hB
    clear ha hb hA hB
    generalize strOfNums a = sa at cv1 hs
    generalize strOfNums b = sb at cv2 hs
    go_enter Try.func26, Try.ntmps26
    go_wp2
    go_ret
    exact ⟨by rw [hr.out, ← hs.out]; rfl, grown_refl _ _⟩
  | true =>
    have hs := hid (str_eq (a.map fold) (b.map fold) ha.fold hb.fold)
    have hr := hid (same_true a b)
    replace ha := hid ha
    replace hb := hid hb
    have hA' : Hid (Arr w.drew .u8 A a) := hA
    have hB' : Hid (Arr w.drew .u8 B b) := hB
    clear hA hB
    go_enter Try.func26, Try.ntmps26
    go_wp2
    apply wp_region_each [isv _, isArrOf (a.map fold), isv (.string (strOfNums (a.map fold))), isv _, isArrOf (b.map fold), isv (.string (strOfNums (b.map fold))), isv _, isv _]
      20 [some 8, some 9, some 10, some 11, some 12, some 13, some 14, some 6]
      [some 8, some 9, some 10, some 11, some 12, some 13, some 14, some 6]
      [[], [0], [1], [], [3], [4], [2, 5], [6]]
      [(1, .slice A a.length c), (2, .slice B b.length d)] (by kernel_rfl) rfl (by kernel_rfl) rfl rfl (by kernel_rfl) (OutsOk.cons rfl rfl (OutsOk.cons rfl rfl OutsOk.nil)) ?st ?ob ?fin
    case ob =>
      refine Obs.consv rfl ?o0 (Obs.consv rfl ?o1 (Obs.consv rfl ?o2 (Obs.consv rfl ?o3 (Obs.consv rfl ?o4 (Obs.consv rfl ?o5 (Obs.consv rfl ?o6 (Obs.consv rfl ?o7 Obs.nil)))))))
      case o0 =>
        go_light
        intro ac w' hgw
        replace hgw := hid hgw
        simp only [outThen, preThen, slotIs, factAt, isv, List.getElem?_cons_zero, List.getElem?_cons_succ, Option.getD_some, forall_eq]
        intros
        rename_i hK
        replace hK := hid hK
        simp only [wantedAt]
        go_simp
        exact hK.out _ _ rfl (grown_refl _ _)
      case o1 =>
        go_light
        intro ac w' hgw
        replace hgw := hid hgw
        simp only [outThen, preThen, slotIs, factAt, isv, List.getElem?_cons_zero, List.getElem?_cons_succ, Option.getD_some, forall_eq]
        intros
        rename_i hK
        replace hK := hid hK
        simp only [wantedAt]
        go_simp
        refine (refFolded_is A c a _ hla ha.out (hA'.out.grown hgw.out)).mono ?_
        rintro e w9 ho
        obtain ⟨X9, d9, rfl, _, _, h9, hg⟩ := ho.arr
        exact hK.out _ _ ⟨X9, d9, rfl, h9⟩ hg
      case o2 =>
        go_light
        intro ac w' hgw
        replace hgw := hid hgw
        simp only [outThen, preThen, slotIs, factAt, isv, List.getElem?_cons_zero, List.getElem?_cons_succ, Option.getD_some, forall_eq]
        intro _ _ v1 h1 hv K hK
        replace hK := hid hK
        obtain ⟨X9, d9, rfl, h9⟩ := h1
        have cv := conv_arr w' X9 d9 (a.map fold) h9
        simp only [List.length_map] at cv hv
        clear h9
        simp only [wantedAt]
        go_simp
        exact hK.out _ _ rfl (grown_refl _ _)
      case o3 =>
        go_light
        intro ac w' hgw
        replace hgw := hid hgw
        simp only [outThen, preThen, slotIs, factAt, isv, List.getElem?_cons_zero, List.getElem?_cons_succ, Option.getD_some, forall_eq]
        intros
        rename_i hK
        replace hK := hid hK
        simp only [wantedAt]
        go_simp
        exact hK.out _ _ rfl (grown_refl _ _)
      case o4 =>
        go_light
        intro ac w' hgw
        replace hgw := hid hgw
        simp only [outThen, preThen, slotIs, factAt, isv, List.getElem?_cons_zero, List.getElem?_cons_succ, Option.getD_some, forall_eq]
        intros
        rename_i hK
        replace hK := hid hK
        simp only [wantedAt]
        go_simp
        refine (refFolded_is B d b _ hlb hb.out (hB'.out.grown hgw.out)).mono ?_
        rintro e w9 ho
        obtain ⟨X9, d9, rfl, _, _, h9, hg⟩ := ho.arr
        exact hK.out _ _ ⟨X9, d9, rfl, h9⟩ hg
      case o5 =>
        go_light
        intro ac w' hgw
        replace hgw := hid hgw
        simp only [outThen, preThen, slotIs, factAt, isv, List.getElem?_cons_zero, List.getElem?_cons_succ, Option.getD_some, forall_eq]
        intro _ _ v1 h1 hv K hK
        replace hK := hid hK
        obtain ⟨X9, d9, rfl, h9⟩ := h1
        have cv := conv_arr w' X9 d9 (b.map fold) h9
        simp only [List.length_map] at cv hv
        clear h9
        simp only [wantedAt]
        go_simp
        exact hK.out _ _ rfl (grown_refl _ _)
      case o6 =>
        go_light
        intro ac w' hgw
        replace hgw := hid hgw
        simp only [outThen, preThen, slotIs, factAt, isv, List.getElem?_cons_zero, List.getElem?_cons_succ, Option.getD_some, forall_eq]
        intros
        rename_i hK
        replace hK := hid hK
        simp only [wantedAt]
        go_simp
        exact hK.out _ _ rfl (grown_refl _ _)
      case o7 =>
        go_light
        intro ac w' hgw
        replace hgw := hid hgw
        simp only [outThen, preThen, slotIs, factAt, isv, List.getElem?_cons_zero, List.getElem?_cons_succ, Option.getD_some, forall_eq]
        intros
        rename_i hK
        replace hK := hid hK
        simp only [wantedAt]
        go_simp
        exact hK.out _ _ rfl (grown_refl _ _)
    case st =>
      repeat (first | exact AllStable.nil | (refine AllStable.cons ?_ ?_; focus (first | exact stable_isv _ | exact stable_isBytes _ | exact stable_isRow1 _ | exact stable_isRowOf _ _ | exact stable_isArrOf _)))
    case fin =>
      intro w8 hgw
      simp only [finalIn, factAt, isv, List.getElem?_cons_zero, List.getElem?_cons_succ, Option.getD_some, forall_eq, slotIs, subj]
      rintro v1 ⟨X8, d8, rfl, _⟩ v2 ⟨X9, d9, rfl, _⟩
      simp only [Act.put, List.setIfInBounds_toArray, List.set_cons_zero, List.set_cons_succ]
      replace hgw := hid (grown_trans (grown_drew (grown_refl w none)) hgw)
      go_wp2_with fail
      go_ret
      exact ⟨by rw [hr.out, ← hs.out]; rfl, hgw.out⟩

end Go.Proofs.Ytojbfjlihenjaaa
