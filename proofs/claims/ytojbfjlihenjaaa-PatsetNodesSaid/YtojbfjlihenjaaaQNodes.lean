/- The document's own answer: a list's nodes. -/
import Derived.Test.YtojbfjlihenjaaaQText
import Derived.Test.YtojbfjlihenjaaaGreat
import Derived.Test.YtojbfjlihenjaaaDraw
set_option linter.unusedSimpArgs false
set_option linter.unusedVariables false
namespace Go.Proofs.Ytojbfjlihenjaaa
open Go.RowKit PlainLetter PlainPatset

theorem nodesFrom_le : ∀ (l pre : List (List Int)), nodesFrom pre l ≤ l.flatten.length
  | [], _ => by simp [nodesFrom]
  | x :: l, pre => by
    have := nodesFrom_le l (pre ++ [x])
    simp only [nodesFrom, List.flatten_cons, List.length_append]
    omega
theorem flatten_fold (f : Bool) (l : List (List Int)) : (l.map (foldIf f)).flatten.length = l.flatten.length := by
  induction l with
  | nil => rfl
  | cons x l ih => simp only [List.map_cons, List.flatten_cons, List.length_append, foldIf_length, ih]
/-- Nodes of the first words. -/
def nodesTo (f : Bool) (xss : List (List Int)) (i : Nat) : Nat := nodes f (xss.take i)
theorem nodesTo_succ (f : Bool) (xss : List (List Int)) (i : Nat) (h : i < xss.length) : nodesTo f xss (i + 1) = nodesTo f xss i + ((xss.getD i []).length - old ((xss.take i).map (foldIf f)) (foldIf f (xss.getD i []))) := by
  unfold nodesTo; rw [take_getD xss i [] h, nodes_more, foldIf_length]
theorem nodesTo_le (f : Bool) (xss : List (List Int)) (i : Nat) : nodesTo f xss i ≤ 1 + xss.flatten.length := by
  unfold nodesTo nodes nodesOf
  have h1 := nodesFrom_le ((xss.take i).map (foldIf f)) []
  rw [flatten_fold] at h1
  have := flatten_take_le xss i
  omega
/-- The longest beginning that one of the first j words has, too. -/
def oldTo (f : Bool) (xss : List (List Int)) (j : Nat) (x : List Int) : Nat := old ((xss.take j).map (foldIf f)) x
theorem oldTo_succ (f : Bool) (xss : List (List Int)) (j : Nat) (x : List Int) (h : j < xss.length) : oldTo f xss (j + 1) x = max (oldTo f xss j x) (common x (foldIf f (xss.getD j []))) := by
  unfold oldTo; rw [take_getD xss j [] h, List.map_append, old_append, List.map_cons, List.map_nil, old_one]
theorem oldTo_le (f : Bool) (xss : List (List Int)) (j : Nat) (x : List Int) : oldTo f xss j x ≤ x.length := old_le _ _

set_option maxRecDepth 100000 in
set_option maxHeartbeats 4000000 in
theorem refNodes_is (f : Bool) (P : Option Addr) (c : Nat) (xss : List (List Int)) (w : World) (hn : xss.length ≤ 100000) (hl : xss.flatten.length ≤ 100000) (hB : ∀ i, Bytes (xss.getD i [])) (hP : Arrs w P xss) :
    Calls Try.prog 19 #[.bool f, .slice P xss.length c] w fun e w' => e = .returned (.int .i64 (nodes f xss : Nat)) ∧ w.grownBy w' none := by
  replace hP := hid hP
  replace hB := hid hB
  have hbd := hid (nodesTo_le f xss)
  have hst := hid (nodesTo_succ f xss)
  have hgl : Hid (∀ i, (xss.getD i []).length ≤ xss.flatten.length) := hid (fun k => by
    by_cases hk : k < xss.length
    · have h1 := flatten_take_succ xss k hk
      have h2 := flatten_take_le xss (k + 1)
      rw [h1, List.length_append] at h2
      omega
    · simp [List.getD, List.getElem?_eq_none (Nat.le_of_not_lt hk)])
  go_enter Try.func19, Try.ntmps19
  go_wp2_with fail
  go_loopw [5, 6] (fun u v wr => ∃ i : Nat, i ≤ xss.length ∧ v = .int .i64 i ∧ u = .int .i64 (nodesTo f xss i : Nat) ∧ w.grownBy wr none) (fun _ v _ => xss.length - (intOf v).toNat)
  case atStart => exact ⟨0, by omega, rfl, by simp [nodesTo, nodes, nodesOf, nodesFrom], grown_refl _ _⟩
  case round =>
    obtain ⟨i, hi, rfl, rfl, hG⟩ := hrel
    replace hG := hid hG
    by_cases hlt : i < xss.length
    · have hb1 := hbd.out i
      have hb2 := hbd.out (i + 1)
      have hst1 := hid (hst.out i hlt)
      obtain ⟨b, off, Ai, ci, rfl, hb, hci0, hAi0⟩ := hP.out.at_ hlt
      have hAib := hid (hB.out i)
      have hxl := hgl.out i
      have hol := hid (fun j => oldTo_le f xss j (foldIf f (xss.getD i [])))
      have hos := hid (fun j h => oldTo_succ f xss j (foldIf f (xss.getD i [])) h)
      have hst2 : Hid (nodesTo f xss (i + 1) = nodesTo f xss i + ((xss.getD i []).length - oldTo f xss i (foldIf f (xss.getD i [])))) := hst1.out
      generalize nodesTo f xss i = nn at hb1 hst2 ⊢
      clear hst1
      generalize hxx : xss.getD i [] = x at hci0 hAi0 hAib hxl hol hos hst2
      replace hxx := hid hxx
      replace hci0 := hid hci0
      replace hAi0 := hid hAi0
      have hblow : Hid (b < w.heap.size) := hb
      clear hb
      go_wp2_with fail
      obtain ⟨wo, rfl⟩ : ∃ wo : World, wo = wr := ⟨_, rfl⟩
      go_loopw [7, 8] (fun u v wx => ∃ j m : Nat, j ≤ i ∧ v = .int .i64 j ∧ u = .int .i64 m ∧ m = oldTo f xss j (foldIf f x) ∧ w.grownBy wx none) (fun _ v _ => i - (intOf v).toNat)
      case atStart => exact ⟨0, 0, by omega, rfl, rfl, by simp [oldTo, old], hG.out⟩
      case round =>
        clear hG
        obtain ⟨j, m, hj, rfl, rfl, hm, hG⟩ := hrel
        have hml := hol.out j
        rw [← hm, foldIf_length] at hml
        replace hm := hid hm
        have hG' := hid hG
        by_cases hjt : j < i
        · obtain ⟨b2, off2, Aj, cj, hbe, _, hcj0, hAj0⟩ := hP.out.at_ (i := j) (by omega)
          obtain ⟨rfl, rfl⟩ : b = b2 ∧ off = off2 := by
            injection hbe with hbe
            injection hbe with h1 h2
            exact ⟨h1, h2⟩
          have hci := hid (((gcell hG).1 b (off + i) hblow.out).trans hci0.out)
          have hcj := hid (((gcell hG).1 b (off + j) hblow.out).trans hcj0)
          have hbl : Hid (b < wr.heap.size) := Nat.lt_of_lt_of_le hblow.out hG.size
          have hAi := hid (hAi0.out.grown hG)
          have hAj := hid (hAj0.grown hG)
          have hAjb := hid (hB.out j)
          have hyl := hgl.out j
          have hold1 := hid ((hos.out j (by omega)))
          rw [← hm.out] at hold1
          clear hbe hcj0 hAj0 hG
          generalize xss.getD j [] = y at hcj hAj hAjb hyl hold1
          have i0 : (0 : Int) ≤ (i : Int) := by omega
          have i1 : (i : Int) < (xss.length : Int) := by omega
          have j0 : (0 : Int) ≤ (j : Int) := by omega
          have j1 : (j : Int) < (xss.length : Int) := by omega
          have hG := hG'
          go_wp2_with fail
          apply head_plain 15 [isv _, isv _, isv _, isv _, isv _, isv _, isArrOf (foldIf f x), isv _, isv _, isv _, isv _, isv _, isArrOf (foldIf f y), isv (.int .i64 (common (foldIf f x) (foldIf f y) : Nat)), isv (.int .i64 (max m (common (foldIf f x) (foldIf f y)) : Nat))]
            45 [some 20, some 21, some 22, some 23, some 24, some 25, some 26, some 27, some 28, some 29, some 30, some 31, some 32, some 33, some 34]
            [some 20, some 21, some 22, some 23, some 24, some 25, some 26, some 27, some 28, some 29, some 30, some 31, some 32, some 33, some 34]
            [[], [], [], [], [2, 3], [4], [1, 5], [], [], [], [8, 9], [10], [7, 11], [6, 12], [0, 13]]
            [(0, .bool f), (1, .slice (some ⟨b, off, none⟩) xss.length c), (6, .int .i64 i), (7, .int .i64 m), (8, .int .i64 j)] (by kernel_rfl) rfl (by kernel_rfl) (by kernel_rfl) rfl rfl (by kernel_rfl) (OutsOk.cons rfl rfl (OutsOk.cons rfl rfl (OutsOk.cons rfl rfl (OutsOk.cons rfl rfl (OutsOk.cons rfl rfl OutsOk.nil))))) ?st ?ob ?fin
          case ob =>
            refine Obs.consv rfl ?o0 (Obs.consv rfl ?o1 (Obs.consv rfl ?o2 (Obs.consv rfl ?o3 (Obs.consv rfl ?o4 (Obs.consv rfl ?o5 (Obs.consv rfl ?o6 (Obs.consv rfl ?o7 (Obs.consv rfl ?o8 (Obs.consv rfl ?o9 (Obs.consv rfl ?o10 (Obs.consv rfl ?o11 (Obs.consv rfl ?o12 (Obs.consv rfl ?o13 (Obs.consv rfl ?o14 Obs.nil))))))))))))))
            case o0 =>
              go_light
              intro ac w' hgw
              have hcx := ((gcell hgw).1 b (off + i) hbl.out).trans hci.out
              have hcy := ((gcell hgw).1 b (off + j) hbl.out).trans hcj.out
              replace hgw := hid hgw
              simp only [outThen, preThen, slotIs, factAt, isv, List.getElem?_cons_zero, List.getElem?_cons_succ, Option.getD_some, forall_eq]
              intros
              rename_i hK
              replace hK := hid hK
              simp only [wantedAt]
              go_simp
              exact hK.out _ _ rfl (grown_refl _ _)
            case o1 =>
              go_light
              intro ac w' hgw
              have hcx := ((gcell hgw).1 b (off + i) hbl.out).trans hci.out
              have hcy := ((gcell hgw).1 b (off + j) hbl.out).trans hcj.out
              replace hgw := hid hgw
              simp only [outThen, preThen, slotIs, factAt, isv, List.getElem?_cons_zero, List.getElem?_cons_succ, Option.getD_some, forall_eq]
              intros
              rename_i hK
              replace hK := hid hK
              simp only [wantedAt]
              go_simp
              exact hK.out _ _ rfl (grown_refl _ _)
            case o2 =>
              go_light
              intro ac w' hgw
              have hcx := ((gcell hgw).1 b (off + i) hbl.out).trans hci.out
              have hcy := ((gcell hgw).1 b (off + j) hbl.out).trans hcj.out
              replace hgw := hid hgw
              simp only [outThen, preThen, slotIs, factAt, isv, List.getElem?_cons_zero, List.getElem?_cons_succ, Option.getD_some, forall_eq]
              intros
              rename_i hK
              replace hK := hid hK
              simp only [wantedAt]
              go_simp
              exact hK.out _ _ rfl (grown_refl _ _)
            case o3 =>
              go_light
              intro ac w' hgw
              have hcx := ((gcell hgw).1 b (off + i) hbl.out).trans hci.out
              have hcy := ((gcell hgw).1 b (off + j) hbl.out).trans hcj.out
              replace hgw := hid hgw
              simp only [outThen, preThen, slotIs, factAt, isv, List.getElem?_cons_zero, List.getElem?_cons_succ, Option.getD_some, forall_eq]
              intros
              rename_i hK
              replace hK := hid hK
              simp only [wantedAt]
              go_simp
              exact hK.out _ _ rfl (grown_refl _ _)
            case o4 =>
              go_light
              intro ac w' hgw
              have hcx := ((gcell hgw).1 b (off + i) hbl.out).trans hci.out
              have hcy := ((gcell hgw).1 b (off + j) hbl.out).trans hcj.out
              replace hgw := hid hgw
              simp only [outThen, preThen, slotIs, factAt, isv, List.getElem?_cons_zero, List.getElem?_cons_succ, Option.getD_some, forall_eq]
              intros
              rename_i hK
              replace hK := hid hK
              simp only [wantedAt]
              go_simp
              exact hK.out _ _ rfl (grown_refl _ _)
            case o5 =>
              go_light
              intro ac w' hgw
              have hcx := ((gcell hgw).1 b (off + i) hbl.out).trans hci.out
              have hcy := ((gcell hgw).1 b (off + j) hbl.out).trans hcj.out
              replace hgw := hid hgw
              simp only [outThen, preThen, slotIs, factAt, isv, List.getElem?_cons_zero, List.getElem?_cons_succ, Option.getD_some, forall_eq]
              intros
              rename_i hK
              replace hK := hid hK
              simp only [wantedAt]
              go_simp
              exact hK.out _ _ rfl (grown_refl _ _)
            case o6 =>
              go_light
              intro ac w' hgw
              have hcx := ((gcell hgw).1 b (off + i) hbl.out).trans hci.out
              have hcy := ((gcell hgw).1 b (off + j) hbl.out).trans hcj.out
              replace hgw := hid hgw
              simp only [outThen, preThen, slotIs, factAt, isv, List.getElem?_cons_zero, List.getElem?_cons_succ, Option.getD_some, forall_eq]
              intros
              rename_i hK
              replace hK := hid hK
              simp only [wantedAt]
              go_simp
              refine (refText_is f Ai ci x _ (by omega) hAib.out (hAi.out.grown (grown_trans (grown_drew (grown_refl wr none)) hgw.out))).mono ?_
              intro e w9 ho
              obtain ⟨X9, d9, rfl, _, _, h9, hg⟩ := ho.arr
              exact hK.out _ _ ⟨X9, d9, rfl, h9⟩ hg
            case o7 =>
              go_light
              intro ac w' hgw
              have hcx := ((gcell hgw).1 b (off + i) hbl.out).trans hci.out
              have hcy := ((gcell hgw).1 b (off + j) hbl.out).trans hcj.out
              replace hgw := hid hgw
              simp only [outThen, preThen, slotIs, factAt, isv, List.getElem?_cons_zero, List.getElem?_cons_succ, Option.getD_some, forall_eq]
              intros
              rename_i hK
              replace hK := hid hK
              simp only [wantedAt]
              go_simp
              exact hK.out _ _ rfl (grown_refl _ _)
            case o8 =>
              go_light
              intro ac w' hgw
              have hcx := ((gcell hgw).1 b (off + i) hbl.out).trans hci.out
              have hcy := ((gcell hgw).1 b (off + j) hbl.out).trans hcj.out
              replace hgw := hid hgw
              simp only [outThen, preThen, slotIs, factAt, isv, List.getElem?_cons_zero, List.getElem?_cons_succ, Option.getD_some, forall_eq]
              intros
              rename_i hK
              replace hK := hid hK
              simp only [wantedAt]
              go_simp
              exact hK.out _ _ rfl (grown_refl _ _)
            case o9 =>
              go_light
              intro ac w' hgw
              have hcx := ((gcell hgw).1 b (off + i) hbl.out).trans hci.out
              have hcy := ((gcell hgw).1 b (off + j) hbl.out).trans hcj.out
              replace hgw := hid hgw
              simp only [outThen, preThen, slotIs, factAt, isv, List.getElem?_cons_zero, List.getElem?_cons_succ, Option.getD_some, forall_eq]
              intros
              rename_i hK
              replace hK := hid hK
              simp only [wantedAt]
              go_simp
              exact hK.out _ _ rfl (grown_refl _ _)
            case o10 =>
              go_light
              intro ac w' hgw
              have hcx := ((gcell hgw).1 b (off + i) hbl.out).trans hci.out
              have hcy := ((gcell hgw).1 b (off + j) hbl.out).trans hcj.out
              replace hgw := hid hgw
              simp only [outThen, preThen, slotIs, factAt, isv, List.getElem?_cons_zero, List.getElem?_cons_succ, Option.getD_some, forall_eq]
              intros
              rename_i hK
              replace hK := hid hK
              simp only [wantedAt]
              go_simp
              exact hK.out _ _ rfl (grown_refl _ _)
            case o11 =>
              go_light
              intro ac w' hgw
              have hcx := ((gcell hgw).1 b (off + i) hbl.out).trans hci.out
              have hcy := ((gcell hgw).1 b (off + j) hbl.out).trans hcj.out
              replace hgw := hid hgw
              simp only [outThen, preThen, slotIs, factAt, isv, List.getElem?_cons_zero, List.getElem?_cons_succ, Option.getD_some, forall_eq]
              intros
              rename_i hK
              replace hK := hid hK
              simp only [wantedAt]
              go_simp
              exact hK.out _ _ rfl (grown_refl _ _)
            case o12 =>
              go_light
              intro ac w' hgw
              have hcx := ((gcell hgw).1 b (off + i) hbl.out).trans hci.out
              have hcy := ((gcell hgw).1 b (off + j) hbl.out).trans hcj.out
              replace hgw := hid hgw
              simp only [outThen, preThen, slotIs, factAt, isv, List.getElem?_cons_zero, List.getElem?_cons_succ, Option.getD_some, forall_eq]
              intros
              rename_i hK
              replace hK := hid hK
              simp only [wantedAt]
              go_simp
              refine (refText_is f Aj cj y _ (by omega) hAjb.out (hAj.out.grown (grown_trans (grown_drew (grown_refl wr none)) hgw.out))).mono ?_
              intro e w9 ho
              obtain ⟨X9, d9, rfl, _, _, h9, hg⟩ := ho.arr
              exact hK.out _ _ ⟨X9, d9, rfl, h9⟩ hg
            case o13 =>
              go_light
              intro ac w' hgw
              have hcx := ((gcell hgw).1 b (off + i) hbl.out).trans hci.out
              have hcy := ((gcell hgw).1 b (off + j) hbl.out).trans hcj.out
              replace hgw := hid hgw
              simp only [outThen, preThen, slotIs, factAt, isv, List.getElem?_cons_zero, List.getElem?_cons_succ, Option.getD_some, forall_eq]
              intro _ _ _ _ _ v1 h1 hv1 v2 h2 hv2 K hK
              replace hK := hid hK
              obtain ⟨X1, d1, rfl, k1⟩ := h1
              obtain ⟨X2, d2, rfl, k2⟩ := h2
              have h1' := hid k1
              have h2' := hid k2
              clear k1 k2
              simp only [wantedAt]
              go_simp
              refine (refCommon_is X1 X2 d1 d2 _ _ _ (by rw [foldIf_length]; omega) h1'.out h2'.out).mono ?_
              rintro e w9 ⟨rfl, hg⟩
              exact hK.out _ _ rfl hg
            case o14 =>
              go_light
              intro ac w' hgw
              have hcx := ((gcell hgw).1 b (off + i) hbl.out).trans hci.out
              have hcy := ((gcell hgw).1 b (off + j) hbl.out).trans hcj.out
              replace hgw := hid hgw
              simp only [outThen, preThen, slotIs, factAt, isv, List.getElem?_cons_zero, List.getElem?_cons_succ, Option.getD_some, forall_eq]
              intros
              rename_i hK
              replace hK := hid hK
              generalize common (foldIf f x) (foldIf f y) = cc at *
              simp only [wantedAt]
              go_simp
              exact hK.out _ _ (by simp; try omega) (grown_refl _ _)
          case st =>
            repeat (first | exact AllStable.nil | (refine AllStable.cons ?_ ?_; focus (first | exact stable_isv _ | exact stable_isBytes _ | exact stable_isRow1 _ | exact stable_isRowOf _ _ | exact stable_isArrOf _)))
          case fin =>
            intro w8 hgw
            simp only [finalIn, factAt, isv, List.getElem?_cons_zero, List.getElem?_cons_succ, Option.getD_some, forall_eq, slotIs, subj, List.take_succ_cons, List.take_zero]
            rintro v1 ⟨X1, d1, rfl, _⟩ v2 ⟨X2, d2, rfl, _⟩
            simp only [Act.put, List.setIfInBounds_toArray, List.set_cons_zero, List.set_cons_succ, List.drop_succ_cons, List.drop_zero]
            have hG8 := hid (grown_trans hG.out (grown_trans (grown_drew (grown_refl wr none)) hgw))
            clear hgw
            gi_wp2
            go_wp2_with fail
            go_roundw
            case rel => exact ⟨j + 1, _, by omega, by go_num, rfl, by rw [hold1.out], hG8.out⟩
            case measure => simp [intOf]; omega
        · obtain rfl : j = i := by omega
          have hci := ((gcell hG).1 b (off + j) hblow.out).trans hci0.out
          have hfin := hid hst2.out
          rw [← hm.out] at hfin
          clear hci0 hG
          have i0 : (0 : Int) ≤ (j : Int) := by omega
          have i1 : (j : Int) < (xss.length : Int) := by omega
          go_wp2_with fail
          go_roundw
          case rel => exact ⟨j + 1, by omega, by go_num, by rw [hfin.out]; go_num, hG'.out⟩
          case measure => simp [intOf]; omega
    · obtain rfl : i = xss.length := by omega
      have hend : Hid (nodesTo f xss xss.length = nodes f xss) := hid (by unfold nodesTo; rw [List.take_length])
      rw [hend.out]
      generalize hnn : nodes f xss = nn
      replace hnn := hid hnn
      go_wp2_with fail
      go_ret
      exact ⟨by rw [hnn.out]; rfl, hG.out⟩
end Go.Proofs.Ytojbfjlihenjaaa
