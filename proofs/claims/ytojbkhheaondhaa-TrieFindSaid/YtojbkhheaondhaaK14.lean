/- The document's own answer: a list's nodes. The document's own answer: what is wrong with a list. The document's own answer: sets that are too great. -/
import Derived.Test.YtojbkhheaondhaaQText
import Derived.Test.YtojbkhheaondhaaK8
set_option linter.unusedSimpArgs false
set_option linter.unusedVariables false
namespace Go.Proofs.Ytojbkhheaondhaa
open Go.RowKit PlainLetter PlainPatset

theorem nodesFrom_le : ∀ (l pre : List (List Int)), nodesFrom pre l ≤ l.flatten.length
  | [], _ => by simp [nodesFrom]
  | x :: l, pre => by
    have := nodesFrom_le l (pre ++ [x])
    simp only [nodesFrom, List.flatten_cons, List.length_append]
    omega
theorem flatten_fold (f : Bool) (l : List (List Int)) : (l.map (foldIf f)).flatten.length = l.flatten.length := by
  induction l with
  | nil => rfl
  | cons x l ih => simp only [List.map_cons, List.flatten_cons, List.length_append, foldIf_length, ih]
/-- Nodes of the first words. -/
def nodesTo (f : Bool) (xss : List (List Int)) (i : Nat) : Nat := nodes f (xss.take i)
theorem nodesTo_succ (f : Bool) (xss : List (List Int)) (i : Nat) (h : i < xss.length) : nodesTo f xss (i + 1) = nodesTo f xss i + ((xss.getD i []).length - old ((xss.take i).map (foldIf f)) (foldIf f (xss.getD i []))) := by
  unfold nodesTo; rw [take_getD xss i [] h, nodes_more, foldIf_length]
theorem nodesTo_le (f : Bool) (xss : List (List Int)) (i : Nat) : nodesTo f xss i ≤ 1 + xss.flatten.length := by
  unfold nodesTo nodes nodesOf
  have h1 := nodesFrom_le ((xss.take i).map (foldIf f)) []
  rw [flatten_fold] at h1
  have := flatten_take_le xss i
  omega
/-- The longest beginning that one of the first j words has, too. -/
def oldTo (f : Bool) (xss : List (List Int)) (j : Nat) (x : List Int) : Nat := old ((xss.take j).map (foldIf f)) x
theorem oldTo_succ (f : Bool) (xss : List (List Int)) (j : Nat) (x : List Int) (h : j < xss.length) : oldTo f xss (j + 1) x = max (oldTo f xss j x) (common x (foldIf f (xss.getD j []))) := by
  unfold oldTo; rw [take_getD xss j [] h, List.map_append, old_append, List.map_cons, List.map_nil, old_one]
theorem oldTo_le (f : Bool) (xss : List (List Int)) (j : Nat) (x : List Int) : oldTo f xss j x ≤ x.length := old_le _ _

set_option maxRecDepth 100000 in
set_option maxHeartbeats 4000000 in
theorem refNodes_is (f : Bool) (P : Option Addr) (c : Nat) (xss : List (List Int)) (w : World) (hn : xss.length ≤ 100000) (hl : xss.flatten.length ≤ 100000) (hB : ∀ i, Bytes (xss.getD i [])) (hP : Arrs w P xss) :
    Calls Try.prog 13 #[.bool f, .slice P xss.length c] w fun e w' => e = .returned (.int .i64 (nodes f xss : Nat)) ∧ w.grownBy w' none := by
  replace hP := hid hP
  replace hB := hid hB
  have hbd := hid (nodesTo_le f xss)
  have hst := hid (nodesTo_succ f xss)
  have hgl : Hid (∀ i, (xss.getD i []).length ≤ xss.flatten.length) := hid (fun k => by
    by_cases hk : k < xss.length
    · have h1 := flatten_take_succ xss k hk
      have h2 := flatten_take_le xss (k + 1)
      rw [h1, List.length_append] at h2
      omega
    · simp [List.getD, List.getElem?_eq_none (Nat.le_of_not_lt hk)])
  go_enter Try.func13, Try.ntmps13
  go_wp2_with fail
  go_loopw [5, 6] (fun u v wr => ∃ i : Nat, i ≤ xss.length ∧ v = .int .i64 i ∧ u = .int .i64 (nodesTo f xss i : Nat) ∧ w.grownBy wr none) (fun _ v _ => xss.length - (intOf v).toNat)
  case atStart => exact ⟨0, by omega, rfl, by simp [nodesTo, nodes, nodesOf, nodesFrom], grown_refl _ _⟩
  case round =>
    obtain ⟨i, hi, rfl, rfl, hG⟩ := hrel
    replace hG := hid hG
    by_cases hlt : i < xss.length
    · have hb1 := hbd.out i
      have hb2 := hbd.out (i + 1)
      have hst1 := hid (hst.out i hlt)
      obtain ⟨b, off, Ai, ci, rfl, hb, hci0, hAi0⟩ := hP.out.at_ hlt
      have hAib := hid (hB.out i)
      have hxl := hgl.out i
      have hol := hid (fun j => oldTo_le f xss j (foldIf f (xss.getD i [])))
      have hos := hid (fun j h => oldTo_succ f xss j (foldIf f (xss.getD i [])) h)
      have hst2 : Hid (nodesTo f xss (i + 1) = nodesTo f xss i + ((xss.getD i []).length - oldTo f xss i (foldIf f (xss.getD i [])))) := hst1.out
      generalize nodesTo f xss i = nn at hb1 hst2 ⊢
      clear hst1
      generalize hxx : xss.getD i [] = x at hci0 hAi0 hAib hxl hol hos hst2
      replace hxx := hid hxx
      replace hci0 := hid hci0
      replace hAi0 := hid hAi0
      have hblow : Hid (b < w.heap.size) := hb
      clear hb
      go_wp2_with fail
      obtain ⟨wo, rfl⟩ : ∃ wo : World, wo = wr := ⟨_, rfl⟩
      go_loopw [7, 8] (fun u v wx => ∃ j m : Nat, j ≤ i ∧ v = .int .i64 j ∧ u = .int .i64 m ∧ m = oldTo f xss j (foldIf f x) ∧ w.grownBy wx none) (fun _ v _ => i - (intOf v).toNat)
      case atStart => exact ⟨0, 0, by omega, rfl, rfl, by simp [oldTo, old], hG.out⟩
      case round =>
        clear hG
        obtain ⟨j, m, hj, rfl, rfl, hm, hG⟩ := hrel
        have hml := hol.out j
        rw [← hm, foldIf_length] at hml
        replace hm := hid hm
        have hG' := hid hG
        by_cases hjt : j < i
        · obtain ⟨b2, off2, Aj, cj, hbe, _, hcj0, hAj0⟩ := hP.out.at_ (i := j) (by omega)
          obtain ⟨rfl, rfl⟩ : b = b2 ∧ off = off2 := by
            injection hbe with hbe
            injection hbe with h1 h2
            exact ⟨h1, h2⟩
          have hci := hid (((gcell hG).1 b (off + i) hblow.out).trans hci0.out)
          have hcj := hid (((gcell hG).1 b (off + j) hblow.out).trans hcj0)
          have hbl : Hid (b < wr.heap.size) := Nat.lt_of_lt_of_le hblow.out hG.size
          have hAi := hid (hAi0.out.grown hG)
          have hAj := hid (hAj0.grown hG)
          have hAjb := hid (hB.out j)
          have hyl := hgl.out j
          have hold1 := hid ((hos.out j (by omega)))
          rw [← hm.out] at hold1
          clear hbe hcj0 hAj0 hG
          generalize xss.getD j [] = y at hcj hAj hAjb hyl hold1
          have i0 : (0 : Int) ≤ (i : Int) := by omega
          have i1 : (i : Int) < (xss.length : Int) := by omega
          have j0 : (0 : Int) ≤ (j : Int) := by omega
          have j1 : (j : Int) < (xss.length : Int) := by omega
          have hG := hG'
          go_wp2_with fail
          apply head_plain 15 [isv _, isv _, isv _, isv _, isv _, isv _, isArrOf (foldIf f x), isv _, isv _, isv _, isv _, isv _, isArrOf (foldIf f y), isv (.int .i64 (common (foldIf f x) (foldIf f y) : Nat)), isv (.int .i64 (max m (common (foldIf f x) (foldIf f y)) : Nat))]
            45 [some 20, some 21, some 22, some 23, some 24, some 25, some 26, some 27, some 28, some 29, some 30, some 31, some 32, some 33, some 34]
            [some 20, some 21, some 22, some 23, some 24, some 25, some 26, some 27, some 28, some 29, some 30, some 31, some 32, some 33, some 34]
            [[], [], [], [], [2, 3], [4], [1, 5], [], [], [], [8, 9], [10], [7, 11], [6, 12], [0, 13]]
            [(0, .bool f), (1, .slice (some ⟨b, off, none⟩) xss.length c), (6, .int .i64 i), (7, .int .i64 m), (8, .int .i64 j)] (by kernel_rfl) rfl (by kernel_rfl) (by kernel_rfl) rfl rfl (by kernel_rfl) (OutsOk.cons rfl rfl (OutsOk.cons rfl rfl (OutsOk.cons rfl rfl (OutsOk.cons rfl rfl (OutsOk.cons rfl rfl OutsOk.nil))))) ?st ?ob ?fin
          case ob =>
            refine Obs.consv rfl ?o0 (Obs.consv rfl ?o1 (Obs.consv rfl ?o2 (Obs.consv rfl ?o3 (Obs.consv rfl ?o4 (Obs.consv rfl ?o5 (Obs.consv rfl ?o6 (Obs.consv rfl ?o7 (Obs.consv rfl ?o8 (Obs.consv rfl ?o9 (Obs.consv rfl ?o10 (Obs.consv rfl ?o11 (Obs.consv rfl ?o12 (Obs.consv rfl ?o13 (Obs.consv rfl ?o14 Obs.nil))))))))))))))
            case o0 =>
              go_light
              intro ac w' hgw
              have hcx := ((gcell hgw).1 b (off + i) hbl.out).trans hci.out
              have hcy := ((gcell hgw).1 b (off + j) hbl.out).trans hcj.out
              replace hgw := hid hgw
              simp only [outThen, preThen, slotIs, factAt, isv, List.getElem?_cons_zero, List.getElem?_cons_succ, Option.getD_some, forall_eq]
              intros
              rename_i hK
              replace hK := hid hK
              simp only [wantedAt]
              go_simp
              exact hK.out _ _ rfl (grown_refl _ _)
            case o1 =>
              go_light
              intro ac w' hgw
              have hcx := ((gcell hgw).1 b (off + i) hbl.out).trans hci.out
              have hcy := ((gcell hgw).1 b (off + j) hbl.out).trans hcj.out
              replace hgw := hid hgw
              simp only [outThen, preThen, slotIs, factAt, isv, List.getElem?_cons_zero, List.getElem?_cons_succ, Option.getD_some, forall_eq]
              intros
              rename_i hK
              replace hK := hid hK
              simp only [wantedAt]
              go_simp
              exact hK.out _ _ rfl (grown_refl _ _)
            case o2 =>
              go_light
              intro ac w' hgw
              have hcx := ((gcell hgw).1 b (off + i) hbl.out).trans hci.out
              have hcy := ((gcell hgw).1 b (off + j) hbl.out).trans hcj.out
              replace hgw := hid hgw
              simp only [outThen, preThen, slotIs, factAt, isv, List.getElem?_cons_zero, List.getElem?_cons_succ, Option.getD_some, forall_eq]
              intros
              rename_i hK
              replace hK := hid hK
              simp only [wantedAt]
              go_simp
              exact hK.out _ _ rfl (grown_refl _ _)
            case o3 =>
              go_light
              intro ac w' hgw
              have hcx := ((gcell hgw).1 b (off + i) hbl.out).trans hci.out
              have hcy := ((gcell hgw).1 b (off + j) hbl.out).trans hcj.out
              replace hgw := hid hgw
              simp only [outThen, preThen, slotIs, factAt, isv, List.getElem?_cons_zero, List.getElem?_cons_succ, Option.getD_some, forall_eq]
              intros
              rename_i hK
              replace hK := hid hK
              simp only [wantedAt]
              go_simp
              exact hK.out _ _ rfl (grown_refl _ _)
            case o4 =>
              go_light
              intro ac w' hgw
              have hcx := ((gcell hgw).1 b (off + i) hbl.out).trans hci.out
              have hcy := ((gcell hgw).1 b (off + j) hbl.out).trans hcj.out
              replace hgw := hid hgw
              simp only [outThen, preThen, slotIs, factAt, isv, List.getElem?_cons_zero, List.getElem?_cons_succ, Option.getD_some, forall_eq]
              intros
              rename_i hK
              replace hK := hid hK
              simp only [wantedAt]
              go_simp
              exact hK.out _ _ rfl (grown_refl _ _)
            case o5 =>
              go_light
              intro ac w' hgw
              have hcx := ((gcell hgw).1 b (off + i) hbl.out).trans hci.out
              have hcy := ((gcell hgw).1 b (off + j) hbl.out).trans hcj.out
              replace hgw := hid hgw
              simp only [outThen, preThen, slotIs, factAt, isv, List.getElem?_cons_zero, List.getElem?_cons_succ, Option.getD_some, forall_eq]
              intros
              rename_i hK
              replace hK := hid hK
              simp only [wantedAt]
              go_simp
              exact hK.out _ _ rfl (grown_refl _ _)
            case o6 =>
              go_light
              intro ac w' hgw
              have hcx := ((gcell hgw).1 b (off + i) hbl.out).trans hci.out
              have hcy := ((gcell hgw).1 b (off + j) hbl.out).trans hcj.out
              replace hgw := hid hgw
              simp only [outThen, preThen, slotIs, factAt, isv, List.getElem?_cons_zero, List.getElem?_cons_succ, Option.getD_some, forall_eq]
              intros
              rename_i hK
              replace hK := hid hK
              simp only [wantedAt]
              go_simp
              refine (refText_is f Ai ci x _ (by omega) hAib.out (hAi.out.grown (grown_trans (grown_drew (grown_refl wr none)) hgw.out))).mono ?_
              intro e w9 ho
              obtain ⟨X9, d9, rfl, _, _, h9, hg⟩ := ho.arr
              exact hK.out _ _ ⟨X9, d9, rfl, h9⟩ hg
            case o7 =>
              go_light
              intro ac w' hgw
              have hcx := ((gcell hgw).1 b (off + i) hbl.out).trans hci.out
              have hcy := ((gcell hgw).1 b (off + j) hbl.out).trans hcj.out
              replace hgw := hid hgw
              simp only [outThen, preThen, slotIs, factAt, isv, List.getElem?_cons_zero, List.getElem?_cons_succ, Option.getD_some, forall_eq]
              intros
              rename_i hK
              replace hK := hid hK
              simp only [wantedAt]
              go_simp
              exact hK.out _ _ rfl (grown_refl _ _)
            case o8 =>
              go_light
              intro ac w' hgw
              have hcx := ((gcell hgw).1 b (off + i) hbl.out).trans hci.out
              have hcy := ((gcell hgw).1 b (off + j) hbl.out).trans hcj.out
              replace hgw := hid hgw
              simp only [outThen, preThen, slotIs, factAt, isv, List.getElem?_cons_zero, List.getElem?_cons_succ, Option.getD_some, forall_eq]
              intros
              rename_i hK
              replace hK := hid hK
              simp only [wantedAt]
              go_simp
              exact hK.out _ _ rfl (grown_refl _ _)
            case o9 =>
              go_light
              intro ac w' hgw
              have hcx := ((gcell hgw).1 b (off + i) hbl.out).trans hci.out
              have hcy := ((gcell hgw).1 b (off + j) hbl.out).trans hcj.out
              replace hgw := hid hgw
              simp only [outThen, preThen, slotIs, factAt, isv, List.getElem?_cons_zero, List.getElem?_cons_succ, Option.getD_some, forall_eq]
              intros
              rename_i hK
              replace hK := hid hK
              simp only [wantedAt]
              go_simp
              exact hK.out _ _ rfl (grown_refl _ _)
            case o10 =>
              go_light
              intro ac w' hgw
              have hcx := ((gcell hgw).1 b (off + i) hbl.out).trans hci.out
              have hcy := ((gcell hgw).1 b (off + j) hbl.out).trans hcj.out
              replace hgw := hid hgw
              simp only [outThen, preThen, slotIs, factAt, isv, List.getElem?_cons_zero, List.getElem?_cons_succ, Option.getD_some, forall_eq]
              intros
              rename_i hK
              replace hK := hid hK
              simp only [wantedAt]
              go_simp
              exact hK.out _ _ rfl (grown_refl _ _)
            case o11 =>
              go_light
              intro ac w' hgw
              have hcx := ((gcell hgw).1 b (off + i) hbl.out).trans hci.out
              have hcy := ((gcell hgw).1 b (off + j) hbl.out).trans hcj.out
              replace hgw := hid hgw
              simp only [outThen, preThen, slotIs, factAt, isv, List.getElem?_cons_zero, List.getElem?_cons_succ, Option.getD_some, forall_eq]
              intros
              rename_i hK
              replace hK := hid hK
              simp only [wantedAt]
              go_simp
              exact hK.out _ _ rfl (grown_refl _ _)
            case o12 =>
              go_light
              intro ac w' hgw
              have hcx := ((gcell hgw).1 b (off + i) hbl.out).trans hci.out
              have hcy := ((gcell hgw).1 b (off + j) hbl.out).trans hcj.out
              replace hgw := hid hgw
              simp only [outThen, preThen, slotIs, factAt, isv, List.getElem?_cons_zero, List.getElem?_cons_succ, Option.getD_some, forall_eq]
              intros
              rename_i hK
              replace hK := hid hK
              simp only [wantedAt]
              go_simp
              refine (refText_is f Aj cj y _ (by omega) hAjb.out (hAj.out.grown (grown_trans (grown_drew (grown_refl wr none)) hgw.out))).mono ?_
              intro e w9 ho
              obtain ⟨X9, d9, rfl, _, _, h9, hg⟩ := ho.arr
              exact hK.out _ _ ⟨X9, d9, rfl, h9⟩ hg
            case o13 =>
              go_light
              intro ac w' hgw
              have hcx := ((gcell hgw).1 b (off + i) hbl.out).trans hci.out
              have hcy := ((gcell hgw).1 b (off + j) hbl.out).trans hcj.out
              replace hgw := hid hgw
              simp only [outThen, preThen, slotIs, factAt, isv, List.getElem?_cons_zero, List.getElem?_cons_succ, Option.getD_some, forall_eq]
              intro _ _ _ _ _ v1 h1 hv1 v2 h2 hv2 K hK
              replace hK := hid hK
              obtain ⟨X1, d1, rfl, k1⟩ := h1
              obtain ⟨X2, d2, rfl, k2⟩ := h2
              have h1' := hid k1
              have h2' := hid k2
              clear k1 k2
              simp only [wantedAt]
              go_simp
              refine (refCommon_is X1 X2 d1 d2 _ _ _ (by rw [foldIf_length]; omega) h1'.out h2'.out).mono ?_
              rintro e w9 ⟨rfl, hg⟩
              exact hK.out _ _ rfl hg
            case o14 =>
              go_light
              intro ac w' hgw
              have hcx := ((gcell hgw).1 b (off + i) hbl.out).trans hci.out
              have hcy := ((gcell hgw).1 b (off + j) hbl.out).trans hcj.out
              replace hgw := hid hgw
              simp only [outThen, preThen, slotIs, factAt, isv, List.getElem?_cons_zero, List.getElem?_cons_succ, Option.getD_some, forall_eq]
              intros
              rename_i hK
              replace hK := hid hK
              generalize common (foldIf f x) (foldIf f y) = cc at *
              simp only [wantedAt]
              go_simp
              exact hK.out _ _ (by simp; try omega) (grown_refl _ _)
          case st =>
            repeat (first | exact AllStable.nil | (refine AllStable.cons ?_ ?_; focus (first | exact stable_isv _ | exact stable_isBytes _ | exact stable_isRow1 _ | exact stable_isRowOf _ _ | exact stable_isArrOf _)))
          case fin =>
            intro w8 hgw
            simp only [finalIn, factAt, isv, List.getElem?_cons_zero, List.getElem?_cons_succ, Option.getD_some, forall_eq, slotIs, subj, List.take_succ_cons, List.take_zero]
            rintro v1 ⟨X1, d1, rfl, _⟩ v2 ⟨X2, d2, rfl, _⟩
            simp only [Act.put, List.setIfInBounds_toArray, List.set_cons_zero, List.set_cons_succ, List.drop_succ_cons, List.drop_zero]
            have hG8 := hid (grown_trans hG.out (grown_trans (grown_drew (grown_refl wr none)) hgw))
            clear hgw
            gi_wp2
            go_wp2_with fail
            go_roundw
            case rel => exact ⟨j + 1, _, by omega, by go_num, rfl, by rw [hold1.out], hG8.out⟩
            case measure => simp [intOf]; omega
        · obtain rfl : j = i := by omega
          have hci := ((gcell hG).1 b (off + j) hblow.out).trans hci0.out
          have hfin := hid hst2.out
          rw [← hm.out] at hfin
          clear hci0 hG
          have i0 : (0 : Int) ≤ (j : Int) := by omega
          have i1 : (j : Int) < (xss.length : Int) := by omega
          go_wp2_with fail
          go_roundw
          case rel => exact ⟨j + 1, by omega, by go_num, by rw [hfin.out]; go_num, hG'.out⟩
          case measure => simp [intOf]; omega
    · obtain rfl : i = xss.length := by omega
      have hend : Hid (nodesTo f xss xss.length = nodes f xss) := hid (by unfold nodesTo; rw [List.take_length])
      rw [hend.out]
      generalize hnn : nodes f xss = nn
      replace hnn := hid hnn
      go_wp2_with fail
      go_ret
      exact ⟨by rw [hnn.out]; rfl, hG.out⟩
end Go.Proofs.Ytojbkhheaondhaa

namespace Go.Proofs.Ytojbkhheaondhaa
open Go.RowKit PlainLetter PlainPatset

theorem getD_in {l : List (List Int)} {j : Nat} (h : j < l.length) : l.getD j [] ∈ l := by simp [List.getD, h]

set_option maxRecDepth 100000 in
set_option maxHeartbeats 4000000 in
theorem refCheck_is (f : Bool) (P : Option Addr) (c : Nat) (xss : List (List Int)) (w : World) (hn : xss.length ≤ 100000) (hl : xss.flatten.length ≤ 100000) (hB : ∀ i, Bytes (xss.getD i [])) (hP : Arrs w P xss) :
    Calls Try.prog 42 #[.bool f, .slice P xss.length c] w fun e w' => e = .returned (.int .i64 (check f xss)) ∧ w.grownBy w' none := by
  replace hP := hid hP
  replace hB := hid hB
  have hE : Hid (check f xss = if xss = [] then 50 else if 64 < xss.length then 51 else if ∃ x ∈ xss, x = [] then 52 else if ∃ x ∈ xss, 32 < x.length then 53 else if 600 < total xss then 54 else if 400 < nodes f xss then 55 else 0) := hid rfl
  by_cases h0 : xss = []
  · have hE' : Hid (check f xss = 50) := hid (by rw [hE.out, if_pos h0])
    have d0 : ((xss.length : Int) == 0) = true := by rw [h0]; rfl
    clear h0 hE
    go_enter Try.func42, Try.ntmps42
    go_wp2_with fail
    go_ret
    exact ⟨by rw [hE'.out]; rfl, grown_refl _ _⟩
  have hE1 := hid ((hE.out).trans (if_neg h0))
  have d0 : ((xss.length : Int) == 0) = false := by rw [beq_eq_false_iff_ne]; have := List.length_pos_iff.2 h0; omega
  clear hE h0
  by_cases h1 : 64 < xss.length
  · have hE' : Hid (check f xss = 51) := hid (by rw [hE1.out, if_pos h1])
    have d1 : (64 : Int) < (xss.length : Int) := by omega
    clear hE1 h1
    go_enter Try.func42, Try.ntmps42
    go_wp2_with fail
    go_ret
    exact ⟨by rw [hE'.out]; rfl, grown_refl _ _⟩
  have hE2 := hid ((hE1.out).trans (if_neg h1))
  have d1 : ¬ (64 : Int) < (xss.length : Int) := by omega
  clear hE1 h1
  go_enter Try.func42, Try.ntmps42
  go_wp2_with fail
  go_loopw [6] (fun v wr => ∃ i : Nat, i ≤ xss.length ∧ v = .int .i64 i ∧ Hid (∀ j, j < i → xss.getD j [] ≠ []) ∧ w.grownBy wr none) (fun v _ => xss.length - (intOf v).toNat)
  case atStart => exact ⟨0, by omega, rfl, hid (fun j hj => absurd hj (Nat.not_lt_zero _)), grown_refl _ _⟩
  case round =>
    obtain ⟨i, hi, rfl, hall, hG0⟩ := hrel
    have hG0' := hid hG0
    by_cases hlt : i < xss.length
    · obtain ⟨b, off, Ai, ci, rfl, hb, hcell0, _⟩ := hP.out.at_ hlt
      have hcell := ((gcell hG0).1 b (off + i) hb).trans hcell0
      clear hcell0 hG0
      have hmem := hid (getD_in hlt)
      have i0 : (0 : Int) ≤ (i : Int) := by omega
      have i1 : (i : Int) < (xss.length : Int) := by omega
      by_cases hx : xss.getD i [] = []
      · have hE' : Hid (check f xss = 52) := hid (by rw [hE2.out, if_pos ⟨_, hmem.out, hx⟩])
        rw [hx] at hcell
        clear hE2 hmem hx hall
        simp only [List.length_nil] at hcell
        go_wp2_with fail
        go_ret
        exact ⟨by rw [hE'.out]; rfl, hG0'.out⟩
      · have d2 : (((xss.getD i []).length : Int) == 0) = false := by rw [beq_eq_false_iff_ne]; have := List.length_pos_iff.2 hx; omega
        have hnext : Hid (∀ j, j < i + 1 → xss.getD j [] ≠ []) := hid (fun j hj => by
          by_cases hji : j < i
          · exact hall.out j hji
          · obtain rfl : j = i := by omega
            exact hx)
        clear hmem hx hall
        generalize (xss.getD i []).length = n at hcell d2
        go_wp2_with fail
        go_roundw
        case rel => exact ⟨i + 1, by omega, by go_num, hnext.out, hG0'.out⟩
        case measure => simp [intOf]; omega
    · obtain rfl : i = xss.length := by omega
      have hE3 := hid ((hE2.out).trans (if_neg (by
        rintro ⟨x, hx, hxn⟩
        obtain ⟨k, hk, rfl⟩ := List.mem_iff_getElem.1 hx
        have := hall.out k hk
        simp only [List.getD, List.getElem?_eq_getElem hk, Option.getD_some] at this
        exact this hxn)))
      clear hE2 hall hG0
      go_wp2_with fail
      obtain ⟨wo, rfl⟩ : ∃ wo : World, wo = wr := ⟨_, rfl⟩
      go_loopw [5, 7] (fun u v wr => ∃ i s : Nat, i ≤ xss.length ∧ v = .int .i64 i ∧ u = .int .i64 s ∧ s = (xss.take i).flatten.length ∧ Hid (∀ j, j < i → (xss.getD j []).length ≤ 32) ∧ w.grownBy wr none) (fun _ v _ => xss.length - (intOf v).toNat)
      case atStart => exact ⟨0, 0, by omega, rfl, rfl, by simp, hid (fun j hj => absurd hj (Nat.not_lt_zero _)), hG0'.out⟩
      case round =>
        obtain ⟨i, s, hi, rfl, rfl, hs, hall, hG⟩ := hrel
        have hsl := flatten_take_le xss i
        rw [← hs] at hsl
        replace hs := hid hs
        have hG' := hid hG
        by_cases hlt : i < xss.length
        · obtain ⟨b, off, Ai, ci, rfl, hb, hcell0, _⟩ := hP.out.at_ hlt
          have hcell := ((gcell hG).1 b (off + i) hb).trans hcell0
          have hmem := hid (getD_in hlt)
          have hsn := flatten_take_succ xss i hlt
          have hsn2 := flatten_take_le xss (i + 1)
          rw [hsn, List.length_append, ← hs.out] at hsn2
          have hnew := hid (show s + (xss.getD i []).length = (xss.take (i + 1)).flatten.length by rw [hsn, List.length_append, ← hs.out])
          clear hsn hcell0 hG
          have i0 : (0 : Int) ≤ (i : Int) := by omega
          have i1 : (i : Int) < (xss.length : Int) := by omega
          by_cases hx : 32 < (xss.getD i []).length
          · have hE' : Hid (check f xss = 53) := hid (by rw [hE3.out, if_pos ⟨_, hmem.out, hx⟩])
            have d3 : (32 : Int) < ((xss.getD i []).length : Int) := by omega
            clear hE3 hmem hall hnew
            generalize (xss.getD i []).length = n at hcell d3 hx hsn2
            go_wp2_with fail
            go_ret
            exact ⟨by rw [hE'.out]; rfl, hG'.out⟩
          · have d3 : ¬ (32 : Int) < ((xss.getD i []).length : Int) := by omega
            have hnext : Hid (∀ j, j < i + 1 → (xss.getD j []).length ≤ 32) := hid (fun j hj => by
              by_cases hji : j < i
              · exact hall.out j hji
              · obtain rfl : j = i := by omega
                omega)
            clear hmem hall
            generalize (xss.getD i []).length = n at hcell d3 hx hsn2 hnew
            go_wp2_with fail
            go_roundw
            case rel => exact ⟨i + 1, s + n, by omega, by go_num, by go_num, hnew.out, hnext.out, hG'.out⟩
            case measure => simp [intOf]; omega
        · obtain rfl : i = xss.length := by omega
          have hs2 : Hid (s = total xss) := hid (by rw [hs.out, List.take_length]; rfl)
          have hE4 := hid ((hE3.out).trans (if_neg (by
            rintro ⟨x, hx, hxn⟩
            obtain ⟨k, hk, rfl⟩ := List.mem_iff_getElem.1 hx
            have := hall.out k hk
            simp only [List.getD, List.getElem?_eq_getElem hk, Option.getD_some] at this
            omega)))
          clear hE3 hall hG
          by_cases h5 : 600 < s
          · have hE' : Hid (check f xss = 54) := hid (by rw [hE4.out, if_pos (by rw [← hs2.out]; exact h5)])
            have d5 : (600 : Int) < (s : Int) := by omega
            clear hE4
            go_wp2_with fail
            go_ret
            exact ⟨by rw [hE'.out]; rfl, hG'.out⟩
          · have hE5 := hid ((hE4.out).trans (if_neg (by rw [← hs2.out]; exact h5)))
            have d5 : ¬ (600 : Int) < (s : Int) := by omega
            clear hE4
            go_wp2_with fail
            refine (refNodes_is f P c xss _ hn hl hB.out (hP.out.grown hG'.out)).mono ?_
            rintro e w2 ⟨rfl, hg2⟩
            have hG2 := hid (grown_trans hG'.out hg2)
            clear hg2
            generalize nodes f xss = N at hE5 ⊢
            by_cases h6 : 400 < N
            · have hE' : Hid (check f xss = 55) := hid (by rw [hE5.out, if_pos h6])
              have d6 : (400 : Int) < (N : Int) := by omega
              clear hE5
              go_wp2_with fail
              go_ret
              exact ⟨by rw [hE'.out]; rfl, hG2.out⟩
            · have hE' : Hid (check f xss = 0) := hid (by rw [hE5.out, if_neg h6])
              have d6 : ¬ (400 : Int) < (N : Int) := by omega
              clear hE5
              go_wp2_with fail
              go_ret
              exact ⟨by rw [hE'.out]; rfl, hG2.out⟩
end Go.Proofs.Ytojbkhheaondhaa

namespace Go.Proofs.Ytojbkhheaondhaa
open Go.RowKit PlainLetter PlainPatset

theorem refSetGreat_is (f : Bool) (P : Option Addr) (c : Nat) (xss : List (List Int)) (w : World) (hP : Arrs w P xss) (hl : xss.length ≤ 9223372036854775807) :
    Calls Try.prog 7 #[.agg #[.bool f, .slice P xss.length c]] w fun e w' => (e = .returned (.bool true) ∨ (e = .returned (.bool false) ∧ xss.length ≤ 80 ∧ xss.flatten.length ≤ 3000)) ∧ w.grownBy w' none := by
  replace hP := hid hP
  go_enter Try.func7, Try.ntmps7
  go_wp2_with fail
  refine (greatTexts_is P c xss _ (hP.out.grown (grown_alloc (grown_refl w none) _)) hl).mono ?_
  rintro e w1 ⟨rfl, rfl | ⟨rfl, h80, h3000⟩⟩
  · go_wp2_with fail
    go_ret
    exact ⟨.inl rfl, grown_alloc (grown_refl w none) _⟩
  · go_wp2_with fail
    go_ret
    exact ⟨.inr ⟨rfl, h80, h3000⟩, grown_alloc (grown_refl w none) _⟩

end Go.Proofs.Ytojbkhheaondhaa
