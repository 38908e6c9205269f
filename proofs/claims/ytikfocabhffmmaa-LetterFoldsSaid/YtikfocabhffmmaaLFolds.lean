/- The walk of the law LetterFolds: it returns true at every input. -/
import Derived.Test.YtikfocabhffmmaaLTells
set_option linter.unusedVariables false
namespace Go.Proofs.Ytikfocabhffmmaa
open Go.RowKit PlainLetter

theorem lfolds_out (c : Int) (A B : Option Addr) (m n c1 c2 : Nat) (w : World) (h : 400 < m ∨ 400 < n) :
    Calls Try.prog 4 #[.int .u8 c, .slice A m c1, .slice B n c2] w fun e w' => e = .returned (.bool true) ∧ w.grownBy w' none := by
  by_cases h1 : 400 < m
  · clear h
    go_enter Try.func4, Try.ntmps4
    go_wp2_with fail
    refine (lwakes_true _).mono ?_
    rintro e w' ⟨rfl, hg⟩
    go_wp2_with fail
    go_ret
    exact ⟨rfl, hg⟩
  · have h2 : 400 < n := by omega
    clear h
    go_enter Try.func4, Try.ntmps4
    go_wp2_with fail
    refine (lwakes_true _).mono ?_
    rintro e w' ⟨rfl, hg⟩
    go_wp2_with fail
    go_ret
    exact ⟨rfl, hg⟩

set_option maxRecDepth 100000 in
set_option maxHeartbeats 4000000 in
theorem lfolds_in (c : Int) (A B : Option Addr) (c1 c2 : Nat) (a b : List Int) (w : World) (hc0 : 0 ≤ c) (hc255 : c ≤ 255) (hla : a.length ≤ 400) (hlb : b.length ≤ 400) 
    (ha : Bytes a) (hb : Bytes b) (hA : Arr w .u8 A a) (hBb : Arr w .u8 B b) :
    Calls Try.prog 4 #[.int .u8 c, .slice A a.length c1, .slice B b.length c2] w fun e w' => e = .returned (.bool true) ∧ w.grownBy w' none := by
  replace ha := hid ha
  replace hb := hid hb
  replace hA := hid hA
  replace hBb := hid hBb
  go_enter Try.func4, Try.ntmps4
  go_upto_region 4 with (go_at_call 10; refine (letFold_is c _ hc0 hc255).mono ?_; rintro e w' ⟨rfl, rfl⟩)
  have hff := fold_twice c
  obtain ⟨g1, g2⟩ := fold_byte c ⟨hc0, hc255⟩
  have hin := hid (fold_in c)
  have hout := hid (fold_out c)
  generalize fold c = fc at hff g1 g2 hin hout ⊢
  replace hff := hid hff
  go_cut [58] from 24 to 58 (fun u wx => u = .bool false ∧ wx = w)
  case first =>
    by_cases hc : 65 ≤ c ∧ c ≤ 90
    · have hf := hin.out hc
      obtain ⟨k1, k2⟩ := hc
      have n1 : (fc == c) = false := by rw [beq_eq_false_iff_ne]; omega
      have n2 : (fc != c) = true := by rw [bne_iff_ne]; omega
      have n3 : (fc - c != 32) = false := by rw [bne_eq_false_iff_eq]; omega
      have n4 : (fc - c == 32) = true := by rw [beq_iff_eq]; omega
      have n5 : c + 32 ≤ fc := by omega
      have n6 : fc ≤ c + 32 := by omega
      have n7 : decide (fc < 97) = false := by rw [decide_eq_false_iff_not]; omega
      have n8 : decide (122 < fc) = false := by rw [decide_eq_false_iff_not]; omega
      clear hf
      go_wp2_with (go_at_call 10; refine (letFold_is fc _ g1 g2).mono ?_; rintro e w' ⟨rfl, rfl⟩; rw [hff.out])
      all_goals (go_meet; go_light; exact ⟨rfl, rfl⟩)
    · have hf := hout.out hc
      have n1 : (fc == c) = true := by rw [beq_iff_eq]; omega
      have n2 : (fc != c) = false := by rw [bne_eq_false_iff_eq]; omega
      by_cases k1 : 65 ≤ c
      · have k2 : ¬ c ≤ 90 := by omega
        clear hc hf
        go_wp2_with (go_at_call 10; refine (letFold_is fc _ g1 g2).mono ?_; rintro e w' ⟨rfl, rfl⟩; rw [hff.out])
        all_goals (go_meet; go_light; exact ⟨rfl, rfl⟩)
      · clear hc hf
        go_wp2_with (go_at_call 10; refine (letFold_is fc _ g1 g2).mono ?_; rintro e w' ⟨rfl, rfl⟩; rw [hff.out])
        all_goals (go_meet; go_light; exact ⟨rfl, rfl⟩)
  case rest =>
    obtain ⟨rfl, rfl⟩ := hcut
    go_wp2_with fail
    refine (letFolded_is A c1 a _ (by omega) ha.out hA.out).mono ?_
    rintro e w1 ho
    obtain ⟨X, cx, rfl, hcx, hmx, hX, hg1⟩ := ho.arr
    revert ho
    intro _
    have hX1 := hid hX
    have hG1 := hid hg1
    have hB1 := hid (hBb.out.grown hg1)
    clear hX hg1 hcx hmx
    go_wp2_with fail
    refine (letFolded_is B c2 b _ (by omega) hb.out hB1.out).mono ?_
    rintro e w2 ho
    obtain ⟨Y, cy, rfl, hcy, hmy, hY, hg2⟩ := ho.arr
    revert ho
    intro _
    have hX2 := hid (hX1.out.grown hg2)
    have hY2 := hid hY
    have hG2 := hid (grown_trans hG1.out hg2)
    have hB2 := hid (hBb.out.grown hG2.out)
    have hA2 := hid (hA.out.grown hG2.out)
    clear hY hg2 hcy hmy hX1 hB1 hG1
    have hfa := hid (ha.out.fold)
    have hfb := hid (hb.out.fold)
    have htw := hid (map_fold_twice a)
    have hgd := hid (fun k => show (a.map fold).getD k 0 = fold (a.getD k 0) by simp only [List.getD, List.getElem?_map]; cases a[k]? <;> rfl)
    have hown := hid (same_own a)
    have hfol := hid (same_folded a b)
    have hse := hid (str_eq a b ha.out hb.out)
    have hsf := hid (same_false a b)
    have himp := hid (same_fold a b)
    have hlx : Hid ((a.map fold).length = a.length) := List.length_map _
    have hly : Hid ((b.map fold).length = b.length) := List.length_map _
    generalize a.map fold = fa at hX2 hfa htw hgd hown hfol hlx ⊢
    generalize b.map fold = fb at hY2 hfb hfol hly ⊢
    rw [hly.out]
    go_upto_region 7 with fail
    apply wp_region_each [isv _, isv _, isv _, isv _, isv _, isv _, isv _, isArrOf fa, isv (.string (strOfNums fa)), isv _, isv (.string (strOfNums fa)), isv _, isv _]
      127 [some 63, some 64, some 65, some 66, some 67, some 68, some 69, some 70, some 71, some 72, some 73, some 74, some 75]
      [some 63, some 64, some 65, some 66, some 67, some 68, some 69, some 70, some 71, some 72, some 73, some 74, some 75]
      [[], [0], [], [2], [1, 3], [4], [5], [6, 5], [7, 5], [5], [9, 5], [8, 10, 5], [5, 11]]
      [(1, .slice A a.length c1), (8, .slice X a.length cx)] (by kernel_rfl) rfl (by kernel_rfl) rfl rfl (by kernel_rfl) (OutsOk.cons rfl rfl (OutsOk.cons rfl rfl OutsOk.nil)) ?st ?ob ?fin
    case ob =>
      refine Obs.consv rfl ?o0 (Obs.consv rfl ?o1 (Obs.consv rfl ?o2 (Obs.consv rfl ?o3 (Obs.consv rfl ?o4 (Obs.consv rfl ?o5 (Obs.consv rfl ?o6 (Obs.consv rfl ?o7 (Obs.consv rfl ?o8 (Obs.consv rfl ?o9 (Obs.consv rfl ?o10 (Obs.consv rfl ?o11 (Obs.consv rfl ?o12 Obs.nil))))))))))))
      case o0 =>
        go_light
        intro ac w' hgw
        replace hgw := hid hgw
        simp only [outThen, preThen, slotIs, factAt, isv, List.getElem?_cons_zero, List.getElem?_cons_succ, Option.getD_some, forall_eq]
        intros
        rename_i hK
        replace hK := hid hK
        simp only [wantedAt]
        go_simp
        exact hK.out _ _ rfl (grown_refl _ _)
      case o1 =>
        go_light
        intro ac w' hgw
        replace hgw := hid hgw
        simp only [outThen, preThen, slotIs, factAt, isv, List.getElem?_cons_zero, List.getElem?_cons_succ, Option.getD_some, forall_eq]
        intros
        rename_i hK
        replace hK := hid hK
        simp only [wantedAt]
        go_simp
        exact hK.out _ _ rfl (grown_refl _ _)
      case o2 =>
        go_light
        intro ac w' hgw
        replace hgw := hid hgw
        simp only [outThen, preThen, slotIs, factAt, isv, List.getElem?_cons_zero, List.getElem?_cons_succ, Option.getD_some, forall_eq]
        intros
        rename_i hK
        replace hK := hid hK
        simp only [wantedAt]
        go_simp
        exact hK.out _ _ rfl (grown_refl _ _)
      case o3 =>
        go_light
        intro ac w' hgw
        replace hgw := hid hgw
        simp only [outThen, preThen, slotIs, factAt, isv, List.getElem?_cons_zero, List.getElem?_cons_succ, Option.getD_some, forall_eq]
        intros
        rename_i hK
        replace hK := hid hK
        simp only [wantedAt]
        go_simp
        exact hK.out _ _ rfl (grown_refl _ _)
      case o4 =>
        go_light
        intro ac w' hgw
        replace hgw := hid hgw
        simp only [outThen, preThen, slotIs, factAt, isv, List.getElem?_cons_zero, List.getElem?_cons_succ, Option.getD_some, forall_eq]
        intros
        rename_i hK
        replace hK := hid hK
        simp only [wantedAt]
        go_simp
        exact hK.out _ _ rfl (grown_refl _ _)
      case o5 =>
        go_light
        intro ac w' hgw
        replace hgw := hid hgw
        simp only [outThen, preThen, slotIs, factAt, isv, List.getElem?_cons_zero, List.getElem?_cons_succ, Option.getD_some, forall_eq]
        intros
        rename_i hK
        replace hK := hid hK
        simp only [wantedAt]
        go_simp
        exact hK.out _ _ rfl (grown_refl _ _)
      case o6 =>
        go_light
        intro ac w' hgw
        replace hgw := hid hgw
        simp only [outThen, preThen, slotIs, factAt, isv, List.getElem?_cons_zero, List.getElem?_cons_succ, Option.getD_some, forall_eq]
        intros
        rename_i hK
        replace hK := hid hK
        simp only [wantedAt]
        go_simp
        exact hK.out _ _ rfl (grown_refl _ _)
      case o7 =>
        go_light
        intro ac w' hgw
        replace hgw := hid hgw
        simp only [outThen, preThen, slotIs, factAt, isv, List.getElem?_cons_zero, List.getElem?_cons_succ, Option.getD_some, forall_eq]
        intros
        rename_i hK
        replace hK := hid hK
        have hXw := hid ((hX2.out.grown (grown_drew (grown_refl w2 none))).grown hgw.out)
        simp only [wantedAt]
        go_simp
        rw [← hlx.out]
        refine (letFolded_is X cx fa _ (by have := hlx.out; omega) hfa.out hXw.out).mono ?_
        rintro e w9 ho
        rw [htw.out] at ho
        obtain ⟨X9, d9, rfl, _, _, h9, hg⟩ := ho.arr
        exact hK.out _ _ ⟨X9, d9, rfl, h9⟩ hg
      case o8 =>
        go_light
        intro ac w' hgw
        replace hgw := hid hgw
        simp only [outThen, preThen, slotIs, factAt, isv, List.getElem?_cons_zero, List.getElem?_cons_succ, Option.getD_some, forall_eq]
        intro _ _ v1 h1 hv hq K hK
        replace hK := hid hK
        obtain ⟨X9, d9, rfl, h9⟩ := h1
        have cv := conv_arr w' X9 d9 fa h9
        clear h9
        simp only [wantedAt]
        go_simp
        exact hK.out _ _ rfl (grown_refl _ _)
      case o9 =>
        go_light
        intro ac w' hgw
        replace hgw := hid hgw
        simp only [outThen, preThen, slotIs, factAt, isv, List.getElem?_cons_zero, List.getElem?_cons_succ, Option.getD_some, forall_eq]
        intros
        rename_i hK
        replace hK := hid hK
        simp only [wantedAt]
        go_simp
        exact hK.out _ _ rfl (grown_refl _ _)
      case o10 =>
        go_light
        intro ac w' hgw
        replace hgw := hid hgw
        simp only [outThen, preThen, slotIs, factAt, isv, List.getElem?_cons_zero, List.getElem?_cons_succ, Option.getD_some, forall_eq]
        intros
        rename_i hK
        replace hK := hid hK
        have cv := conv_arr w' X cx fa ((hX2.out.grown (grown_drew (grown_refl w2 none))).grown hgw.out)
        rw [hlx.out] at cv
        simp only [wantedAt]
        go_simp
        exact hK.out _ _ rfl (grown_refl _ _)
      case o11 =>
        go_light
        intro ac w' hgw
        replace hgw := hid hgw
        simp only [outThen, preThen, slotIs, factAt, isv, List.getElem?_cons_zero, List.getElem?_cons_succ, Option.getD_some, forall_eq]
        intros
        rename_i hK
        replace hK := hid hK
        simp only [wantedAt]
        go_simp
        exact hK.out _ _ rfl (grown_refl _ _)
      case o12 =>
        go_light
        intro ac w' hgw
        replace hgw := hid hgw
        simp only [outThen, preThen, slotIs, factAt, isv, List.getElem?_cons_zero, List.getElem?_cons_succ, Option.getD_some, forall_eq]
        intros
        rename_i hK
        replace hK := hid hK
        simp only [wantedAt]
        go_simp
        exact hK.out _ _ rfl (grown_refl _ _)
    case st =>
      repeat (first | exact AllStable.nil | (refine AllStable.cons ?_ ?_; focus (first | exact stable_isv _ | exact stable_isBytes _ | exact stable_isRow1 _ | exact stable_isRowOf _ _ | exact stable_isArrOf _)))
    case fin =>
      intro w3 hgw
      simp only [finalIn, factAt, isv, List.getElem?_cons_zero, List.getElem?_cons_succ, Option.getD_some, forall_eq, slotIs, subj]
      rintro v1 ⟨X9, d9, rfl, _⟩
      simp only [Act.put, List.setIfInBounds_toArray, List.set_cons_zero, List.set_cons_succ]
      have hG3 := hid (grown_trans (grown_drew hG2.out) hgw)
      have hX3 := hid ((hX2.out.grown (grown_drew (grown_refl w2 none))).grown hgw)
      have hY3 := hid ((hY2.out.grown (grown_drew (grown_refl w2 none))).grown hgw)
      clear hgw hX2 hY2 hB2 hA2 hG2
      go_wp2_with fail
      go_loopw [10] (fun i wr => ∃ k : Nat, k ≤ a.length ∧ i = .int .i64 k ∧ w3.grownBy wr none) (fun i _ => a.length - (intOf i).toNat)
      case atStart => exact ⟨0, Nat.zero_le _, rfl, grown_refl _ _⟩
      case round =>
        obtain ⟨k, hk0, rfl, hG⟩ := hrel
        by_cases hlt : k < a.length
        · obtain ⟨bx, ox, rfl, hbx, hcx⟩ := (hX3.out.grown hG).at_ (i := k) (by rw [hlx.out]; exact hlt)
          obtain ⟨ba, oa, rfl, hba, hca⟩ := (hA.out.grown (grown_trans hG3.out hG)).at_ hlt
          have hcxk := hcx k (by rw [hlx.out]; exact hlt)
          have hcak := hca k hlt
          rw [hgd.out k] at hcxk
          obtain ⟨y0, y1⟩ := ha.out k
          clear hcx hca
          generalize a.getD k 0 = y at hcxk hcak y0 y1
          have q0 : (0 : Int) ≤ (k : Int) := by omega
          have q1 : (k : Int) < (a.length : Int) := by omega
          replace hcxk := hid hcxk
          replace hcak := hid hcak
          replace hG := hid hG
          go_wp2_with fail
          apply wp_region_each [isv _, isv _, isv _, isv _, isv _, isv _, isv _, isv _, isv (.int .u8 (fold y)), isv _]
            127 [some 82, some 83, some 84, some 85, some 86, some 87, some 88, some 89, some 90, some 91]
            [some 82, some 83, some 84, some 85, some 86, some 87, some 88, some 89, some 90, some 91]
            [[], [], [0, 1], [2], [], [], [4, 5], [6], [7], [3, 8]]
            [(1, .slice (some ⟨ba, oa, none⟩) a.length c1), (8, .slice (some ⟨bx, ox, none⟩) a.length cx), (10, .int .i64 k)] (by kernel_rfl) rfl (by kernel_rfl) rfl rfl (by kernel_rfl) (OutsOk.cons rfl rfl (OutsOk.cons rfl rfl (OutsOk.cons rfl rfl OutsOk.nil))) ?st ?ob ?fin
          case ob =>
            refine Obs.consv rfl ?o0 (Obs.consv rfl ?o1 (Obs.consv rfl ?o2 (Obs.consv rfl ?o3 (Obs.consv rfl ?o4 (Obs.consv rfl ?o5 (Obs.consv rfl ?o6 (Obs.consv rfl ?o7 (Obs.consv rfl ?o8 (Obs.consv rfl ?o9 Obs.nil)))))))))
            case o0 =>
              go_light
              intro ac w' hgw
              have hcx := ((gcell hgw).1 bx (ox + k) hbx).trans hcxk.out
              have hca := ((gcell hgw).1 ba (oa + k) hba).trans hcak.out
              replace hgw := hid hgw
              simp only [outThen, preThen, slotIs, factAt, isv, List.getElem?_cons_zero, List.getElem?_cons_succ, Option.getD_some, forall_eq]
              intros
              rename_i hK
              replace hK := hid hK
              simp only [wantedAt]
              go_simp
              exact hK.out _ _ rfl (grown_refl _ _)
            case o1 =>
              go_light
              intro ac w' hgw
              have hcx := ((gcell hgw).1 bx (ox + k) hbx).trans hcxk.out
              have hca := ((gcell hgw).1 ba (oa + k) hba).trans hcak.out
              replace hgw := hid hgw
              simp only [outThen, preThen, slotIs, factAt, isv, List.getElem?_cons_zero, List.getElem?_cons_succ, Option.getD_some, forall_eq]
              intros
              rename_i hK
              replace hK := hid hK
              simp only [wantedAt]
              go_simp
              exact hK.out _ _ rfl (grown_refl _ _)
            case o2 =>
              go_light
              intro ac w' hgw
              have hcx := ((gcell hgw).1 bx (ox + k) hbx).trans hcxk.out
              have hca := ((gcell hgw).1 ba (oa + k) hba).trans hcak.out
              replace hgw := hid hgw
              simp only [outThen, preThen, slotIs, factAt, isv, List.getElem?_cons_zero, List.getElem?_cons_succ, Option.getD_some, forall_eq]
              intros
              rename_i hK
              replace hK := hid hK
              simp only [wantedAt]
              go_simp
              exact hK.out _ _ rfl (grown_refl _ _)
            case o3 =>
              go_light
              intro ac w' hgw
              have hcx := ((gcell hgw).1 bx (ox + k) hbx).trans hcxk.out
              have hca := ((gcell hgw).1 ba (oa + k) hba).trans hcak.out
              replace hgw := hid hgw
              simp only [outThen, preThen, slotIs, factAt, isv, List.getElem?_cons_zero, List.getElem?_cons_succ, Option.getD_some, forall_eq]
              intros
              rename_i hK
              replace hK := hid hK
              simp only [wantedAt]
              go_simp
              exact hK.out _ _ rfl (grown_refl _ _)
            case o4 =>
              go_light
              intro ac w' hgw
              have hcx := ((gcell hgw).1 bx (ox + k) hbx).trans hcxk.out
              have hca := ((gcell hgw).1 ba (oa + k) hba).trans hcak.out
              replace hgw := hid hgw
              simp only [outThen, preThen, slotIs, factAt, isv, List.getElem?_cons_zero, List.getElem?_cons_succ, Option.getD_some, forall_eq]
              intros
              rename_i hK
              replace hK := hid hK
              simp only [wantedAt]
              go_simp
              exact hK.out _ _ rfl (grown_refl _ _)
            case o5 =>
              go_light
              intro ac w' hgw
              have hcx := ((gcell hgw).1 bx (ox + k) hbx).trans hcxk.out
              have hca := ((gcell hgw).1 ba (oa + k) hba).trans hcak.out
              replace hgw := hid hgw
              simp only [outThen, preThen, slotIs, factAt, isv, List.getElem?_cons_zero, List.getElem?_cons_succ, Option.getD_some, forall_eq]
              intros
              rename_i hK
              replace hK := hid hK
              simp only [wantedAt]
              go_simp
              exact hK.out _ _ rfl (grown_refl _ _)
            case o6 =>
              go_light
              intro ac w' hgw
              have hcx := ((gcell hgw).1 bx (ox + k) hbx).trans hcxk.out
              have hca := ((gcell hgw).1 ba (oa + k) hba).trans hcak.out
              replace hgw := hid hgw
              simp only [outThen, preThen, slotIs, factAt, isv, List.getElem?_cons_zero, List.getElem?_cons_succ, Option.getD_some, forall_eq]
              intros
              rename_i hK
              replace hK := hid hK
              simp only [wantedAt]
              go_simp
              exact hK.out _ _ rfl (grown_refl _ _)
            case o7 =>
              go_light
              intro ac w' hgw
              have hcx := ((gcell hgw).1 bx (ox + k) hbx).trans hcxk.out
              have hca := ((gcell hgw).1 ba (oa + k) hba).trans hcak.out
              replace hgw := hid hgw
              simp only [outThen, preThen, slotIs, factAt, isv, List.getElem?_cons_zero, List.getElem?_cons_succ, Option.getD_some, forall_eq]
              intros
              rename_i hK
              replace hK := hid hK
              simp only [wantedAt]
              go_simp
              exact hK.out _ _ rfl (grown_refl _ _)
            case o8 =>
              go_light
              intro ac w' hgw
              have hcx := ((gcell hgw).1 bx (ox + k) hbx).trans hcxk.out
              have hca := ((gcell hgw).1 ba (oa + k) hba).trans hcak.out
              replace hgw := hid hgw
              simp only [outThen, preThen, slotIs, factAt, isv, List.getElem?_cons_zero, List.getElem?_cons_succ, Option.getD_some, forall_eq]
              intros
              rename_i hK
              replace hK := hid hK
              simp only [wantedAt]
              go_simp
              refine (letFold_is y _ y0 y1).mono ?_
              rintro e w9 ⟨rfl, rfl⟩
              exact hK.out _ _ rfl (grown_refl _ _)
            case o9 =>
              go_light
              intro ac w' hgw
              have hcx := ((gcell hgw).1 bx (ox + k) hbx).trans hcxk.out
              have hca := ((gcell hgw).1 ba (oa + k) hba).trans hcak.out
              replace hgw := hid hgw
              simp only [outThen, preThen, slotIs, factAt, isv, List.getElem?_cons_zero, List.getElem?_cons_succ, Option.getD_some, forall_eq]
              intros
              rename_i hK
              replace hK := hid hK
              simp only [wantedAt]
              go_simp
              exact hK.out _ _ rfl (grown_refl _ _)
          case st =>
            repeat (first | exact AllStable.nil | (refine AllStable.cons ?_ ?_; focus (first | exact stable_isv _ | exact stable_isBytes _ | exact stable_isRow1 _ | exact stable_isRowOf _ _ | exact stable_isArrOf _)))
          case fin =>
            intro w4 hgw
            simp only [finalIn, factAt, isv, List.getElem?_cons_zero, List.getElem?_cons_succ, Option.getD_some, forall_eq, slotIs, subj]
            simp only [Act.put, List.setIfInBounds_toArray, List.set_cons_zero, List.set_cons_succ]
            have hG4 := hid (grown_trans (grown_drew hG.out) hgw)
            clear hgw hcxk hcak
            go_wp2_with fail
            go_roundw
            case rel => exact ⟨k + 1, by omega, by go_num, hG4.out⟩
            case measure => simp [intOf]; omega
        · obtain rfl : k = a.length := by omega
          have hG4 := hid (grown_trans hG3.out hG)
          have hAw := hid (hA.out.grown hG4.out)
          have hBw := hid (hBb.out.grown hG4.out)
          have hXw := hid (hX3.out.grown hG)
          have hYw := hid (hY3.out.grown hG)
          clear hX3 hY3 hG hG3
          have hcase : Hid ((same false a b = true ∧ same true a b = true) ∨ (same false a b = false ∧ same true a b = true) ∨ (same false a b = false ∧ same true a b = false)) := by
            refine hid ?_
            cases hp : same false a b with
            | true => exact .inl ⟨rfl, himp.out hp⟩
            | false => cases same true a b <;> simp
          rcases hcase.out with ⟨hp, hs⟩ | ⟨hp, hs⟩ | ⟨hp, hs⟩
          all_goals
            have he := hse.out.trans (hsf.out.symm.trans hp)
            have hp' := hid hp
            have hs' := hid hs
            have he' := hid he
            clear hp hs he
            go_wp2_with fail
            refine (letSame_is true A B c1 c2 a b _ (by omega) (by omega) ha.out hb.out hAw.out hBw.out).mono ?_
            rintro e w5 ⟨rfl, hg⟩
            rw [hs'.out]
            have hA5 := hid (hAw.out.grown hg)
            have hB5 := hid (hBw.out.grown hg)
            have hX5 := hid (hXw.out.grown hg)
            have hY5 := hid (hYw.out.grown hg)
            have hG5 := hid (grown_trans hG4.out hg)
            clear hg
            go_wp2_with fail
            refine (letSame_is false A B c1 c2 a b _ (by omega) (by omega) ha.out hb.out hA5.out hB5.out).mono ?_
            rintro e w6 ⟨rfl, hg⟩
            rw [hp'.out]
            have hA6 := hid (hA5.out.grown hg)
            have hB6 := hid (hB5.out.grown hg)
            have hX6 := hid (hX5.out.grown hg)
            have hY6 := hid (hY5.out.grown hg)
            have hG6 := hid (grown_trans hG5.out hg)
            clear hg
            go_wp2_with fail
            have key := letSame_is false X Y cx cy fa fb w6 (by have := hlx.out; omega) (by have := hly.out; omega) hfa.out hfb.out hX6.out hY6.out
            rw [hlx.out, hly.out] at key
            refine key.mono ?_
            clear key
            rintro e w7 ⟨rfl, hg⟩
            rw [← hfol.out, hs'.out]
            have hA7 := hid (hA6.out.grown hg)
            have hX7 := hid (hX6.out.grown hg)
            have hG7 := hid (grown_trans hG6.out hg)
            have cv1 := conv_arr w7 A c1 a hA7.out
            have cv2 := conv_arr w7 B c2 b (hB6.out.grown hg)
            clear hg
            have he := he'.out
            generalize strOfNums a = sa at he cv1
            generalize strOfNums b = sb at he cv2
            go_wp2_with fail
            clear cv1 cv2
            have key := letSame_is true A X c1 cx a fa w7 (by omega) (by have := hlx.out; omega) ha.out hfa.out hA7.out hX7.out
            rw [hlx.out, hown.out] at key
            refine key.mono ?_
            clear key
            rintro e w8 ⟨rfl, hg⟩
            have hG8 := hid (grown_trans hG7.out hg)
            clear hg
            go_wp2_with fail
            refine (lwakes_true _).mono ?_
            rintro e w' ⟨rfl, hg⟩
            go_wp2_with fail
            go_ret
            exact ⟨rfl, grown_trans hG8.out hg⟩

/-- **The law LetterFolds, walked.** -/
theorem lfolds_walk (c : Int) (A B : Option Addr) (c1 c2 : Nat) (a b : List Int) (w : World) (hc0 : 0 ≤ c) (hc255 : c ≤ 255)
    (ha : Bytes a) (hb : Bytes b) (hA : Arr w .u8 A a) (hBb : Arr w .u8 B b) :
    Calls Try.prog 4 #[.int .u8 c, .slice A a.length c1, .slice B b.length c2] w fun e w' => e = .returned (.bool true) ∧ w.grownBy w' none := by
  by_cases h : 400 < a.length ∨ 400 < b.length
  · exact lfolds_out c A B a.length b.length c1 c2 w h
  · exact lfolds_in c A B c1 c2 a b w hc0 hc255 (by omega) (by omega) ha hb hA hBb

end Go.Proofs.Ytikfocabhffmmaa
