/- The law OccOrder: of two different hits just one comes ahead; the order is transitive; joined hits rise just if both lists do and they meet so. -/
import Derived.Test.YtmahiodejhakpaaOWakes
import Derived.Test.YtmahiodejhakpaaK12
import Derived.Deep.DeepCutAuto
import Derived.Test.YtmahiodejhakpaaLateDraw
import Derived.Test.YtmahiodejhakpaaOMore
set_option linter.unusedVariables false
set_option linter.unusedSimpArgs false
set_option maxRecDepth 100000
namespace Go.Proofs.Ytmahiodejhakpaa
open Go.RowKit PlainLetter PlainPatset PlainOcc

theorem less_cases (ws : List (List Int)) (a b : Hit) : (less ws a b = true ∧ less ws b a = false ∧ a ≠ b) ∨ (less ws a b = false ∧ less ws b a = true ∧ a ≠ b) ∨ (a = b ∧ less ws a b = false ∧ less ws b a = false) := by
  rcases less_total ws a b with e | e | e
  · subst e; exact .inr (.inr ⟨rfl, less_irrefl _ _, less_irrefl _ _⟩)
  · exact .inl ⟨e, less_asymm ws e, fun h => by rw [h, less_irrefl] at e; cases e⟩
  · exact .inr (.inl ⟨less_asymm ws e, e, fun h => by rw [h, less_irrefl] at e; cases e⟩)

set_option maxHeartbeats 16000000 in
theorem oorder_walk (f : Bool) (P A : Option Addr) (c d : Nat) (p : Int) (xss : List (List Int)) (a b z : Hit) (l : List Hit) (w : World) (hP : Arrs w P xss) (hA : Hits w A l) (hl : xss.length ≤ 9223372036854775807) (hd : l.length ≤ d) (hdm : d ≤ maxLen)
    (hp0 : -9223372036854775808 ≤ p) (hp1 : p ≤ 9223372036854775807) :
    Calls Try.prog 5 #[.agg #[.bool f, .slice P xss.length c], hitV a, hitV b, hitV z, .slice A l.length d, .int .i64 p] w fun e w' => e = .returned (.bool true) ∧ w.grownBy w' none := by
  have htri := less_cases xss a b
  have htrans := hid (fun (h : less xss a b = true) (h' : less xss b z = true) => less_trans xss h h')
  obtain ⟨a1, a2⟩ := a
  obtain ⟨b1, b2⟩ := b
  obtain ⟨z1, z2⟩ := z
  replace htri := hid htri
  have hdm2 : d ≤ 9223372036854775807 := by unfold maxLen at hdm; omega
  replace hP := hid hP
  replace hA := hid hA
  have hG0 : Hid (w.grownBy ((((w.alloc (.cells #[.bool f, .slice P xss.length c] 24)).alloc (.cells #[.int .i64 a1, .int .i64 a2] 35)).alloc (.cells #[.int .i64 b1, .int .i64 b2] 35)).alloc (.cells #[.int .i64 z1, .int .i64 z2] 35)) none) := grown_alloc (grown_alloc (grown_alloc (grown_alloc (grown_refl w none) _) _) _) _
  have H1 : Hid (Holds ((((w.alloc (.cells #[.bool f, .slice P xss.length c] 24)).alloc (.cells #[.int .i64 a1, .int .i64 a2] 35)).alloc (.cells #[.int .i64 b1, .int .i64 b2] 35)).alloc (.cells #[.int .i64 z1, .int .i64 z2] 35)) w.heap.size 24 #[.bool f, .slice P xss.length c]) := (((Holds.new _ _ _).alloc _).alloc _).alloc _
  have H2 : Hid (Holds ((((w.alloc (.cells #[.bool f, .slice P xss.length c] 24)).alloc (.cells #[.int .i64 a1, .int .i64 a2] 35)).alloc (.cells #[.int .i64 b1, .int .i64 b2] 35)).alloc (.cells #[.int .i64 z1, .int .i64 z2] 35)) (w.heap.size + 1) 35 #[.int .i64 a1, .int .i64 a2]) := by
    refine Holds.alloc (Holds.alloc (Holds.new_at _ _ ?_) _) _
    simp
  have H3 : Hid (Holds ((((w.alloc (.cells #[.bool f, .slice P xss.length c] 24)).alloc (.cells #[.int .i64 a1, .int .i64 a2] 35)).alloc (.cells #[.int .i64 b1, .int .i64 b2] 35)).alloc (.cells #[.int .i64 z1, .int .i64 z2] 35)) (w.heap.size + 2) 35 #[.int .i64 b1, .int .i64 b2]) := by
    refine Holds.alloc (Holds.new_at _ _ ?_) _
    simp
  have H4 : Hid (Holds ((((w.alloc (.cells #[.bool f, .slice P xss.length c] 24)).alloc (.cells #[.int .i64 a1, .int .i64 a2] 35)).alloc (.cells #[.int .i64 b1, .int .i64 b2] 35)).alloc (.cells #[.int .i64 z1, .int .i64 z2] 35)) (w.heap.size + 3) 35 #[.int .i64 z1, .int .i64 z2]) := by
    refine Holds.new_at _ _ ?_
    simp
  have hGr := hid (refSetGreat_is f P c xss ((((w.alloc (.cells #[.bool f, .slice P xss.length c] 24)).alloc (.cells #[.int .i64 a1, .int .i64 a2] 35)).alloc (.cells #[.int .i64 b1, .int .i64 b2] 35)).alloc (.cells #[.int .i64 z1, .int .i64 z2] 35)) (hP.out.grown hG0.out) hl)
  go_enter Try.func5, Try.ntmps5
  go_wp2_with fail
  refine hGr.out.mono ?_
  rintro e W1 ⟨hcase, hg⟩
  obtain ⟨W0, hW0⟩ : ∃ W0, (((w.alloc (.cells #[.bool f, .slice P xss.length c] 24)).alloc (.cells #[.int .i64 a1, .int .i64 a2] 35)).alloc (.cells #[.int .i64 b1, .int .i64 b2] 35)).alloc (.cells #[.int .i64 z1, .int .i64 z2] 35) = W0 := ⟨_, rfl⟩
  rw [hW0] at H1 H2 H3 H4 hG0 hg
  clear hW0 hGr
  obtain ⟨h, hh⟩ : ∃ h, w.heap.size = h := ⟨_, rfl⟩
  rw [hh] at H1 H2 H3 H4 ⊢
  replace hh := hid hh
  have hG1 := hid (grown_trans hG0.out hg)
  have K1 := hid (H1.out.kept0 hg)
  have K2 := hid (H2.out.kept0 hg)
  have K3 := hid (H3.out.kept0 hg)
  have K4 := hid (H4.out.kept0 hg)
  have hP1 := hid (hP.out.grown hG1.out)
  have hA1 := hid (hA.out.grown hG1.out)
  clear H1 H2 H3 H4 hP hA hG0 hg
  rcases hcase with rfl | ⟨rfl, h80, h3000⟩
  · go_wp2_with fail
    refine (owakes_true _).mono ?_
    rintro e W2 ⟨rfl, hg⟩
    replace hG1 := hid (grown_trans hG1.out hg)
    clear hg
    go_wp2_with fail
    go_ret
    exact ⟨rfl, hG1.out⟩
  by_cases hl60 : 60 < l.length
  · have hl60' : (60 : Int) < (l.length : Int) := by omega
    go_wp2_with fail
    refine (owakes_true _).mono ?_
    rintro e W2 ⟨rfl, hg⟩
    replace hG1 := hid (grown_trans hG1.out hg)
    clear hg
    go_wp2_with fail
    go_ret
    exact ⟨rfl, hG1.out⟩
  have hl60' : (l.length : Int) ≤ 60 := by omega
  obtain ⟨AB, hAB⟩ : ∃ x, less xss (a1, a2) (b1, b2) = x := ⟨_, rfl⟩
  obtain ⟨BA, hBA⟩ : ∃ x, less xss (b1, b2) (a1, a2) = x := ⟨_, rfl⟩
  replace hAB := hid hAB
  replace hBA := hid hBA
  go_upto_region 3 with fail
  apply wp_region_each [isv (.agg #[.bool f, .slice P xss.length c]), isv (.agg #[.int .i64 a1, .int .i64 a2]), isv (.agg #[.int .i64 b1, .int .i64 b2]), isv (.bool AB), isv (.agg #[.bool f, .slice P xss.length c]), isv (.agg #[.int .i64 b1, .int .i64 b2]), isv (.agg #[.int .i64 a1, .int .i64 a2]), isv (.bool BA), isv (.bool AB), isv (.bool BA)]
    129 [some 24, some 25, some 26, some 27, some 28, some 29, some 30, some 31, some 13, some 14]
    [some 24, some 25, some 26, some 27, some 28, some 29, some 30, some 31, some 13, some 14]
    [[], [], [], [0, 1, 2], [], [], [], [4, 5, 6], [3], [7]]
    [(6, .pointer (some ⟨h, 0, none⟩)), (7, .pointer (some ⟨h + 1, 0, none⟩)), (8, .pointer (some ⟨h + 2, 0, none⟩))] (by kernel_rfl) rfl (by kernel_rfl) rfl rfl (by kernel_rfl) (OutsOk.cons rfl rfl (OutsOk.cons rfl rfl (OutsOk.cons rfl rfl OutsOk.nil))) ?st ?ob ?fin
  case ob =>
    refine Obs.consv rfl ?o0 (Obs.consv rfl ?o1 (Obs.consv rfl ?o2 (Obs.consv rfl ?o3 (Obs.consv rfl ?o4 (Obs.consv rfl ?o5 (Obs.consv rfl ?o6 (Obs.consv rfl ?o7 (Obs.consv rfl ?o8 (Obs.consv rfl ?o9 Obs.nil)))))))))
    case o0 =>
      go_light
      intro ac w' hgw
      have g2 := grown_trans (grown_drew (grown_refl W1 none)) hgw
      have k1 := K1.out.kept0 g2
      have k2 := K2.out.kept0 g2
      have k3 := K3.out.kept0 g2
      have c0 := k1.cell 0
      have c1 := k1.cell 1
      have d0 := k2.cell 0
      have d1 := k2.cell 1
      have e0 := k3.cell 0
      have e1 := k3.cell 1
      simp at c0 c1 d0 d1 e0 e1
      have hPw := hid (hP1.out.grown g2)
      clear k1 k2 k3 g2
      replace hgw := hid hgw
      simp only [outThen, preThen, slotIs, factAt, isv, List.getElem?_cons_zero, List.getElem?_cons_succ, Option.getD_some, forall_eq]
      intros
      rename_i hK
      replace hK := hid hK
      simp only [wantedAt]
      go_simp
      exact hK.out _ _ rfl (grown_refl _ _)
    case o1 =>
      go_light
      intro ac w' hgw
      have g2 := grown_trans (grown_drew (grown_refl W1 none)) hgw
      have k1 := K1.out.kept0 g2
      have k2 := K2.out.kept0 g2
      have k3 := K3.out.kept0 g2
      have c0 := k1.cell 0
      have c1 := k1.cell 1
      have d0 := k2.cell 0
      have d1 := k2.cell 1
      have e0 := k3.cell 0
      have e1 := k3.cell 1
      simp at c0 c1 d0 d1 e0 e1
      have hPw := hid (hP1.out.grown g2)
      clear k1 k2 k3 g2
      replace hgw := hid hgw
      simp only [outThen, preThen, slotIs, factAt, isv, List.getElem?_cons_zero, List.getElem?_cons_succ, Option.getD_some, forall_eq]
      intros
      rename_i hK
      replace hK := hid hK
      simp only [wantedAt]
      go_simp
      exact hK.out _ _ rfl (grown_refl _ _)
    case o2 =>
      go_light
      intro ac w' hgw
      have g2 := grown_trans (grown_drew (grown_refl W1 none)) hgw
      have k1 := K1.out.kept0 g2
      have k2 := K2.out.kept0 g2
      have k3 := K3.out.kept0 g2
      have c0 := k1.cell 0
      have c1 := k1.cell 1
      have d0 := k2.cell 0
      have d1 := k2.cell 1
      have e0 := k3.cell 0
      have e1 := k3.cell 1
      simp at c0 c1 d0 d1 e0 e1
      have hPw := hid (hP1.out.grown g2)
      clear k1 k2 k3 g2
      replace hgw := hid hgw
      simp only [outThen, preThen, slotIs, factAt, isv, List.getElem?_cons_zero, List.getElem?_cons_succ, Option.getD_some, forall_eq]
      intros
      rename_i hK
      replace hK := hid hK
      simp only [wantedAt]
      go_simp
      exact hK.out _ _ rfl (grown_refl _ _)
    case o3 =>
      go_light
      intro ac w' hgw
      have g2 := grown_trans (grown_drew (grown_refl W1 none)) hgw
      have k1 := K1.out.kept0 g2
      have k2 := K2.out.kept0 g2
      have k3 := K3.out.kept0 g2
      have c0 := k1.cell 0
      have c1 := k1.cell 1
      have d0 := k2.cell 0
      have d1 := k2.cell 1
      have e0 := k3.cell 0
      have e1 := k3.cell 1
      simp at c0 c1 d0 d1 e0 e1
      have hPw := hid (hP1.out.grown g2)
      clear k1 k2 k3 g2
      replace hgw := hid hgw
      simp only [outThen, preThen, slotIs, factAt, isv, List.getElem?_cons_zero, List.getElem?_cons_succ, Option.getD_some, forall_eq]
      intros
      rename_i K hK
      replace hK := hid hK
      simp only [wantedAt]
      go_simp
      refine (occLess_is f P c xss (a1, a2) (b1, b2) w' hPw.out).mono ?_
      rintro e w3 ⟨rfl, hg⟩
      rw [hAB.out]
      exact hK.out _ _ rfl hg
    case o4 =>
      go_light
      intro ac w' hgw
      have g2 := grown_trans (grown_drew (grown_refl W1 none)) hgw
      have k1 := K1.out.kept0 g2
      have k2 := K2.out.kept0 g2
      have k3 := K3.out.kept0 g2
      have c0 := k1.cell 0
      have c1 := k1.cell 1
      have d0 := k2.cell 0
      have d1 := k2.cell 1
      have e0 := k3.cell 0
      have e1 := k3.cell 1
      simp at c0 c1 d0 d1 e0 e1
      have hPw := hid (hP1.out.grown g2)
      clear k1 k2 k3 g2
      replace hgw := hid hgw
      simp only [outThen, preThen, slotIs, factAt, isv, List.getElem?_cons_zero, List.getElem?_cons_succ, Option.getD_some, forall_eq]
      intros
      rename_i hK
      replace hK := hid hK
      simp only [wantedAt]
      go_simp
      exact hK.out _ _ rfl (grown_refl _ _)
    case o5 =>
      go_light
      intro ac w' hgw
      have g2 := grown_trans (grown_drew (grown_refl W1 none)) hgw
      have k1 := K1.out.kept0 g2
      have k2 := K2.out.kept0 g2
      have k3 := K3.out.kept0 g2
      have c0 := k1.cell 0
      have c1 := k1.cell 1
      have d0 := k2.cell 0
      have d1 := k2.cell 1
      have e0 := k3.cell 0
      have e1 := k3.cell 1
      simp at c0 c1 d0 d1 e0 e1
      have hPw := hid (hP1.out.grown g2)
      clear k1 k2 k3 g2
      replace hgw := hid hgw
      simp only [outThen, preThen, slotIs, factAt, isv, List.getElem?_cons_zero, List.getElem?_cons_succ, Option.getD_some, forall_eq]
      intros
      rename_i hK
      replace hK := hid hK
      simp only [wantedAt]
      go_simp
      exact hK.out _ _ rfl (grown_refl _ _)
    case o6 =>
      go_light
      intro ac w' hgw
      have g2 := grown_trans (grown_drew (grown_refl W1 none)) hgw
      have k1 := K1.out.kept0 g2
      have k2 := K2.out.kept0 g2
      have k3 := K3.out.kept0 g2
      have c0 := k1.cell 0
      have c1 := k1.cell 1
      have d0 := k2.cell 0
      have d1 := k2.cell 1
      have e0 := k3.cell 0
      have e1 := k3.cell 1
      simp at c0 c1 d0 d1 e0 e1
      have hPw := hid (hP1.out.grown g2)
      clear k1 k2 k3 g2
      replace hgw := hid hgw
      simp only [outThen, preThen, slotIs, factAt, isv, List.getElem?_cons_zero, List.getElem?_cons_succ, Option.getD_some, forall_eq]
      intros
      rename_i hK
      replace hK := hid hK
      simp only [wantedAt]
      go_simp
      exact hK.out _ _ rfl (grown_refl _ _)
    case o7 =>
      go_light
      intro ac w' hgw
      have g2 := grown_trans (grown_drew (grown_refl W1 none)) hgw
      have k1 := K1.out.kept0 g2
      have k2 := K2.out.kept0 g2
      have k3 := K3.out.kept0 g2
      have c0 := k1.cell 0
      have c1 := k1.cell 1
      have d0 := k2.cell 0
      have d1 := k2.cell 1
      have e0 := k3.cell 0
      have e1 := k3.cell 1
      simp at c0 c1 d0 d1 e0 e1
      have hPw := hid (hP1.out.grown g2)
      clear k1 k2 k3 g2
      replace hgw := hid hgw
      simp only [outThen, preThen, slotIs, factAt, isv, List.getElem?_cons_zero, List.getElem?_cons_succ, Option.getD_some, forall_eq]
      intros
      rename_i K hK
      replace hK := hid hK
      simp only [wantedAt]
      go_simp
      refine (occLess_is f P c xss (b1, b2) (a1, a2) w' hPw.out).mono ?_
      rintro e w3 ⟨rfl, hg⟩
      rw [hBA.out]
      exact hK.out _ _ rfl hg
    case o8 =>
      go_light
      intro ac w' hgw
      have g2 := grown_trans (grown_drew (grown_refl W1 none)) hgw
      have k1 := K1.out.kept0 g2
      have k2 := K2.out.kept0 g2
      have k3 := K3.out.kept0 g2
      have c0 := k1.cell 0
      have c1 := k1.cell 1
      have d0 := k2.cell 0
      have d1 := k2.cell 1
      have e0 := k3.cell 0
      have e1 := k3.cell 1
      simp at c0 c1 d0 d1 e0 e1
      have hPw := hid (hP1.out.grown g2)
      clear k1 k2 k3 g2
      replace hgw := hid hgw
      simp only [outThen, preThen, slotIs, factAt, isv, List.getElem?_cons_zero, List.getElem?_cons_succ, Option.getD_some, forall_eq]
      intros
      rename_i hK
      replace hK := hid hK
      simp only [wantedAt]
      go_simp
      exact hK.out _ _ rfl (grown_refl _ _)
    case o9 =>
      go_light
      intro ac w' hgw
      have g2 := grown_trans (grown_drew (grown_refl W1 none)) hgw
      have k1 := K1.out.kept0 g2
      have k2 := K2.out.kept0 g2
      have k3 := K3.out.kept0 g2
      have c0 := k1.cell 0
      have c1 := k1.cell 1
      have d0 := k2.cell 0
      have d1 := k2.cell 1
      have e0 := k3.cell 0
      have e1 := k3.cell 1
      simp at c0 c1 d0 d1 e0 e1
      have hPw := hid (hP1.out.grown g2)
      clear k1 k2 k3 g2
      replace hgw := hid hgw
      simp only [outThen, preThen, slotIs, factAt, isv, List.getElem?_cons_zero, List.getElem?_cons_succ, Option.getD_some, forall_eq]
      intros
      rename_i hK
      replace hK := hid hK
      simp only [wantedAt]
      go_simp
      exact hK.out _ _ rfl (grown_refl _ _)
  case st =>
    repeat (first | exact AllStable.nil | (refine AllStable.cons ?_ ?_; focus (first | exact stable_isv _ | exact stable_isBytes _ | exact stable_isRow1 _ | exact stable_isRowOf _ _ | exact stable_isArrOf _)))
  case fin =>
    intro W2 hgw
    simp only [finalIn, factAt, isv, List.getElem?_cons_zero, List.getElem?_cons_succ, Option.getD_some, forall_eq, slotIs, subj]
    simp only [Act.put, List.setIfInBounds_toArray, List.set_cons_zero, List.set_cons_succ]
    have g2 := grown_trans (grown_drew (grown_refl W1 none)) hgw
    have hG2 := hid (grown_trans hG1.out g2)
    have L1 := hid (K1.out.kept0 g2)
    have L2 := hid (K2.out.kept0 g2)
    have L3 := hid (K3.out.kept0 g2)
    have L4 := hid (K4.out.kept0 g2)
    have hP2 := hid (hP1.out.grown g2)
    have hA2 := hid (hA1.out.grown g2)
    have c0 := L1.out.cell 0
    have c1 := L1.out.cell 1
    have d0 := L2.out.cell 0
    have d1 := L2.out.cell 1
    have e0 := L3.out.cell 0
    have e1 := L3.out.cell 1
    have f0 := L4.out.cell 0
    have f1 := L4.out.cell 1
    simp at c0 c1 d0 d1 e0 e1 f0 f1
    have hgw0 := hid hgw
    clear hgw g2
    obtain ⟨BZ, hBZ⟩ : ∃ x, less xss (b1, b2) (z1, z2) = x := ⟨_, rfl⟩
    replace hBZ := hid hBZ
    have htri2 := htri.out
    rw [hAB.out, hBA.out] at htri2
    clear htri
    go_upto_region 4 with fail
    go_cut [69] (fun s69 wx => s69 = .bool false ∧ W2.grownBy wx none)
    case first =>
      rcases htri2 with ⟨rfl, rfl, hne⟩ | ⟨rfl, rfl, hne⟩ | ⟨heq, rfl, rfl⟩
      · cases BZ with
        | true =>
          have hAZ := hid (htrans.out hAB.out hBZ.out)
          by_cases e : a1 = b1
          · subst e
            have e2 : ¬ a2 = b2 := fun h => hne (by rw [h])
            have t1 : Hid True := trivial
            go_wp2_with (first
              | (clear t1; go_at_call 17; have t2 : Hid True := trivial; refine (occLess_is f P c xss (a1, b2) (z1, z2) _ hP2.out).mono ?_; rintro e W3 ⟨rfl, hg⟩; rw [hBZ.out]; have hG3 := hid (grown_trans hG2.out hg); have gW3 := hid hg; have M1 := hid (L1.out.kept0 hg); have M2 := hid (L2.out.kept0 hg); have M4 := hid (L4.out.kept0 hg); have hP3 := hid (hP2.out.grown hg); clear c0 c1 d0 d1 e0 e1 f0 f1; replace hg := hid hg; have c0 := M1.out.cell 0; have c1 := M1.out.cell 1; have d0 := M2.out.cell 0; have d1 := M2.out.cell 1; have f0 := M4.out.cell 0; have f1 := M4.out.cell 1; simp at c0 c1 d0 d1 f0 f1)
              | (clear t2; go_at_call 17; refine (occLess_is f P c xss (a1, a2) (z1, z2) _ hP3.out).mono ?_; rintro e W4 ⟨rfl, hg⟩; rw [hAZ.out]; have hG4 := hid (grown_trans hG3.out hg); have gW4 := hid (grown_trans gW3.out hg); clear c0 c1 d0 d1 f0 f1))
            go_meet
            exact ⟨rfl, gW4.out⟩
          · skip
            have t1 : Hid True := trivial
            go_wp2_with (first
              | (clear t1; go_at_call 17; have t2 : Hid True := trivial; refine (occLess_is f P c xss (b1, b2) (z1, z2) _ hP2.out).mono ?_; rintro e W3 ⟨rfl, hg⟩; rw [hBZ.out]; have hG3 := hid (grown_trans hG2.out hg); have gW3 := hid hg; have M1 := hid (L1.out.kept0 hg); have M2 := hid (L2.out.kept0 hg); have M4 := hid (L4.out.kept0 hg); have hP3 := hid (hP2.out.grown hg); clear c0 c1 d0 d1 e0 e1 f0 f1; replace hg := hid hg; have c0 := M1.out.cell 0; have c1 := M1.out.cell 1; have d0 := M2.out.cell 0; have d1 := M2.out.cell 1; have f0 := M4.out.cell 0; have f1 := M4.out.cell 1; simp at c0 c1 d0 d1 f0 f1)
              | (clear t2; go_at_call 17; refine (occLess_is f P c xss (a1, a2) (z1, z2) _ hP3.out).mono ?_; rintro e W4 ⟨rfl, hg⟩; rw [hAZ.out]; have hG4 := hid (grown_trans hG3.out hg); have gW4 := hid (grown_trans gW3.out hg); clear c0 c1 d0 d1 f0 f1))
            go_meet
            exact ⟨rfl, gW4.out⟩
        | false =>
          by_cases e : a1 = b1
          · subst e
            have e2 : ¬ a2 = b2 := fun h => hne (by rw [h])
            have t1 : Hid True := trivial
            go_wp2_with (first
              | (clear t1; go_at_call 17; have t2 : Hid True := trivial; refine (occLess_is f P c xss (a1, b2) (z1, z2) _ hP2.out).mono ?_; rintro e W3 ⟨rfl, hg⟩; rw [hBZ.out]; have hG3 := hid (grown_trans hG2.out hg); have gW3 := hid hg; have M1 := hid (L1.out.kept0 hg); have M2 := hid (L2.out.kept0 hg); have M4 := hid (L4.out.kept0 hg); have hP3 := hid (hP2.out.grown hg); clear c0 c1 d0 d1 e0 e1 f0 f1; replace hg := hid hg; have c0 := M1.out.cell 0; have c1 := M1.out.cell 1; have d0 := M2.out.cell 0; have d1 := M2.out.cell 1; have f0 := M4.out.cell 0; have f1 := M4.out.cell 1; simp at c0 c1 d0 d1 f0 f1)
              | (clear t2; go_at_call 17; refine (occLess_is f P c xss (a1, a2) (z1, z2) _ hP3.out).mono ?_; rintro e W4 ⟨rfl, hg⟩; rw [hAZ.out]; have hG4 := hid (grown_trans hG3.out hg); have gW4 := hid (grown_trans gW3.out hg); clear c0 c1 d0 d1 f0 f1))
            go_meet
            exact ⟨rfl, gW3.out⟩
          · skip
            have t1 : Hid True := trivial
            go_wp2_with (first
              | (clear t1; go_at_call 17; have t2 : Hid True := trivial; refine (occLess_is f P c xss (b1, b2) (z1, z2) _ hP2.out).mono ?_; rintro e W3 ⟨rfl, hg⟩; rw [hBZ.out]; have hG3 := hid (grown_trans hG2.out hg); have gW3 := hid hg; have M1 := hid (L1.out.kept0 hg); have M2 := hid (L2.out.kept0 hg); have M4 := hid (L4.out.kept0 hg); have hP3 := hid (hP2.out.grown hg); clear c0 c1 d0 d1 e0 e1 f0 f1; replace hg := hid hg; have c0 := M1.out.cell 0; have c1 := M1.out.cell 1; have d0 := M2.out.cell 0; have d1 := M2.out.cell 1; have f0 := M4.out.cell 0; have f1 := M4.out.cell 1; simp at c0 c1 d0 d1 f0 f1)
              | (clear t2; go_at_call 17; refine (occLess_is f P c xss (a1, a2) (z1, z2) _ hP3.out).mono ?_; rintro e W4 ⟨rfl, hg⟩; rw [hAZ.out]; have hG4 := hid (grown_trans hG3.out hg); have gW4 := hid (grown_trans gW3.out hg); clear c0 c1 d0 d1 f0 f1))
            go_meet
            exact ⟨rfl, gW3.out⟩
      · by_cases e : a1 = b1
        · subst e
          have e2 : ¬ a2 = b2 := fun h => hne (by rw [h])
          have t1 : Hid True := trivial
          go_wp2_with (first
            | (clear t1; go_at_call 17; have t2 : Hid True := trivial; refine (occLess_is f P c xss (b1, b2) (z1, z2) _ hP2.out).mono ?_; rintro e W3 ⟨rfl, hg⟩; rw [hBZ.out]; have hG3 := hid (grown_trans hG2.out hg); have gW3 := hid hg; have M1 := hid (L1.out.kept0 hg); have M2 := hid (L2.out.kept0 hg); have M4 := hid (L4.out.kept0 hg); have hP3 := hid (hP2.out.grown hg); clear c0 c1 d0 d1 e0 e1 f0 f1; replace hg := hid hg; have c0 := M1.out.cell 0; have c1 := M1.out.cell 1; have d0 := M2.out.cell 0; have d1 := M2.out.cell 1; have f0 := M4.out.cell 0; have f1 := M4.out.cell 1; simp at c0 c1 d0 d1 f0 f1)
            | (clear t2; go_at_call 17; refine (occLess_is f P c xss (a1, a2) (z1, z2) _ hP3.out).mono ?_; rintro e W4 ⟨rfl, hg⟩; rw [hAZ.out]; have hG4 := hid (grown_trans hG3.out hg); have gW4 := hid (grown_trans gW3.out hg); clear c0 c1 d0 d1 f0 f1))
          go_meet
          exact ⟨rfl, grown_refl _ _⟩
        · skip
          have t1 : Hid True := trivial
          go_wp2_with (first
            | (clear t1; go_at_call 17; have t2 : Hid True := trivial; refine (occLess_is f P c xss (b1, b2) (z1, z2) _ hP2.out).mono ?_; rintro e W3 ⟨rfl, hg⟩; rw [hBZ.out]; have hG3 := hid (grown_trans hG2.out hg); have gW3 := hid hg; have M1 := hid (L1.out.kept0 hg); have M2 := hid (L2.out.kept0 hg); have M4 := hid (L4.out.kept0 hg); have hP3 := hid (hP2.out.grown hg); clear c0 c1 d0 d1 e0 e1 f0 f1; replace hg := hid hg; have c0 := M1.out.cell 0; have c1 := M1.out.cell 1; have d0 := M2.out.cell 0; have d1 := M2.out.cell 1; have f0 := M4.out.cell 0; have f1 := M4.out.cell 1; simp at c0 c1 d0 d1 f0 f1)
            | (clear t2; go_at_call 17; refine (occLess_is f P c xss (a1, a2) (z1, z2) _ hP3.out).mono ?_; rintro e W4 ⟨rfl, hg⟩; rw [hAZ.out]; have hG4 := hid (grown_trans hG3.out hg); have gW4 := hid (grown_trans gW3.out hg); clear c0 c1 d0 d1 f0 f1))
          go_meet
          exact ⟨rfl, grown_refl _ _⟩
      · injection heq with e1' e2'
        subst e1' e2'
        have t1 : Hid True := trivial
        go_wp2_with (first
          | (clear t1; go_at_call 17; have t2 : Hid True := trivial; refine (occLess_is f P c xss (b1, b2) (z1, z2) _ hP2.out).mono ?_; rintro e W3 ⟨rfl, hg⟩; rw [hBZ.out]; have hG3 := hid (grown_trans hG2.out hg); have gW3 := hid hg; have M1 := hid (L1.out.kept0 hg); have M2 := hid (L2.out.kept0 hg); have M4 := hid (L4.out.kept0 hg); have hP3 := hid (hP2.out.grown hg); clear c0 c1 d0 d1 e0 e1 f0 f1; replace hg := hid hg; have c0 := M1.out.cell 0; have c1 := M1.out.cell 1; have d0 := M2.out.cell 0; have d1 := M2.out.cell 1; have f0 := M4.out.cell 0; have f1 := M4.out.cell 1; simp at c0 c1 d0 d1 f0 f1)
          | (clear t2; go_at_call 17; refine (occLess_is f P c xss (a1, a2) (z1, z2) _ hP3.out).mono ?_; rintro e W4 ⟨rfl, hg⟩; rw [hAZ.out]; have hG4 := hid (grown_trans hG3.out hg); have gW4 := hid (grown_trans gW3.out hg); clear c0 c1 d0 d1 f0 f1))
        go_meet
        exact ⟨rfl, grown_refl _ _⟩
    case rest =>
      obtain ⟨rfl, hgc⟩ := hcut
      have gz := grown_trans (grown_trans (grown_drew (grown_refl W1 none)) hgw0.out) hgc
      have hGz := hid (grown_trans hG1.out gz)
      have Z1 := hid (K1.out.kept0 gz)
      have hPz := hid (hP1.out.grown gz)
      have hAz := hid (hA1.out.grown gz)
      clear gz hgc c0 c1 d0 d1 e0 e1 f0 f1
      obtain ⟨wz, rfl⟩ : ∃ x : World, x = wc := ⟨_, rfl⟩
      obtain ⟨K, hK, hKl⟩ : ∃ K : Nat, (if (l.length : Int) < (if p < 0 then 0 else p) then (l.length : Int) else if p < 0 then 0 else p) = (K : Int) ∧ K ≤ l.length := by
        refine ⟨(if (l.length : Int) < (if p < 0 then 0 else p) then (l.length : Int) else if p < 0 then 0 else p).toNat, ?_, ?_⟩ <;> (repeat' split) <;> omega
      have hK2 : Hid (min (max p 0) (l.length : Int) = (K : Int)) := hid (by
        rw [← hK]
        repeat' split
        all_goals omega)
      replace hK := hid hK
      go_upto_region 7 with fail
      first | rw [hK.out] | rw [hK2.out]
      try generalize (if p < 0 then (0 : Int) else p) = pp
      try generalize max p (0 : Int) = pp
      have htk : Hid ((l.take K).length = K) := hid (by rw [List.length_take]; omega)
      have hdr : Hid ((l.drop K).length = l.length - K) := hid (by rw [List.length_drop])
      obtain ⟨A2, hA2⟩ : ∃ A2, (if d = K then A else A.map (fun x => x.add (K * 2))) = A2 := ⟨_, rfl⟩
      have hdrop := hid (fun (W : World) (hw : Hits W A l) => (show Hits W A2 (l.drop K) from hA2 ▸ hw.drop hd))
      replace hA2 := hid hA2
      have hKd : Hid ((K : Int) ≤ (d : Int) ∧ (K : Int) ≤ (l.length : Int)) := hid ⟨by omega, by omega⟩
      obtain ⟨R1, hR1⟩ : ∃ R1, rise xss (l.take K) = R1 := ⟨_, rfl⟩
      obtain ⟨R2, hR2⟩ : ∃ R2, rise xss (l.drop K) = R2 := ⟨_, rfl⟩
      obtain ⟨RR, hRR⟩ : ∃ RR, rise xss l = RR := ⟨_, rfl⟩
      have hparts := rise_parts xss (l.take K) (l.drop K)
      rw [List.take_append_drop, hRR, hR1, hR2] at hparts
      replace hparts := hid hparts
      replace hR1 := hid hR1
      replace hR2 := hid hR2
      replace hRR := hid hRR
      go_cut [15] (fun s15 wx => s15 = .bool (R1 && R2) ∧ wz.grownBy wx none)
      case first =>
        cases R1
        · skip
          apply wp_region_each [isv (.agg #[.bool f, .slice P xss.length c]), isv (.slice A l.length d), isv (.int .i64 K), isv (.slice A K d), isv (.bool false), isv (.bool false), isv undef, isv undef, isv undef, isv undef, isv undef, isv (.bool false), isv (.bool false)]
            129 [some 75, some 76, some 77, some 78, some 79, some 80, some 81, some 82, some 83, some 84, some 85, some 86, some 15]
            [some 75, some 76, some 77, some 78, some 79, some 80, some 81, some 82, some 83, some 84, some 85, some 86, some 15]
            [[], [], [], [1, 2], [0, 3], [4], [5], [5], [5], [7, 8, 5], [6, 9, 5], [5, 10], [11]]
            [(4, .slice A l.length d), (5, .int .i64 K), (6, .pointer (some ⟨h, 0, none⟩))] (by kernel_rfl) rfl (by kernel_rfl) rfl rfl (by kernel_rfl) (OutsOk.cons rfl rfl (OutsOk.cons rfl rfl (OutsOk.cons rfl rfl OutsOk.nil))) ?st ?ob ?fin
          case ob =>
            refine Obs.consv rfl ?o0 (Obs.consv rfl ?o1 (Obs.consv rfl ?o2 (Obs.consv rfl ?o3 (Obs.consv rfl ?o4 (Obs.consv rfl ?o5 (Obs.consv rfl ?o6 (Obs.consv rfl ?o7 (Obs.consv rfl ?o8 (Obs.consv rfl ?o9 (Obs.consv rfl ?o10 (Obs.consv rfl ?o11 (Obs.consv rfl ?o12 Obs.nil))))))))))))
            case o0 =>
              go_light
              intro ac w' hgw
              have g2 := grown_trans (grown_drew (grown_refl wz none)) hgw
              have kz := Z1.out.kept0 g2
              have c0 := (kz.cell 0).trans (show _ = some (Value.bool f) from rfl)
              have c1 := (kz.cell 1).trans (show _ = some (Value.slice P xss.length c) from rfl)
              have hPw := hid (hPz.out.grown g2)
              have hAw := hid (hAz.out.grown g2)
              clear kz g2
              replace hgw := hid hgw
              simp only [outThen, preThen, slotIs, factAt, isv, List.getElem?_cons_zero, List.getElem?_cons_succ, Option.getD_some, forall_eq]
              intros
              rename_i hK
              replace hK := hid hK
              simp only [wantedAt]
              go_simp
              exact hK.out _ _ rfl (grown_refl _ _)
            case o1 =>
              go_light
              intro ac w' hgw
              have g2 := grown_trans (grown_drew (grown_refl wz none)) hgw
              have kz := Z1.out.kept0 g2
              have c0 := (kz.cell 0).trans (show _ = some (Value.bool f) from rfl)
              have c1 := (kz.cell 1).trans (show _ = some (Value.slice P xss.length c) from rfl)
              have hPw := hid (hPz.out.grown g2)
              have hAw := hid (hAz.out.grown g2)
              clear kz g2
              replace hgw := hid hgw
              simp only [outThen, preThen, slotIs, factAt, isv, List.getElem?_cons_zero, List.getElem?_cons_succ, Option.getD_some, forall_eq]
              intros
              rename_i hK
              replace hK := hid hK
              simp only [wantedAt]
              go_simp
              exact hK.out _ _ rfl (grown_refl _ _)
            case o2 =>
              go_light
              intro ac w' hgw
              have g2 := grown_trans (grown_drew (grown_refl wz none)) hgw
              have kz := Z1.out.kept0 g2
              have c0 := (kz.cell 0).trans (show _ = some (Value.bool f) from rfl)
              have c1 := (kz.cell 1).trans (show _ = some (Value.slice P xss.length c) from rfl)
              have hPw := hid (hPz.out.grown g2)
              have hAw := hid (hAz.out.grown g2)
              clear kz g2
              replace hgw := hid hgw
              simp only [outThen, preThen, slotIs, factAt, isv, List.getElem?_cons_zero, List.getElem?_cons_succ, Option.getD_some, forall_eq]
              intros
              rename_i hK
              replace hK := hid hK
              simp only [wantedAt]
              go_simp
              exact hK.out _ _ rfl (grown_refl _ _)
            case o3 =>
              go_light
              intro ac w' hgw
              have g2 := grown_trans (grown_drew (grown_refl wz none)) hgw
              have kz := Z1.out.kept0 g2
              have c0 := (kz.cell 0).trans (show _ = some (Value.bool f) from rfl)
              have c1 := (kz.cell 1).trans (show _ = some (Value.slice P xss.length c) from rfl)
              have hPw := hid (hPz.out.grown g2)
              have hAw := hid (hAz.out.grown g2)
              clear kz g2
              replace hgw := hid hgw
              simp only [outThen, preThen, slotIs, factAt, isv, List.getElem?_cons_zero, List.getElem?_cons_succ, Option.getD_some, forall_eq]
              intros
              rename_i hK9
              replace hK9 := hid hK9
              simp only [wantedAt]
              have q1 := hKd.out.1
              have q2 := hKd.out.2
              go_simp
              exact hK9.out _ _ rfl (grown_refl _ _)
            case o4 =>
              go_light
              intro ac w' hgw
              have g2 := grown_trans (grown_drew (grown_refl wz none)) hgw
              have kz := Z1.out.kept0 g2
              have c0 := (kz.cell 0).trans (show _ = some (Value.bool f) from rfl)
              have c1 := (kz.cell 1).trans (show _ = some (Value.slice P xss.length c) from rfl)
              have hPw := hid (hPz.out.grown g2)
              have hAw := hid (hAz.out.grown g2)
              clear kz g2
              replace hgw := hid hgw
              simp only [outThen, preThen, slotIs, factAt, isv, List.getElem?_cons_zero, List.getElem?_cons_succ, Option.getD_some, forall_eq]
              intros
              rename_i hK9
              replace hK9 := hid hK9
              simp only [wantedAt]
              go_simp
              have hq := occRise_is f P A c d xss (l.take K) w' (by simp; omega) hPw.out (hAw.out.take K)
              rw [htk.out] at hq
              refine hq.mono ?_
              rintro e w3 ⟨rfl, hg⟩
              rw [hR1.out]
              exact hK9.out _ _ rfl hg
            case o5 =>
              go_light
              intro ac w' hgw
              have g2 := grown_trans (grown_drew (grown_refl wz none)) hgw
              have kz := Z1.out.kept0 g2
              have c0 := (kz.cell 0).trans (show _ = some (Value.bool f) from rfl)
              have c1 := (kz.cell 1).trans (show _ = some (Value.slice P xss.length c) from rfl)
              have hPw := hid (hPz.out.grown g2)
              have hAw := hid (hAz.out.grown g2)
              clear kz g2
              replace hgw := hid hgw
              simp only [outThen, preThen, slotIs, factAt, isv, List.getElem?_cons_zero, List.getElem?_cons_succ, Option.getD_some, forall_eq]
              intros
              rename_i hK
              replace hK := hid hK
              simp only [wantedAt]
              go_simp
              exact hK.out _ _ rfl (grown_refl _ _)
            case o6 =>
              go_light
              intro ac w' hgw
              have g2 := grown_trans (grown_drew (grown_refl wz none)) hgw
              have kz := Z1.out.kept0 g2
              have c0 := (kz.cell 0).trans (show _ = some (Value.bool f) from rfl)
              have c1 := (kz.cell 1).trans (show _ = some (Value.slice P xss.length c) from rfl)
              have hPw := hid (hPz.out.grown g2)
              have hAw := hid (hAz.out.grown g2)
              clear kz g2
              replace hgw := hid hgw
              simp only [outThen, preThen, slotIs, factAt, isv, List.getElem?_cons_zero, List.getElem?_cons_succ, Option.getD_some, forall_eq]
              intros
              rename_i hK
              replace hK := hid hK
              simp only [wantedAt]
              go_simp
              exact hK.out _ _ rfl (grown_refl _ _)
            case o7 =>
              go_light
              intro ac w' hgw
              have g2 := grown_trans (grown_drew (grown_refl wz none)) hgw
              have kz := Z1.out.kept0 g2
              have c0 := (kz.cell 0).trans (show _ = some (Value.bool f) from rfl)
              have c1 := (kz.cell 1).trans (show _ = some (Value.slice P xss.length c) from rfl)
              have hPw := hid (hPz.out.grown g2)
              have hAw := hid (hAz.out.grown g2)
              clear kz g2
              replace hgw := hid hgw
              simp only [outThen, preThen, slotIs, factAt, isv, List.getElem?_cons_zero, List.getElem?_cons_succ, Option.getD_some, forall_eq]
              intros
              rename_i hK
              replace hK := hid hK
              simp only [wantedAt]
              go_simp
              exact hK.out _ _ rfl (grown_refl _ _)
            case o8 =>
              go_light
              intro ac w' hgw
              have g2 := grown_trans (grown_drew (grown_refl wz none)) hgw
              have kz := Z1.out.kept0 g2
              have c0 := (kz.cell 0).trans (show _ = some (Value.bool f) from rfl)
              have c1 := (kz.cell 1).trans (show _ = some (Value.slice P xss.length c) from rfl)
              have hPw := hid (hPz.out.grown g2)
              have hAw := hid (hAz.out.grown g2)
              clear kz g2
              replace hgw := hid hgw
              simp only [outThen, preThen, slotIs, factAt, isv, List.getElem?_cons_zero, List.getElem?_cons_succ, Option.getD_some, forall_eq]
              intros
              rename_i hK
              replace hK := hid hK
              simp only [wantedAt]
              go_simp
              exact hK.out _ _ rfl (grown_refl _ _)
            case o9 =>
              go_light
              intro ac w' hgw
              have g2 := grown_trans (grown_drew (grown_refl wz none)) hgw
              have kz := Z1.out.kept0 g2
              have c0 := (kz.cell 0).trans (show _ = some (Value.bool f) from rfl)
              have c1 := (kz.cell 1).trans (show _ = some (Value.slice P xss.length c) from rfl)
              have hPw := hid (hPz.out.grown g2)
              have hAw := hid (hAz.out.grown g2)
              clear kz g2
              replace hgw := hid hgw
              simp only [outThen, preThen, slotIs, factAt, isv, List.getElem?_cons_zero, List.getElem?_cons_succ, Option.getD_some, forall_eq]
              intros
              rename_i hK
              replace hK := hid hK
              simp only [wantedAt]
              go_simp
              exact hK.out _ _ rfl (grown_refl _ _)
            case o10 =>
              go_light
              intro ac w' hgw
              have g2 := grown_trans (grown_drew (grown_refl wz none)) hgw
              have kz := Z1.out.kept0 g2
              have c0 := (kz.cell 0).trans (show _ = some (Value.bool f) from rfl)
              have c1 := (kz.cell 1).trans (show _ = some (Value.slice P xss.length c) from rfl)
              have hPw := hid (hPz.out.grown g2)
              have hAw := hid (hAz.out.grown g2)
              clear kz g2
              replace hgw := hid hgw
              simp only [outThen, preThen, slotIs, factAt, isv, List.getElem?_cons_zero, List.getElem?_cons_succ, Option.getD_some, forall_eq]
              intros
              rename_i hK
              replace hK := hid hK
              simp only [wantedAt]
              go_simp
              exact hK.out _ _ rfl (grown_refl _ _)
            case o11 =>
              go_light
              intro ac w' hgw
              have g2 := grown_trans (grown_drew (grown_refl wz none)) hgw
              have kz := Z1.out.kept0 g2
              have c0 := (kz.cell 0).trans (show _ = some (Value.bool f) from rfl)
              have c1 := (kz.cell 1).trans (show _ = some (Value.slice P xss.length c) from rfl)
              have hPw := hid (hPz.out.grown g2)
              have hAw := hid (hAz.out.grown g2)
              clear kz g2
              replace hgw := hid hgw
              simp only [outThen, preThen, slotIs, factAt, isv, List.getElem?_cons_zero, List.getElem?_cons_succ, Option.getD_some, forall_eq]
              intros
              rename_i hK
              replace hK := hid hK
              simp only [wantedAt]
              go_simp
              exact hK.out _ _ rfl (grown_refl _ _)
            case o12 =>
              go_light
              intro ac w' hgw
              have g2 := grown_trans (grown_drew (grown_refl wz none)) hgw
              have kz := Z1.out.kept0 g2
              have c0 := (kz.cell 0).trans (show _ = some (Value.bool f) from rfl)
              have c1 := (kz.cell 1).trans (show _ = some (Value.slice P xss.length c) from rfl)
              have hPw := hid (hPz.out.grown g2)
              have hAw := hid (hAz.out.grown g2)
              clear kz g2
              replace hgw := hid hgw
              simp only [outThen, preThen, slotIs, factAt, isv, List.getElem?_cons_zero, List.getElem?_cons_succ, Option.getD_some, forall_eq]
              intros
              rename_i hK
              replace hK := hid hK
              simp only [wantedAt]
              go_simp
              exact hK.out _ _ rfl (grown_refl _ _)
          case st =>
            repeat (first | exact AllStable.nil | (refine AllStable.cons ?_ ?_; focus (first | exact stable_isv _ | exact stable_isBytes _ | exact stable_isRow1 _ | exact stable_isRowOf _ _ | exact stable_isArrOf _)))
          case fin =>
            intro W2 hgw
            simp only [finalIn, factAt, isv, List.getElem?_cons_zero, List.getElem?_cons_succ, Option.getD_some, forall_eq, slotIs, subj]
            simp only [Act.put, List.setIfInBounds_toArray, List.set_cons_zero, List.set_cons_succ]
            have g2 := hid (grown_trans (grown_drew (grown_refl wz none)) hgw)
            clear hgw
            go_wp2_with fail
            go_meet
            exact ⟨by simp, g2.out⟩
        · skip
          apply wp_region_each [isv (.agg #[.bool f, .slice P xss.length c]), isv (.slice A l.length d), isv (.int .i64 K), isv (.slice A K d), isv (.bool true), isv (.bool true), isv (.agg #[.bool f, .slice P xss.length c]), isv (.slice A l.length d), isv (.int .i64 K), isv (.slice A2 (l.length - K) (d - K)), isv (.bool R2), isv (.bool R2), isv (.bool R2)]
            129 [some 75, some 76, some 77, some 78, some 79, some 80, some 81, some 82, some 83, some 84, some 85, some 86, some 15]
            [some 75, some 76, some 77, some 78, some 79, some 80, some 81, some 82, some 83, some 84, some 85, some 86, some 15]
            [[], [], [], [1, 2], [0, 3], [4], [5], [5], [5], [7, 8, 5], [6, 9, 5], [5, 10], [11]]
            [(4, .slice A l.length d), (5, .int .i64 K), (6, .pointer (some ⟨h, 0, none⟩))] (by kernel_rfl) rfl (by kernel_rfl) rfl rfl (by kernel_rfl) (OutsOk.cons rfl rfl (OutsOk.cons rfl rfl (OutsOk.cons rfl rfl OutsOk.nil))) ?st ?ob ?fin
          case ob =>
            refine Obs.consv rfl ?o0 (Obs.consv rfl ?o1 (Obs.consv rfl ?o2 (Obs.consv rfl ?o3 (Obs.consv rfl ?o4 (Obs.consv rfl ?o5 (Obs.consv rfl ?o6 (Obs.consv rfl ?o7 (Obs.consv rfl ?o8 (Obs.consv rfl ?o9 (Obs.consv rfl ?o10 (Obs.consv rfl ?o11 (Obs.consv rfl ?o12 Obs.nil))))))))))))
            case o0 =>
              go_light
              intro ac w' hgw
              have g2 := grown_trans (grown_drew (grown_refl wz none)) hgw
              have kz := Z1.out.kept0 g2
              have c0 := (kz.cell 0).trans (show _ = some (Value.bool f) from rfl)
              have c1 := (kz.cell 1).trans (show _ = some (Value.slice P xss.length c) from rfl)
              have hPw := hid (hPz.out.grown g2)
              have hAw := hid (hAz.out.grown g2)
              clear kz g2
              replace hgw := hid hgw
              simp only [outThen, preThen, slotIs, factAt, isv, List.getElem?_cons_zero, List.getElem?_cons_succ, Option.getD_some, forall_eq]
              intros
              rename_i hK
              replace hK := hid hK
              simp only [wantedAt]
              go_simp
              exact hK.out _ _ rfl (grown_refl _ _)
            case o1 =>
              go_light
              intro ac w' hgw
              have g2 := grown_trans (grown_drew (grown_refl wz none)) hgw
              have kz := Z1.out.kept0 g2
              have c0 := (kz.cell 0).trans (show _ = some (Value.bool f) from rfl)
              have c1 := (kz.cell 1).trans (show _ = some (Value.slice P xss.length c) from rfl)
              have hPw := hid (hPz.out.grown g2)
              have hAw := hid (hAz.out.grown g2)
              clear kz g2
              replace hgw := hid hgw
              simp only [outThen, preThen, slotIs, factAt, isv, List.getElem?_cons_zero, List.getElem?_cons_succ, Option.getD_some, forall_eq]
              intros
              rename_i hK
              replace hK := hid hK
              simp only [wantedAt]
              go_simp
              exact hK.out _ _ rfl (grown_refl _ _)
            case o2 =>
              go_light
              intro ac w' hgw
              have g2 := grown_trans (grown_drew (grown_refl wz none)) hgw
              have kz := Z1.out.kept0 g2
              have c0 := (kz.cell 0).trans (show _ = some (Value.bool f) from rfl)
              have c1 := (kz.cell 1).trans (show _ = some (Value.slice P xss.length c) from rfl)
              have hPw := hid (hPz.out.grown g2)
              have hAw := hid (hAz.out.grown g2)
              clear kz g2
              replace hgw := hid hgw
              simp only [outThen, preThen, slotIs, factAt, isv, List.getElem?_cons_zero, List.getElem?_cons_succ, Option.getD_some, forall_eq]
              intros
              rename_i hK
              replace hK := hid hK
              simp only [wantedAt]
              go_simp
              exact hK.out _ _ rfl (grown_refl _ _)
            case o3 =>
              go_light
              intro ac w' hgw
              have g2 := grown_trans (grown_drew (grown_refl wz none)) hgw
              have kz := Z1.out.kept0 g2
              have c0 := (kz.cell 0).trans (show _ = some (Value.bool f) from rfl)
              have c1 := (kz.cell 1).trans (show _ = some (Value.slice P xss.length c) from rfl)
              have hPw := hid (hPz.out.grown g2)
              have hAw := hid (hAz.out.grown g2)
              clear kz g2
              replace hgw := hid hgw
              simp only [outThen, preThen, slotIs, factAt, isv, List.getElem?_cons_zero, List.getElem?_cons_succ, Option.getD_some, forall_eq]
              intros
              rename_i hK9
              replace hK9 := hid hK9
              simp only [wantedAt]
              have q1 := hKd.out.1
              have q2 := hKd.out.2
              go_simp
              exact hK9.out _ _ rfl (grown_refl _ _)
            case o4 =>
              go_light
              intro ac w' hgw
              have g2 := grown_trans (grown_drew (grown_refl wz none)) hgw
              have kz := Z1.out.kept0 g2
              have c0 := (kz.cell 0).trans (show _ = some (Value.bool f) from rfl)
              have c1 := (kz.cell 1).trans (show _ = some (Value.slice P xss.length c) from rfl)
              have hPw := hid (hPz.out.grown g2)
              have hAw := hid (hAz.out.grown g2)
              clear kz g2
              replace hgw := hid hgw
              simp only [outThen, preThen, slotIs, factAt, isv, List.getElem?_cons_zero, List.getElem?_cons_succ, Option.getD_some, forall_eq]
              intros
              rename_i hK9
              replace hK9 := hid hK9
              simp only [wantedAt]
              go_simp
              have hq := occRise_is f P A c d xss (l.take K) w' (by simp; omega) hPw.out (hAw.out.take K)
              rw [htk.out] at hq
              refine hq.mono ?_
              rintro e w3 ⟨rfl, hg⟩
              rw [hR1.out]
              exact hK9.out _ _ rfl hg
            case o5 =>
              go_light
              intro ac w' hgw
              have g2 := grown_trans (grown_drew (grown_refl wz none)) hgw
              have kz := Z1.out.kept0 g2
              have c0 := (kz.cell 0).trans (show _ = some (Value.bool f) from rfl)
              have c1 := (kz.cell 1).trans (show _ = some (Value.slice P xss.length c) from rfl)
              have hPw := hid (hPz.out.grown g2)
              have hAw := hid (hAz.out.grown g2)
              clear kz g2
              replace hgw := hid hgw
              simp only [outThen, preThen, slotIs, factAt, isv, List.getElem?_cons_zero, List.getElem?_cons_succ, Option.getD_some, forall_eq]
              intros
              rename_i hK
              replace hK := hid hK
              simp only [wantedAt]
              go_simp
              exact hK.out _ _ rfl (grown_refl _ _)
            case o6 =>
              go_light
              intro ac w' hgw
              have g2 := grown_trans (grown_drew (grown_refl wz none)) hgw
              have kz := Z1.out.kept0 g2
              have c0 := (kz.cell 0).trans (show _ = some (Value.bool f) from rfl)
              have c1 := (kz.cell 1).trans (show _ = some (Value.slice P xss.length c) from rfl)
              have hPw := hid (hPz.out.grown g2)
              have hAw := hid (hAz.out.grown g2)
              clear kz g2
              replace hgw := hid hgw
              simp only [outThen, preThen, slotIs, factAt, isv, List.getElem?_cons_zero, List.getElem?_cons_succ, Option.getD_some, forall_eq]
              intros
              rename_i hK
              replace hK := hid hK
              simp only [wantedAt]
              go_simp
              exact hK.out _ _ rfl (grown_refl _ _)
            case o7 =>
              go_light
              intro ac w' hgw
              have g2 := grown_trans (grown_drew (grown_refl wz none)) hgw
              have kz := Z1.out.kept0 g2
              have c0 := (kz.cell 0).trans (show _ = some (Value.bool f) from rfl)
              have c1 := (kz.cell 1).trans (show _ = some (Value.slice P xss.length c) from rfl)
              have hPw := hid (hPz.out.grown g2)
              have hAw := hid (hAz.out.grown g2)
              clear kz g2
              replace hgw := hid hgw
              simp only [outThen, preThen, slotIs, factAt, isv, List.getElem?_cons_zero, List.getElem?_cons_succ, Option.getD_some, forall_eq]
              intros
              rename_i hK
              replace hK := hid hK
              simp only [wantedAt]
              go_simp
              exact hK.out _ _ rfl (grown_refl _ _)
            case o8 =>
              go_light
              intro ac w' hgw
              have g2 := grown_trans (grown_drew (grown_refl wz none)) hgw
              have kz := Z1.out.kept0 g2
              have c0 := (kz.cell 0).trans (show _ = some (Value.bool f) from rfl)
              have c1 := (kz.cell 1).trans (show _ = some (Value.slice P xss.length c) from rfl)
              have hPw := hid (hPz.out.grown g2)
              have hAw := hid (hAz.out.grown g2)
              clear kz g2
              replace hgw := hid hgw
              simp only [outThen, preThen, slotIs, factAt, isv, List.getElem?_cons_zero, List.getElem?_cons_succ, Option.getD_some, forall_eq]
              intros
              rename_i hK
              replace hK := hid hK
              simp only [wantedAt]
              go_simp
              exact hK.out _ _ rfl (grown_refl _ _)
            case o9 =>
              go_light
              intro ac w' hgw
              have g2 := grown_trans (grown_drew (grown_refl wz none)) hgw
              have kz := Z1.out.kept0 g2
              have c0 := (kz.cell 0).trans (show _ = some (Value.bool f) from rfl)
              have c1 := (kz.cell 1).trans (show _ = some (Value.slice P xss.length c) from rfl)
              have hPw := hid (hPz.out.grown g2)
              have hAw := hid (hAz.out.grown g2)
              clear kz g2
              replace hgw := hid hgw
              simp only [outThen, preThen, slotIs, factAt, isv, List.getElem?_cons_zero, List.getElem?_cons_succ, Option.getD_some, forall_eq]
              intros
              rename_i hK9
              replace hK9 := hid hK9
              simp only [wantedAt]
              have q1 := hKd.out.1
              have q2 := hKd.out.2
              go_simp
              exact hK9.out _ _ (congrArg (fun q => Value.slice q (l.length - K) (d - K)) hA2.out) (grown_refl _ _)
            case o10 =>
              go_light
              intro ac w' hgw
              have g2 := grown_trans (grown_drew (grown_refl wz none)) hgw
              have kz := Z1.out.kept0 g2
              have c0 := (kz.cell 0).trans (show _ = some (Value.bool f) from rfl)
              have c1 := (kz.cell 1).trans (show _ = some (Value.slice P xss.length c) from rfl)
              have hPw := hid (hPz.out.grown g2)
              have hAw := hid (hAz.out.grown g2)
              clear kz g2
              replace hgw := hid hgw
              simp only [outThen, preThen, slotIs, factAt, isv, List.getElem?_cons_zero, List.getElem?_cons_succ, Option.getD_some, forall_eq]
              intros
              rename_i hK9
              replace hK9 := hid hK9
              simp only [wantedAt]
              go_simp
              have hq := occRise_is f P A2 c (d - K) xss (l.drop K) w' (by simp; omega) hPw.out (hdrop.out _ hAw.out)
              rw [hdr.out] at hq
              refine hq.mono ?_
              rintro e w3 ⟨rfl, hg⟩
              rw [hR2.out]
              exact hK9.out _ _ rfl hg
            case o11 =>
              go_light
              intro ac w' hgw
              have g2 := grown_trans (grown_drew (grown_refl wz none)) hgw
              have kz := Z1.out.kept0 g2
              have c0 := (kz.cell 0).trans (show _ = some (Value.bool f) from rfl)
              have c1 := (kz.cell 1).trans (show _ = some (Value.slice P xss.length c) from rfl)
              have hPw := hid (hPz.out.grown g2)
              have hAw := hid (hAz.out.grown g2)
              clear kz g2
              replace hgw := hid hgw
              simp only [outThen, preThen, slotIs, factAt, isv, List.getElem?_cons_zero, List.getElem?_cons_succ, Option.getD_some, forall_eq]
              intros
              rename_i hK
              replace hK := hid hK
              simp only [wantedAt]
              go_simp
              exact hK.out _ _ rfl (grown_refl _ _)
            case o12 =>
              go_light
              intro ac w' hgw
              have g2 := grown_trans (grown_drew (grown_refl wz none)) hgw
              have kz := Z1.out.kept0 g2
              have c0 := (kz.cell 0).trans (show _ = some (Value.bool f) from rfl)
              have c1 := (kz.cell 1).trans (show _ = some (Value.slice P xss.length c) from rfl)
              have hPw := hid (hPz.out.grown g2)
              have hAw := hid (hAz.out.grown g2)
              clear kz g2
              replace hgw := hid hgw
              simp only [outThen, preThen, slotIs, factAt, isv, List.getElem?_cons_zero, List.getElem?_cons_succ, Option.getD_some, forall_eq]
              intros
              rename_i hK
              replace hK := hid hK
              simp only [wantedAt]
              go_simp
              exact hK.out _ _ rfl (grown_refl _ _)
          case st =>
            repeat (first | exact AllStable.nil | (refine AllStable.cons ?_ ?_; focus (first | exact stable_isv _ | exact stable_isBytes _ | exact stable_isRow1 _ | exact stable_isRowOf _ _ | exact stable_isArrOf _)))
          case fin =>
            intro W2 hgw
            simp only [finalIn, factAt, isv, List.getElem?_cons_zero, List.getElem?_cons_succ, Option.getD_some, forall_eq, slotIs, subj]
            simp only [Act.put, List.setIfInBounds_toArray, List.set_cons_zero, List.set_cons_succ]
            have g2 := hid (grown_trans (grown_drew (grown_refl wz none)) hgw)
            clear hgw
            go_wp2_with fail
            go_meet
            exact ⟨by simp, g2.out⟩
      case rest =>
        obtain ⟨rfl, hgc⟩ := hcut
        obtain ⟨wy, rfl⟩ : ∃ x : World, x = wc := ⟨_, rfl⟩
        have gy := hgc
        have hGy := hid (grown_trans hGz.out gy)
        have Y1 := hid (Z1.out.kept0 gy)
        have hPy := hid (hPz.out.grown gy)
        have hAy := hid (hAz.out.grown gy)
        clear gy hgc hGz Z1 hPz hAz
        go_upto_region 8 with fail
        go_cut [94] (fun s94 wx => s94 = .bool (decide (0 < K ∧ K < l.length)) ∧ wx = wy)
        case first =>
          by_cases k0 : 0 < K
          · have q0 : (0 : Int) < (K : Int) := by omega
            by_cases k1 : K < l.length
            · have q1 : (K : Int) < (l.length : Int) := by omega
              go_wp2_with fail
              go_meet
              exact ⟨by rw [decide_eq_true ⟨k0, k1⟩], rfl⟩
            · have q1 : ¬ (K : Int) < (l.length : Int) := by omega
              go_wp2_with fail
              go_meet
              exact ⟨by rw [decide_eq_false (fun h => k1 h.2)], rfl⟩
          · obtain rfl : K = 0 := by omega
            go_wp2_with fail
            go_meet
            exact ⟨by simp, rfl⟩
        case rest =>
          obtain ⟨rfl, rfl⟩ := hcut
          obtain ⟨wy, rfl⟩ : ∃ x : World, x = wc := ⟨_, rfl⟩
          go_upto_if 94 with fail
          go_cut [15] (fun s15 wx => s15 = .bool RR ∧ wy.grownBy wx none)
          case first =>
            by_cases hB : 0 < K ∧ K < l.length
            · simp only [decide_eq_true hB]
              obtain ⟨bA, oA, rfl, hbA, hcells⟩ := hAy.out.at_ hB.2
              have hc0 := hcells (K - 1) (by omega)
              have hc1 := hcells K hB.2
              have hRL : RR = (R1 && R2 && less xss (l.getD (K - 1) (0, 0)) (l.getD K (0, 0))) := by
                have e := hparts.out
                have e1 : (l.take K).getLast? = some (l.getD (K - 1) (0, 0)) := by
                  rw [List.getLast?_eq_getElem?, List.length_take, Nat.min_eq_left (by omega), List.getElem?_take, if_pos (by omega)]
                  simp [List.getD, show K - 1 < l.length by omega]
                have e2 : (l.drop K).head? = some (l.getD K (0, 0)) := by
                  rw [List.head?_drop]
                  simp [List.getD, hB.2]
                rw [e1, e2] at e
                exact e
              generalize l.getD (K - 1) (0, 0) = m at hc0 hRL
              generalize l.getD K (0, 0) = nn at hc1 hRL
              obtain ⟨m1, m2⟩ := m
              obtain ⟨n1, n2⟩ := nn
              obtain ⟨LL, hLL⟩ : ∃ LL, less xss (m1, m2) (n1, n2) = LL := ⟨_, rfl⟩
              rw [hLL] at hRL
              replace hLL := hid hLL
              replace hRL := hid hRL
              replace hc0 := hid hc0
              replace hc1 := hid hc1
              replace hbA := hid hbA
              have hKq : Hid ((1 : Int) ≤ (K : Int) ∧ (K : Int) < (l.length : Int) ∧ (K : Int) - 1 < (l.length : Int)) := hid ⟨by omega, by omega, by omega⟩
              clear hcells
              generalize hR12 : (R1 && R2) = RS at hRL ⊢
              go_upto_region 9 with fail
              cases RS
              · skip
                apply LateDraw.wp_region_each 14 15 (.bool false) [isv (.bool false), isv (.bool false), isv undef, isv undef, isv undef, isv undef, isv undef, isv undef, isv undef, isv undef, isv undef, isv undef, isv undef, isv (.bool false), isv (.bool false)]
                  129 [some 95, some 96, some 97, some 98, some 99, some 100, some 101, some 102, some 103, some 104, some 105, some 106, some 107, some 108, some 15]
                  [some 95, some 96, some 97, some 98, some 99, some 100, some 101, some 102, some 103, some 104, some 105, some 106, some 107, some 108, some 15]
                  [[], [0], [1], [1], [1], [4, 1], [3, 5, 1], [6, 1], [1], [1], [8, 9, 1], [10, 1], [2, 7, 11, 1], [1, 12], [13]]
                  [(4, .slice (some ⟨bA, oA, none⟩) l.length d), (5, .int .i64 K), (6, .pointer (some ⟨h, 0, none⟩))] (by kernel_rfl) rfl (by kernel_rfl) rfl rfl (by kernel_rfl) (OutsOk.cons rfl rfl (OutsOk.cons rfl rfl (OutsOk.cons rfl rfl OutsOk.nil))) rfl rfl ?st ?ob ?fin
                case ob =>
                  refine LateDraw.Obs.consv rfl ?o0 (LateDraw.Obs.consv rfl ?o1 (LateDraw.Obs.consv rfl ?o2 (LateDraw.Obs.consv rfl ?o3 (LateDraw.Obs.consv rfl ?o4 (LateDraw.Obs.consv rfl ?o5 (LateDraw.Obs.consv rfl ?o6 (LateDraw.Obs.consv rfl ?o7 (LateDraw.Obs.consv rfl ?o8 (LateDraw.Obs.consv rfl ?o9 (LateDraw.Obs.consv rfl ?o10 (LateDraw.Obs.consv rfl ?o11 (LateDraw.Obs.consv rfl ?o12 (LateDraw.Obs.consv rfl ?o13 (LateDraw.Obs.consv rfl ?o14 LateDraw.Obs.nil))))))))))))))
                  case o0 =>
                    go_light
                    intro ac w' hgw hlate
                    have hrl := hlate (by kernel_rfl)
                    have g2 := grown_trans (grown_drew (grown_refl wy none)) hgw
                    have kz := Y1.out.kept0 g2
                    have c0 := (kz.cell 0).trans (show _ = some (Value.bool f) from rfl)
                    have c1 := (kz.cell 1).trans (show _ = some (Value.slice P xss.length c) from rfl)
                    have hPw := hid (hPy.out.grown g2)
                    have hAw := hid (hAy.out.grown g2)
                    clear kz g2
                    replace hgw := hid hgw
                    have x0 := ((gcell (grown_trans (grown_drew (grown_refl wy none)) hgw.out)).1 bA (oA + (K - 1) * 2) hbA.out).trans hc0.out.1
                    have y0 := ((gcell (grown_trans (grown_drew (grown_refl wy none)) hgw.out)).1 bA (oA + (K - 1) * 2 + 1) hbA.out).trans hc0.out.2
                    have x1 := ((gcell (grown_trans (grown_drew (grown_refl wy none)) hgw.out)).1 bA (oA + K * 2) hbA.out).trans hc1.out.1
                    have y1 := ((gcell (grown_trans (grown_drew (grown_refl wy none)) hgw.out)).1 bA (oA + K * 2 + 1) hbA.out).trans hc1.out.2
                    simp only [outThen, preThen, slotIs, factAt, isv, List.getElem?_cons_zero, List.getElem?_cons_succ, Option.getD_some, forall_eq]
                    intros
                    rename_i hK
                    replace hK := hid hK
                    simp only [wantedAt]
                    go_simp
                    exact hK.out _ _ rfl (grown_refl _ _)
                  case o1 =>
                    go_light
                    intro ac w' hgw _
                    have g2 := grown_trans (grown_drew (grown_refl wy none)) hgw
                    have kz := Y1.out.kept0 g2
                    have c0 := (kz.cell 0).trans (show _ = some (Value.bool f) from rfl)
                    have c1 := (kz.cell 1).trans (show _ = some (Value.slice P xss.length c) from rfl)
                    have hPw := hid (hPy.out.grown g2)
                    have hAw := hid (hAy.out.grown g2)
                    clear kz g2
                    replace hgw := hid hgw
                    have x0 := ((gcell (grown_trans (grown_drew (grown_refl wy none)) hgw.out)).1 bA (oA + (K - 1) * 2) hbA.out).trans hc0.out.1
                    have y0 := ((gcell (grown_trans (grown_drew (grown_refl wy none)) hgw.out)).1 bA (oA + (K - 1) * 2 + 1) hbA.out).trans hc0.out.2
                    have x1 := ((gcell (grown_trans (grown_drew (grown_refl wy none)) hgw.out)).1 bA (oA + K * 2) hbA.out).trans hc1.out.1
                    have y1 := ((gcell (grown_trans (grown_drew (grown_refl wy none)) hgw.out)).1 bA (oA + K * 2 + 1) hbA.out).trans hc1.out.2
                    simp only [outThen, preThen, slotIs, factAt, isv, List.getElem?_cons_zero, List.getElem?_cons_succ, Option.getD_some, forall_eq]
                    intros
                    rename_i hK
                    replace hK := hid hK
                    simp only [wantedAt]
                    go_simp
                    exact hK.out _ _ rfl (grown_refl _ _)
                  case o2 =>
                    go_light
                    intro ac w' hgw _
                    have g2 := grown_trans (grown_drew (grown_refl wy none)) hgw
                    have kz := Y1.out.kept0 g2
                    have c0 := (kz.cell 0).trans (show _ = some (Value.bool f) from rfl)
                    have c1 := (kz.cell 1).trans (show _ = some (Value.slice P xss.length c) from rfl)
                    have hPw := hid (hPy.out.grown g2)
                    have hAw := hid (hAy.out.grown g2)
                    clear kz g2
                    replace hgw := hid hgw
                    have x0 := ((gcell (grown_trans (grown_drew (grown_refl wy none)) hgw.out)).1 bA (oA + (K - 1) * 2) hbA.out).trans hc0.out.1
                    have y0 := ((gcell (grown_trans (grown_drew (grown_refl wy none)) hgw.out)).1 bA (oA + (K - 1) * 2 + 1) hbA.out).trans hc0.out.2
                    have x1 := ((gcell (grown_trans (grown_drew (grown_refl wy none)) hgw.out)).1 bA (oA + K * 2) hbA.out).trans hc1.out.1
                    have y1 := ((gcell (grown_trans (grown_drew (grown_refl wy none)) hgw.out)).1 bA (oA + K * 2 + 1) hbA.out).trans hc1.out.2
                    simp only [outThen, preThen, slotIs, factAt, isv, List.getElem?_cons_zero, List.getElem?_cons_succ, Option.getD_some, forall_eq]
                    intros
                    rename_i hK
                    replace hK := hid hK
                    simp only [wantedAt]
                    go_simp
                    exact hK.out _ _ rfl (grown_refl _ _)
                  case o3 =>
                    go_light
                    intro ac w' hgw _
                    have g2 := grown_trans (grown_drew (grown_refl wy none)) hgw
                    have kz := Y1.out.kept0 g2
                    have c0 := (kz.cell 0).trans (show _ = some (Value.bool f) from rfl)
                    have c1 := (kz.cell 1).trans (show _ = some (Value.slice P xss.length c) from rfl)
                    have hPw := hid (hPy.out.grown g2)
                    have hAw := hid (hAy.out.grown g2)
                    clear kz g2
                    replace hgw := hid hgw
                    have x0 := ((gcell (grown_trans (grown_drew (grown_refl wy none)) hgw.out)).1 bA (oA + (K - 1) * 2) hbA.out).trans hc0.out.1
                    have y0 := ((gcell (grown_trans (grown_drew (grown_refl wy none)) hgw.out)).1 bA (oA + (K - 1) * 2 + 1) hbA.out).trans hc0.out.2
                    have x1 := ((gcell (grown_trans (grown_drew (grown_refl wy none)) hgw.out)).1 bA (oA + K * 2) hbA.out).trans hc1.out.1
                    have y1 := ((gcell (grown_trans (grown_drew (grown_refl wy none)) hgw.out)).1 bA (oA + K * 2 + 1) hbA.out).trans hc1.out.2
                    simp only [outThen, preThen, slotIs, factAt, isv, List.getElem?_cons_zero, List.getElem?_cons_succ, Option.getD_some, forall_eq]
                    intros
                    rename_i hK
                    replace hK := hid hK
                    simp only [wantedAt]
                    go_simp
                    exact hK.out _ _ rfl (grown_refl _ _)
                  case o4 =>
                    go_light
                    intro ac w' hgw _
                    have g2 := grown_trans (grown_drew (grown_refl wy none)) hgw
                    have kz := Y1.out.kept0 g2
                    have c0 := (kz.cell 0).trans (show _ = some (Value.bool f) from rfl)
                    have c1 := (kz.cell 1).trans (show _ = some (Value.slice P xss.length c) from rfl)
                    have hPw := hid (hPy.out.grown g2)
                    have hAw := hid (hAy.out.grown g2)
                    clear kz g2
                    replace hgw := hid hgw
                    have x0 := ((gcell (grown_trans (grown_drew (grown_refl wy none)) hgw.out)).1 bA (oA + (K - 1) * 2) hbA.out).trans hc0.out.1
                    have y0 := ((gcell (grown_trans (grown_drew (grown_refl wy none)) hgw.out)).1 bA (oA + (K - 1) * 2 + 1) hbA.out).trans hc0.out.2
                    have x1 := ((gcell (grown_trans (grown_drew (grown_refl wy none)) hgw.out)).1 bA (oA + K * 2) hbA.out).trans hc1.out.1
                    have y1 := ((gcell (grown_trans (grown_drew (grown_refl wy none)) hgw.out)).1 bA (oA + K * 2 + 1) hbA.out).trans hc1.out.2
                    simp only [outThen, preThen, slotIs, factAt, isv, List.getElem?_cons_zero, List.getElem?_cons_succ, Option.getD_some, forall_eq]
                    intros
                    rename_i hK
                    replace hK := hid hK
                    simp only [wantedAt]
                    go_simp
                    exact hK.out _ _ rfl (grown_refl _ _)
                  case o5 =>
                    go_light
                    intro ac w' hgw _
                    have g2 := grown_trans (grown_drew (grown_refl wy none)) hgw
                    have kz := Y1.out.kept0 g2
                    have c0 := (kz.cell 0).trans (show _ = some (Value.bool f) from rfl)
                    have c1 := (kz.cell 1).trans (show _ = some (Value.slice P xss.length c) from rfl)
                    have hPw := hid (hPy.out.grown g2)
                    have hAw := hid (hAy.out.grown g2)
                    clear kz g2
                    replace hgw := hid hgw
                    have x0 := ((gcell (grown_trans (grown_drew (grown_refl wy none)) hgw.out)).1 bA (oA + (K - 1) * 2) hbA.out).trans hc0.out.1
                    have y0 := ((gcell (grown_trans (grown_drew (grown_refl wy none)) hgw.out)).1 bA (oA + (K - 1) * 2 + 1) hbA.out).trans hc0.out.2
                    have x1 := ((gcell (grown_trans (grown_drew (grown_refl wy none)) hgw.out)).1 bA (oA + K * 2) hbA.out).trans hc1.out.1
                    have y1 := ((gcell (grown_trans (grown_drew (grown_refl wy none)) hgw.out)).1 bA (oA + K * 2 + 1) hbA.out).trans hc1.out.2
                    simp only [outThen, preThen, slotIs, factAt, isv, List.getElem?_cons_zero, List.getElem?_cons_succ, Option.getD_some, forall_eq]
                    intros
                    rename_i hK
                    replace hK := hid hK
                    simp only [wantedAt]
                    go_simp
                    exact hK.out _ _ rfl (grown_refl _ _)
                  case o6 =>
                    go_light
                    intro ac w' hgw _
                    have g2 := grown_trans (grown_drew (grown_refl wy none)) hgw
                    have kz := Y1.out.kept0 g2
                    have c0 := (kz.cell 0).trans (show _ = some (Value.bool f) from rfl)
                    have c1 := (kz.cell 1).trans (show _ = some (Value.slice P xss.length c) from rfl)
                    have hPw := hid (hPy.out.grown g2)
                    have hAw := hid (hAy.out.grown g2)
                    clear kz g2
                    replace hgw := hid hgw
                    have x0 := ((gcell (grown_trans (grown_drew (grown_refl wy none)) hgw.out)).1 bA (oA + (K - 1) * 2) hbA.out).trans hc0.out.1
                    have y0 := ((gcell (grown_trans (grown_drew (grown_refl wy none)) hgw.out)).1 bA (oA + (K - 1) * 2 + 1) hbA.out).trans hc0.out.2
                    have x1 := ((gcell (grown_trans (grown_drew (grown_refl wy none)) hgw.out)).1 bA (oA + K * 2) hbA.out).trans hc1.out.1
                    have y1 := ((gcell (grown_trans (grown_drew (grown_refl wy none)) hgw.out)).1 bA (oA + K * 2 + 1) hbA.out).trans hc1.out.2
                    simp only [outThen, preThen, slotIs, factAt, isv, List.getElem?_cons_zero, List.getElem?_cons_succ, Option.getD_some, forall_eq]
                    intros
                    rename_i hK
                    replace hK := hid hK
                    simp only [wantedAt]
                    go_simp
                    exact hK.out _ _ rfl (grown_refl _ _)
                  case o7 =>
                    go_light
                    intro ac w' hgw _
                    have g2 := grown_trans (grown_drew (grown_refl wy none)) hgw
                    have kz := Y1.out.kept0 g2
                    have c0 := (kz.cell 0).trans (show _ = some (Value.bool f) from rfl)
                    have c1 := (kz.cell 1).trans (show _ = some (Value.slice P xss.length c) from rfl)
                    have hPw := hid (hPy.out.grown g2)
                    have hAw := hid (hAy.out.grown g2)
                    clear kz g2
                    replace hgw := hid hgw
                    have x0 := ((gcell (grown_trans (grown_drew (grown_refl wy none)) hgw.out)).1 bA (oA + (K - 1) * 2) hbA.out).trans hc0.out.1
                    have y0 := ((gcell (grown_trans (grown_drew (grown_refl wy none)) hgw.out)).1 bA (oA + (K - 1) * 2 + 1) hbA.out).trans hc0.out.2
                    have x1 := ((gcell (grown_trans (grown_drew (grown_refl wy none)) hgw.out)).1 bA (oA + K * 2) hbA.out).trans hc1.out.1
                    have y1 := ((gcell (grown_trans (grown_drew (grown_refl wy none)) hgw.out)).1 bA (oA + K * 2 + 1) hbA.out).trans hc1.out.2
                    simp only [outThen, preThen, slotIs, factAt, isv, List.getElem?_cons_zero, List.getElem?_cons_succ, Option.getD_some, forall_eq]
                    intros
                    rename_i hK
                    replace hK := hid hK
                    simp only [wantedAt]
                    go_simp
                    exact hK.out _ _ rfl (grown_refl _ _)
                  case o8 =>
                    go_light
                    intro ac w' hgw _
                    have g2 := grown_trans (grown_drew (grown_refl wy none)) hgw
                    have kz := Y1.out.kept0 g2
                    have c0 := (kz.cell 0).trans (show _ = some (Value.bool f) from rfl)
                    have c1 := (kz.cell 1).trans (show _ = some (Value.slice P xss.length c) from rfl)
                    have hPw := hid (hPy.out.grown g2)
                    have hAw := hid (hAy.out.grown g2)
                    clear kz g2
                    replace hgw := hid hgw
                    have x0 := ((gcell (grown_trans (grown_drew (grown_refl wy none)) hgw.out)).1 bA (oA + (K - 1) * 2) hbA.out).trans hc0.out.1
                    have y0 := ((gcell (grown_trans (grown_drew (grown_refl wy none)) hgw.out)).1 bA (oA + (K - 1) * 2 + 1) hbA.out).trans hc0.out.2
                    have x1 := ((gcell (grown_trans (grown_drew (grown_refl wy none)) hgw.out)).1 bA (oA + K * 2) hbA.out).trans hc1.out.1
                    have y1 := ((gcell (grown_trans (grown_drew (grown_refl wy none)) hgw.out)).1 bA (oA + K * 2 + 1) hbA.out).trans hc1.out.2
                    simp only [outThen, preThen, slotIs, factAt, isv, List.getElem?_cons_zero, List.getElem?_cons_succ, Option.getD_some, forall_eq]
                    intros
                    rename_i hK
                    replace hK := hid hK
                    simp only [wantedAt]
                    go_simp
                    exact hK.out _ _ rfl (grown_refl _ _)
                  case o9 =>
                    go_light
                    intro ac w' hgw _
                    have g2 := grown_trans (grown_drew (grown_refl wy none)) hgw
                    have kz := Y1.out.kept0 g2
                    have c0 := (kz.cell 0).trans (show _ = some (Value.bool f) from rfl)
                    have c1 := (kz.cell 1).trans (show _ = some (Value.slice P xss.length c) from rfl)
                    have hPw := hid (hPy.out.grown g2)
                    have hAw := hid (hAy.out.grown g2)
                    clear kz g2
                    replace hgw := hid hgw
                    have x0 := ((gcell (grown_trans (grown_drew (grown_refl wy none)) hgw.out)).1 bA (oA + (K - 1) * 2) hbA.out).trans hc0.out.1
                    have y0 := ((gcell (grown_trans (grown_drew (grown_refl wy none)) hgw.out)).1 bA (oA + (K - 1) * 2 + 1) hbA.out).trans hc0.out.2
                    have x1 := ((gcell (grown_trans (grown_drew (grown_refl wy none)) hgw.out)).1 bA (oA + K * 2) hbA.out).trans hc1.out.1
                    have y1 := ((gcell (grown_trans (grown_drew (grown_refl wy none)) hgw.out)).1 bA (oA + K * 2 + 1) hbA.out).trans hc1.out.2
                    simp only [outThen, preThen, slotIs, factAt, isv, List.getElem?_cons_zero, List.getElem?_cons_succ, Option.getD_some, forall_eq]
                    intros
                    rename_i hK
                    replace hK := hid hK
                    simp only [wantedAt]
                    go_simp
                    exact hK.out _ _ rfl (grown_refl _ _)
                  case o10 =>
                    go_light
                    intro ac w' hgw _
                    have g2 := grown_trans (grown_drew (grown_refl wy none)) hgw
                    have kz := Y1.out.kept0 g2
                    have c0 := (kz.cell 0).trans (show _ = some (Value.bool f) from rfl)
                    have c1 := (kz.cell 1).trans (show _ = some (Value.slice P xss.length c) from rfl)
                    have hPw := hid (hPy.out.grown g2)
                    have hAw := hid (hAy.out.grown g2)
                    clear kz g2
                    replace hgw := hid hgw
                    have x0 := ((gcell (grown_trans (grown_drew (grown_refl wy none)) hgw.out)).1 bA (oA + (K - 1) * 2) hbA.out).trans hc0.out.1
                    have y0 := ((gcell (grown_trans (grown_drew (grown_refl wy none)) hgw.out)).1 bA (oA + (K - 1) * 2 + 1) hbA.out).trans hc0.out.2
                    have x1 := ((gcell (grown_trans (grown_drew (grown_refl wy none)) hgw.out)).1 bA (oA + K * 2) hbA.out).trans hc1.out.1
                    have y1 := ((gcell (grown_trans (grown_drew (grown_refl wy none)) hgw.out)).1 bA (oA + K * 2 + 1) hbA.out).trans hc1.out.2
                    simp only [outThen, preThen, slotIs, factAt, isv, List.getElem?_cons_zero, List.getElem?_cons_succ, Option.getD_some, forall_eq]
                    intros
                    rename_i hK
                    replace hK := hid hK
                    simp only [wantedAt]
                    go_simp
                    exact hK.out _ _ rfl (grown_refl _ _)
                  case o11 =>
                    go_light
                    intro ac w' hgw _
                    have g2 := grown_trans (grown_drew (grown_refl wy none)) hgw
                    have kz := Y1.out.kept0 g2
                    have c0 := (kz.cell 0).trans (show _ = some (Value.bool f) from rfl)
                    have c1 := (kz.cell 1).trans (show _ = some (Value.slice P xss.length c) from rfl)
                    have hPw := hid (hPy.out.grown g2)
                    have hAw := hid (hAy.out.grown g2)
                    clear kz g2
                    replace hgw := hid hgw
                    have x0 := ((gcell (grown_trans (grown_drew (grown_refl wy none)) hgw.out)).1 bA (oA + (K - 1) * 2) hbA.out).trans hc0.out.1
                    have y0 := ((gcell (grown_trans (grown_drew (grown_refl wy none)) hgw.out)).1 bA (oA + (K - 1) * 2 + 1) hbA.out).trans hc0.out.2
                    have x1 := ((gcell (grown_trans (grown_drew (grown_refl wy none)) hgw.out)).1 bA (oA + K * 2) hbA.out).trans hc1.out.1
                    have y1 := ((gcell (grown_trans (grown_drew (grown_refl wy none)) hgw.out)).1 bA (oA + K * 2 + 1) hbA.out).trans hc1.out.2
                    simp only [outThen, preThen, slotIs, factAt, isv, List.getElem?_cons_zero, List.getElem?_cons_succ, Option.getD_some, forall_eq]
                    intros
                    rename_i hK
                    replace hK := hid hK
                    simp only [wantedAt]
                    go_simp
                    exact hK.out _ _ rfl (grown_refl _ _)
                  case o12 =>
                    go_light
                    intro ac w' hgw _
                    have g2 := grown_trans (grown_drew (grown_refl wy none)) hgw
                    have kz := Y1.out.kept0 g2
                    have c0 := (kz.cell 0).trans (show _ = some (Value.bool f) from rfl)
                    have c1 := (kz.cell 1).trans (show _ = some (Value.slice P xss.length c) from rfl)
                    have hPw := hid (hPy.out.grown g2)
                    have hAw := hid (hAy.out.grown g2)
                    clear kz g2
                    replace hgw := hid hgw
                    have x0 := ((gcell (grown_trans (grown_drew (grown_refl wy none)) hgw.out)).1 bA (oA + (K - 1) * 2) hbA.out).trans hc0.out.1
                    have y0 := ((gcell (grown_trans (grown_drew (grown_refl wy none)) hgw.out)).1 bA (oA + (K - 1) * 2 + 1) hbA.out).trans hc0.out.2
                    have x1 := ((gcell (grown_trans (grown_drew (grown_refl wy none)) hgw.out)).1 bA (oA + K * 2) hbA.out).trans hc1.out.1
                    have y1 := ((gcell (grown_trans (grown_drew (grown_refl wy none)) hgw.out)).1 bA (oA + K * 2 + 1) hbA.out).trans hc1.out.2
                    simp only [outThen, preThen, slotIs, factAt, isv, List.getElem?_cons_zero, List.getElem?_cons_succ, Option.getD_some, forall_eq]
                    intros
                    rename_i hK
                    replace hK := hid hK
                    simp only [wantedAt]
                    go_simp
                    exact hK.out _ _ rfl (grown_refl _ _)
                  case o13 =>
                    go_light
                    intro ac w' hgw _
                    have g2 := grown_trans (grown_drew (grown_refl wy none)) hgw
                    have kz := Y1.out.kept0 g2
                    have c0 := (kz.cell 0).trans (show _ = some (Value.bool f) from rfl)
                    have c1 := (kz.cell 1).trans (show _ = some (Value.slice P xss.length c) from rfl)
                    have hPw := hid (hPy.out.grown g2)
                    have hAw := hid (hAy.out.grown g2)
                    clear kz g2
                    replace hgw := hid hgw
                    have x0 := ((gcell (grown_trans (grown_drew (grown_refl wy none)) hgw.out)).1 bA (oA + (K - 1) * 2) hbA.out).trans hc0.out.1
                    have y0 := ((gcell (grown_trans (grown_drew (grown_refl wy none)) hgw.out)).1 bA (oA + (K - 1) * 2 + 1) hbA.out).trans hc0.out.2
                    have x1 := ((gcell (grown_trans (grown_drew (grown_refl wy none)) hgw.out)).1 bA (oA + K * 2) hbA.out).trans hc1.out.1
                    have y1 := ((gcell (grown_trans (grown_drew (grown_refl wy none)) hgw.out)).1 bA (oA + K * 2 + 1) hbA.out).trans hc1.out.2
                    simp only [outThen, preThen, slotIs, factAt, isv, List.getElem?_cons_zero, List.getElem?_cons_succ, Option.getD_some, forall_eq]
                    intros
                    rename_i hK
                    replace hK := hid hK
                    simp only [wantedAt]
                    go_simp
                    exact hK.out _ _ rfl (grown_refl _ _)
                  case o14 =>
                    go_light
                    intro ac w' hgw _
                    have g2 := grown_trans (grown_drew (grown_refl wy none)) hgw
                    have kz := Y1.out.kept0 g2
                    have c0 := (kz.cell 0).trans (show _ = some (Value.bool f) from rfl)
                    have c1 := (kz.cell 1).trans (show _ = some (Value.slice P xss.length c) from rfl)
                    have hPw := hid (hPy.out.grown g2)
                    have hAw := hid (hAy.out.grown g2)
                    clear kz g2
                    replace hgw := hid hgw
                    have x0 := ((gcell (grown_trans (grown_drew (grown_refl wy none)) hgw.out)).1 bA (oA + (K - 1) * 2) hbA.out).trans hc0.out.1
                    have y0 := ((gcell (grown_trans (grown_drew (grown_refl wy none)) hgw.out)).1 bA (oA + (K - 1) * 2 + 1) hbA.out).trans hc0.out.2
                    have x1 := ((gcell (grown_trans (grown_drew (grown_refl wy none)) hgw.out)).1 bA (oA + K * 2) hbA.out).trans hc1.out.1
                    have y1 := ((gcell (grown_trans (grown_drew (grown_refl wy none)) hgw.out)).1 bA (oA + K * 2 + 1) hbA.out).trans hc1.out.2
                    simp only [outThen, preThen, slotIs, factAt, isv, List.getElem?_cons_zero, List.getElem?_cons_succ, Option.getD_some, forall_eq]
                    intros
                    rename_i hK
                    replace hK := hid hK
                    simp only [wantedAt]
                    go_simp
                    exact hK.out _ _ rfl (grown_refl _ _)
                case st =>
                  repeat (first | exact AllStable.nil | (refine AllStable.cons ?_ ?_; focus (first | exact stable_isv _ | exact stable_isBytes _ | exact stable_isRow1 _ | exact stable_isRowOf _ _ | exact stable_isArrOf _)))
                case fin =>
                  intro W2 hgw
                  simp only [finalIn, factAt, isv, List.getElem?_cons_zero, List.getElem?_cons_succ, Option.getD_some, forall_eq, slotIs, subj]
                  simp only [Act.put, List.setIfInBounds_toArray, List.set_cons_zero, List.set_cons_succ]
                  have g2 := hid (grown_trans (grown_drew (grown_refl wy none)) hgw)
                  clear hgw
                  go_wp2_with fail
                  go_meet
                  exact ⟨by rw [hRL.out]; rfl, g2.out⟩
              · skip
                apply LateDraw.wp_region_each 14 15 (.bool true) [isv (.bool true), isv (.bool true), isv (.agg #[.bool f, .slice P xss.length c]), isv (.slice (some ⟨bA, oA, none⟩) l.length d), isv (.int .i64 K), isv (.int .i64 ((K : Int) - 1)), isv (.pointer (some ⟨bA, oA + (K - 1) * 2, none⟩)), isv (.agg #[.int .i64 m1, .int .i64 m2]), isv (.slice (some ⟨bA, oA, none⟩) l.length d), isv (.int .i64 K), isv (.pointer (some ⟨bA, oA + K * 2, none⟩)), isv (.agg #[.int .i64 n1, .int .i64 n2]), isv (.bool LL), isv (.bool LL), isv (.bool LL)]
                  129 [some 95, some 96, some 97, some 98, some 99, some 100, some 101, some 102, some 103, some 104, some 105, some 106, some 107, some 108, some 15]
                  [some 95, some 96, some 97, some 98, some 99, some 100, some 101, some 102, some 103, some 104, some 105, some 106, some 107, some 108, some 15]
                  [[], [0], [1], [1], [1], [4, 1], [3, 5, 1], [6, 1], [1], [1], [8, 9, 1], [10, 1], [2, 7, 11, 1], [1, 12], [13]]
                  [(4, .slice (some ⟨bA, oA, none⟩) l.length d), (5, .int .i64 K), (6, .pointer (some ⟨h, 0, none⟩))] (by kernel_rfl) rfl (by kernel_rfl) rfl rfl (by kernel_rfl) (OutsOk.cons rfl rfl (OutsOk.cons rfl rfl (OutsOk.cons rfl rfl OutsOk.nil))) rfl rfl ?st ?ob ?fin
                case ob =>
                  refine LateDraw.Obs.consv rfl ?o0 (LateDraw.Obs.consv rfl ?o1 (LateDraw.Obs.consv rfl ?o2 (LateDraw.Obs.consv rfl ?o3 (LateDraw.Obs.consv rfl ?o4 (LateDraw.Obs.consv rfl ?o5 (LateDraw.Obs.consv rfl ?o6 (LateDraw.Obs.consv rfl ?o7 (LateDraw.Obs.consv rfl ?o8 (LateDraw.Obs.consv rfl ?o9 (LateDraw.Obs.consv rfl ?o10 (LateDraw.Obs.consv rfl ?o11 (LateDraw.Obs.consv rfl ?o12 (LateDraw.Obs.consv rfl ?o13 (LateDraw.Obs.consv rfl ?o14 LateDraw.Obs.nil))))))))))))))
                  case o0 =>
                    go_light
                    intro ac w' hgw hlate
                    have hrl := hlate (by kernel_rfl)
                    have g2 := grown_trans (grown_drew (grown_refl wy none)) hgw
                    have kz := Y1.out.kept0 g2
                    have c0 := (kz.cell 0).trans (show _ = some (Value.bool f) from rfl)
                    have c1 := (kz.cell 1).trans (show _ = some (Value.slice P xss.length c) from rfl)
                    have hPw := hid (hPy.out.grown g2)
                    have hAw := hid (hAy.out.grown g2)
                    clear kz g2
                    replace hgw := hid hgw
                    have x0 := ((gcell (grown_trans (grown_drew (grown_refl wy none)) hgw.out)).1 bA (oA + (K - 1) * 2) hbA.out).trans hc0.out.1
                    have y0 := ((gcell (grown_trans (grown_drew (grown_refl wy none)) hgw.out)).1 bA (oA + (K - 1) * 2 + 1) hbA.out).trans hc0.out.2
                    have x1 := ((gcell (grown_trans (grown_drew (grown_refl wy none)) hgw.out)).1 bA (oA + K * 2) hbA.out).trans hc1.out.1
                    have y1 := ((gcell (grown_trans (grown_drew (grown_refl wy none)) hgw.out)).1 bA (oA + K * 2 + 1) hbA.out).trans hc1.out.2
                    simp only [outThen, preThen, slotIs, factAt, isv, List.getElem?_cons_zero, List.getElem?_cons_succ, Option.getD_some, forall_eq]
                    intros
                    rename_i hK
                    replace hK := hid hK
                    simp only [wantedAt]
                    go_simp
                    exact hK.out _ _ rfl (grown_refl _ _)
                  case o1 =>
                    go_light
                    intro ac w' hgw _
                    have g2 := grown_trans (grown_drew (grown_refl wy none)) hgw
                    have kz := Y1.out.kept0 g2
                    have c0 := (kz.cell 0).trans (show _ = some (Value.bool f) from rfl)
                    have c1 := (kz.cell 1).trans (show _ = some (Value.slice P xss.length c) from rfl)
                    have hPw := hid (hPy.out.grown g2)
                    have hAw := hid (hAy.out.grown g2)
                    clear kz g2
                    replace hgw := hid hgw
                    have x0 := ((gcell (grown_trans (grown_drew (grown_refl wy none)) hgw.out)).1 bA (oA + (K - 1) * 2) hbA.out).trans hc0.out.1
                    have y0 := ((gcell (grown_trans (grown_drew (grown_refl wy none)) hgw.out)).1 bA (oA + (K - 1) * 2 + 1) hbA.out).trans hc0.out.2
                    have x1 := ((gcell (grown_trans (grown_drew (grown_refl wy none)) hgw.out)).1 bA (oA + K * 2) hbA.out).trans hc1.out.1
                    have y1 := ((gcell (grown_trans (grown_drew (grown_refl wy none)) hgw.out)).1 bA (oA + K * 2 + 1) hbA.out).trans hc1.out.2
                    simp only [outThen, preThen, slotIs, factAt, isv, List.getElem?_cons_zero, List.getElem?_cons_succ, Option.getD_some, forall_eq]
                    intros
                    rename_i hK
                    replace hK := hid hK
                    simp only [wantedAt]
                    go_simp
                    exact hK.out _ _ rfl (grown_refl _ _)
                  case o2 =>
                    go_light
                    intro ac w' hgw _
                    have g2 := grown_trans (grown_drew (grown_refl wy none)) hgw
                    have kz := Y1.out.kept0 g2
                    have c0 := (kz.cell 0).trans (show _ = some (Value.bool f) from rfl)
                    have c1 := (kz.cell 1).trans (show _ = some (Value.slice P xss.length c) from rfl)
                    have hPw := hid (hPy.out.grown g2)
                    have hAw := hid (hAy.out.grown g2)
                    clear kz g2
                    replace hgw := hid hgw
                    have x0 := ((gcell (grown_trans (grown_drew (grown_refl wy none)) hgw.out)).1 bA (oA + (K - 1) * 2) hbA.out).trans hc0.out.1
                    have y0 := ((gcell (grown_trans (grown_drew (grown_refl wy none)) hgw.out)).1 bA (oA + (K - 1) * 2 + 1) hbA.out).trans hc0.out.2
                    have x1 := ((gcell (grown_trans (grown_drew (grown_refl wy none)) hgw.out)).1 bA (oA + K * 2) hbA.out).trans hc1.out.1
                    have y1 := ((gcell (grown_trans (grown_drew (grown_refl wy none)) hgw.out)).1 bA (oA + K * 2 + 1) hbA.out).trans hc1.out.2
                    simp only [outThen, preThen, slotIs, factAt, isv, List.getElem?_cons_zero, List.getElem?_cons_succ, Option.getD_some, forall_eq]
                    intros
                    rename_i hK
                    replace hK := hid hK
                    simp only [wantedAt]
                    go_simp
                    exact hK.out _ _ rfl (grown_refl _ _)
                  case o3 =>
                    go_light
                    intro ac w' hgw _
                    have g2 := grown_trans (grown_drew (grown_refl wy none)) hgw
                    have kz := Y1.out.kept0 g2
                    have c0 := (kz.cell 0).trans (show _ = some (Value.bool f) from rfl)
                    have c1 := (kz.cell 1).trans (show _ = some (Value.slice P xss.length c) from rfl)
                    have hPw := hid (hPy.out.grown g2)
                    have hAw := hid (hAy.out.grown g2)
                    clear kz g2
                    replace hgw := hid hgw
                    have x0 := ((gcell (grown_trans (grown_drew (grown_refl wy none)) hgw.out)).1 bA (oA + (K - 1) * 2) hbA.out).trans hc0.out.1
                    have y0 := ((gcell (grown_trans (grown_drew (grown_refl wy none)) hgw.out)).1 bA (oA + (K - 1) * 2 + 1) hbA.out).trans hc0.out.2
                    have x1 := ((gcell (grown_trans (grown_drew (grown_refl wy none)) hgw.out)).1 bA (oA + K * 2) hbA.out).trans hc1.out.1
                    have y1 := ((gcell (grown_trans (grown_drew (grown_refl wy none)) hgw.out)).1 bA (oA + K * 2 + 1) hbA.out).trans hc1.out.2
                    simp only [outThen, preThen, slotIs, factAt, isv, List.getElem?_cons_zero, List.getElem?_cons_succ, Option.getD_some, forall_eq]
                    intros
                    rename_i hK
                    replace hK := hid hK
                    simp only [wantedAt]
                    go_simp
                    exact hK.out _ _ rfl (grown_refl _ _)
                  case o4 =>
                    go_light
                    intro ac w' hgw _
                    have g2 := grown_trans (grown_drew (grown_refl wy none)) hgw
                    have kz := Y1.out.kept0 g2
                    have c0 := (kz.cell 0).trans (show _ = some (Value.bool f) from rfl)
                    have c1 := (kz.cell 1).trans (show _ = some (Value.slice P xss.length c) from rfl)
                    have hPw := hid (hPy.out.grown g2)
                    have hAw := hid (hAy.out.grown g2)
                    clear kz g2
                    replace hgw := hid hgw
                    have x0 := ((gcell (grown_trans (grown_drew (grown_refl wy none)) hgw.out)).1 bA (oA + (K - 1) * 2) hbA.out).trans hc0.out.1
                    have y0 := ((gcell (grown_trans (grown_drew (grown_refl wy none)) hgw.out)).1 bA (oA + (K - 1) * 2 + 1) hbA.out).trans hc0.out.2
                    have x1 := ((gcell (grown_trans (grown_drew (grown_refl wy none)) hgw.out)).1 bA (oA + K * 2) hbA.out).trans hc1.out.1
                    have y1 := ((gcell (grown_trans (grown_drew (grown_refl wy none)) hgw.out)).1 bA (oA + K * 2 + 1) hbA.out).trans hc1.out.2
                    simp only [outThen, preThen, slotIs, factAt, isv, List.getElem?_cons_zero, List.getElem?_cons_succ, Option.getD_some, forall_eq]
                    intros
                    rename_i hK
                    replace hK := hid hK
                    simp only [wantedAt]
                    go_simp
                    exact hK.out _ _ rfl (grown_refl _ _)
                  case o5 =>
                    go_light
                    intro ac w' hgw _
                    have g2 := grown_trans (grown_drew (grown_refl wy none)) hgw
                    have kz := Y1.out.kept0 g2
                    have c0 := (kz.cell 0).trans (show _ = some (Value.bool f) from rfl)
                    have c1 := (kz.cell 1).trans (show _ = some (Value.slice P xss.length c) from rfl)
                    have hPw := hid (hPy.out.grown g2)
                    have hAw := hid (hAy.out.grown g2)
                    clear kz g2
                    replace hgw := hid hgw
                    have x0 := ((gcell (grown_trans (grown_drew (grown_refl wy none)) hgw.out)).1 bA (oA + (K - 1) * 2) hbA.out).trans hc0.out.1
                    have y0 := ((gcell (grown_trans (grown_drew (grown_refl wy none)) hgw.out)).1 bA (oA + (K - 1) * 2 + 1) hbA.out).trans hc0.out.2
                    have x1 := ((gcell (grown_trans (grown_drew (grown_refl wy none)) hgw.out)).1 bA (oA + K * 2) hbA.out).trans hc1.out.1
                    have y1 := ((gcell (grown_trans (grown_drew (grown_refl wy none)) hgw.out)).1 bA (oA + K * 2 + 1) hbA.out).trans hc1.out.2
                    simp only [outThen, preThen, slotIs, factAt, isv, List.getElem?_cons_zero, List.getElem?_cons_succ, Option.getD_some, forall_eq]
                    intros
                    rename_i hK9
                    replace hK9 := hid hK9
                    simp only [wantedAt]
                    have q1 := hKq.out.1
                    have q2 := hKq.out.2.1
                    have q3 := hKq.out.2.2
                    have q4 : ((K : Int) - 1).toNat = K - 1 := by omega
                    go_simp
                    exact hK9.out _ _ (by exact congrArg (Value.int .i64) (IntWalk.i64_in _ ⟨by omega, by omega⟩)) (grown_refl _ _)
                  case o6 =>
                    go_light
                    intro ac w' hgw _
                    have g2 := grown_trans (grown_drew (grown_refl wy none)) hgw
                    have kz := Y1.out.kept0 g2
                    have c0 := (kz.cell 0).trans (show _ = some (Value.bool f) from rfl)
                    have c1 := (kz.cell 1).trans (show _ = some (Value.slice P xss.length c) from rfl)
                    have hPw := hid (hPy.out.grown g2)
                    have hAw := hid (hAy.out.grown g2)
                    clear kz g2
                    replace hgw := hid hgw
                    have x0 := ((gcell (grown_trans (grown_drew (grown_refl wy none)) hgw.out)).1 bA (oA + (K - 1) * 2) hbA.out).trans hc0.out.1
                    have y0 := ((gcell (grown_trans (grown_drew (grown_refl wy none)) hgw.out)).1 bA (oA + (K - 1) * 2 + 1) hbA.out).trans hc0.out.2
                    have x1 := ((gcell (grown_trans (grown_drew (grown_refl wy none)) hgw.out)).1 bA (oA + K * 2) hbA.out).trans hc1.out.1
                    have y1 := ((gcell (grown_trans (grown_drew (grown_refl wy none)) hgw.out)).1 bA (oA + K * 2 + 1) hbA.out).trans hc1.out.2
                    simp only [outThen, preThen, slotIs, factAt, isv, List.getElem?_cons_zero, List.getElem?_cons_succ, Option.getD_some, forall_eq]
                    intros
                    rename_i hK9
                    replace hK9 := hid hK9
                    simp only [wantedAt]
                    have q1 := hKq.out.1
                    have q2 := hKq.out.2.1
                    have q3 := hKq.out.2.2
                    have q4 : ((K : Int) - 1).toNat = K - 1 := by omega
                    go_simp
                    exact hK9.out _ _ (by go_num) (grown_refl _ _)
                  case o7 =>
                    go_light
                    intro ac w' hgw _
                    have g2 := grown_trans (grown_drew (grown_refl wy none)) hgw
                    have kz := Y1.out.kept0 g2
                    have c0 := (kz.cell 0).trans (show _ = some (Value.bool f) from rfl)
                    have c1 := (kz.cell 1).trans (show _ = some (Value.slice P xss.length c) from rfl)
                    have hPw := hid (hPy.out.grown g2)
                    have hAw := hid (hAy.out.grown g2)
                    clear kz g2
                    replace hgw := hid hgw
                    have x0 := ((gcell (grown_trans (grown_drew (grown_refl wy none)) hgw.out)).1 bA (oA + (K - 1) * 2) hbA.out).trans hc0.out.1
                    have y0 := ((gcell (grown_trans (grown_drew (grown_refl wy none)) hgw.out)).1 bA (oA + (K - 1) * 2 + 1) hbA.out).trans hc0.out.2
                    have x1 := ((gcell (grown_trans (grown_drew (grown_refl wy none)) hgw.out)).1 bA (oA + K * 2) hbA.out).trans hc1.out.1
                    have y1 := ((gcell (grown_trans (grown_drew (grown_refl wy none)) hgw.out)).1 bA (oA + K * 2 + 1) hbA.out).trans hc1.out.2
                    simp only [outThen, preThen, slotIs, factAt, isv, List.getElem?_cons_zero, List.getElem?_cons_succ, Option.getD_some, forall_eq]
                    intros
                    rename_i hK
                    replace hK := hid hK
                    simp only [wantedAt]
                    go_simp
                    exact hK.out _ _ rfl (grown_refl _ _)
                  case o8 =>
                    go_light
                    intro ac w' hgw _
                    have g2 := grown_trans (grown_drew (grown_refl wy none)) hgw
                    have kz := Y1.out.kept0 g2
                    have c0 := (kz.cell 0).trans (show _ = some (Value.bool f) from rfl)
                    have c1 := (kz.cell 1).trans (show _ = some (Value.slice P xss.length c) from rfl)
                    have hPw := hid (hPy.out.grown g2)
                    have hAw := hid (hAy.out.grown g2)
                    clear kz g2
                    replace hgw := hid hgw
                    have x0 := ((gcell (grown_trans (grown_drew (grown_refl wy none)) hgw.out)).1 bA (oA + (K - 1) * 2) hbA.out).trans hc0.out.1
                    have y0 := ((gcell (grown_trans (grown_drew (grown_refl wy none)) hgw.out)).1 bA (oA + (K - 1) * 2 + 1) hbA.out).trans hc0.out.2
                    have x1 := ((gcell (grown_trans (grown_drew (grown_refl wy none)) hgw.out)).1 bA (oA + K * 2) hbA.out).trans hc1.out.1
                    have y1 := ((gcell (grown_trans (grown_drew (grown_refl wy none)) hgw.out)).1 bA (oA + K * 2 + 1) hbA.out).trans hc1.out.2
                    simp only [outThen, preThen, slotIs, factAt, isv, List.getElem?_cons_zero, List.getElem?_cons_succ, Option.getD_some, forall_eq]
                    intros
                    rename_i hK
                    replace hK := hid hK
                    simp only [wantedAt]
                    go_simp
                    exact hK.out _ _ rfl (grown_refl _ _)
                  case o9 =>
                    go_light
                    intro ac w' hgw _
                    have g2 := grown_trans (grown_drew (grown_refl wy none)) hgw
                    have kz := Y1.out.kept0 g2
                    have c0 := (kz.cell 0).trans (show _ = some (Value.bool f) from rfl)
                    have c1 := (kz.cell 1).trans (show _ = some (Value.slice P xss.length c) from rfl)
                    have hPw := hid (hPy.out.grown g2)
                    have hAw := hid (hAy.out.grown g2)
                    clear kz g2
                    replace hgw := hid hgw
                    have x0 := ((gcell (grown_trans (grown_drew (grown_refl wy none)) hgw.out)).1 bA (oA + (K - 1) * 2) hbA.out).trans hc0.out.1
                    have y0 := ((gcell (grown_trans (grown_drew (grown_refl wy none)) hgw.out)).1 bA (oA + (K - 1) * 2 + 1) hbA.out).trans hc0.out.2
                    have x1 := ((gcell (grown_trans (grown_drew (grown_refl wy none)) hgw.out)).1 bA (oA + K * 2) hbA.out).trans hc1.out.1
                    have y1 := ((gcell (grown_trans (grown_drew (grown_refl wy none)) hgw.out)).1 bA (oA + K * 2 + 1) hbA.out).trans hc1.out.2
                    simp only [outThen, preThen, slotIs, factAt, isv, List.getElem?_cons_zero, List.getElem?_cons_succ, Option.getD_some, forall_eq]
                    intros
                    rename_i hK
                    replace hK := hid hK
                    simp only [wantedAt]
                    go_simp
                    exact hK.out _ _ rfl (grown_refl _ _)
                  case o10 =>
                    go_light
                    intro ac w' hgw _
                    have g2 := grown_trans (grown_drew (grown_refl wy none)) hgw
                    have kz := Y1.out.kept0 g2
                    have c0 := (kz.cell 0).trans (show _ = some (Value.bool f) from rfl)
                    have c1 := (kz.cell 1).trans (show _ = some (Value.slice P xss.length c) from rfl)
                    have hPw := hid (hPy.out.grown g2)
                    have hAw := hid (hAy.out.grown g2)
                    clear kz g2
                    replace hgw := hid hgw
                    have x0 := ((gcell (grown_trans (grown_drew (grown_refl wy none)) hgw.out)).1 bA (oA + (K - 1) * 2) hbA.out).trans hc0.out.1
                    have y0 := ((gcell (grown_trans (grown_drew (grown_refl wy none)) hgw.out)).1 bA (oA + (K - 1) * 2 + 1) hbA.out).trans hc0.out.2
                    have x1 := ((gcell (grown_trans (grown_drew (grown_refl wy none)) hgw.out)).1 bA (oA + K * 2) hbA.out).trans hc1.out.1
                    have y1 := ((gcell (grown_trans (grown_drew (grown_refl wy none)) hgw.out)).1 bA (oA + K * 2 + 1) hbA.out).trans hc1.out.2
                    simp only [outThen, preThen, slotIs, factAt, isv, List.getElem?_cons_zero, List.getElem?_cons_succ, Option.getD_some, forall_eq]
                    intros
                    rename_i hK9
                    replace hK9 := hid hK9
                    simp only [wantedAt]
                    have q1 := hKq.out.1
                    have q2 := hKq.out.2.1
                    have q3 := hKq.out.2.2
                    have q4 : ((K : Int) - 1).toNat = K - 1 := by omega
                    go_simp
                    exact hK9.out _ _ (by go_num) (grown_refl _ _)
                  case o11 =>
                    go_light
                    intro ac w' hgw _
                    have g2 := grown_trans (grown_drew (grown_refl wy none)) hgw
                    have kz := Y1.out.kept0 g2
                    have c0 := (kz.cell 0).trans (show _ = some (Value.bool f) from rfl)
                    have c1 := (kz.cell 1).trans (show _ = some (Value.slice P xss.length c) from rfl)
                    have hPw := hid (hPy.out.grown g2)
                    have hAw := hid (hAy.out.grown g2)
                    clear kz g2
                    replace hgw := hid hgw
                    have x0 := ((gcell (grown_trans (grown_drew (grown_refl wy none)) hgw.out)).1 bA (oA + (K - 1) * 2) hbA.out).trans hc0.out.1
                    have y0 := ((gcell (grown_trans (grown_drew (grown_refl wy none)) hgw.out)).1 bA (oA + (K - 1) * 2 + 1) hbA.out).trans hc0.out.2
                    have x1 := ((gcell (grown_trans (grown_drew (grown_refl wy none)) hgw.out)).1 bA (oA + K * 2) hbA.out).trans hc1.out.1
                    have y1 := ((gcell (grown_trans (grown_drew (grown_refl wy none)) hgw.out)).1 bA (oA + K * 2 + 1) hbA.out).trans hc1.out.2
                    simp only [outThen, preThen, slotIs, factAt, isv, List.getElem?_cons_zero, List.getElem?_cons_succ, Option.getD_some, forall_eq]
                    intros
                    rename_i hK
                    replace hK := hid hK
                    simp only [wantedAt]
                    go_simp
                    exact hK.out _ _ rfl (grown_refl _ _)
                  case o12 =>
                    go_light
                    intro ac w' hgw _
                    have g2 := grown_trans (grown_drew (grown_refl wy none)) hgw
                    have kz := Y1.out.kept0 g2
                    have c0 := (kz.cell 0).trans (show _ = some (Value.bool f) from rfl)
                    have c1 := (kz.cell 1).trans (show _ = some (Value.slice P xss.length c) from rfl)
                    have hPw := hid (hPy.out.grown g2)
                    have hAw := hid (hAy.out.grown g2)
                    clear kz g2
                    replace hgw := hid hgw
                    have x0 := ((gcell (grown_trans (grown_drew (grown_refl wy none)) hgw.out)).1 bA (oA + (K - 1) * 2) hbA.out).trans hc0.out.1
                    have y0 := ((gcell (grown_trans (grown_drew (grown_refl wy none)) hgw.out)).1 bA (oA + (K - 1) * 2 + 1) hbA.out).trans hc0.out.2
                    have x1 := ((gcell (grown_trans (grown_drew (grown_refl wy none)) hgw.out)).1 bA (oA + K * 2) hbA.out).trans hc1.out.1
                    have y1 := ((gcell (grown_trans (grown_drew (grown_refl wy none)) hgw.out)).1 bA (oA + K * 2 + 1) hbA.out).trans hc1.out.2
                    simp only [outThen, preThen, slotIs, factAt, isv, List.getElem?_cons_zero, List.getElem?_cons_succ, Option.getD_some, forall_eq]
                    intros
                    rename_i hK9
                    replace hK9 := hid hK9
                    simp only [wantedAt]
                    go_simp
                    refine (occLess_is f P c xss (m1, m2) (n1, n2) w' hPw.out).mono ?_
                    rintro e w3 ⟨rfl, hg⟩
                    rw [hLL.out]
                    exact hK9.out _ _ rfl hg
                  case o13 =>
                    go_light
                    intro ac w' hgw _
                    have g2 := grown_trans (grown_drew (grown_refl wy none)) hgw
                    have kz := Y1.out.kept0 g2
                    have c0 := (kz.cell 0).trans (show _ = some (Value.bool f) from rfl)
                    have c1 := (kz.cell 1).trans (show _ = some (Value.slice P xss.length c) from rfl)
                    have hPw := hid (hPy.out.grown g2)
                    have hAw := hid (hAy.out.grown g2)
                    clear kz g2
                    replace hgw := hid hgw
                    have x0 := ((gcell (grown_trans (grown_drew (grown_refl wy none)) hgw.out)).1 bA (oA + (K - 1) * 2) hbA.out).trans hc0.out.1
                    have y0 := ((gcell (grown_trans (grown_drew (grown_refl wy none)) hgw.out)).1 bA (oA + (K - 1) * 2 + 1) hbA.out).trans hc0.out.2
                    have x1 := ((gcell (grown_trans (grown_drew (grown_refl wy none)) hgw.out)).1 bA (oA + K * 2) hbA.out).trans hc1.out.1
                    have y1 := ((gcell (grown_trans (grown_drew (grown_refl wy none)) hgw.out)).1 bA (oA + K * 2 + 1) hbA.out).trans hc1.out.2
                    simp only [outThen, preThen, slotIs, factAt, isv, List.getElem?_cons_zero, List.getElem?_cons_succ, Option.getD_some, forall_eq]
                    intros
                    rename_i hK
                    replace hK := hid hK
                    simp only [wantedAt]
                    go_simp
                    exact hK.out _ _ rfl (grown_refl _ _)
                  case o14 =>
                    go_light
                    intro ac w' hgw _
                    have g2 := grown_trans (grown_drew (grown_refl wy none)) hgw
                    have kz := Y1.out.kept0 g2
                    have c0 := (kz.cell 0).trans (show _ = some (Value.bool f) from rfl)
                    have c1 := (kz.cell 1).trans (show _ = some (Value.slice P xss.length c) from rfl)
                    have hPw := hid (hPy.out.grown g2)
                    have hAw := hid (hAy.out.grown g2)
                    clear kz g2
                    replace hgw := hid hgw
                    have x0 := ((gcell (grown_trans (grown_drew (grown_refl wy none)) hgw.out)).1 bA (oA + (K - 1) * 2) hbA.out).trans hc0.out.1
                    have y0 := ((gcell (grown_trans (grown_drew (grown_refl wy none)) hgw.out)).1 bA (oA + (K - 1) * 2 + 1) hbA.out).trans hc0.out.2
                    have x1 := ((gcell (grown_trans (grown_drew (grown_refl wy none)) hgw.out)).1 bA (oA + K * 2) hbA.out).trans hc1.out.1
                    have y1 := ((gcell (grown_trans (grown_drew (grown_refl wy none)) hgw.out)).1 bA (oA + K * 2 + 1) hbA.out).trans hc1.out.2
                    simp only [outThen, preThen, slotIs, factAt, isv, List.getElem?_cons_zero, List.getElem?_cons_succ, Option.getD_some, forall_eq]
                    intros
                    rename_i hK
                    replace hK := hid hK
                    simp only [wantedAt]
                    go_simp
                    exact hK.out _ _ rfl (grown_refl _ _)
                case st =>
                  repeat (first | exact AllStable.nil | (refine AllStable.cons ?_ ?_; focus (first | exact stable_isv _ | exact stable_isBytes _ | exact stable_isRow1 _ | exact stable_isRowOf _ _ | exact stable_isArrOf _)))
                case fin =>
                  intro W2 hgw
                  simp only [finalIn, factAt, isv, List.getElem?_cons_zero, List.getElem?_cons_succ, Option.getD_some, forall_eq, slotIs, subj]
                  simp only [Act.put, List.setIfInBounds_toArray, List.set_cons_zero, List.set_cons_succ]
                  have g2 := hid (grown_trans (grown_drew (grown_refl wy none)) hgw)
                  clear hgw
                  go_wp2_with fail
                  go_meet
                  exact ⟨by rw [hRL.out]; rfl, g2.out⟩
            · have hRRe : RR = (R1 && R2) := by
                have e := hparts.out
                rcases Nat.eq_zero_or_pos K with h0 | h0
                · subst h0
                  simpa using e
                · have h1 : l.length ≤ K := by omega
                  rw [List.drop_eq_nil_of_le h1] at e
                  simpa using e
              simp only [decide_eq_false hB]
              go_wp2_with fail
              go_meet
              exact ⟨by rw [hRRe], grown_refl _ _⟩
          case rest =>
            obtain ⟨rfl, hgc⟩ := hcut
            obtain ⟨wx, rfl⟩ : ∃ x : World, x = wc := ⟨_, rfl⟩
            have gx := hgc
            have hGx := hid (grown_trans hGy.out gx)
            have X1 := hid (Y1.out.kept0 gx)
            have hPx := hid (hPy.out.grown gx)
            have hAx := hid (hAy.out.grown gx)
            clear gx hgc hGy Y1 hPy hAy
            go_upto_region 10 with fail
            apply wp_region_each [isv (.agg #[.bool f, .slice P xss.length c]), isv (.slice A l.length d), isv (.bool RR), isv (.bool RR), isv (.bool true), isv (.bool true), isv (.slice A l.length d), isv (.int .i64 K), isv (.slice A K d), isv (.slice A l.length d), isv (.int .i64 K), isv (.slice A2 (l.length - K) (d - K)), isHitRows [l.take K, l.drop K], isHits l, isv (.slice A l.length d), isv (.bool true), isv (.bool true), isv (.bool true), isv (.bool true), isv (.bool true), isv (.bool true)]
              129 [some 109, some 110, some 111, some 112, some 113, some 114, some 115, some 116, some 117, some 118, some 119, some 120, some 121, some 122, some 123, some 124, some 125, some 126, some 127, some 128, some 12]
              [some 109, some 110, some 111, some 112, some 113, some 114, some 115, some 116, some 117, some 118, some 119, some 120, some 121, some 122, some 123, some 124, some 125, some 126, some 127, some 128, some 12]
              [[], [], [0, 1], [], [2, 3], [4], [5], [5], [6, 7, 5], [5], [5], [9, 10, 5], [8, 11, 5], [12, 5], [5], [13, 14, 5], [5, 15], [16], [17], [17, 18], [19]]
              [(4, .slice A l.length d), (5, .int .i64 K), (6, .pointer (some ⟨h, 0, none⟩)), (15, .bool RR)] (by kernel_rfl) rfl (by kernel_rfl) rfl rfl (by kernel_rfl) (OutsOk.cons rfl rfl (OutsOk.cons rfl rfl (OutsOk.cons rfl rfl (OutsOk.cons rfl rfl OutsOk.nil)))) ?st ?ob ?fin
            case ob =>
              refine Obs.consv rfl ?o0 (Obs.consv rfl ?o1 (Obs.consv rfl ?o2 (Obs.consv rfl ?o3 (Obs.consv rfl ?o4 (Obs.consv rfl ?o5 (Obs.consv rfl ?o6 (Obs.consv rfl ?o7 (Obs.consv rfl ?o8 (Obs.consv rfl ?o9 (Obs.consv rfl ?o10 (Obs.consv rfl ?o11 (Obs.consv rfl ?o12 (Obs.consv rfl ?o13 (Obs.consv rfl ?o14 (Obs.consv rfl ?o15 (Obs.consv rfl ?o16 (Obs.consv rfl ?o17 (Obs.consv rfl ?o18 (Obs.consv rfl ?o19 (Obs.consv rfl ?o20 Obs.nil))))))))))))))))))))
              case o0 =>
                go_light
                intro ac w' hgw
                have g2 := grown_trans (grown_drew (grown_refl wx none)) hgw
                have kz := X1.out.kept0 g2
                have c0 := (kz.cell 0).trans (show _ = some (Value.bool f) from rfl)
                have c1 := (kz.cell 1).trans (show _ = some (Value.slice P xss.length c) from rfl)
                have hPw := hid (hPx.out.grown g2)
                have hAw := hid (hAx.out.grown g2)
                clear kz g2
                replace hgw := hid hgw
                simp only [outThen, preThen, slotIs, factAt, isv, List.getElem?_cons_zero, List.getElem?_cons_succ, Option.getD_some, forall_eq]
                intros
                rename_i hK
                replace hK := hid hK
                simp only [wantedAt]
                go_simp
                exact hK.out _ _ rfl (grown_refl _ _)
              case o1 =>
                go_light
                intro ac w' hgw
                have g2 := grown_trans (grown_drew (grown_refl wx none)) hgw
                have kz := X1.out.kept0 g2
                have c0 := (kz.cell 0).trans (show _ = some (Value.bool f) from rfl)
                have c1 := (kz.cell 1).trans (show _ = some (Value.slice P xss.length c) from rfl)
                have hPw := hid (hPx.out.grown g2)
                have hAw := hid (hAx.out.grown g2)
                clear kz g2
                replace hgw := hid hgw
                simp only [outThen, preThen, slotIs, factAt, isv, List.getElem?_cons_zero, List.getElem?_cons_succ, Option.getD_some, forall_eq]
                intros
                rename_i hK
                replace hK := hid hK
                simp only [wantedAt]
                go_simp
                exact hK.out _ _ rfl (grown_refl _ _)
              case o2 =>
                go_light
                intro ac w' hgw
                have g2 := grown_trans (grown_drew (grown_refl wx none)) hgw
                have kz := X1.out.kept0 g2
                have c0 := (kz.cell 0).trans (show _ = some (Value.bool f) from rfl)
                have c1 := (kz.cell 1).trans (show _ = some (Value.slice P xss.length c) from rfl)
                have hPw := hid (hPx.out.grown g2)
                have hAw := hid (hAx.out.grown g2)
                clear kz g2
                replace hgw := hid hgw
                simp only [outThen, preThen, slotIs, factAt, isv, List.getElem?_cons_zero, List.getElem?_cons_succ, Option.getD_some, forall_eq]
                intros
                rename_i hK9
                replace hK9 := hid hK9
                simp only [wantedAt]
                go_simp
                have hq := occRise_is f P A c d xss l w' (by omega) hPw.out hAw.out
                refine hq.mono ?_
                rintro e w3 ⟨rfl, hg⟩
                rw [hRR.out]
                exact hK9.out _ _ rfl hg
              case o3 =>
                go_light
                intro ac w' hgw
                have g2 := grown_trans (grown_drew (grown_refl wx none)) hgw
                have kz := X1.out.kept0 g2
                have c0 := (kz.cell 0).trans (show _ = some (Value.bool f) from rfl)
                have c1 := (kz.cell 1).trans (show _ = some (Value.slice P xss.length c) from rfl)
                have hPw := hid (hPx.out.grown g2)
                have hAw := hid (hAx.out.grown g2)
                clear kz g2
                replace hgw := hid hgw
                simp only [outThen, preThen, slotIs, factAt, isv, List.getElem?_cons_zero, List.getElem?_cons_succ, Option.getD_some, forall_eq]
                intros
                rename_i hK
                replace hK := hid hK
                simp only [wantedAt]
                go_simp
                exact hK.out _ _ rfl (grown_refl _ _)
              case o4 =>
                go_light
                intro ac w' hgw
                have g2 := grown_trans (grown_drew (grown_refl wx none)) hgw
                have kz := X1.out.kept0 g2
                have c0 := (kz.cell 0).trans (show _ = some (Value.bool f) from rfl)
                have c1 := (kz.cell 1).trans (show _ = some (Value.slice P xss.length c) from rfl)
                have hPw := hid (hPx.out.grown g2)
                have hAw := hid (hAx.out.grown g2)
                clear kz g2
                replace hgw := hid hgw
                simp only [outThen, preThen, slotIs, factAt, isv, List.getElem?_cons_zero, List.getElem?_cons_succ, Option.getD_some, forall_eq]
                intros
                rename_i hK
                replace hK := hid hK
                simp only [wantedAt]
                go_simp
                exact hK.out _ _ rfl (grown_refl _ _)
              case o5 =>
                go_light
                intro ac w' hgw
                have g2 := grown_trans (grown_drew (grown_refl wx none)) hgw
                have kz := X1.out.kept0 g2
                have c0 := (kz.cell 0).trans (show _ = some (Value.bool f) from rfl)
                have c1 := (kz.cell 1).trans (show _ = some (Value.slice P xss.length c) from rfl)
                have hPw := hid (hPx.out.grown g2)
                have hAw := hid (hAx.out.grown g2)
                clear kz g2
                replace hgw := hid hgw
                simp only [outThen, preThen, slotIs, factAt, isv, List.getElem?_cons_zero, List.getElem?_cons_succ, Option.getD_some, forall_eq]
                intros
                rename_i hK
                replace hK := hid hK
                simp only [wantedAt]
                go_simp
                exact hK.out _ _ rfl (grown_refl _ _)
              case o6 =>
                go_light
                intro ac w' hgw
                have g2 := grown_trans (grown_drew (grown_refl wx none)) hgw
                have kz := X1.out.kept0 g2
                have c0 := (kz.cell 0).trans (show _ = some (Value.bool f) from rfl)
                have c1 := (kz.cell 1).trans (show _ = some (Value.slice P xss.length c) from rfl)
                have hPw := hid (hPx.out.grown g2)
                have hAw := hid (hAx.out.grown g2)
                clear kz g2
                replace hgw := hid hgw
                simp only [outThen, preThen, slotIs, factAt, isv, List.getElem?_cons_zero, List.getElem?_cons_succ, Option.getD_some, forall_eq]
                intros
                rename_i hK
                replace hK := hid hK
                simp only [wantedAt]
                go_simp
                exact hK.out _ _ rfl (grown_refl _ _)
              case o7 =>
                go_light
                intro ac w' hgw
                have g2 := grown_trans (grown_drew (grown_refl wx none)) hgw
                have kz := X1.out.kept0 g2
                have c0 := (kz.cell 0).trans (show _ = some (Value.bool f) from rfl)
                have c1 := (kz.cell 1).trans (show _ = some (Value.slice P xss.length c) from rfl)
                have hPw := hid (hPx.out.grown g2)
                have hAw := hid (hAx.out.grown g2)
                clear kz g2
                replace hgw := hid hgw
                simp only [outThen, preThen, slotIs, factAt, isv, List.getElem?_cons_zero, List.getElem?_cons_succ, Option.getD_some, forall_eq]
                intros
                rename_i hK
                replace hK := hid hK
                simp only [wantedAt]
                go_simp
                exact hK.out _ _ rfl (grown_refl _ _)
              case o8 =>
                go_light
                intro ac w' hgw
                have g2 := grown_trans (grown_drew (grown_refl wx none)) hgw
                have kz := X1.out.kept0 g2
                have c0 := (kz.cell 0).trans (show _ = some (Value.bool f) from rfl)
                have c1 := (kz.cell 1).trans (show _ = some (Value.slice P xss.length c) from rfl)
                have hPw := hid (hPx.out.grown g2)
                have hAw := hid (hAx.out.grown g2)
                clear kz g2
                replace hgw := hid hgw
                simp only [outThen, preThen, slotIs, factAt, isv, List.getElem?_cons_zero, List.getElem?_cons_succ, Option.getD_some, forall_eq]
                intros
                rename_i hK9
                replace hK9 := hid hK9
                simp only [wantedAt]
                have q1 := hKd.out.1
                have q2 := hKd.out.2
                go_simp
                exact hK9.out _ _ rfl (grown_refl _ _)
              case o9 =>
                go_light
                intro ac w' hgw
                have g2 := grown_trans (grown_drew (grown_refl wx none)) hgw
                have kz := X1.out.kept0 g2
                have c0 := (kz.cell 0).trans (show _ = some (Value.bool f) from rfl)
                have c1 := (kz.cell 1).trans (show _ = some (Value.slice P xss.length c) from rfl)
                have hPw := hid (hPx.out.grown g2)
                have hAw := hid (hAx.out.grown g2)
                clear kz g2
                replace hgw := hid hgw
                simp only [outThen, preThen, slotIs, factAt, isv, List.getElem?_cons_zero, List.getElem?_cons_succ, Option.getD_some, forall_eq]
                intros
                rename_i hK
                replace hK := hid hK
                simp only [wantedAt]
                go_simp
                exact hK.out _ _ rfl (grown_refl _ _)
              case o10 =>
                go_light
                intro ac w' hgw
                have g2 := grown_trans (grown_drew (grown_refl wx none)) hgw
                have kz := X1.out.kept0 g2
                have c0 := (kz.cell 0).trans (show _ = some (Value.bool f) from rfl)
                have c1 := (kz.cell 1).trans (show _ = some (Value.slice P xss.length c) from rfl)
                have hPw := hid (hPx.out.grown g2)
                have hAw := hid (hAx.out.grown g2)
                clear kz g2
                replace hgw := hid hgw
                simp only [outThen, preThen, slotIs, factAt, isv, List.getElem?_cons_zero, List.getElem?_cons_succ, Option.getD_some, forall_eq]
                intros
                rename_i hK
                replace hK := hid hK
                simp only [wantedAt]
                go_simp
                exact hK.out _ _ rfl (grown_refl _ _)
              case o11 =>
                go_light
                intro ac w' hgw
                have g2 := grown_trans (grown_drew (grown_refl wx none)) hgw
                have kz := X1.out.kept0 g2
                have c0 := (kz.cell 0).trans (show _ = some (Value.bool f) from rfl)
                have c1 := (kz.cell 1).trans (show _ = some (Value.slice P xss.length c) from rfl)
                have hPw := hid (hPx.out.grown g2)
                have hAw := hid (hAx.out.grown g2)
                clear kz g2
                replace hgw := hid hgw
                simp only [outThen, preThen, slotIs, factAt, isv, List.getElem?_cons_zero, List.getElem?_cons_succ, Option.getD_some, forall_eq]
                intros
                rename_i hK9
                replace hK9 := hid hK9
                simp only [wantedAt]
                have q1 := hKd.out.1
                have q2 := hKd.out.2
                go_simp
                exact hK9.out _ _ (congrArg (fun q => Value.slice q (l.length - K) (d - K)) hA2.out) (grown_refl _ _)
              case o12 =>
                go_light
                intro ac w' hgw
                have g2 := grown_trans (grown_drew (grown_refl wx none)) hgw
                have kz := X1.out.kept0 g2
                have c0 := (kz.cell 0).trans (show _ = some (Value.bool f) from rfl)
                have c1 := (kz.cell 1).trans (show _ = some (Value.slice P xss.length c) from rfl)
                have hPw := hid (hPx.out.grown g2)
                have hAw := hid (hAx.out.grown g2)
                clear kz g2
                replace hgw := hid hgw
                simp only [outThen, preThen, slotIs, factAt, isv, List.getElem?_cons_zero, List.getElem?_cons_succ, Option.getD_some, forall_eq]
                intros
                rename_i hK9
                replace hK9 := hid hK9
                simp only [wantedAt]
                go_simp
                have hr := hitRows_two w' A A2 d (d - K) (l.take K) (l.drop K) (hAw.out.take K) (hdrop.out _ hAw.out)
                rw [htk.out, hdr.out] at hr
                exact hK9.out _ _ ⟨_, rfl, hr⟩ (grown_alloc (grown_refl _ _) _)
              case o13 =>
                go_light
                intro ac w' hgw
                have g2 := grown_trans (grown_drew (grown_refl wx none)) hgw
                have kz := X1.out.kept0 g2
                have c0 := (kz.cell 0).trans (show _ = some (Value.bool f) from rfl)
                have c1 := (kz.cell 1).trans (show _ = some (Value.slice P xss.length c) from rfl)
                have hPw := hid (hPx.out.grown g2)
                have hAw := hid (hAx.out.grown g2)
                clear kz g2
                replace hgw := hid hgw
                simp only [outThen, preThen, slotIs, factAt, isv, List.getElem?_cons_zero, List.getElem?_cons_succ, Option.getD_some, forall_eq]
                intros
                rename_i v12 h12 hv12 _ K9 hK9
                replace hK9 := hid hK9
                obtain ⟨Pr, rfl, hr⟩ := h12
                replace hr := hid hr
                simp only [wantedAt]
                go_simp
                refine (occJoin_is Pr 2 [l.take K, l.drop K] w' (by simp) (by simp; omega) hr.out).mono ?_
                rintro e w3 ⟨v, rfl, hv, hg⟩
                have hfl : [l.take K, l.drop K].flatten = l := by simp
                rw [hfl] at hv
                obtain ⟨Av, cv, rfl, hh1, _, _⟩ := hv.form
                exact hK9.out _ _ ⟨Av, cv, rfl, hh1⟩ hg
              case o14 =>
                go_light
                intro ac w' hgw
                have g2 := grown_trans (grown_drew (grown_refl wx none)) hgw
                have kz := X1.out.kept0 g2
                have c0 := (kz.cell 0).trans (show _ = some (Value.bool f) from rfl)
                have c1 := (kz.cell 1).trans (show _ = some (Value.slice P xss.length c) from rfl)
                have hPw := hid (hPx.out.grown g2)
                have hAw := hid (hAx.out.grown g2)
                clear kz g2
                replace hgw := hid hgw
                simp only [outThen, preThen, slotIs, factAt, isv, List.getElem?_cons_zero, List.getElem?_cons_succ, Option.getD_some, forall_eq]
                intros
                rename_i hK
                replace hK := hid hK
                simp only [wantedAt]
                go_simp
                exact hK.out _ _ rfl (grown_refl _ _)
              case o15 =>
                go_light
                intro ac w' hgw
                have g2 := grown_trans (grown_drew (grown_refl wx none)) hgw
                have kz := X1.out.kept0 g2
                have c0 := (kz.cell 0).trans (show _ = some (Value.bool f) from rfl)
                have c1 := (kz.cell 1).trans (show _ = some (Value.slice P xss.length c) from rfl)
                have hPw := hid (hPx.out.grown g2)
                have hAw := hid (hAx.out.grown g2)
                clear kz g2
                replace hgw := hid hgw
                simp only [outThen, preThen, slotIs, factAt, isv, List.getElem?_cons_zero, List.getElem?_cons_succ, Option.getD_some, forall_eq]
                intros
                rename_i v13 h13 hv13 _ _ K9 hK9
                replace hK9 := hid hK9
                obtain ⟨Pr, dr, rfl, hr⟩ := h13
                replace hr := hid hr
                simp only [wantedAt]
                go_simp
                have hq := occSame_is Pr A dr d l l w' (by omega) hr.out hAw.out
                rw [show decide (l = l) = true by simp] at hq
                refine hq.mono ?_
                rintro e w3 ⟨rfl, hg⟩
                exact hK9.out _ _ rfl hg
              case o16 =>
                go_light
                intro ac w' hgw
                have g2 := grown_trans (grown_drew (grown_refl wx none)) hgw
                have kz := X1.out.kept0 g2
                have c0 := (kz.cell 0).trans (show _ = some (Value.bool f) from rfl)
                have c1 := (kz.cell 1).trans (show _ = some (Value.slice P xss.length c) from rfl)
                have hPw := hid (hPx.out.grown g2)
                have hAw := hid (hAx.out.grown g2)
                clear kz g2
                replace hgw := hid hgw
                simp only [outThen, preThen, slotIs, factAt, isv, List.getElem?_cons_zero, List.getElem?_cons_succ, Option.getD_some, forall_eq]
                intros
                rename_i hK
                replace hK := hid hK
                simp only [wantedAt]
                go_simp
                exact hK.out _ _ rfl (grown_refl _ _)
              case o17 =>
                go_light
                intro ac w' hgw
                have g2 := grown_trans (grown_drew (grown_refl wx none)) hgw
                have kz := X1.out.kept0 g2
                have c0 := (kz.cell 0).trans (show _ = some (Value.bool f) from rfl)
                have c1 := (kz.cell 1).trans (show _ = some (Value.slice P xss.length c) from rfl)
                have hPw := hid (hPx.out.grown g2)
                have hAw := hid (hAx.out.grown g2)
                clear kz g2
                replace hgw := hid hgw
                simp only [outThen, preThen, slotIs, factAt, isv, List.getElem?_cons_zero, List.getElem?_cons_succ, Option.getD_some, forall_eq]
                intros
                rename_i hK
                replace hK := hid hK
                simp only [wantedAt]
                go_simp
                exact hK.out _ _ rfl (grown_refl _ _)
              case o18 =>
                go_light
                intro ac w' hgw
                have g2 := grown_trans (grown_drew (grown_refl wx none)) hgw
                have kz := X1.out.kept0 g2
                have c0 := (kz.cell 0).trans (show _ = some (Value.bool f) from rfl)
                have c1 := (kz.cell 1).trans (show _ = some (Value.slice P xss.length c) from rfl)
                have hPw := hid (hPx.out.grown g2)
                have hAw := hid (hAx.out.grown g2)
                clear kz g2
                replace hgw := hid hgw
                simp only [outThen, preThen, slotIs, factAt, isv, List.getElem?_cons_zero, List.getElem?_cons_succ, Option.getD_some, forall_eq]
                intros
                rename_i hK9
                replace hK9 := hid hK9
                simp only [wantedAt]
                go_simp
                refine (owakes_true w').mono ?_
                rintro e w3 ⟨rfl, hg⟩
                exact hK9.out _ _ rfl hg
              case o19 =>
                go_light
                intro ac w' hgw
                have g2 := grown_trans (grown_drew (grown_refl wx none)) hgw
                have kz := X1.out.kept0 g2
                have c0 := (kz.cell 0).trans (show _ = some (Value.bool f) from rfl)
                have c1 := (kz.cell 1).trans (show _ = some (Value.slice P xss.length c) from rfl)
                have hPw := hid (hPx.out.grown g2)
                have hAw := hid (hAx.out.grown g2)
                clear kz g2
                replace hgw := hid hgw
                simp only [outThen, preThen, slotIs, factAt, isv, List.getElem?_cons_zero, List.getElem?_cons_succ, Option.getD_some, forall_eq]
                intros
                rename_i hK
                replace hK := hid hK
                simp only [wantedAt]
                go_simp
                exact hK.out _ _ rfl (grown_refl _ _)
              case o20 =>
                go_light
                intro ac w' hgw
                have g2 := grown_trans (grown_drew (grown_refl wx none)) hgw
                have kz := X1.out.kept0 g2
                have c0 := (kz.cell 0).trans (show _ = some (Value.bool f) from rfl)
                have c1 := (kz.cell 1).trans (show _ = some (Value.slice P xss.length c) from rfl)
                have hPw := hid (hPx.out.grown g2)
                have hAw := hid (hAx.out.grown g2)
                clear kz g2
                replace hgw := hid hgw
                simp only [outThen, preThen, slotIs, factAt, isv, List.getElem?_cons_zero, List.getElem?_cons_succ, Option.getD_some, forall_eq]
                intros
                rename_i hK
                replace hK := hid hK
                simp only [wantedAt]
                go_simp
                exact hK.out _ _ rfl (grown_refl _ _)
            case st =>
              repeat (first | exact AllStable.nil | (refine AllStable.cons ?_ ?_; focus (first | exact stable_isv _ | exact stable_isBytes _ | exact stable_isRow1 _ | exact stable_isRowOf _ _ | exact stable_isArrOf _ | exact stable_isHits _ | exact stable_isHitRows _)))
            case fin =>
              intro W2 hgw
              simp only [finalIn, factAt, isv, isHits, isHitRows, List.getElem?_cons_zero, List.getElem?_cons_succ, Option.getD_some, forall_eq, slotIs, subj]
              rintro v12 ⟨P12, rfl, _⟩ v13 ⟨P13, d13, rfl, _⟩
              simp only [Act.put, List.setIfInBounds_toArray, List.set_cons_zero, List.set_cons_succ]
              have g2 := hid (grown_trans hGx.out (grown_trans (grown_drew (grown_refl wx none)) hgw))
              clear hgw
              go_wp2_with fail
              go_ret
              exact ⟨rfl, g2.out⟩

end Go.Proofs.Ytmahiodejhakpaa
