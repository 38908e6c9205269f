/- The walk of the law SumParts: it returns true at every input. -/
import Derived.Test.YtdlfphdgjonbdaaWakes
import Derived.Test.YtdlfphdgjonbdaaVars
import Derived.Test.YtdlfphdgjonbdaaCame
set_option linter.unusedVariables false
namespace Go.Proofs.Ytdlfphdgjonbdaa
open Go.RowKit PlainSum

theorem parts_great (A : Option Addr) (n c : Nat) (at_ : Int) (w : World) (h : 3000 < n) :
    Calls Try.prog 4 #[.slice A n c, .int .i64 at_] w fun e w' => e = .returned (.bool true) ∧ w.grownBy w' none := by
  go_enter Try.func4, Try.ntmps4
  go_wp2_with fail
  refine (wakes_true _).mono ?_
  rintro e w' ⟨rfl, hg⟩
  go_wp2_with fail
  go_ret
  exact ⟨rfl, hg⟩

theorem Bytes.take {xs : List Int} (h : Bytes xs) (n : Nat) : Bytes (xs.take n) := fun i => by
  rw [getD_take]
  split
  · exact h i
  · decide
theorem Bytes.drop {xs : List Int} (h : Bytes xs) (n : Nat) : Bytes (xs.drop n) := fun i => by rw [getD_drop]; exact h _

theorem small_of {bs : List Int} (h : bs.length ≤ 3000) (hb : Bytes bs) : Small [bs] := ⟨by simp, fun i => by
  rcases i with _ | i
  · exact ⟨by simp; omega, hb⟩
  · exact ⟨by simp, fun k => by simp⟩⟩

theorem fed_one (bs : List Int) : fed (1, 0) [bs].flatten = feed first bs := by rw [show [bs].flatten = bs by simp]; exact fed_right first bs right_start

set_option maxRecDepth 100000 in
set_option maxHeartbeats 2000000 in
theorem parts_small (A : Option Addr) (c : Nat) (at_ : Int) (bs : List Int) (w : World) (h : bs.length ≤ 3000) (hc : bs.length ≤ c) (hc2 : c ≤ maxLen) (hb : Bytes bs) (hA : Arr w .u8 A bs) :
    Calls Try.prog 4 #[.slice A bs.length c, .int .i64 at_] w fun e w' => e = .returned (.bool true) ∧ w.grownBy w' none := by
  replace hb := hid hb
  replace hA := hid hA
  unfold maxLen at hc2
  go_enter Try.func4, Try.ntmps4
  go_upto_region 3 with fail
  go_cut [1] from 14 to 18 (fun u wx => ∃ k : Nat, k ≤ bs.length ∧ u = .int .i64 k ∧ wx = w)
  case first =>
    by_cases h0 : at_ < 0
    · go_wp2_with fail
      go_meet
      exact ⟨0, by omega, rfl, rfl⟩
    · by_cases h1 : at_ ≤ bs.length
      · obtain ⟨k, rfl⟩ := Int.eq_ofNat_of_zero_le (show 0 ≤ at_ by omega)
        go_wp2_with fail
        go_meet
        exact ⟨k, by omega, rfl, rfl⟩
      · go_wp2_with fail
        go_meet
        exact ⟨bs.length, by omega, rfl, rfl⟩
  case rest =>
    obtain ⟨k, hk, rfl, rfl⟩ := hcut
    go_wp2_with fail
    refine (sumNew_is _).mono ?_
    rintro e w1 ⟨rfl, hg1⟩
    have hA1 := hA.out.grown hg1
    have hP := one_new (c := c) hA1
    go_wp2_with fail
    refine (sumFeed_is 1 0 _ 1 [bs] _ hP (small_of h hb.out)).mono ?_
    rintro e w2 ⟨rfl, hg2⟩
    rw [fed_one]
    have hG2 := hid (grown_trans (grown_trans hg1 (grown_alloc (grown_refl _ _) _)) hg2)
    clear hg1 hg2 hA1 hP
    generalize hall : feed first bs = all
    replace hall := hid hall
    go_upto_region 5 with fail
    have H5 := Holds.new w2 23 #[.int .i64 all.1, .int .i64 all.2]
    have hG3 := hid (grown_alloc hG2.out (.cells #[.int .i64 all.1, .int .i64 all.2] 23))
    clear hG2
    obtain ⟨W3, hW3⟩ : ∃ W3, w2.alloc (.cells #[.int .i64 all.1, .int .i64 all.2] 23) = W3 := ⟨_, rfl⟩
    rw [hW3] at H5 hG3 ⊢
    clear hW3
    generalize w2.heap.size = g5 at H5 ⊢
    have hk0 : (0 : Int) ≤ (k : Int) := by omega
    have hk1 : (k : Int) ≤ (c : Int) := by omega
    have hk2 : (k : Int) ≤ (bs.length : Int) := by omega
    have hA3 : Hid (Arr W3.drew .u8 A (bs.take k)) := (hA.out.grown (grown_drew hG3.out)).take k
    have hl : (bs.take k).length = k := by simp; omega
    have hS1 : Hid (Small [bs.take k]) := small_of (by omega) (hb.out.take k)
    obtain ⟨one, hone⟩ : ∃ xs, bs.take k = xs := ⟨_, rfl⟩
    rw [hone] at hA3 hS1 hl
    replace hone := hid hone
    have hX : Hid (Value.slice A k c = Value.slice A one.length c) := by rw [hl]; rfl
    clear hl
    apply wp_region_each [isv (.agg #[.int .i64 1, .int .i64 0]), isv _, isv _, isv (.slice A k c), isRowOf 1 #[.slice A k c], isv (.agg #[.int .i64 (feed first one).1, .int .i64 (feed first one).2]), isVar W3.heap.size, isVarOf W3.heap.size (feed first one).1 (feed first one).2]
      90 [some 23, some 24, some 25, some 26, some 27, some 28, some 6, none]
      [some 23, some 24, some 25, some 26, some 27, some 28, some 6, some 6]
      [[], [], [], [1, 2], [3], [0, 4], [], [6, 5]]
      [(0, .slice A bs.length c), (1, .int .i64 k)] (by kernel_rfl) rfl (by kernel_rfl) rfl rfl (by kernel_rfl) (OutsOk.cons rfl rfl (OutsOk.cons rfl rfl OutsOk.nil)) ?st ?ob ?fin
    case ob =>
      refine Obs.consv rfl ?o0 (Obs.consv rfl ?o1 (Obs.consv rfl ?o2 (Obs.consv rfl ?o3 (Obs.consv rfl ?o4 (Obs.consv rfl ?o5 (Obs.consv rfl ?o6 (Obs.conss rfl ?o7 Obs.nil)))))))
      case o0 =>
        go_light
        intro a w' hgw
        replace hgw := hid hgw
        simp only [outThen, preThen, slotIs, factAt, isv, List.getElem?_cons_zero, List.getElem?_cons_succ, Option.getD_some, forall_eq]
        intro _ _ K hK
        replace hK := hid hK
        simp only [wantedAt]
        go_simp
        refine (sumNew_is _).mono ?_
        rintro e w3 ⟨rfl, hg⟩
        exact hK.out _ _ rfl hg
      case o1 =>
        go_light
        intro a w' hgw
        replace hgw := hid hgw
        simp only [outThen, preThen, slotIs, factAt, isv, List.getElem?_cons_zero, List.getElem?_cons_succ, Option.getD_some, forall_eq]
        intros
        rename_i hK
        replace hK := hid hK
        simp only [wantedAt]
        go_simp
        exact hK.out _ _ rfl (grown_refl _ _)
      case o2 =>
        go_light
        intro a w' hgw
        replace hgw := hid hgw
        simp only [outThen, preThen, slotIs, factAt, isv, List.getElem?_cons_zero, List.getElem?_cons_succ, Option.getD_some, forall_eq]
        intros
        rename_i hK
        replace hK := hid hK
        simp only [wantedAt]
        go_simp
        exact hK.out _ _ rfl (grown_refl _ _)
      case o3 =>
        go_light
        intro a w' hgw
        replace hgw := hid hgw
        simp only [outThen, preThen, slotIs, factAt, isv, List.getElem?_cons_zero, List.getElem?_cons_succ, Option.getD_some, forall_eq]
        intros
        rename_i hK
        replace hK := hid hK
        simp only [wantedAt]
        go_simp
        exact hK.out _ _ rfl (grown_refl _ _)
      case o4 =>
        go_light
        intro a w' hgw
        replace hgw := hid hgw
        simp only [outThen, preThen, slotIs, factAt, isv, List.getElem?_cons_zero, List.getElem?_cons_succ, Option.getD_some, forall_eq]
        intro _ _ hv K hK
        replace hK := hid hK
        simp only [wantedAt]
        go_simp
        exact hK.out _ _ ⟨_, rfl, Holds.new _ _ _⟩ (grown_alloc (grown_refl _ _) _)
      case o5 =>
        go_light
        intro a w' hgw
        replace hgw := hid hgw
        simp only [outThen, preThen, slotIs, factAt, isv, List.getElem?_cons_zero, List.getElem?_cons_succ, Option.getD_some, forall_eq]
        intro _ _ hv1 v2 h2 hv2 K hK
        replace hK := hid hK
        obtain ⟨g2, rfl, h3⟩ := h2
        have hP : Arrs w' (some ⟨g2, 0, none⟩) [one] := Arrs.one (by rw [hX.out] at h3; exact h3) (hA3.out.grown hgw.out)
        have hS := hid (hS1.out)
        clear h3
        simp only [wantedAt]
        go_simp
        refine (sumFeed_is 1 0 _ 1 [one] _ hP hS.out).mono ?_
        rintro e w3 ⟨rfl, hg⟩
        rw [fed_one]
        exact hK.out _ _ rfl hg
      case o6 =>
        go_light
        intro a w' hgw
        replace hgw := hid hgw
        simp only [outThen, preThen, slotIs, factAt, isv, List.getElem?_cons_zero, List.getElem?_cons_succ, Option.getD_some, forall_eq]
        intro _ _ K hK
        replace hK := hid hK
        simp only [wantedAt]
        go_simp
        exact hK.out _ _ ⟨_, 0, 0, rfl, hgw.out.size, Holds.new _ _ _⟩ (grown_alloc (grown_refl _ _) _)
      case o7 =>
        refine ob_store rfl rfl rfl rfl rfl (Nat.le_refl _) ?_
        repeat (first | exact AllBut.nil | (refine AllBut.cons ?_ ?_; focus (intro hne; first | exact absurd rfl hne | exact sb_isv _ | exact sb_isBytes _ | exact sb_isRow1 _ | exact sb_isRowOf _ _ | exact sb_isVar _)))
    case st =>
      repeat (first | exact AllStable.nil | (refine AllStable.cons ?_ ?_; focus (first | exact stable_isv _ | exact stable_isBytes _ | exact stable_isRow1 _ | exact stable_isRowOf _ _ | exact stable_isVar _ | exact stable_isVarOf _ _ _)))
    case fin =>
      intro w4 hgw
      simp only [finalIn, factAt, isv, List.getElem?_cons_zero, List.getElem?_cons_succ, Option.getD_some, forall_eq, slotIs, subj]
      rintro v1 ⟨g1, rfl, _⟩ v2 _ v3 hv3 ⟨g6, h6, _, H6⟩
      simp only [Act.put, List.setIfInBounds_toArray, List.set_cons_zero, List.set_cons_succ, List.getElem?_toArray, List.getElem?_cons_zero, List.getElem?_cons_succ, Option.some.injEq] at hv3
      subst hv3
      subst h6
      replace H5 := Holds.kept0 hgw H5.drew
      have hG4 := hid (grown_trans (grown_drew hG3.out) hgw)
      clear hgw hG3 hA3
      simp only [Act.put, List.setIfInBounds_toArray, List.set_cons_zero, List.set_cons_succ]
      replace H5 := hid H5
      replace H6 := hid H6
      go_upto_region 6 with fail
      have hA4 : Hid (Arr w4.drew .u8 (if c = k then A else A.map (fun x => x.add k)) (bs.drop k)) := (hA.out.grown (grown_drew hG4.out)).drop hc
      have hl : (bs.drop k).length = bs.length - k := by simp
      have hS2 : Hid (Small [bs.drop k]) := small_of (by omega) (hb.out.drop k)
      obtain ⟨two, htwo⟩ : ∃ xs, bs.drop k = xs := ⟨_, rfl⟩
      rw [htwo] at hA4 hS2 hl
      replace htwo := hid htwo
      obtain ⟨A', hV⟩ : ∃ A', (if c = k then A else A.map (fun x => x.add k)) = A' := ⟨_, rfl⟩
      rw [hV] at hA4
      have hX : Hid (Value.slice A' (bs.length - k) (c - k) = .slice A' two.length (c - k)) := by rw [hl]; rfl
      replace hl := hid hl
      replace hV := hid hV
      apply wp_region_each [isv (.agg #[.int .i64 1, .int .i64 0]), isv _, isv _, isv (.slice A' (bs.length - k) (c - k)), isRowOf 1 #[.slice A' (bs.length - k) (c - k)], isv (.agg #[.int .i64 (feed first two).1, .int .i64 (feed first two).2]), isVar w4.heap.size, isVarOf w4.heap.size (feed first two).1 (feed first two).2]
        90 [some 29, some 30, some 31, some 32, some 33, some 34, some 7, none]
        [some 29, some 30, some 31, some 32, some 33, some 34, some 7, some 7]
        [[], [], [], [1, 2], [3], [0, 4], [], [6, 5]]
        [(0, .slice A bs.length c), (1, .int .i64 k)] (by kernel_rfl) rfl (by kernel_rfl) rfl rfl (by kernel_rfl) (OutsOk.cons rfl rfl (OutsOk.cons rfl rfl OutsOk.nil)) ?st ?ob ?fin
      case ob =>
        refine Obs.consv rfl ?o0 (Obs.consv rfl ?o1 (Obs.consv rfl ?o2 (Obs.consv rfl ?o3 (Obs.consv rfl ?o4 (Obs.consv rfl ?o5 (Obs.consv rfl ?o6 (Obs.conss rfl ?o7 Obs.nil)))))))
        case o0 =>
          go_light
          intro a w' hgw
          replace hgw := hid hgw
          simp only [outThen, preThen, slotIs, factAt, isv, List.getElem?_cons_zero, List.getElem?_cons_succ, Option.getD_some, forall_eq]
          intro _ _ K hK
          replace hK := hid hK
          simp only [wantedAt]
          go_simp
          refine (sumNew_is _).mono ?_
          rintro e w3 ⟨rfl, hg⟩
          exact hK.out _ _ rfl hg
        case o1 =>
          go_light
          intro a w' hgw
          replace hgw := hid hgw
          simp only [outThen, preThen, slotIs, factAt, isv, List.getElem?_cons_zero, List.getElem?_cons_succ, Option.getD_some, forall_eq]
          intros
          rename_i hK
          replace hK := hid hK
          simp only [wantedAt]
          go_simp
          exact hK.out _ _ rfl (grown_refl _ _)
        case o2 =>
          go_light
          intro a w' hgw
          replace hgw := hid hgw
          simp only [outThen, preThen, slotIs, factAt, isv, List.getElem?_cons_zero, List.getElem?_cons_succ, Option.getD_some, forall_eq]
          intros
          rename_i hK
          replace hK := hid hK
          simp only [wantedAt]
          go_simp
          exact hK.out _ _ rfl (grown_refl _ _)
        case o3 =>
          go_light
          intro a w' hgw
          replace hgw := hid hgw
          simp only [outThen, preThen, slotIs, factAt, isv, List.getElem?_cons_zero, List.getElem?_cons_succ, Option.getD_some, forall_eq]
          intros
          rename_i hK
          replace hK := hid hK
          simp only [wantedAt]
          go_simp
          rw [hV.out]
          exact hK.out _ _ rfl (grown_refl _ _)
        case o4 =>
          go_light
          intro a w' hgw
          replace hgw := hid hgw
          simp only [outThen, preThen, slotIs, factAt, isv, List.getElem?_cons_zero, List.getElem?_cons_succ, Option.getD_some, forall_eq]
          intro _ _ hv K hK
          replace hK := hid hK
          simp only [wantedAt]
          go_simp
          exact hK.out _ _ ⟨_, rfl, Holds.new _ _ _⟩ (grown_alloc (grown_refl _ _) _)
        case o5 =>
          go_light
          intro a w' hgw
          replace hgw := hid hgw
          simp only [outThen, preThen, slotIs, factAt, isv, List.getElem?_cons_zero, List.getElem?_cons_succ, Option.getD_some, forall_eq]
          intro _ _ hv1 v2 h2 hv2 K hK
          replace hK := hid hK
          obtain ⟨g2, rfl, h3⟩ := h2
          have hP : Arrs w' (some ⟨g2, 0, none⟩) [two] := Arrs.one (by rw [hX.out] at h3; exact h3) (hA4.out.grown hgw.out)
          have hS := hid (hS2.out)
          clear h3
          simp only [wantedAt]
          go_simp
          refine (sumFeed_is 1 0 _ 1 [two] _ hP hS.out).mono ?_
          rintro e w3 ⟨rfl, hg⟩
          rw [fed_one]
          exact hK.out _ _ rfl hg
        case o6 =>
          go_light
          intro a w' hgw
          replace hgw := hid hgw
          simp only [outThen, preThen, slotIs, factAt, isv, List.getElem?_cons_zero, List.getElem?_cons_succ, Option.getD_some, forall_eq]
          intro _ _ K hK
          replace hK := hid hK
          simp only [wantedAt]
          go_simp
          exact hK.out _ _ ⟨_, 0, 0, rfl, hgw.out.size, Holds.new _ _ _⟩ (grown_alloc (grown_refl _ _) _)
        case o7 =>
          refine ob_store rfl rfl rfl rfl rfl (Nat.le_refl _) ?_
          repeat (first | exact AllBut.nil | (refine AllBut.cons ?_ ?_; focus (intro hne; first | exact absurd rfl hne | exact sb_isv _ | exact sb_isBytes _ | exact sb_isRow1 _ | exact sb_isRowOf _ _ | exact sb_isVar _)))
      case st =>
        repeat (first | exact AllStable.nil | (refine AllStable.cons ?_ ?_; focus (first | exact stable_isv _ | exact stable_isBytes _ | exact stable_isRow1 _ | exact stable_isRowOf _ _ | exact stable_isVar _ | exact stable_isVarOf _ _ _)))
      case fin =>
        intro w5 hgw
        simp only [finalIn, factAt, isv, List.getElem?_cons_zero, List.getElem?_cons_succ, Option.getD_some, forall_eq, slotIs, subj]
        rintro v1 ⟨g2, rfl, _⟩ v2 _ v3 hv3 ⟨g7, h6, _, H7⟩
        simp only [Act.put, List.setIfInBounds_toArray, List.set_cons_zero, List.set_cons_succ, List.getElem?_toArray, List.getElem?_cons_zero, List.getElem?_cons_succ, Option.some.injEq] at hv3
        subst hv3
        subst h6
        replace H5 := Holds.kept0 hgw H5.out.drew
        replace H6 := Holds.kept0 hgw H6.out.drew
        have hG5 := hid (grown_trans (grown_drew hG4.out) hgw)
        clear hgw hG4 hA4
        simp only [Act.put, List.setIfInBounds_toArray, List.set_cons_zero, List.set_cons_succ]
        have hj1 := right_feed first one right_start
        have hj2 := right_feed first two right_start
        have hJ : Hid (join (feed first one) (feed first two) ((bs.length : Int) - (k : Int)) = all) := by
          have := join_parts one two
          rw [← hone.out, ← htwo.out, List.take_append_drop, hall.out] at this
          rw [← hone.out, ← htwo.out, show (bs.length : Int) - (k : Int) = ((bs.drop k).length : Int) by simp; omega]
          exact this
        have hT : Hid (feed (feed first one) two = all) := by
          rw [← feed_append, ← hone.out, ← htwo.out, List.take_append_drop]; exact hall.out
        generalize feed first one = s1 at H6 hj1 hJ hT ⊢
        generalize feed first two = s2 at H7 hj2 hJ ⊢
        obtain ⟨a1, a2⟩ := s1
        obtain ⟨b1, b2⟩ := s2
        simp only at H6 H7 ⊢
        obtain ⟨c6, d6⟩ := hold2 H6
        obtain ⟨c7, d7⟩ := hold2 H7
        have l5 := H5.lt
        have l6 := H6.lt
        have l7 := H7.lt
        replace hj1 := hid hj1
        replace hj2 := hid hj2
        replace H5 := hid H5
        replace H6 := hid H6
        replace H7 := hid H7
        go_wp2_with fail
        refine (sumJoin_yes a1 a2 b1 b2 _ _ hj1.out hj2.out (by omega) (by omega)).mono ?_
        rintro e w6 ⟨rfl, hg⟩
        rw [hJ.out]
        replace H5 := H5.out.kept0 hg
        replace H6 := H6.out.kept0 hg
        have hG6 := hid (grown_trans hG5.out hg)
        clear hg c6 d6 c7 d7 l5 l6 l7 hG5
        obtain ⟨p, q⟩ := all
        simp only at H5 ⊢
        go_upto_region 8 with fail
        have H8 := Holds.new w6 23 #[.int .i64 p, .int .i64 q]
        replace H5 := H5.alloc (.cells #[.int .i64 p, .int .i64 q] 23)
        replace H6 := H6.alloc (.cells #[.int .i64 p, .int .i64 q] 23)
        have hG7 := hid (grown_alloc hG6.out (.cells #[.int .i64 p, .int .i64 q] 23))
        obtain ⟨W7, hW7⟩ : ∃ W7, w6.alloc (.cells #[.int .i64 p, .int .i64 q] 23) = W7 := ⟨_, rfl⟩
        rw [hW7] at H5 H6 H8 hG7 ⊢
        generalize w6.heap.size = g8 at H8 ⊢
        clear hW7 hG6 hJ
        have hAA : Hid (Arr W7.drew .u8 A bs) := hA.out.grown (grown_drew hG7.out)
        have hA1 : Hid (Arr W7.drew .u8 A one) := by rw [← hone.out]; exact (hA.out.grown (grown_drew hG7.out)).take k
        have hA2 : Hid (Arr W7.drew .u8 A' two) := by rw [← htwo.out, ← hV.out]; exact (hA.out.grown (grown_drew hG7.out)).drop hc
        have hX1 := hid (show Value.slice A k c = .slice A one.length c by rw [← hone.out]; simp [show min k bs.length = k by omega])
        have hS3 : Hid (Small [one, [], two]) := ⟨by simp, fun i => by
          rcases i with _ | _ | _ | i
          · exact (hS1.out.2 0)
          · exact ⟨by simp, fun k => by simp⟩
          · exact (hS2.out.2 0)
          · exact ⟨by simp, fun k => by simp⟩⟩
        have hF8 : Hid (fed (a1, a2) [two].flatten = (p, q)) := by
          rw [fed_right _ _ hj1.out, show [two].flatten = two by simp]; exact hT.out
        have hF21 : Hid (fed (1, 0) [one, [], two].flatten = (p, q)) := by
          rw [show [one, [], two].flatten = one ++ two by simp, ← hone.out, ← htwo.out, List.take_append_drop]
          exact (fed_right first bs right_start).trans hall.out
        have hR : Hid (right (p, q) = true) := by rw [← hall.out]; exact right_feed first bs right_start
        have hO := hid (show value (feed first [bs].flatten) = value (p, q) by rw [show [bs].flatten = bs by simp, hall.out])
        have hSb : Hid (Small [bs]) := small_of h hb.out
        replace H5 := hid H5
        replace H6 := hid H6
        replace H8 := hid H8
        clear hS1 hS2 hT hj1 hj2 H7
        apply wp_region_each [isv (.agg #[.int .i64 p, .int .i64 q]), isv (.bool true), isv (.bool true), isv (.agg #[.int .i64 a1, .int .i64 a2]), isv _, isv _, isv (.slice A' (bs.length - k) (c - k)), isRowOf 1 #[.slice A' (bs.length - k) (c - k)], isv (.agg #[.int .i64 p, .int .i64 q]), isv (.agg #[.int .i64 p, .int .i64 q]), isv (.bool true), isv (.bool true), isv (.bool true), isv (.agg #[.int .i64 1, .int .i64 0]), isv _, isv _, isv (.slice A k c), isv _, isv _, isv (.slice A' (bs.length - k) (c - k)), isRowOf 3 #[.slice A k c, .slice none 0 0, .slice A' (bs.length - k) (c - k)], isv (.agg #[.int .i64 p, .int .i64 q]), isv (.agg #[.int .i64 p, .int .i64 q]), isv (.bool true), isv (.bool true), isv (.bool true), isv _, isv (.bool true), isv (.bool true), isv (.bool true), isv (.agg #[.int .i64 p, .int .i64 q]), isv (.agg #[.int .i64 p, .int .i64 q]), isv (.bool true), isv (.bool true), isv (.bool true), isv _, isRowOf 1 #[.slice A bs.length c], isv (.int .u32 (value (p, q))), isv (.agg #[.int .i64 p, .int .i64 q]), isv (.int .u32 (value (p, q))), isv (.bool true), isv (.bool true), isv (.bool true), isv (.bool true), isv (.bool true), isv (.bool true)]
          90 [some 45, some 46, some 47, some 48, some 49, some 50, some 51, some 52, some 53, some 54, some 55, some 56, some 57, some 58, some 59, some 60, some 61, some 62, some 63, some 64, some 65, some 66, some 67, some 68, some 69, some 70, some 71, some 72, some 73, some 74, some 75, some 76, some 77, some 78, some 79, some 80, some 81, some 82, some 83, some 84, some 85, some 86, some 87, some 88, some 89, some 4]
          [some 45, some 46, some 47, some 48, some 49, some 50, some 51, some 52, some 53, some 54, some 55, some 56, some 57, some 58, some 59, some 60, some 61, some 62, some 63, some 64, some 65, some 66, some 67, some 68, some 69, some 70, some 71, some 72, some 73, some 74, some 75, some 76, some 77, some 78, some 79, some 80, some 81, some 82, some 83, some 84, some 85, some 86, some 87, some 88, some 89, some 4]
          [[], [0], [1], [2], [2], [2], [4, 5, 2], [6, 2], [3, 7, 2], [2], [8, 9, 2], [2, 10], [11], [12], [12], [12], [14, 15, 12], [12], [12], [17, 18, 12], [16, 19, 12], [13, 20, 12], [12], [21, 22, 12], [12, 23], [24], [25], [26, 25], [25, 27], [28], [29], [29], [30, 31, 29], [29, 32], [33], [34], [35, 34], [36, 34], [34], [38, 34], [37, 39, 34], [34, 40], [41], [42], [42, 43], [44]]
          [(0, .slice A bs.length c), (1, .int .i64 k), (5, .pointer (some ⟨g5, 0, none⟩)), (6, .pointer (some ⟨g6, 0, none⟩)), (8, .pointer (some ⟨g8, 0, none⟩)), (9, .int .i64 0)] (by kernel_rfl) rfl (by kernel_rfl) rfl rfl (by kernel_rfl) (OutsOk.cons rfl rfl (OutsOk.cons rfl rfl (OutsOk.cons rfl rfl (OutsOk.cons rfl rfl (OutsOk.cons rfl rfl (OutsOk.cons rfl rfl OutsOk.nil)))))) ?st ?ob ?fin
        case ob =>
          refine Obs.consv rfl ?o0 (Obs.consv rfl ?o1 (Obs.consv rfl ?o2 (Obs.consv rfl ?o3 (Obs.consv rfl ?o4 (Obs.consv rfl ?o5 (Obs.consv rfl ?o6 (Obs.consv rfl ?o7 (Obs.consv rfl ?o8 (Obs.consv rfl ?o9 (Obs.consv rfl ?o10 (Obs.consv rfl ?o11 (Obs.consv rfl ?o12 (Obs.consv rfl ?o13 (Obs.consv rfl ?o14 (Obs.consv rfl ?o15 (Obs.consv rfl ?o16 (Obs.consv rfl ?o17 (Obs.consv rfl ?o18 (Obs.consv rfl ?o19 (Obs.consv rfl ?o20 (Obs.consv rfl ?o21 (Obs.consv rfl ?o22 (Obs.consv rfl ?o23 (Obs.consv rfl ?o24 (Obs.consv rfl ?o25 (Obs.consv rfl ?o26 (Obs.consv rfl ?o27 (Obs.consv rfl ?o28 (Obs.consv rfl ?o29 (Obs.consv rfl ?o30 (Obs.consv rfl ?o31 (Obs.consv rfl ?o32 (Obs.consv rfl ?o33 (Obs.consv rfl ?o34 (Obs.consv rfl ?o35 (Obs.consv rfl ?o36 (Obs.consv rfl ?o37 (Obs.consv rfl ?o38 (Obs.consv rfl ?o39 (Obs.consv rfl ?o40 (Obs.consv rfl ?o41 (Obs.consv rfl ?o42 (Obs.consv rfl ?o43 (Obs.consv rfl ?o44 (Obs.consv rfl ?o45 Obs.nil)))))))))))))))))))))))))))))))))))))))))))))
          case o0 =>
            go_light
            intro a w' hgw
            obtain ⟨c5, d5⟩ := hold2 (Holds.kept0 hgw H5.out.drew)
            obtain ⟨c6, d6⟩ := hold2 (Holds.kept0 hgw H6.out.drew)
            obtain ⟨c8, d8⟩ := hold2 (Holds.kept0 hgw H8.out.drew)
            replace hgw := hid hgw
            simp only [outThen, preThen, slotIs, factAt, isv, List.getElem?_cons_zero, List.getElem?_cons_succ, Option.getD_some, forall_eq]
            intros
            rename_i hK
            replace hK := hid hK
            simp only [wantedAt]
            go_simp
            exact hK.out _ _ rfl (grown_refl _ _)
          case o1 =>
            go_light
            intro a w' hgw
            obtain ⟨c5, d5⟩ := hold2 (Holds.kept0 hgw H5.out.drew)
            obtain ⟨c6, d6⟩ := hold2 (Holds.kept0 hgw H6.out.drew)
            obtain ⟨c8, d8⟩ := hold2 (Holds.kept0 hgw H8.out.drew)
            replace hgw := hid hgw
            simp only [outThen, preThen, slotIs, factAt, isv, List.getElem?_cons_zero, List.getElem?_cons_succ, Option.getD_some, forall_eq]
            intros
            rename_i hK
            replace hK := hid hK
            simp only [wantedAt]
            go_simp
            refine (sumRight_yes p q _ hR.out).mono ?_
            rintro e w9 ⟨rfl, hg⟩
            exact hK.out _ _ rfl hg
          case o2 =>
            go_light
            intro a w' hgw
            obtain ⟨c5, d5⟩ := hold2 (Holds.kept0 hgw H5.out.drew)
            obtain ⟨c6, d6⟩ := hold2 (Holds.kept0 hgw H6.out.drew)
            obtain ⟨c8, d8⟩ := hold2 (Holds.kept0 hgw H8.out.drew)
            replace hgw := hid hgw
            simp only [outThen, preThen, slotIs, factAt, isv, List.getElem?_cons_zero, List.getElem?_cons_succ, Option.getD_some, forall_eq]
            intros
            rename_i hK
            replace hK := hid hK
            simp only [wantedAt]
            go_simp
            exact hK.out _ _ rfl (grown_refl _ _)
          case o3 =>
            go_light
            intro a w' hgw
            obtain ⟨c5, d5⟩ := hold2 (Holds.kept0 hgw H5.out.drew)
            obtain ⟨c6, d6⟩ := hold2 (Holds.kept0 hgw H6.out.drew)
            obtain ⟨c8, d8⟩ := hold2 (Holds.kept0 hgw H8.out.drew)
            replace hgw := hid hgw
            simp only [outThen, preThen, slotIs, factAt, isv, List.getElem?_cons_zero, List.getElem?_cons_succ, Option.getD_some, forall_eq]
            intros
            rename_i hK
            replace hK := hid hK
            simp only [wantedAt]
            go_simp
            exact hK.out _ _ rfl (grown_refl _ _)
          case o4 =>
            go_light
            intro a w' hgw
            obtain ⟨c5, d5⟩ := hold2 (Holds.kept0 hgw H5.out.drew)
            obtain ⟨c6, d6⟩ := hold2 (Holds.kept0 hgw H6.out.drew)
            obtain ⟨c8, d8⟩ := hold2 (Holds.kept0 hgw H8.out.drew)
            replace hgw := hid hgw
            simp only [outThen, preThen, slotIs, factAt, isv, List.getElem?_cons_zero, List.getElem?_cons_succ, Option.getD_some, forall_eq]
            intros
            rename_i hK
            replace hK := hid hK
            simp only [wantedAt]
            go_simp
            exact hK.out _ _ rfl (grown_refl _ _)
          case o5 =>
            go_light
            intro a w' hgw
            obtain ⟨c5, d5⟩ := hold2 (Holds.kept0 hgw H5.out.drew)
            obtain ⟨c6, d6⟩ := hold2 (Holds.kept0 hgw H6.out.drew)
            obtain ⟨c8, d8⟩ := hold2 (Holds.kept0 hgw H8.out.drew)
            replace hgw := hid hgw
            simp only [outThen, preThen, slotIs, factAt, isv, List.getElem?_cons_zero, List.getElem?_cons_succ, Option.getD_some, forall_eq]
            intros
            rename_i hK
            replace hK := hid hK
            simp only [wantedAt]
            go_simp
            exact hK.out _ _ rfl (grown_refl _ _)
          case o6 =>
            go_light
            intro a w' hgw
            obtain ⟨c5, d5⟩ := hold2 (Holds.kept0 hgw H5.out.drew)
            obtain ⟨c6, d6⟩ := hold2 (Holds.kept0 hgw H6.out.drew)
            obtain ⟨c8, d8⟩ := hold2 (Holds.kept0 hgw H8.out.drew)
            replace hgw := hid hgw
            simp only [outThen, preThen, slotIs, factAt, isv, List.getElem?_cons_zero, List.getElem?_cons_succ, Option.getD_some, forall_eq]
            intros
            rename_i hK
            replace hK := hid hK
            simp only [wantedAt]
            go_simp
            rw [hV.out]
            exact hK.out _ _ rfl (grown_refl _ _)
          case o7 =>
            go_light
            intro a w' hgw
            obtain ⟨c5, d5⟩ := hold2 (Holds.kept0 hgw H5.out.drew)
            obtain ⟨c6, d6⟩ := hold2 (Holds.kept0 hgw H6.out.drew)
            obtain ⟨c8, d8⟩ := hold2 (Holds.kept0 hgw H8.out.drew)
            replace hgw := hid hgw
            simp only [outThen, preThen, slotIs, factAt, isv, List.getElem?_cons_zero, List.getElem?_cons_succ, Option.getD_some, forall_eq]
            intros
            rename_i hK
            replace hK := hid hK
            simp only [wantedAt]
            go_simp
            exact hK.out _ _ ⟨_, rfl, Holds.new _ _ _⟩ (grown_alloc (grown_refl _ _) _)
          case o8 =>
            go_light
            intro a w' hgw
            obtain ⟨c5, d5⟩ := hold2 (Holds.kept0 hgw H5.out.drew)
            obtain ⟨c6, d6⟩ := hold2 (Holds.kept0 hgw H6.out.drew)
            obtain ⟨c8, d8⟩ := hold2 (Holds.kept0 hgw H8.out.drew)
            replace hgw := hid hgw
            simp only [outThen, preThen, slotIs, factAt, isv, List.getElem?_cons_zero, List.getElem?_cons_succ, Option.getD_some, forall_eq]
            intro _ _ _ _ _ _ _ v2 h2 hv2 hq K hK
            replace hK := hid hK
            obtain ⟨g9, rfl, h9⟩ := h2
            have hP : Arrs w' (some ⟨g9, 0, none⟩) [two] := Arrs.one (by rw [hX.out] at h9; exact h9) (hA2.out.grown hgw.out)
            clear h9
            simp only [wantedAt]
            go_simp
            refine (sumFeed_is a1 a2 _ 1 [two] _ hP ⟨by simp, fun i => by
              rcases i with _ | i
              · exact hS3.out.2 2
              · exact ⟨by simp, fun k => by simp⟩⟩).mono ?_
            rintro e w9 ⟨rfl, hg⟩
            rw [hF8.out]
            exact hK.out _ _ rfl hg
          case o9 =>
            go_light
            intro a w' hgw
            obtain ⟨c5, d5⟩ := hold2 (Holds.kept0 hgw H5.out.drew)
            obtain ⟨c6, d6⟩ := hold2 (Holds.kept0 hgw H6.out.drew)
            obtain ⟨c8, d8⟩ := hold2 (Holds.kept0 hgw H8.out.drew)
            replace hgw := hid hgw
            simp only [outThen, preThen, slotIs, factAt, isv, List.getElem?_cons_zero, List.getElem?_cons_succ, Option.getD_some, forall_eq]
            intros
            rename_i hK
            replace hK := hid hK
            simp only [wantedAt]
            go_simp
            exact hK.out _ _ rfl (grown_refl _ _)
          case o10 =>
            go_light
            intro a w' hgw
            obtain ⟨c5, d5⟩ := hold2 (Holds.kept0 hgw H5.out.drew)
            obtain ⟨c6, d6⟩ := hold2 (Holds.kept0 hgw H6.out.drew)
            obtain ⟨c8, d8⟩ := hold2 (Holds.kept0 hgw H8.out.drew)
            replace hgw := hid hgw
            simp only [outThen, preThen, slotIs, factAt, isv, List.getElem?_cons_zero, List.getElem?_cons_succ, Option.getD_some, forall_eq]
            intros
            rename_i hK
            replace hK := hid hK
            simp only [wantedAt]
            go_simp
            exact hK.out _ _ rfl (grown_refl _ _)
          case o11 =>
            go_light
            intro a w' hgw
            obtain ⟨c5, d5⟩ := hold2 (Holds.kept0 hgw H5.out.drew)
            obtain ⟨c6, d6⟩ := hold2 (Holds.kept0 hgw H6.out.drew)
            obtain ⟨c8, d8⟩ := hold2 (Holds.kept0 hgw H8.out.drew)
            replace hgw := hid hgw
            simp only [outThen, preThen, slotIs, factAt, isv, List.getElem?_cons_zero, List.getElem?_cons_succ, Option.getD_some, forall_eq]
            intros
            rename_i hK
            replace hK := hid hK
            simp only [wantedAt]
            go_simp
            exact hK.out _ _ rfl (grown_refl _ _)
          case o12 =>
            go_light
            intro a w' hgw
            obtain ⟨c5, d5⟩ := hold2 (Holds.kept0 hgw H5.out.drew)
            obtain ⟨c6, d6⟩ := hold2 (Holds.kept0 hgw H6.out.drew)
            obtain ⟨c8, d8⟩ := hold2 (Holds.kept0 hgw H8.out.drew)
            replace hgw := hid hgw
            simp only [outThen, preThen, slotIs, factAt, isv, List.getElem?_cons_zero, List.getElem?_cons_succ, Option.getD_some, forall_eq]
            intros
            rename_i hK
            replace hK := hid hK
            simp only [wantedAt]
            go_simp
            exact hK.out _ _ rfl (grown_refl _ _)
          case o13 =>
            go_light
            intro a w' hgw
            obtain ⟨c5, d5⟩ := hold2 (Holds.kept0 hgw H5.out.drew)
            obtain ⟨c6, d6⟩ := hold2 (Holds.kept0 hgw H6.out.drew)
            obtain ⟨c8, d8⟩ := hold2 (Holds.kept0 hgw H8.out.drew)
            replace hgw := hid hgw
            simp only [outThen, preThen, slotIs, factAt, isv, List.getElem?_cons_zero, List.getElem?_cons_succ, Option.getD_some, forall_eq]
            intros
            rename_i hK
            replace hK := hid hK
            simp only [wantedAt]
            go_simp
            refine (sumNew_is _).mono ?_
            rintro e w9 ⟨rfl, hg⟩
            exact hK.out _ _ rfl hg
          case o14 =>
            go_light
            intro a w' hgw
            obtain ⟨c5, d5⟩ := hold2 (Holds.kept0 hgw H5.out.drew)
            obtain ⟨c6, d6⟩ := hold2 (Holds.kept0 hgw H6.out.drew)
            obtain ⟨c8, d8⟩ := hold2 (Holds.kept0 hgw H8.out.drew)
            replace hgw := hid hgw
            simp only [outThen, preThen, slotIs, factAt, isv, List.getElem?_cons_zero, List.getElem?_cons_succ, Option.getD_some, forall_eq]
            intros
            rename_i hK
            replace hK := hid hK
            simp only [wantedAt]
            go_simp
            exact hK.out _ _ rfl (grown_refl _ _)
          case o15 =>
            go_light
            intro a w' hgw
            obtain ⟨c5, d5⟩ := hold2 (Holds.kept0 hgw H5.out.drew)
            obtain ⟨c6, d6⟩ := hold2 (Holds.kept0 hgw H6.out.drew)
            obtain ⟨c8, d8⟩ := hold2 (Holds.kept0 hgw H8.out.drew)
            replace hgw := hid hgw
            simp only [outThen, preThen, slotIs, factAt, isv, List.getElem?_cons_zero, List.getElem?_cons_succ, Option.getD_some, forall_eq]
            intros
            rename_i hK
            replace hK := hid hK
            simp only [wantedAt]
            go_simp
            exact hK.out _ _ rfl (grown_refl _ _)
          case o16 =>
            go_light
            intro a w' hgw
            obtain ⟨c5, d5⟩ := hold2 (Holds.kept0 hgw H5.out.drew)
            obtain ⟨c6, d6⟩ := hold2 (Holds.kept0 hgw H6.out.drew)
            obtain ⟨c8, d8⟩ := hold2 (Holds.kept0 hgw H8.out.drew)
            replace hgw := hid hgw
            simp only [outThen, preThen, slotIs, factAt, isv, List.getElem?_cons_zero, List.getElem?_cons_succ, Option.getD_some, forall_eq]
            intros
            rename_i hK
            replace hK := hid hK
            simp only [wantedAt]
            go_simp
            exact hK.out _ _ rfl (grown_refl _ _)
          case o17 =>
            go_light
            intro a w' hgw
            obtain ⟨c5, d5⟩ := hold2 (Holds.kept0 hgw H5.out.drew)
            obtain ⟨c6, d6⟩ := hold2 (Holds.kept0 hgw H6.out.drew)
            obtain ⟨c8, d8⟩ := hold2 (Holds.kept0 hgw H8.out.drew)
            replace hgw := hid hgw
            simp only [outThen, preThen, slotIs, factAt, isv, List.getElem?_cons_zero, List.getElem?_cons_succ, Option.getD_some, forall_eq]
            intros
            rename_i hK
            replace hK := hid hK
            simp only [wantedAt]
            go_simp
            exact hK.out _ _ rfl (grown_refl _ _)
          case o18 =>
            go_light
            intro a w' hgw
            obtain ⟨c5, d5⟩ := hold2 (Holds.kept0 hgw H5.out.drew)
            obtain ⟨c6, d6⟩ := hold2 (Holds.kept0 hgw H6.out.drew)
            obtain ⟨c8, d8⟩ := hold2 (Holds.kept0 hgw H8.out.drew)
            replace hgw := hid hgw
            simp only [outThen, preThen, slotIs, factAt, isv, List.getElem?_cons_zero, List.getElem?_cons_succ, Option.getD_some, forall_eq]
            intros
            rename_i hK
            replace hK := hid hK
            simp only [wantedAt]
            go_simp
            exact hK.out _ _ rfl (grown_refl _ _)
          case o19 =>
            go_light
            intro a w' hgw
            obtain ⟨c5, d5⟩ := hold2 (Holds.kept0 hgw H5.out.drew)
            obtain ⟨c6, d6⟩ := hold2 (Holds.kept0 hgw H6.out.drew)
            obtain ⟨c8, d8⟩ := hold2 (Holds.kept0 hgw H8.out.drew)
            replace hgw := hid hgw
            simp only [outThen, preThen, slotIs, factAt, isv, List.getElem?_cons_zero, List.getElem?_cons_succ, Option.getD_some, forall_eq]
            intros
            rename_i hK
            replace hK := hid hK
            simp only [wantedAt]
            go_simp
            rw [hV.out]
            exact hK.out _ _ rfl (grown_refl _ _)
          case o20 =>
            go_light
            intro a w' hgw
            obtain ⟨c5, d5⟩ := hold2 (Holds.kept0 hgw H5.out.drew)
            obtain ⟨c6, d6⟩ := hold2 (Holds.kept0 hgw H6.out.drew)
            obtain ⟨c8, d8⟩ := hold2 (Holds.kept0 hgw H8.out.drew)
            replace hgw := hid hgw
            simp only [outThen, preThen, slotIs, factAt, isv, List.getElem?_cons_zero, List.getElem?_cons_succ, Option.getD_some, forall_eq]
            intros
            rename_i hK
            replace hK := hid hK
            simp only [wantedAt]
            go_simp
            exact hK.out _ _ ⟨_, rfl, Holds.new _ _ _⟩ (grown_alloc (grown_refl _ _) _)
          case o21 =>
            go_light
            intro a w' hgw
            obtain ⟨c5, d5⟩ := hold2 (Holds.kept0 hgw H5.out.drew)
            obtain ⟨c6, d6⟩ := hold2 (Holds.kept0 hgw H6.out.drew)
            obtain ⟨c8, d8⟩ := hold2 (Holds.kept0 hgw H8.out.drew)
            replace hgw := hid hgw
            simp only [outThen, preThen, slotIs, factAt, isv, List.getElem?_cons_zero, List.getElem?_cons_succ, Option.getD_some, forall_eq]
            intro _ _ _ _ _ _ _ v2 h2 hv2 hq K hK
            replace hK := hid hK
            obtain ⟨g9, rfl, h9⟩ := h2
            have hP : Arrs w' (some ⟨g9, 0, none⟩) [one, [], two] := Arrs.three (c2 := 0) (A2 := none) (by rw [hX.out, hX1.out] at h9; exact h9) (hA1.out.grown hgw.out) (Arr.nil _) (hA2.out.grown hgw.out)
            clear h9
            simp only [wantedAt]
            go_simp
            refine (sumFeed_is 1 0 _ 3 [one, [], two] _ hP hS3.out).mono ?_
            rintro e w9 ⟨rfl, hg⟩
            rw [hF21.out]
            exact hK.out _ _ rfl hg
          case o22 =>
            go_light
            intro a w' hgw
            obtain ⟨c5, d5⟩ := hold2 (Holds.kept0 hgw H5.out.drew)
            obtain ⟨c6, d6⟩ := hold2 (Holds.kept0 hgw H6.out.drew)
            obtain ⟨c8, d8⟩ := hold2 (Holds.kept0 hgw H8.out.drew)
            replace hgw := hid hgw
            simp only [outThen, preThen, slotIs, factAt, isv, List.getElem?_cons_zero, List.getElem?_cons_succ, Option.getD_some, forall_eq]
            intros
            rename_i hK
            replace hK := hid hK
            simp only [wantedAt]
            go_simp
            exact hK.out _ _ rfl (grown_refl _ _)
          case o23 =>
            go_light
            intro a w' hgw
            obtain ⟨c5, d5⟩ := hold2 (Holds.kept0 hgw H5.out.drew)
            obtain ⟨c6, d6⟩ := hold2 (Holds.kept0 hgw H6.out.drew)
            obtain ⟨c8, d8⟩ := hold2 (Holds.kept0 hgw H8.out.drew)
            replace hgw := hid hgw
            simp only [outThen, preThen, slotIs, factAt, isv, List.getElem?_cons_zero, List.getElem?_cons_succ, Option.getD_some, forall_eq]
            intros
            rename_i hK
            replace hK := hid hK
            simp only [wantedAt]
            go_simp
            exact hK.out _ _ rfl (grown_refl _ _)
          case o24 =>
            go_light
            intro a w' hgw
            obtain ⟨c5, d5⟩ := hold2 (Holds.kept0 hgw H5.out.drew)
            obtain ⟨c6, d6⟩ := hold2 (Holds.kept0 hgw H6.out.drew)
            obtain ⟨c8, d8⟩ := hold2 (Holds.kept0 hgw H8.out.drew)
            replace hgw := hid hgw
            simp only [outThen, preThen, slotIs, factAt, isv, List.getElem?_cons_zero, List.getElem?_cons_succ, Option.getD_some, forall_eq]
            intros
            rename_i hK
            replace hK := hid hK
            simp only [wantedAt]
            go_simp
            exact hK.out _ _ rfl (grown_refl _ _)
          case o25 =>
            go_light
            intro a w' hgw
            obtain ⟨c5, d5⟩ := hold2 (Holds.kept0 hgw H5.out.drew)
            obtain ⟨c6, d6⟩ := hold2 (Holds.kept0 hgw H6.out.drew)
            obtain ⟨c8, d8⟩ := hold2 (Holds.kept0 hgw H8.out.drew)
            replace hgw := hid hgw
            simp only [outThen, preThen, slotIs, factAt, isv, List.getElem?_cons_zero, List.getElem?_cons_succ, Option.getD_some, forall_eq]
            intros
            rename_i hK
            replace hK := hid hK
            simp only [wantedAt]
            go_simp
            exact hK.out _ _ rfl (grown_refl _ _)
          case o26 =>
            go_light
            intro a w' hgw
            obtain ⟨c5, d5⟩ := hold2 (Holds.kept0 hgw H5.out.drew)
            obtain ⟨c6, d6⟩ := hold2 (Holds.kept0 hgw H6.out.drew)
            obtain ⟨c8, d8⟩ := hold2 (Holds.kept0 hgw H8.out.drew)
            replace hgw := hid hgw
            simp only [outThen, preThen, slotIs, factAt, isv, List.getElem?_cons_zero, List.getElem?_cons_succ, Option.getD_some, forall_eq]
            intros
            rename_i hK
            replace hK := hid hK
            simp only [wantedAt]
            go_simp
            exact hK.out _ _ rfl (grown_refl _ _)
          case o27 =>
            go_light
            intro a w' hgw
            obtain ⟨c5, d5⟩ := hold2 (Holds.kept0 hgw H5.out.drew)
            obtain ⟨c6, d6⟩ := hold2 (Holds.kept0 hgw H6.out.drew)
            obtain ⟨c8, d8⟩ := hold2 (Holds.kept0 hgw H8.out.drew)
            replace hgw := hid hgw
            simp only [outThen, preThen, slotIs, factAt, isv, List.getElem?_cons_zero, List.getElem?_cons_succ, Option.getD_some, forall_eq]
            intros
            rename_i hK
            replace hK := hid hK
            simp only [wantedAt]
            go_simp
            exact hK.out _ _ rfl (grown_refl _ _)
          case o28 =>
            go_light
            intro a w' hgw
            obtain ⟨c5, d5⟩ := hold2 (Holds.kept0 hgw H5.out.drew)
            obtain ⟨c6, d6⟩ := hold2 (Holds.kept0 hgw H6.out.drew)
            obtain ⟨c8, d8⟩ := hold2 (Holds.kept0 hgw H8.out.drew)
            replace hgw := hid hgw
            simp only [outThen, preThen, slotIs, factAt, isv, List.getElem?_cons_zero, List.getElem?_cons_succ, Option.getD_some, forall_eq]
            intros
            rename_i hK
            replace hK := hid hK
            simp only [wantedAt]
            go_simp
            exact hK.out _ _ rfl (grown_refl _ _)
          case o29 =>
            go_light
            intro a w' hgw
            obtain ⟨c5, d5⟩ := hold2 (Holds.kept0 hgw H5.out.drew)
            obtain ⟨c6, d6⟩ := hold2 (Holds.kept0 hgw H6.out.drew)
            obtain ⟨c8, d8⟩ := hold2 (Holds.kept0 hgw H8.out.drew)
            replace hgw := hid hgw
            simp only [outThen, preThen, slotIs, factAt, isv, List.getElem?_cons_zero, List.getElem?_cons_succ, Option.getD_some, forall_eq]
            intros
            rename_i hK
            replace hK := hid hK
            simp only [wantedAt]
            go_simp
            exact hK.out _ _ rfl (grown_refl _ _)
          case o30 =>
            go_light
            intro a w' hgw
            obtain ⟨c5, d5⟩ := hold2 (Holds.kept0 hgw H5.out.drew)
            obtain ⟨c6, d6⟩ := hold2 (Holds.kept0 hgw H6.out.drew)
            obtain ⟨c8, d8⟩ := hold2 (Holds.kept0 hgw H8.out.drew)
            replace hgw := hid hgw
            simp only [outThen, preThen, slotIs, factAt, isv, List.getElem?_cons_zero, List.getElem?_cons_succ, Option.getD_some, forall_eq]
            intros
            rename_i hK
            replace hK := hid hK
            simp only [wantedAt]
            go_simp
            exact hK.out _ _ rfl (grown_refl _ _)
          case o31 =>
            go_light
            intro a w' hgw
            obtain ⟨c5, d5⟩ := hold2 (Holds.kept0 hgw H5.out.drew)
            obtain ⟨c6, d6⟩ := hold2 (Holds.kept0 hgw H6.out.drew)
            obtain ⟨c8, d8⟩ := hold2 (Holds.kept0 hgw H8.out.drew)
            replace hgw := hid hgw
            simp only [outThen, preThen, slotIs, factAt, isv, List.getElem?_cons_zero, List.getElem?_cons_succ, Option.getD_some, forall_eq]
            intros
            rename_i hK
            replace hK := hid hK
            simp only [wantedAt]
            go_simp
            exact hK.out _ _ rfl (grown_refl _ _)
          case o32 =>
            go_light
            intro a w' hgw
            obtain ⟨c5, d5⟩ := hold2 (Holds.kept0 hgw H5.out.drew)
            obtain ⟨c6, d6⟩ := hold2 (Holds.kept0 hgw H6.out.drew)
            obtain ⟨c8, d8⟩ := hold2 (Holds.kept0 hgw H8.out.drew)
            replace hgw := hid hgw
            simp only [outThen, preThen, slotIs, factAt, isv, List.getElem?_cons_zero, List.getElem?_cons_succ, Option.getD_some, forall_eq]
            intros
            rename_i hK
            replace hK := hid hK
            simp only [wantedAt]
            go_simp
            exact hK.out _ _ rfl (grown_refl _ _)
          case o33 =>
            go_light
            intro a w' hgw
            obtain ⟨c5, d5⟩ := hold2 (Holds.kept0 hgw H5.out.drew)
            obtain ⟨c6, d6⟩ := hold2 (Holds.kept0 hgw H6.out.drew)
            obtain ⟨c8, d8⟩ := hold2 (Holds.kept0 hgw H8.out.drew)
            replace hgw := hid hgw
            simp only [outThen, preThen, slotIs, factAt, isv, List.getElem?_cons_zero, List.getElem?_cons_succ, Option.getD_some, forall_eq]
            intros
            rename_i hK
            replace hK := hid hK
            simp only [wantedAt]
            go_simp
            exact hK.out _ _ rfl (grown_refl _ _)
          case o34 =>
            go_light
            intro a w' hgw
            obtain ⟨c5, d5⟩ := hold2 (Holds.kept0 hgw H5.out.drew)
            obtain ⟨c6, d6⟩ := hold2 (Holds.kept0 hgw H6.out.drew)
            obtain ⟨c8, d8⟩ := hold2 (Holds.kept0 hgw H8.out.drew)
            replace hgw := hid hgw
            simp only [outThen, preThen, slotIs, factAt, isv, List.getElem?_cons_zero, List.getElem?_cons_succ, Option.getD_some, forall_eq]
            intros
            rename_i hK
            replace hK := hid hK
            simp only [wantedAt]
            go_simp
            exact hK.out _ _ rfl (grown_refl _ _)
          case o35 =>
            go_light
            intro a w' hgw
            obtain ⟨c5, d5⟩ := hold2 (Holds.kept0 hgw H5.out.drew)
            obtain ⟨c6, d6⟩ := hold2 (Holds.kept0 hgw H6.out.drew)
            obtain ⟨c8, d8⟩ := hold2 (Holds.kept0 hgw H8.out.drew)
            replace hgw := hid hgw
            simp only [outThen, preThen, slotIs, factAt, isv, List.getElem?_cons_zero, List.getElem?_cons_succ, Option.getD_some, forall_eq]
            intros
            rename_i hK
            replace hK := hid hK
            simp only [wantedAt]
            go_simp
            exact hK.out _ _ rfl (grown_refl _ _)
          case o36 =>
            go_light
            intro a w' hgw
            obtain ⟨c5, d5⟩ := hold2 (Holds.kept0 hgw H5.out.drew)
            obtain ⟨c6, d6⟩ := hold2 (Holds.kept0 hgw H6.out.drew)
            obtain ⟨c8, d8⟩ := hold2 (Holds.kept0 hgw H8.out.drew)
            replace hgw := hid hgw
            simp only [outThen, preThen, slotIs, factAt, isv, List.getElem?_cons_zero, List.getElem?_cons_succ, Option.getD_some, forall_eq]
            intros
            rename_i hK
            replace hK := hid hK
            simp only [wantedAt]
            go_simp
            exact hK.out _ _ ⟨_, rfl, Holds.new _ _ _⟩ (grown_alloc (grown_refl _ _) _)
          case o37 =>
            go_light
            intro a w' hgw
            obtain ⟨c5, d5⟩ := hold2 (Holds.kept0 hgw H5.out.drew)
            obtain ⟨c6, d6⟩ := hold2 (Holds.kept0 hgw H6.out.drew)
            obtain ⟨c8, d8⟩ := hold2 (Holds.kept0 hgw H8.out.drew)
            replace hgw := hid hgw
            simp only [outThen, preThen, slotIs, factAt, isv, List.getElem?_cons_zero, List.getElem?_cons_succ, Option.getD_some, forall_eq]
            intro _ _ _ _ _ _ v2 h2 hv2 hq K hK
            replace hK := hid hK
            obtain ⟨g9, rfl, h9⟩ := h2
            have hP : Arrs w' (some ⟨g9, 0, none⟩) [bs] := Arrs.one h9 (hAA.out.grown hgw.out)
            clear h9
            simp only [wantedAt]
            go_simp
            refine (sumOf_is _ 1 [bs] _ hP hSb.out).mono ?_
            rintro e w9 ⟨rfl, hg⟩
            rw [hO.out]
            exact hK.out _ _ rfl hg
          case o38 =>
            go_light
            intro a w' hgw
            obtain ⟨c5, d5⟩ := hold2 (Holds.kept0 hgw H5.out.drew)
            obtain ⟨c6, d6⟩ := hold2 (Holds.kept0 hgw H6.out.drew)
            obtain ⟨c8, d8⟩ := hold2 (Holds.kept0 hgw H8.out.drew)
            replace hgw := hid hgw
            simp only [outThen, preThen, slotIs, factAt, isv, List.getElem?_cons_zero, List.getElem?_cons_succ, Option.getD_some, forall_eq]
            intros
            rename_i hK
            replace hK := hid hK
            simp only [wantedAt]
            go_simp
            exact hK.out _ _ rfl (grown_refl _ _)
          case o39 =>
            go_light
            intro a w' hgw
            obtain ⟨c5, d5⟩ := hold2 (Holds.kept0 hgw H5.out.drew)
            obtain ⟨c6, d6⟩ := hold2 (Holds.kept0 hgw H6.out.drew)
            obtain ⟨c8, d8⟩ := hold2 (Holds.kept0 hgw H8.out.drew)
            replace hgw := hid hgw
            simp only [outThen, preThen, slotIs, factAt, isv, List.getElem?_cons_zero, List.getElem?_cons_succ, Option.getD_some, forall_eq]
            intros
            rename_i hK
            replace hK := hid hK
            simp only [wantedAt]
            go_simp
            refine (sumValue_is p q _).mono ?_
            rintro e w9 ⟨rfl, hg⟩
            exact hK.out _ _ rfl hg
          case o40 =>
            go_light
            intro a w' hgw
            obtain ⟨c5, d5⟩ := hold2 (Holds.kept0 hgw H5.out.drew)
            obtain ⟨c6, d6⟩ := hold2 (Holds.kept0 hgw H6.out.drew)
            obtain ⟨c8, d8⟩ := hold2 (Holds.kept0 hgw H8.out.drew)
            replace hgw := hid hgw
            simp only [outThen, preThen, slotIs, factAt, isv, List.getElem?_cons_zero, List.getElem?_cons_succ, Option.getD_some, forall_eq]
            intros
            rename_i hK
            replace hK := hid hK
            simp only [wantedAt]
            go_simp
            exact hK.out _ _ rfl (grown_refl _ _)
          case o41 =>
            go_light
            intro a w' hgw
            obtain ⟨c5, d5⟩ := hold2 (Holds.kept0 hgw H5.out.drew)
            obtain ⟨c6, d6⟩ := hold2 (Holds.kept0 hgw H6.out.drew)
            obtain ⟨c8, d8⟩ := hold2 (Holds.kept0 hgw H8.out.drew)
            replace hgw := hid hgw
            simp only [outThen, preThen, slotIs, factAt, isv, List.getElem?_cons_zero, List.getElem?_cons_succ, Option.getD_some, forall_eq]
            intros
            rename_i hK
            replace hK := hid hK
            simp only [wantedAt]
            go_simp
            exact hK.out _ _ rfl (grown_refl _ _)
          case o42 =>
            go_light
            intro a w' hgw
            obtain ⟨c5, d5⟩ := hold2 (Holds.kept0 hgw H5.out.drew)
            obtain ⟨c6, d6⟩ := hold2 (Holds.kept0 hgw H6.out.drew)
            obtain ⟨c8, d8⟩ := hold2 (Holds.kept0 hgw H8.out.drew)
            replace hgw := hid hgw
            simp only [outThen, preThen, slotIs, factAt, isv, List.getElem?_cons_zero, List.getElem?_cons_succ, Option.getD_some, forall_eq]
            intros
            rename_i hK
            replace hK := hid hK
            simp only [wantedAt]
            go_simp
            exact hK.out _ _ rfl (grown_refl _ _)
          case o43 =>
            go_light
            intro a w' hgw
            obtain ⟨c5, d5⟩ := hold2 (Holds.kept0 hgw H5.out.drew)
            obtain ⟨c6, d6⟩ := hold2 (Holds.kept0 hgw H6.out.drew)
            obtain ⟨c8, d8⟩ := hold2 (Holds.kept0 hgw H8.out.drew)
            replace hgw := hid hgw
            simp only [outThen, preThen, slotIs, factAt, isv, List.getElem?_cons_zero, List.getElem?_cons_succ, Option.getD_some, forall_eq]
            intros
            rename_i hK
            replace hK := hid hK
            simp only [wantedAt]
            go_simp
            refine (wakes_true _).mono ?_
            rintro e w9 ⟨rfl, hg⟩
            exact hK.out _ _ rfl hg
          case o44 =>
            go_light
            intro a w' hgw
            obtain ⟨c5, d5⟩ := hold2 (Holds.kept0 hgw H5.out.drew)
            obtain ⟨c6, d6⟩ := hold2 (Holds.kept0 hgw H6.out.drew)
            obtain ⟨c8, d8⟩ := hold2 (Holds.kept0 hgw H8.out.drew)
            replace hgw := hid hgw
            simp only [outThen, preThen, slotIs, factAt, isv, List.getElem?_cons_zero, List.getElem?_cons_succ, Option.getD_some, forall_eq]
            intros
            rename_i hK
            replace hK := hid hK
            simp only [wantedAt]
            go_simp
            exact hK.out _ _ rfl (grown_refl _ _)
          case o45 =>
            go_light
            intro a w' hgw
            obtain ⟨c5, d5⟩ := hold2 (Holds.kept0 hgw H5.out.drew)
            obtain ⟨c6, d6⟩ := hold2 (Holds.kept0 hgw H6.out.drew)
            obtain ⟨c8, d8⟩ := hold2 (Holds.kept0 hgw H8.out.drew)
            replace hgw := hid hgw
            simp only [outThen, preThen, slotIs, factAt, isv, List.getElem?_cons_zero, List.getElem?_cons_succ, Option.getD_some, forall_eq]
            intros
            rename_i hK
            replace hK := hid hK
            simp only [wantedAt]
            go_simp
            exact hK.out _ _ rfl (grown_refl _ _)
        case st =>
          repeat (first | exact AllStable.nil | (refine AllStable.cons ?_ ?_; focus (first | exact stable_isv _ | exact stable_isBytes _ | exact stable_isRow1 _ | exact stable_isRowOf _ _ | exact stable_isVar _ | exact stable_isVarOf _ _ _)))
        case fin =>
          intro w8 hgw
          simp only [finalIn, factAt, isv, List.getElem?_cons_zero, List.getElem?_cons_succ, Option.getD_some, forall_eq, slotIs, subj]
          rintro v1 ⟨g11, rfl, _⟩ v2 ⟨g12, rfl, _⟩ v3 ⟨g13, rfl, _⟩
          simp only [Act.put, List.setIfInBounds_toArray, List.set_cons_zero, List.set_cons_succ]
          replace hG7 := hid (grown_trans (grown_drew hG7.out) hgw)
          clear hgw
          go_wp2_with fail
          go_ret
          exact ⟨rfl, hG7.out⟩

/-- **The law SumParts, walked.** -/
theorem parts_walk (A : Option Addr) (c : Nat) (at_ : Int) (bs : List Int) (w : World) (hc : bs.length ≤ c) (hc2 : c ≤ maxLen) (hb : Bytes bs) (hA : Arr w .u8 A bs) :
    Calls Try.prog 4 #[.slice A bs.length c, .int .i64 at_] w fun e w' => e = .returned (.bool true) ∧ w.grownBy w' none := by
  by_cases h : 3000 < bs.length
  · exact parts_great A bs.length c at_ w h
  · exact parts_small A c at_ bs w (by omega) hc hc2 hb hA

end Go.Proofs.Ytdlfphdgjonbdaa
