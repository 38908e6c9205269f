/- The walk of the law PackedForm: it returns true at every input. -/
import Derived.Test.YtghnbfphhmgcpaaPFront
import Derived.Test.YtghnbfphhmgcpaaCame
import Derived.Deep.CutRange
set_option linter.unusedSimpArgs false
set_option linter.unusedVariables false
namespace Go.Proofs.Ytghnbfphhmgcpaa
open Go.RowKit Plain PlainSum PlainPacked

theorem summed_bytes {b : List Int} (hb : Bytes b) : Bytes (summed b) := bytes_app hb (bytes_of (four_byte _ (value_bd _)))

/-- What is told of bytes between, with the right sum. -/
theorem form_cases (z : List Int) (hb : Bytes z) (hl : z.length ≤ 600) :
    (z = [] ∧ (got (summed (magic ++ [0] ++ z))).2.2 = 10) ∨ (z ≠ [] ∧ ((got (summed (magic ++ [0] ++ z))).2.2 = 12 ∨ (got (summed (magic ++ [0] ++ z))).2.2 = 43 ∨
      ((got (summed (magic ++ [0] ++ z))).2.2 = 0 ∧ put false (got (summed (magic ++ [0] ++ z))).2.1 = summed (magic ++ [0] ++ z) ∧ (got (summed (magic ++ [0] ++ z))).2.1.length ≤ 3000 ∧ (got (summed (magic ++ [0] ++ z))).2.1.flatten.length ≤ 3000 ∧ AllBytes (got (summed (magic ++ [0] ++ z))).2.1))) := by
  by_cases hz : z = []
  · subst hz
    have : headErr (summed (magic ++ [0] ++ [])) = 10 := by unfold headErr; rw [if_pos (by rw [len_summed]; decide)]
    exact .inl ⟨rfl, by rw [got_err _ (by rw [this]; decide)]; exact this⟩
  · refine .inr ⟨hz, ?_⟩
    have hg := got_summed false z hz
    have hbb : Bytes (summed (magic ++ [0] ++ z)) := summed_bytes (bytes_app (bytes_app magic_bytes (bytes_one (by decide))) hb)
    have hbl : (summed (magic ++ [0] ++ z)).length ≤ 3000 := by rw [len_summed]; simp [magic]; omega
    change got (summed (magic ++ [0] ++ z)) = _ at hg
    cases ha : getAll z with
    | none => rw [ha] at hg; left; rw [hg]
    | some x =>
      obtain ⟨ws, r⟩ := x
      rw [ha] at hg
      simp only at hg
      by_cases hr : r = []
      · rw [if_pos hr] at hg
        obtain ⟨h1, h2, h3, h4⟩ := got_good _ _ _ hbb hbl hg
        right; right
        rw [hg]
        exact ⟨rfl, h1, h2, h3, h4⟩
      · rw [if_neg hr] at hg; right; left; rw [hg]

theorem row5 (w : World) : (w.alloc (.cells #[.int .u8 84, .int .u8 83, .int .u8 76, .int .u8 49, .int .u8 0] 5)).ownsRow w.heap.size 5 1 (.slice (some ⟨w.heap.size, 0, none⟩) 5 5) (magic ++ [0]).length ((magic ++ [0]).map (Value.int .u8)) :=
  ⟨by simp [magic], .inr ⟨w.heap.size, 5, _, rfl, Nat.le_refl _, heap_alloc_new w _, Nat.le_refl _, by unfold maxLen; omega, by simp, by simp [magic]⟩⟩

set_option maxRecDepth 100000 in
set_option maxHeartbeats 8000000 in
theorem pform_walk (f : Bool) (A P M : Option Addr) (c1 c2 c3 : Nat) (less : Int) (z mo : List Int) (xss : List (List Int)) (w : World) (hz : Bytes z) (hmo : Bytes mo) (hX : AllBytes xss) (hA : Arr w .u8 A z) (hM : Arr w .u8 M mo) (hP : Arrs w P xss)
    (hl : xss.length ≤ 9223372036854775807) (hle : -9223372036854775808 ≤ less ∧ less ≤ 9223372036854775807) :
    Calls Try.prog 6 #[.bool f, .slice A z.length c1, .slice P xss.length c2, .slice M mo.length c3, .int .i64 less] w fun e w' => e = .returned (.bool true) ∧ w.grownBy w' none := by
  obtain ⟨i0, hi0, hz0, hz1, hz2⟩ := info_parts Try.info5
  obtain ⟨hle0, hle1⟩ := hle
  replace hP := hid hP
  replace hX := hid hX
  replace hA := hid hA
  replace hM := hid hM
  replace hz := hid hz
  replace hmo := hid hmo
  go_enter Try.func6, Try.ntmps6
  go_wp2_with fail
  refine (greatTexts_is P c2 xss w hP.out hl).mono ?_
  rintro e w1 ⟨rfl, rfl | ⟨rfl, h80, h3000⟩⟩
  · go_wp2_with fail
    refine (pwakes_true _).mono ?_
    rintro e w' ⟨rfl, hg⟩
    go_wp2_with fail
    go_ret
    exact ⟨rfl, hg⟩
  rcases Nat.lt_or_ge 600 z.length with h6 | h6
  · have d6 : (600 : Int) < (z.length : Int) := by omega
    go_wp2_with fail
    refine (pwakes_true _).mono ?_
    rintro e w' ⟨rfl, hg⟩
    go_wp2_with fail
    go_ret
    exact ⟨rfl, hg⟩
  have d6 : ¬ (600 : Int) < (z.length : Int) := by omega
  rcases Nat.lt_or_ge 30 mo.length with h3 | h3
  · have d3 : (30 : Int) < (mo.length : Int) := by omega
    go_wp2_with fail
    refine (pwakes_true _).mono ?_
    rintro e w' ⟨rfl, hg⟩
    go_wp2_with fail
    go_ret
    exact ⟨rfl, hg⟩
  have d3 : ¬ (30 : Int) < (mo.length : Int) := by omega
  by_cases hx0 : xss = []
  · have e0 : ((xss.length : Int) == 0) = true := by rw [hx0]; rfl
    go_wp2_with fail
    refine (pwakes_true _).mono ?_
    rintro e w' ⟨rfl, hg⟩
    go_wp2_with fail
    go_ret
    exact ⟨rfl, hg⟩
  have hxp := List.length_pos_iff.2 hx0
  have e0 : ((xss.length : Int) == 0) = false := by rw [beq_eq_false_iff_ne]; omega
  clear hx0
  have hrow5 := hid (row5 w)
  have hA0 := hid (hA.out.grown (World.grownBy_alloc w (.cells #[.int .u8 84, .int .u8 83, .int .u8 76, .int .u8 49, .int .u8 0] 5) none))
  have hcases := hid (form_cases z hz.out h6)
  have hpre : Hid (Bytes (magic ++ [0] ++ z)) := hid (bytes_app (bytes_app magic_bytes (bytes_one (by decide))) hz.out)
  have hprel : (magic ++ [0] ++ z).length ≤ 605 := by simp [magic]; omega
  have hm0 : (magic ++ [0] : List Int).length ≤ 5 := by decide
  generalize magic ++ [(0 : Int)] = mg at hrow5 hcases hpre hprel hm0
  go_wp2_with (at_builtin; refine wpList_append_all rfl _ _ 23 rfl w.heap.size 5 i0 .u8 1 Try.underlying23 hi0 hz0 hz1 hz2 _ mg z _ _ _ _ hrow5.out hA0.out rfl rfl rfl (by decide) (by omega) (by simp) ?_; intro v1 w1 hrow1 hB1; obtain ⟨pz, hpz⟩ : ∃ pz, mg ++ z = pz := ⟨_, rfl⟩; rw [hpz] at hrow1 hcases hpre hprel; obtain ⟨A1, cc1, rfl, hcc1, hdd1⟩ := own_form hrow1)
  have hB1' := ((Below.refl _ w).alloc (Nat.le_refl _) (.cells #[.int .u8 84, .int .u8 83, .int .u8 76, .int .u8 49, .int .u8 0] 5)).trans hB1
  have hG1 := hid (below_grown hB1')
  have hA1 := hid (Arr.of_own (k := .u8) hrow1)
  clear hrow1 hB1 hB1' hrow5 hA0 hm0 hpz hcc1 hdd1
  refine (refSummed_is A1 cc1 pz w1 (by omega) hpre.out hA1.out).mono ?_
  intro e w2 ho
  obtain ⟨B, cb, rfl, hcb, hcm, hBb, hg2⟩ := ho.arr
  have hG2 := hid (grown_trans hG1.out hg2)
  have hbb := hid (summed_bytes hpre.out)
  have hbl : (summed pz).length ≤ 700 := by rw [len_summed]; omega
  clear ho hg2 hA1 hpre hprel
  generalize summed pz = b at hcb hBb hbb hbl hcases ⊢
  replace hBb := hid hBb
  go_wp2_with fail
  refine (packTake_is B cb b w2 (by omega) hcb hcm hbb.out hBb.out).mono ?_
  rintro e w4 ⟨A4, c4, l, rfl, hlm, hrows, hg4⟩
  have hR4 := hrows.arrs.2
  rw [hlm] at hR4
  have hll : l.length = (got b).2.1.length := by rw [← hlm, List.length_map]
  rw [hll]
  have hG4 := hid (grown_trans hG2.out hg4)
  have hBb4 := hid (hBb.out.grown hg4)
  clear hrows hg4 hlm hll hBb
  generalize got b = G at hR4 hcases ⊢
  obtain ⟨y, ws, er⟩ := G
  simp only at hR4 hcases ⊢
  replace hR4 := hid hR4
  replace hcb := hid hcb
  replace hcm := hid hcm
  rename Hid (Arr w4 _ B b) => hBb
  go_upto_region 5 with fail
  go_cut [86] from 51 to 85 (fun u wx => u = .bool false ∧ w.grownBy wx none)
  case first =>
    rcases hcases.out with ⟨hze, rfl⟩ | ⟨hze, rfl | rfl | ⟨rfl, hput, hw1, hw2, hw3⟩⟩
    · have q1 : ¬ (0 : Int) < (z.length : Int) := by rw [hze]; decide
      have q2 : ((z.length : Int) == 0) = true := by rw [hze]; rfl
      replace q1 := hid q1
      replace q2 := hid q2
      clear hcases hze
      apply wp_region_each [isv _, isv _, isv (.bool false), isv _, isv _, isv _, isv _, isv _, isv _, isv _, isv _, isv _, isv _, isv _, isv _, isv _, isv _, isv _, isv _, isv _, isv _, isv _, isv _, isv _, isv _, isv _, isv _, isv _, isv _, isv _, isv (.bool true), isv _, isv _, isv _, isv _, isv _]
        147 [some 51, some 52, some 53, some 54, some 55, some 56, some 57, some 58, some 59, some 60, some 61, some 62, some 63, some 64, some 65, some 66, some 67, some 68, some 69, some 70, some 71, some 72, some 73, some 74, some 75, some 76, some 77, some 78, some 79, some 80, some 81, some 82, some 83, some 84, some 85, some 86]
        [some 51, some 52, some 53, some 54, some 55, some 56, some 57, some 58, some 59, some 60, some 61, some 62, some 63, some 64, some 65, some 66, some 67, some 68, some 69, some 70, some 71, some 72, some 73, some 74, some 75, some 76, some 77, some 78, some 79, some 80, some 81, some 82, some 83, some 84, some 85, some 86]
        [[], [0], [1], [2], [3], [4, 3], [3, 5], [6], [7], [8, 7], [7, 9], [10], [11], [12, 11], [11, 13], [14], [15], [16, 15], [17, 15], [18], [19, 18], [20, 18], [18], [22, 18], [21, 23, 18], [18, 24, 15], [15, 25], [26], [27], [28, 27], [29, 27], [30, 27], [31], [32, 31], [31, 33, 27], [27, 34]]
        [(1, .slice A z.length c1), (11, .slice B b.length cb), (13, .slice A4 ws.length c4), (14, .int .i64 10)] (by kernel_rfl) rfl (by kernel_rfl) rfl rfl (by kernel_rfl) (OutsOk.cons rfl rfl (OutsOk.cons rfl rfl (OutsOk.cons rfl rfl (OutsOk.cons rfl rfl OutsOk.nil)))) ?st ?ob ?fin
      case ob =>
        refine Obs.consv rfl ?o0 (Obs.consv rfl ?o1 (Obs.consv rfl ?o2 (Obs.consv rfl ?o3 (Obs.consv rfl ?o4 (Obs.consv rfl ?o5 (Obs.consv rfl ?o6 (Obs.consv rfl ?o7 (Obs.consv rfl ?o8 (Obs.consv rfl ?o9 (Obs.consv rfl ?o10 (Obs.consv rfl ?o11 (Obs.consv rfl ?o12 (Obs.consv rfl ?o13 (Obs.consv rfl ?o14 (Obs.consv rfl ?o15 (Obs.consv rfl ?o16 (Obs.consv rfl ?o17 (Obs.consv rfl ?o18 (Obs.consv rfl ?o19 (Obs.consv rfl ?o20 (Obs.consv rfl ?o21 (Obs.consv rfl ?o22 (Obs.consv rfl ?o23 (Obs.consv rfl ?o24 (Obs.consv rfl ?o25 (Obs.consv rfl ?o26 (Obs.consv rfl ?o27 (Obs.consv rfl ?o28 (Obs.consv rfl ?o29 (Obs.consv rfl ?o30 (Obs.consv rfl ?o31 (Obs.consv rfl ?o32 (Obs.consv rfl ?o33 (Obs.consv rfl ?o34 (Obs.consv rfl ?o35 Obs.nil)))))))))))))))))))))))))))))))))))
        case o0 =>
          go_light
          intro ac w' hgw
          replace hgw := hid hgw
          simp only [outThen, preThen, slotIs, factAt, isv, List.getElem?_cons_zero, List.getElem?_cons_succ, Option.getD_some, forall_eq]
          intros
          rename_i hK
          replace hK := hid hK
          simp only [wantedAt]
          go_simp
          exact hK.out _ _ rfl (grown_refl _ _)
        case o1 =>
          go_light
          intro ac w' hgw
          replace hgw := hid hgw
          simp only [outThen, preThen, slotIs, factAt, isv, List.getElem?_cons_zero, List.getElem?_cons_succ, Option.getD_some, forall_eq]
          intros
          rename_i hK
          replace hK := hid hK
          simp only [wantedAt]
          go_simp
          exact hK.out _ _ rfl (grown_refl _ _)
        case o2 =>
          go_light
          intro ac w' hgw
          replace hgw := hid hgw
          simp only [outThen, preThen, slotIs, factAt, isv, List.getElem?_cons_zero, List.getElem?_cons_succ, Option.getD_some, forall_eq]
          intros
          rename_i hK
          replace hK := hid hK
          simp only [wantedAt]
          go_simp
          exact hK.out _ _ (by simpa using q1.out) (grown_refl _ _)
        case o3 =>
          go_light
          intro ac w' hgw
          replace hgw := hid hgw
          simp only [outThen, preThen, slotIs, factAt, isv, List.getElem?_cons_zero, List.getElem?_cons_succ, Option.getD_some, forall_eq]
          intros
          rename_i hK
          replace hK := hid hK
          simp only [wantedAt]
          go_simp
          exact hK.out _ _ rfl (grown_refl _ _)
        case o4 =>
          go_light
          intro ac w' hgw
          replace hgw := hid hgw
          simp only [outThen, preThen, slotIs, factAt, isv, List.getElem?_cons_zero, List.getElem?_cons_succ, Option.getD_some, forall_eq]
          intros
          rename_i hK
          replace hK := hid hK
          simp only [wantedAt]
          go_simp
          exact hK.out _ _ rfl (grown_refl _ _)
        case o5 =>
          go_light
          intro ac w' hgw
          replace hgw := hid hgw
          simp only [outThen, preThen, slotIs, factAt, isv, List.getElem?_cons_zero, List.getElem?_cons_succ, Option.getD_some, forall_eq]
          intros
          rename_i hK
          replace hK := hid hK
          simp only [wantedAt]
          go_simp
          exact hK.out _ _ rfl (grown_refl _ _)
        case o6 =>
          go_light
          intro ac w' hgw
          replace hgw := hid hgw
          simp only [outThen, preThen, slotIs, factAt, isv, List.getElem?_cons_zero, List.getElem?_cons_succ, Option.getD_some, forall_eq]
          intros
          rename_i hK
          replace hK := hid hK
          simp only [wantedAt]
          go_simp
          exact hK.out _ _ rfl (grown_refl _ _)
        case o7 =>
          go_light
          intro ac w' hgw
          replace hgw := hid hgw
          simp only [outThen, preThen, slotIs, factAt, isv, List.getElem?_cons_zero, List.getElem?_cons_succ, Option.getD_some, forall_eq]
          intros
          rename_i hK
          replace hK := hid hK
          simp only [wantedAt]
          go_simp
          exact hK.out _ _ rfl (grown_refl _ _)
        case o8 =>
          go_light
          intro ac w' hgw
          replace hgw := hid hgw
          simp only [outThen, preThen, slotIs, factAt, isv, List.getElem?_cons_zero, List.getElem?_cons_succ, Option.getD_some, forall_eq]
          intros
          rename_i hK
          replace hK := hid hK
          simp only [wantedAt]
          go_simp
          exact hK.out _ _ rfl (grown_refl _ _)
        case o9 =>
          go_light
          intro ac w' hgw
          replace hgw := hid hgw
          simp only [outThen, preThen, slotIs, factAt, isv, List.getElem?_cons_zero, List.getElem?_cons_succ, Option.getD_some, forall_eq]
          intros
          rename_i hK
          replace hK := hid hK
          simp only [wantedAt]
          go_simp
          exact hK.out _ _ rfl (grown_refl _ _)
        case o10 =>
          go_light
          intro ac w' hgw
          replace hgw := hid hgw
          simp only [outThen, preThen, slotIs, factAt, isv, List.getElem?_cons_zero, List.getElem?_cons_succ, Option.getD_some, forall_eq]
          intros
          rename_i hK
          replace hK := hid hK
          simp only [wantedAt]
          go_simp
          exact hK.out _ _ rfl (grown_refl _ _)
        case o11 =>
          go_light
          intro ac w' hgw
          replace hgw := hid hgw
          simp only [outThen, preThen, slotIs, factAt, isv, List.getElem?_cons_zero, List.getElem?_cons_succ, Option.getD_some, forall_eq]
          intros
          rename_i hK
          replace hK := hid hK
          simp only [wantedAt]
          go_simp
          exact hK.out _ _ rfl (grown_refl _ _)
        case o12 =>
          go_light
          intro ac w' hgw
          replace hgw := hid hgw
          simp only [outThen, preThen, slotIs, factAt, isv, List.getElem?_cons_zero, List.getElem?_cons_succ, Option.getD_some, forall_eq]
          intros
          rename_i hK
          replace hK := hid hK
          simp only [wantedAt]
          go_simp
          exact hK.out _ _ rfl (grown_refl _ _)
        case o13 =>
          go_light
          intro ac w' hgw
          replace hgw := hid hgw
          simp only [outThen, preThen, slotIs, factAt, isv, List.getElem?_cons_zero, List.getElem?_cons_succ, Option.getD_some, forall_eq]
          intros
          rename_i hK
          replace hK := hid hK
          simp only [wantedAt]
          go_simp
          exact hK.out _ _ rfl (grown_refl _ _)
        case o14 =>
          go_light
          intro ac w' hgw
          replace hgw := hid hgw
          simp only [outThen, preThen, slotIs, factAt, isv, List.getElem?_cons_zero, List.getElem?_cons_succ, Option.getD_some, forall_eq]
          intros
          rename_i hK
          replace hK := hid hK
          simp only [wantedAt]
          go_simp
          exact hK.out _ _ rfl (grown_refl _ _)
        case o15 =>
          go_light
          intro ac w' hgw
          replace hgw := hid hgw
          simp only [outThen, preThen, slotIs, factAt, isv, List.getElem?_cons_zero, List.getElem?_cons_succ, Option.getD_some, forall_eq]
          intros
          rename_i hK
          replace hK := hid hK
          simp only [wantedAt]
          go_simp
          exact hK.out _ _ rfl (grown_refl _ _)
        case o16 =>
          go_light
          intro ac w' hgw
          replace hgw := hid hgw
          simp only [outThen, preThen, slotIs, factAt, isv, List.getElem?_cons_zero, List.getElem?_cons_succ, Option.getD_some, forall_eq]
          intros
          rename_i hK
          replace hK := hid hK
          simp only [wantedAt]
          go_simp
          exact hK.out _ _ rfl (grown_refl _ _)
        case o17 =>
          go_light
          intro ac w' hgw
          replace hgw := hid hgw
          simp only [outThen, preThen, slotIs, factAt, isv, List.getElem?_cons_zero, List.getElem?_cons_succ, Option.getD_some, forall_eq]
          intros
          rename_i hK
          replace hK := hid hK
          simp only [wantedAt]
          go_simp
          exact hK.out _ _ rfl (grown_refl _ _)
        case o18 =>
          go_light
          intro ac w' hgw
          replace hgw := hid hgw
          simp only [outThen, preThen, slotIs, factAt, isv, List.getElem?_cons_zero, List.getElem?_cons_succ, Option.getD_some, forall_eq]
          intros
          rename_i hK
          replace hK := hid hK
          simp only [wantedAt]
          go_simp
          exact hK.out _ _ rfl (grown_refl _ _)
        case o19 =>
          go_light
          intro ac w' hgw
          replace hgw := hid hgw
          simp only [outThen, preThen, slotIs, factAt, isv, List.getElem?_cons_zero, List.getElem?_cons_succ, Option.getD_some, forall_eq]
          intros
          rename_i hK
          replace hK := hid hK
          simp only [wantedAt]
          go_simp
          exact hK.out _ _ rfl (grown_refl _ _)
        case o20 =>
          go_light
          intro ac w' hgw
          replace hgw := hid hgw
          simp only [outThen, preThen, slotIs, factAt, isv, List.getElem?_cons_zero, List.getElem?_cons_succ, Option.getD_some, forall_eq]
          intros
          rename_i hK
          replace hK := hid hK
          simp only [wantedAt]
          go_simp
          exact hK.out _ _ rfl (grown_refl _ _)
        case o21 =>
          go_light
          intro ac w' hgw
          replace hgw := hid hgw
          simp only [outThen, preThen, slotIs, factAt, isv, List.getElem?_cons_zero, List.getElem?_cons_succ, Option.getD_some, forall_eq]
          intros
          rename_i hK
          replace hK := hid hK
          simp only [wantedAt]
          go_simp
          exact hK.out _ _ rfl (grown_refl _ _)
        case o22 =>
          go_light
          intro ac w' hgw
          replace hgw := hid hgw
          simp only [outThen, preThen, slotIs, factAt, isv, List.getElem?_cons_zero, List.getElem?_cons_succ, Option.getD_some, forall_eq]
          intros
          rename_i hK
          replace hK := hid hK
          simp only [wantedAt]
          go_simp
          exact hK.out _ _ rfl (grown_refl _ _)
        case o23 =>
          go_light
          intro ac w' hgw
          replace hgw := hid hgw
          simp only [outThen, preThen, slotIs, factAt, isv, List.getElem?_cons_zero, List.getElem?_cons_succ, Option.getD_some, forall_eq]
          intros
          rename_i hK
          replace hK := hid hK
          simp only [wantedAt]
          go_simp
          exact hK.out _ _ rfl (grown_refl _ _)
        case o24 =>
          go_light
          intro ac w' hgw
          replace hgw := hid hgw
          simp only [outThen, preThen, slotIs, factAt, isv, List.getElem?_cons_zero, List.getElem?_cons_succ, Option.getD_some, forall_eq]
          intros
          rename_i hK
          replace hK := hid hK
          simp only [wantedAt]
          go_simp
          exact hK.out _ _ rfl (grown_refl _ _)
        case o25 =>
          go_light
          intro ac w' hgw
          replace hgw := hid hgw
          simp only [outThen, preThen, slotIs, factAt, isv, List.getElem?_cons_zero, List.getElem?_cons_succ, Option.getD_some, forall_eq]
          intros
          rename_i hK
          replace hK := hid hK
          simp only [wantedAt]
          go_simp
          exact hK.out _ _ rfl (grown_refl _ _)
        case o26 =>
          go_light
          intro ac w' hgw
          replace hgw := hid hgw
          simp only [outThen, preThen, slotIs, factAt, isv, List.getElem?_cons_zero, List.getElem?_cons_succ, Option.getD_some, forall_eq]
          intros
          rename_i hK
          replace hK := hid hK
          simp only [wantedAt]
          go_simp
          exact hK.out _ _ rfl (grown_refl _ _)
        case o27 =>
          go_light
          intro ac w' hgw
          replace hgw := hid hgw
          simp only [outThen, preThen, slotIs, factAt, isv, List.getElem?_cons_zero, List.getElem?_cons_succ, Option.getD_some, forall_eq]
          intros
          rename_i hK
          replace hK := hid hK
          simp only [wantedAt]
          go_simp
          exact hK.out _ _ rfl (grown_refl _ _)
        case o28 =>
          go_light
          intro ac w' hgw
          replace hgw := hid hgw
          simp only [outThen, preThen, slotIs, factAt, isv, List.getElem?_cons_zero, List.getElem?_cons_succ, Option.getD_some, forall_eq]
          intros
          rename_i hK
          replace hK := hid hK
          simp only [wantedAt]
          go_simp
          exact hK.out _ _ rfl (grown_refl _ _)
        case o29 =>
          go_light
          intro ac w' hgw
          replace hgw := hid hgw
          simp only [outThen, preThen, slotIs, factAt, isv, List.getElem?_cons_zero, List.getElem?_cons_succ, Option.getD_some, forall_eq]
          intros
          rename_i hK
          replace hK := hid hK
          simp only [wantedAt]
          go_simp
          exact hK.out _ _ rfl (grown_refl _ _)
        case o30 =>
          go_light
          intro ac w' hgw
          replace hgw := hid hgw
          simp only [outThen, preThen, slotIs, factAt, isv, List.getElem?_cons_zero, List.getElem?_cons_succ, Option.getD_some, forall_eq]
          intros
          rename_i hK
          replace hK := hid hK
          simp only [wantedAt]
          go_simp
          exact hK.out _ _ (by simpa using q2.out) (grown_refl _ _)
        case o31 =>
          go_light
          intro ac w' hgw
          replace hgw := hid hgw
          simp only [outThen, preThen, slotIs, factAt, isv, List.getElem?_cons_zero, List.getElem?_cons_succ, Option.getD_some, forall_eq]
          intros
          rename_i hK
          replace hK := hid hK
          simp only [wantedAt]
          go_simp
          exact hK.out _ _ rfl (grown_refl _ _)
        case o32 =>
          go_light
          intro ac w' hgw
          replace hgw := hid hgw
          simp only [outThen, preThen, slotIs, factAt, isv, List.getElem?_cons_zero, List.getElem?_cons_succ, Option.getD_some, forall_eq]
          intros
          rename_i hK
          replace hK := hid hK
          simp only [wantedAt]
          go_simp
          exact hK.out _ _ rfl (grown_refl _ _)
        case o33 =>
          go_light
          intro ac w' hgw
          replace hgw := hid hgw
          simp only [outThen, preThen, slotIs, factAt, isv, List.getElem?_cons_zero, List.getElem?_cons_succ, Option.getD_some, forall_eq]
          intros
          rename_i hK
          replace hK := hid hK
          simp only [wantedAt]
          go_simp
          exact hK.out _ _ rfl (grown_refl _ _)
        case o34 =>
          go_light
          intro ac w' hgw
          replace hgw := hid hgw
          simp only [outThen, preThen, slotIs, factAt, isv, List.getElem?_cons_zero, List.getElem?_cons_succ, Option.getD_some, forall_eq]
          intros
          rename_i hK
          replace hK := hid hK
          simp only [wantedAt]
          go_simp
          exact hK.out _ _ rfl (grown_refl _ _)
        case o35 =>
          go_light
          intro ac w' hgw
          replace hgw := hid hgw
          simp only [outThen, preThen, slotIs, factAt, isv, List.getElem?_cons_zero, List.getElem?_cons_succ, Option.getD_some, forall_eq]
          intros
          rename_i hK
          replace hK := hid hK
          simp only [wantedAt]
          go_simp
          exact hK.out _ _ rfl (grown_refl _ _)
      case st =>
        repeat (first | exact AllStable.nil | (refine AllStable.cons ?_ ?_; focus (first | exact stable_isv _ | exact stable_isBytes _ | exact stable_isRow1 _ | exact stable_isRowOf _ _ | exact stable_isArrOf _)))
      case fin =>
        intro w8 hgw
        simp only [finalIn, factAt, isv, List.getElem?_cons_zero, List.getElem?_cons_succ, Option.getD_some, forall_eq, slotIs, subj]
        simp only [Act.put, List.setIfInBounds_toArray, List.set_cons_zero, List.set_cons_succ]
        have hG8 := hid (grown_trans hG4.out (grown_trans (grown_drew (grown_refl w4 none)) hgw))
        clear hgw
        go_wp2_with fail
        go_meet
        go_light
        exact ⟨rfl, hG8.out⟩
    · have q1 : (0 : Int) < (z.length : Int) := by have := List.length_pos_iff.2 hze; omega
      have q2 : ((z.length : Int) == 0) = false := by rw [beq_eq_false_iff_ne]; omega
      replace q1 := hid q1
      replace q2 := hid q2
      clear hcases hze
      apply wp_region_each [isv _, isv _, isv (.bool true), isv _, isv _, isv _, isv _, isv _, isv _, isv _, isv _, isv _, isv _, isv _, isv _, isv _, isv _, isv _, isv _, isv _, isv _, isv _, isv _, isv _, isv _, isv _, isv _, isv _, isv _, isv _, isv (.bool false), isv _, isv _, isv _, isv _, isv _]
        147 [some 51, some 52, some 53, some 54, some 55, some 56, some 57, some 58, some 59, some 60, some 61, some 62, some 63, some 64, some 65, some 66, some 67, some 68, some 69, some 70, some 71, some 72, some 73, some 74, some 75, some 76, some 77, some 78, some 79, some 80, some 81, some 82, some 83, some 84, some 85, some 86]
        [some 51, some 52, some 53, some 54, some 55, some 56, some 57, some 58, some 59, some 60, some 61, some 62, some 63, some 64, some 65, some 66, some 67, some 68, some 69, some 70, some 71, some 72, some 73, some 74, some 75, some 76, some 77, some 78, some 79, some 80, some 81, some 82, some 83, some 84, some 85, some 86]
        [[], [0], [1], [2], [3], [4, 3], [3, 5], [6], [7], [8, 7], [7, 9], [10], [11], [12, 11], [11, 13], [14], [15], [16, 15], [17, 15], [18], [19, 18], [20, 18], [18], [22, 18], [21, 23, 18], [18, 24, 15], [15, 25], [26], [27], [28, 27], [29, 27], [30, 27], [31], [32, 31], [31, 33, 27], [27, 34]]
        [(1, .slice A z.length c1), (11, .slice B b.length cb), (13, .slice A4 ws.length c4), (14, .int .i64 12)] (by kernel_rfl) rfl (by kernel_rfl) rfl rfl (by kernel_rfl) (OutsOk.cons rfl rfl (OutsOk.cons rfl rfl (OutsOk.cons rfl rfl (OutsOk.cons rfl rfl OutsOk.nil)))) ?st ?ob ?fin
      case ob =>
        refine Obs.consv rfl ?o0 (Obs.consv rfl ?o1 (Obs.consv rfl ?o2 (Obs.consv rfl ?o3 (Obs.consv rfl ?o4 (Obs.consv rfl ?o5 (Obs.consv rfl ?o6 (Obs.consv rfl ?o7 (Obs.consv rfl ?o8 (Obs.consv rfl ?o9 (Obs.consv rfl ?o10 (Obs.consv rfl ?o11 (Obs.consv rfl ?o12 (Obs.consv rfl ?o13 (Obs.consv rfl ?o14 (Obs.consv rfl ?o15 (Obs.consv rfl ?o16 (Obs.consv rfl ?o17 (Obs.consv rfl ?o18 (Obs.consv rfl ?o19 (Obs.consv rfl ?o20 (Obs.consv rfl ?o21 (Obs.consv rfl ?o22 (Obs.consv rfl ?o23 (Obs.consv rfl ?o24 (Obs.consv rfl ?o25 (Obs.consv rfl ?o26 (Obs.consv rfl ?o27 (Obs.consv rfl ?o28 (Obs.consv rfl ?o29 (Obs.consv rfl ?o30 (Obs.consv rfl ?o31 (Obs.consv rfl ?o32 (Obs.consv rfl ?o33 (Obs.consv rfl ?o34 (Obs.consv rfl ?o35 Obs.nil)))))))))))))))))))))))))))))))))))
        case o0 =>
          go_light
          intro ac w' hgw
          replace hgw := hid hgw
          simp only [outThen, preThen, slotIs, factAt, isv, List.getElem?_cons_zero, List.getElem?_cons_succ, Option.getD_some, forall_eq]
          intros
          rename_i hK
          replace hK := hid hK
          simp only [wantedAt]
          go_simp
          exact hK.out _ _ rfl (grown_refl _ _)
        case o1 =>
          go_light
          intro ac w' hgw
          replace hgw := hid hgw
          simp only [outThen, preThen, slotIs, factAt, isv, List.getElem?_cons_zero, List.getElem?_cons_succ, Option.getD_some, forall_eq]
          intros
          rename_i hK
          replace hK := hid hK
          simp only [wantedAt]
          go_simp
          exact hK.out _ _ rfl (grown_refl _ _)
        case o2 =>
          go_light
          intro ac w' hgw
          replace hgw := hid hgw
          simp only [outThen, preThen, slotIs, factAt, isv, List.getElem?_cons_zero, List.getElem?_cons_succ, Option.getD_some, forall_eq]
          intros
          rename_i hK
          replace hK := hid hK
          simp only [wantedAt]
          go_simp
          exact hK.out _ _ (by simpa using q1.out) (grown_refl _ _)
        case o3 =>
          go_light
          intro ac w' hgw
          replace hgw := hid hgw
          simp only [outThen, preThen, slotIs, factAt, isv, List.getElem?_cons_zero, List.getElem?_cons_succ, Option.getD_some, forall_eq]
          intros
          rename_i hK
          replace hK := hid hK
          simp only [wantedAt]
          go_simp
          exact hK.out _ _ rfl (grown_refl _ _)
        case o4 =>
          go_light
          intro ac w' hgw
          replace hgw := hid hgw
          simp only [outThen, preThen, slotIs, factAt, isv, List.getElem?_cons_zero, List.getElem?_cons_succ, Option.getD_some, forall_eq]
          intros
          rename_i hK
          replace hK := hid hK
          simp only [wantedAt]
          go_simp
          exact hK.out _ _ rfl (grown_refl _ _)
        case o5 =>
          go_light
          intro ac w' hgw
          replace hgw := hid hgw
          simp only [outThen, preThen, slotIs, factAt, isv, List.getElem?_cons_zero, List.getElem?_cons_succ, Option.getD_some, forall_eq]
          intros
          rename_i hK
          replace hK := hid hK
          simp only [wantedAt]
          go_simp
          exact hK.out _ _ rfl (grown_refl _ _)
        case o6 =>
          go_light
          intro ac w' hgw
          replace hgw := hid hgw
          simp only [outThen, preThen, slotIs, factAt, isv, List.getElem?_cons_zero, List.getElem?_cons_succ, Option.getD_some, forall_eq]
          intros
          rename_i hK
          replace hK := hid hK
          simp only [wantedAt]
          go_simp
          exact hK.out _ _ rfl (grown_refl _ _)
        case o7 =>
          go_light
          intro ac w' hgw
          replace hgw := hid hgw
          simp only [outThen, preThen, slotIs, factAt, isv, List.getElem?_cons_zero, List.getElem?_cons_succ, Option.getD_some, forall_eq]
          intros
          rename_i hK
          replace hK := hid hK
          simp only [wantedAt]
          go_simp
          exact hK.out _ _ rfl (grown_refl _ _)
        case o8 =>
          go_light
          intro ac w' hgw
          replace hgw := hid hgw
          simp only [outThen, preThen, slotIs, factAt, isv, List.getElem?_cons_zero, List.getElem?_cons_succ, Option.getD_some, forall_eq]
          intros
          rename_i hK
          replace hK := hid hK
          simp only [wantedAt]
          go_simp
          exact hK.out _ _ rfl (grown_refl _ _)
        case o9 =>
          go_light
          intro ac w' hgw
          replace hgw := hid hgw
          simp only [outThen, preThen, slotIs, factAt, isv, List.getElem?_cons_zero, List.getElem?_cons_succ, Option.getD_some, forall_eq]
          intros
          rename_i hK
          replace hK := hid hK
          simp only [wantedAt]
          go_simp
          exact hK.out _ _ rfl (grown_refl _ _)
        case o10 =>
          go_light
          intro ac w' hgw
          replace hgw := hid hgw
          simp only [outThen, preThen, slotIs, factAt, isv, List.getElem?_cons_zero, List.getElem?_cons_succ, Option.getD_some, forall_eq]
          intros
          rename_i hK
          replace hK := hid hK
          simp only [wantedAt]
          go_simp
          exact hK.out _ _ rfl (grown_refl _ _)
        case o11 =>
          go_light
          intro ac w' hgw
          replace hgw := hid hgw
          simp only [outThen, preThen, slotIs, factAt, isv, List.getElem?_cons_zero, List.getElem?_cons_succ, Option.getD_some, forall_eq]
          intros
          rename_i hK
          replace hK := hid hK
          simp only [wantedAt]
          go_simp
          exact hK.out _ _ rfl (grown_refl _ _)
        case o12 =>
          go_light
          intro ac w' hgw
          replace hgw := hid hgw
          simp only [outThen, preThen, slotIs, factAt, isv, List.getElem?_cons_zero, List.getElem?_cons_succ, Option.getD_some, forall_eq]
          intros
          rename_i hK
          replace hK := hid hK
          simp only [wantedAt]
          go_simp
          exact hK.out _ _ rfl (grown_refl _ _)
        case o13 =>
          go_light
          intro ac w' hgw
          replace hgw := hid hgw
          simp only [outThen, preThen, slotIs, factAt, isv, List.getElem?_cons_zero, List.getElem?_cons_succ, Option.getD_some, forall_eq]
          intros
          rename_i hK
          replace hK := hid hK
          simp only [wantedAt]
          go_simp
          exact hK.out _ _ rfl (grown_refl _ _)
        case o14 =>
          go_light
          intro ac w' hgw
          replace hgw := hid hgw
          simp only [outThen, preThen, slotIs, factAt, isv, List.getElem?_cons_zero, List.getElem?_cons_succ, Option.getD_some, forall_eq]
          intros
          rename_i hK
          replace hK := hid hK
          simp only [wantedAt]
          go_simp
          exact hK.out _ _ rfl (grown_refl _ _)
        case o15 =>
          go_light
          intro ac w' hgw
          replace hgw := hid hgw
          simp only [outThen, preThen, slotIs, factAt, isv, List.getElem?_cons_zero, List.getElem?_cons_succ, Option.getD_some, forall_eq]
          intros
          rename_i hK
          replace hK := hid hK
          simp only [wantedAt]
          go_simp
          exact hK.out _ _ rfl (grown_refl _ _)
        case o16 =>
          go_light
          intro ac w' hgw
          replace hgw := hid hgw
          simp only [outThen, preThen, slotIs, factAt, isv, List.getElem?_cons_zero, List.getElem?_cons_succ, Option.getD_some, forall_eq]
          intros
          rename_i hK
          replace hK := hid hK
          simp only [wantedAt]
          go_simp
          exact hK.out _ _ rfl (grown_refl _ _)
        case o17 =>
          go_light
          intro ac w' hgw
          replace hgw := hid hgw
          simp only [outThen, preThen, slotIs, factAt, isv, List.getElem?_cons_zero, List.getElem?_cons_succ, Option.getD_some, forall_eq]
          intros
          rename_i hK
          replace hK := hid hK
          simp only [wantedAt]
          go_simp
          exact hK.out _ _ rfl (grown_refl _ _)
        case o18 =>
          go_light
          intro ac w' hgw
          replace hgw := hid hgw
          simp only [outThen, preThen, slotIs, factAt, isv, List.getElem?_cons_zero, List.getElem?_cons_succ, Option.getD_some, forall_eq]
          intros
          rename_i hK
          replace hK := hid hK
          simp only [wantedAt]
          go_simp
          exact hK.out _ _ rfl (grown_refl _ _)
        case o19 =>
          go_light
          intro ac w' hgw
          replace hgw := hid hgw
          simp only [outThen, preThen, slotIs, factAt, isv, List.getElem?_cons_zero, List.getElem?_cons_succ, Option.getD_some, forall_eq]
          intros
          rename_i hK
          replace hK := hid hK
          simp only [wantedAt]
          go_simp
          exact hK.out _ _ rfl (grown_refl _ _)
        case o20 =>
          go_light
          intro ac w' hgw
          replace hgw := hid hgw
          simp only [outThen, preThen, slotIs, factAt, isv, List.getElem?_cons_zero, List.getElem?_cons_succ, Option.getD_some, forall_eq]
          intros
          rename_i hK
          replace hK := hid hK
          simp only [wantedAt]
          go_simp
          exact hK.out _ _ rfl (grown_refl _ _)
        case o21 =>
          go_light
          intro ac w' hgw
          replace hgw := hid hgw
          simp only [outThen, preThen, slotIs, factAt, isv, List.getElem?_cons_zero, List.getElem?_cons_succ, Option.getD_some, forall_eq]
          intros
          rename_i hK
          replace hK := hid hK
          simp only [wantedAt]
          go_simp
          exact hK.out _ _ rfl (grown_refl _ _)
        case o22 =>
          go_light
          intro ac w' hgw
          replace hgw := hid hgw
          simp only [outThen, preThen, slotIs, factAt, isv, List.getElem?_cons_zero, List.getElem?_cons_succ, Option.getD_some, forall_eq]
          intros
          rename_i hK
          replace hK := hid hK
          simp only [wantedAt]
          go_simp
          exact hK.out _ _ rfl (grown_refl _ _)
        case o23 =>
          go_light
          intro ac w' hgw
          replace hgw := hid hgw
          simp only [outThen, preThen, slotIs, factAt, isv, List.getElem?_cons_zero, List.getElem?_cons_succ, Option.getD_some, forall_eq]
          intros
          rename_i hK
          replace hK := hid hK
          simp only [wantedAt]
          go_simp
          exact hK.out _ _ rfl (grown_refl _ _)
        case o24 =>
          go_light
          intro ac w' hgw
          replace hgw := hid hgw
          simp only [outThen, preThen, slotIs, factAt, isv, List.getElem?_cons_zero, List.getElem?_cons_succ, Option.getD_some, forall_eq]
          intros
          rename_i hK
          replace hK := hid hK
          simp only [wantedAt]
          go_simp
          exact hK.out _ _ rfl (grown_refl _ _)
        case o25 =>
          go_light
          intro ac w' hgw
          replace hgw := hid hgw
          simp only [outThen, preThen, slotIs, factAt, isv, List.getElem?_cons_zero, List.getElem?_cons_succ, Option.getD_some, forall_eq]
          intros
          rename_i hK
          replace hK := hid hK
          simp only [wantedAt]
          go_simp
          exact hK.out _ _ rfl (grown_refl _ _)
        case o26 =>
          go_light
          intro ac w' hgw
          replace hgw := hid hgw
          simp only [outThen, preThen, slotIs, factAt, isv, List.getElem?_cons_zero, List.getElem?_cons_succ, Option.getD_some, forall_eq]
          intros
          rename_i hK
          replace hK := hid hK
          simp only [wantedAt]
          go_simp
          exact hK.out _ _ rfl (grown_refl _ _)
        case o27 =>
          go_light
          intro ac w' hgw
          replace hgw := hid hgw
          simp only [outThen, preThen, slotIs, factAt, isv, List.getElem?_cons_zero, List.getElem?_cons_succ, Option.getD_some, forall_eq]
          intros
          rename_i hK
          replace hK := hid hK
          simp only [wantedAt]
          go_simp
          exact hK.out _ _ rfl (grown_refl _ _)
        case o28 =>
          go_light
          intro ac w' hgw
          replace hgw := hid hgw
          simp only [outThen, preThen, slotIs, factAt, isv, List.getElem?_cons_zero, List.getElem?_cons_succ, Option.getD_some, forall_eq]
          intros
          rename_i hK
          replace hK := hid hK
          simp only [wantedAt]
          go_simp
          exact hK.out _ _ rfl (grown_refl _ _)
        case o29 =>
          go_light
          intro ac w' hgw
          replace hgw := hid hgw
          simp only [outThen, preThen, slotIs, factAt, isv, List.getElem?_cons_zero, List.getElem?_cons_succ, Option.getD_some, forall_eq]
          intros
          rename_i hK
          replace hK := hid hK
          simp only [wantedAt]
          go_simp
          exact hK.out _ _ rfl (grown_refl _ _)
        case o30 =>
          go_light
          intro ac w' hgw
          replace hgw := hid hgw
          simp only [outThen, preThen, slotIs, factAt, isv, List.getElem?_cons_zero, List.getElem?_cons_succ, Option.getD_some, forall_eq]
          intros
          rename_i hK
          replace hK := hid hK
          simp only [wantedAt]
          go_simp
          exact hK.out _ _ (by simpa using q2.out) (grown_refl _ _)
        case o31 =>
          go_light
          intro ac w' hgw
          replace hgw := hid hgw
          simp only [outThen, preThen, slotIs, factAt, isv, List.getElem?_cons_zero, List.getElem?_cons_succ, Option.getD_some, forall_eq]
          intros
          rename_i hK
          replace hK := hid hK
          simp only [wantedAt]
          go_simp
          exact hK.out _ _ rfl (grown_refl _ _)
        case o32 =>
          go_light
          intro ac w' hgw
          replace hgw := hid hgw
          simp only [outThen, preThen, slotIs, factAt, isv, List.getElem?_cons_zero, List.getElem?_cons_succ, Option.getD_some, forall_eq]
          intros
          rename_i hK
          replace hK := hid hK
          simp only [wantedAt]
          go_simp
          exact hK.out _ _ rfl (grown_refl _ _)
        case o33 =>
          go_light
          intro ac w' hgw
          replace hgw := hid hgw
          simp only [outThen, preThen, slotIs, factAt, isv, List.getElem?_cons_zero, List.getElem?_cons_succ, Option.getD_some, forall_eq]
          intros
          rename_i hK
          replace hK := hid hK
          simp only [wantedAt]
          go_simp
          exact hK.out _ _ rfl (grown_refl _ _)
        case o34 =>
          go_light
          intro ac w' hgw
          replace hgw := hid hgw
          simp only [outThen, preThen, slotIs, factAt, isv, List.getElem?_cons_zero, List.getElem?_cons_succ, Option.getD_some, forall_eq]
          intros
          rename_i hK
          replace hK := hid hK
          simp only [wantedAt]
          go_simp
          exact hK.out _ _ rfl (grown_refl _ _)
        case o35 =>
          go_light
          intro ac w' hgw
          replace hgw := hid hgw
          simp only [outThen, preThen, slotIs, factAt, isv, List.getElem?_cons_zero, List.getElem?_cons_succ, Option.getD_some, forall_eq]
          intros
          rename_i hK
          replace hK := hid hK
          simp only [wantedAt]
          go_simp
          exact hK.out _ _ rfl (grown_refl _ _)
      case st =>
        repeat (first | exact AllStable.nil | (refine AllStable.cons ?_ ?_; focus (first | exact stable_isv _ | exact stable_isBytes _ | exact stable_isRow1 _ | exact stable_isRowOf _ _ | exact stable_isArrOf _)))
      case fin =>
        intro w8 hgw
        simp only [finalIn, factAt, isv, List.getElem?_cons_zero, List.getElem?_cons_succ, Option.getD_some, forall_eq, slotIs, subj]
        simp only [Act.put, List.setIfInBounds_toArray, List.set_cons_zero, List.set_cons_succ]
        have hG8 := hid (grown_trans hG4.out (grown_trans (grown_drew (grown_refl w4 none)) hgw))
        clear hgw
        go_wp2_with fail
        go_meet
        go_light
        exact ⟨rfl, hG8.out⟩
    · have q1 : (0 : Int) < (z.length : Int) := by have := List.length_pos_iff.2 hze; omega
      have q2 : ((z.length : Int) == 0) = false := by rw [beq_eq_false_iff_ne]; omega
      replace q1 := hid q1
      replace q2 := hid q2
      clear hcases hze
      apply wp_region_each [isv _, isv _, isv (.bool true), isv _, isv _, isv _, isv _, isv _, isv _, isv _, isv _, isv _, isv _, isv _, isv _, isv _, isv _, isv _, isv _, isv _, isv _, isv _, isv _, isv _, isv _, isv _, isv _, isv _, isv _, isv _, isv (.bool false), isv _, isv _, isv _, isv _, isv _]
        147 [some 51, some 52, some 53, some 54, some 55, some 56, some 57, some 58, some 59, some 60, some 61, some 62, some 63, some 64, some 65, some 66, some 67, some 68, some 69, some 70, some 71, some 72, some 73, some 74, some 75, some 76, some 77, some 78, some 79, some 80, some 81, some 82, some 83, some 84, some 85, some 86]
        [some 51, some 52, some 53, some 54, some 55, some 56, some 57, some 58, some 59, some 60, some 61, some 62, some 63, some 64, some 65, some 66, some 67, some 68, some 69, some 70, some 71, some 72, some 73, some 74, some 75, some 76, some 77, some 78, some 79, some 80, some 81, some 82, some 83, some 84, some 85, some 86]
        [[], [0], [1], [2], [3], [4, 3], [3, 5], [6], [7], [8, 7], [7, 9], [10], [11], [12, 11], [11, 13], [14], [15], [16, 15], [17, 15], [18], [19, 18], [20, 18], [18], [22, 18], [21, 23, 18], [18, 24, 15], [15, 25], [26], [27], [28, 27], [29, 27], [30, 27], [31], [32, 31], [31, 33, 27], [27, 34]]
        [(1, .slice A z.length c1), (11, .slice B b.length cb), (13, .slice A4 ws.length c4), (14, .int .i64 43)] (by kernel_rfl) rfl (by kernel_rfl) rfl rfl (by kernel_rfl) (OutsOk.cons rfl rfl (OutsOk.cons rfl rfl (OutsOk.cons rfl rfl (OutsOk.cons rfl rfl OutsOk.nil)))) ?st ?ob ?fin
      case ob =>
        refine Obs.consv rfl ?o0 (Obs.consv rfl ?o1 (Obs.consv rfl ?o2 (Obs.consv rfl ?o3 (Obs.consv rfl ?o4 (Obs.consv rfl ?o5 (Obs.consv rfl ?o6 (Obs.consv rfl ?o7 (Obs.consv rfl ?o8 (Obs.consv rfl ?o9 (Obs.consv rfl ?o10 (Obs.consv rfl ?o11 (Obs.consv rfl ?o12 (Obs.consv rfl ?o13 (Obs.consv rfl ?o14 (Obs.consv rfl ?o15 (Obs.consv rfl ?o16 (Obs.consv rfl ?o17 (Obs.consv rfl ?o18 (Obs.consv rfl ?o19 (Obs.consv rfl ?o20 (Obs.consv rfl ?o21 (Obs.consv rfl ?o22 (Obs.consv rfl ?o23 (Obs.consv rfl ?o24 (Obs.consv rfl ?o25 (Obs.consv rfl ?o26 (Obs.consv rfl ?o27 (Obs.consv rfl ?o28 (Obs.consv rfl ?o29 (Obs.consv rfl ?o30 (Obs.consv rfl ?o31 (Obs.consv rfl ?o32 (Obs.consv rfl ?o33 (Obs.consv rfl ?o34 (Obs.consv rfl ?o35 Obs.nil)))))))))))))))))))))))))))))))))))
        case o0 =>
          go_light
          intro ac w' hgw
          replace hgw := hid hgw
          simp only [outThen, preThen, slotIs, factAt, isv, List.getElem?_cons_zero, List.getElem?_cons_succ, Option.getD_some, forall_eq]
          intros
          rename_i hK
          replace hK := hid hK
          simp only [wantedAt]
          go_simp
          exact hK.out _ _ rfl (grown_refl _ _)
        case o1 =>
          go_light
          intro ac w' hgw
          replace hgw := hid hgw
          simp only [outThen, preThen, slotIs, factAt, isv, List.getElem?_cons_zero, List.getElem?_cons_succ, Option.getD_some, forall_eq]
          intros
          rename_i hK
          replace hK := hid hK
          simp only [wantedAt]
          go_simp
          exact hK.out _ _ rfl (grown_refl _ _)
        case o2 =>
          go_light
          intro ac w' hgw
          replace hgw := hid hgw
          simp only [outThen, preThen, slotIs, factAt, isv, List.getElem?_cons_zero, List.getElem?_cons_succ, Option.getD_some, forall_eq]
          intros
          rename_i hK
          replace hK := hid hK
          simp only [wantedAt]
          go_simp
          exact hK.out _ _ (by simpa using q1.out) (grown_refl _ _)
        case o3 =>
          go_light
          intro ac w' hgw
          replace hgw := hid hgw
          simp only [outThen, preThen, slotIs, factAt, isv, List.getElem?_cons_zero, List.getElem?_cons_succ, Option.getD_some, forall_eq]
          intros
          rename_i hK
          replace hK := hid hK
          simp only [wantedAt]
          go_simp
          exact hK.out _ _ rfl (grown_refl _ _)
        case o4 =>
          go_light
          intro ac w' hgw
          replace hgw := hid hgw
          simp only [outThen, preThen, slotIs, factAt, isv, List.getElem?_cons_zero, List.getElem?_cons_succ, Option.getD_some, forall_eq]
          intros
          rename_i hK
          replace hK := hid hK
          simp only [wantedAt]
          go_simp
          exact hK.out _ _ rfl (grown_refl _ _)
        case o5 =>
          go_light
          intro ac w' hgw
          replace hgw := hid hgw
          simp only [outThen, preThen, slotIs, factAt, isv, List.getElem?_cons_zero, List.getElem?_cons_succ, Option.getD_some, forall_eq]
          intros
          rename_i hK
          replace hK := hid hK
          simp only [wantedAt]
          go_simp
          exact hK.out _ _ rfl (grown_refl _ _)
        case o6 =>
          go_light
          intro ac w' hgw
          replace hgw := hid hgw
          simp only [outThen, preThen, slotIs, factAt, isv, List.getElem?_cons_zero, List.getElem?_cons_succ, Option.getD_some, forall_eq]
          intros
          rename_i hK
          replace hK := hid hK
          simp only [wantedAt]
          go_simp
          exact hK.out _ _ rfl (grown_refl _ _)
        case o7 =>
          go_light
          intro ac w' hgw
          replace hgw := hid hgw
          simp only [outThen, preThen, slotIs, factAt, isv, List.getElem?_cons_zero, List.getElem?_cons_succ, Option.getD_some, forall_eq]
          intros
          rename_i hK
          replace hK := hid hK
          simp only [wantedAt]
          go_simp
          exact hK.out _ _ rfl (grown_refl _ _)
        case o8 =>
          go_light
          intro ac w' hgw
          replace hgw := hid hgw
          simp only [outThen, preThen, slotIs, factAt, isv, List.getElem?_cons_zero, List.getElem?_cons_succ, Option.getD_some, forall_eq]
          intros
          rename_i hK
          replace hK := hid hK
          simp only [wantedAt]
          go_simp
          exact hK.out _ _ rfl (grown_refl _ _)
        case o9 =>
          go_light
          intro ac w' hgw
          replace hgw := hid hgw
          simp only [outThen, preThen, slotIs, factAt, isv, List.getElem?_cons_zero, List.getElem?_cons_succ, Option.getD_some, forall_eq]
          intros
          rename_i hK
          replace hK := hid hK
          simp only [wantedAt]
          go_simp
          exact hK.out _ _ rfl (grown_refl _ _)
        case o10 =>
          go_light
          intro ac w' hgw
          replace hgw := hid hgw
          simp only [outThen, preThen, slotIs, factAt, isv, List.getElem?_cons_zero, List.getElem?_cons_succ, Option.getD_some, forall_eq]
          intros
          rename_i hK
          replace hK := hid hK
          simp only [wantedAt]
          go_simp
          exact hK.out _ _ rfl (grown_refl _ _)
        case o11 =>
          go_light
          intro ac w' hgw
          replace hgw := hid hgw
          simp only [outThen, preThen, slotIs, factAt, isv, List.getElem?_cons_zero, List.getElem?_cons_succ, Option.getD_some, forall_eq]
          intros
          rename_i hK
          replace hK := hid hK
          simp only [wantedAt]
          go_simp
          exact hK.out _ _ rfl (grown_refl _ _)
        case o12 =>
          go_light
          intro ac w' hgw
          replace hgw := hid hgw
          simp only [outThen, preThen, slotIs, factAt, isv, List.getElem?_cons_zero, List.getElem?_cons_succ, Option.getD_some, forall_eq]
          intros
          rename_i hK
          replace hK := hid hK
          simp only [wantedAt]
          go_simp
          exact hK.out _ _ rfl (grown_refl _ _)
        case o13 =>
          go_light
          intro ac w' hgw
          replace hgw := hid hgw
          simp only [outThen, preThen, slotIs, factAt, isv, List.getElem?_cons_zero, List.getElem?_cons_succ, Option.getD_some, forall_eq]
          intros
          rename_i hK
          replace hK := hid hK
          simp only [wantedAt]
          go_simp
          exact hK.out _ _ rfl (grown_refl _ _)
        case o14 =>
          go_light
          intro ac w' hgw
          replace hgw := hid hgw
          simp only [outThen, preThen, slotIs, factAt, isv, List.getElem?_cons_zero, List.getElem?_cons_succ, Option.getD_some, forall_eq]
          intros
          rename_i hK
          replace hK := hid hK
          simp only [wantedAt]
          go_simp
          exact hK.out _ _ rfl (grown_refl _ _)
        case o15 =>
          go_light
          intro ac w' hgw
          replace hgw := hid hgw
          simp only [outThen, preThen, slotIs, factAt, isv, List.getElem?_cons_zero, List.getElem?_cons_succ, Option.getD_some, forall_eq]
          intros
          rename_i hK
          replace hK := hid hK
          simp only [wantedAt]
          go_simp
          exact hK.out _ _ rfl (grown_refl _ _)
        case o16 =>
          go_light
          intro ac w' hgw
          replace hgw := hid hgw
          simp only [outThen, preThen, slotIs, factAt, isv, List.getElem?_cons_zero, List.getElem?_cons_succ, Option.getD_some, forall_eq]
          intros
          rename_i hK
          replace hK := hid hK
          simp only [wantedAt]
          go_simp
          exact hK.out _ _ rfl (grown_refl _ _)
        case o17 =>
          go_light
          intro ac w' hgw
          replace hgw := hid hgw
          simp only [outThen, preThen, slotIs, factAt, isv, List.getElem?_cons_zero, List.getElem?_cons_succ, Option.getD_some, forall_eq]
          intros
          rename_i hK
          replace hK := hid hK
          simp only [wantedAt]
          go_simp
          exact hK.out _ _ rfl (grown_refl _ _)
        case o18 =>
          go_light
          intro ac w' hgw
          replace hgw := hid hgw
          simp only [outThen, preThen, slotIs, factAt, isv, List.getElem?_cons_zero, List.getElem?_cons_succ, Option.getD_some, forall_eq]
          intros
          rename_i hK
          replace hK := hid hK
          simp only [wantedAt]
          go_simp
          exact hK.out _ _ rfl (grown_refl _ _)
        case o19 =>
          go_light
          intro ac w' hgw
          replace hgw := hid hgw
          simp only [outThen, preThen, slotIs, factAt, isv, List.getElem?_cons_zero, List.getElem?_cons_succ, Option.getD_some, forall_eq]
          intros
          rename_i hK
          replace hK := hid hK
          simp only [wantedAt]
          go_simp
          exact hK.out _ _ rfl (grown_refl _ _)
        case o20 =>
          go_light
          intro ac w' hgw
          replace hgw := hid hgw
          simp only [outThen, preThen, slotIs, factAt, isv, List.getElem?_cons_zero, List.getElem?_cons_succ, Option.getD_some, forall_eq]
          intros
          rename_i hK
          replace hK := hid hK
          simp only [wantedAt]
          go_simp
          exact hK.out _ _ rfl (grown_refl _ _)
        case o21 =>
          go_light
          intro ac w' hgw
          replace hgw := hid hgw
          simp only [outThen, preThen, slotIs, factAt, isv, List.getElem?_cons_zero, List.getElem?_cons_succ, Option.getD_some, forall_eq]
          intros
          rename_i hK
          replace hK := hid hK
          simp only [wantedAt]
          go_simp
          exact hK.out _ _ rfl (grown_refl _ _)
        case o22 =>
          go_light
          intro ac w' hgw
          replace hgw := hid hgw
          simp only [outThen, preThen, slotIs, factAt, isv, List.getElem?_cons_zero, List.getElem?_cons_succ, Option.getD_some, forall_eq]
          intros
          rename_i hK
          replace hK := hid hK
          simp only [wantedAt]
          go_simp
          exact hK.out _ _ rfl (grown_refl _ _)
        case o23 =>
          go_light
          intro ac w' hgw
          replace hgw := hid hgw
          simp only [outThen, preThen, slotIs, factAt, isv, List.getElem?_cons_zero, List.getElem?_cons_succ, Option.getD_some, forall_eq]
          intros
          rename_i hK
          replace hK := hid hK
          simp only [wantedAt]
          go_simp
          exact hK.out _ _ rfl (grown_refl _ _)
        case o24 =>
          go_light
          intro ac w' hgw
          replace hgw := hid hgw
          simp only [outThen, preThen, slotIs, factAt, isv, List.getElem?_cons_zero, List.getElem?_cons_succ, Option.getD_some, forall_eq]
          intros
          rename_i hK
          replace hK := hid hK
          simp only [wantedAt]
          go_simp
          exact hK.out _ _ rfl (grown_refl _ _)
        case o25 =>
          go_light
          intro ac w' hgw
          replace hgw := hid hgw
          simp only [outThen, preThen, slotIs, factAt, isv, List.getElem?_cons_zero, List.getElem?_cons_succ, Option.getD_some, forall_eq]
          intros
          rename_i hK
          replace hK := hid hK
          simp only [wantedAt]
          go_simp
          exact hK.out _ _ rfl (grown_refl _ _)
        case o26 =>
          go_light
          intro ac w' hgw
          replace hgw := hid hgw
          simp only [outThen, preThen, slotIs, factAt, isv, List.getElem?_cons_zero, List.getElem?_cons_succ, Option.getD_some, forall_eq]
          intros
          rename_i hK
          replace hK := hid hK
          simp only [wantedAt]
          go_simp
          exact hK.out _ _ rfl (grown_refl _ _)
        case o27 =>
          go_light
          intro ac w' hgw
          replace hgw := hid hgw
          simp only [outThen, preThen, slotIs, factAt, isv, List.getElem?_cons_zero, List.getElem?_cons_succ, Option.getD_some, forall_eq]
          intros
          rename_i hK
          replace hK := hid hK
          simp only [wantedAt]
          go_simp
          exact hK.out _ _ rfl (grown_refl _ _)
        case o28 =>
          go_light
          intro ac w' hgw
          replace hgw := hid hgw
          simp only [outThen, preThen, slotIs, factAt, isv, List.getElem?_cons_zero, List.getElem?_cons_succ, Option.getD_some, forall_eq]
          intros
          rename_i hK
          replace hK := hid hK
          simp only [wantedAt]
          go_simp
          exact hK.out _ _ rfl (grown_refl _ _)
        case o29 =>
          go_light
          intro ac w' hgw
          replace hgw := hid hgw
          simp only [outThen, preThen, slotIs, factAt, isv, List.getElem?_cons_zero, List.getElem?_cons_succ, Option.getD_some, forall_eq]
          intros
          rename_i hK
          replace hK := hid hK
          simp only [wantedAt]
          go_simp
          exact hK.out _ _ rfl (grown_refl _ _)
        case o30 =>
          go_light
          intro ac w' hgw
          replace hgw := hid hgw
          simp only [outThen, preThen, slotIs, factAt, isv, List.getElem?_cons_zero, List.getElem?_cons_succ, Option.getD_some, forall_eq]
          intros
          rename_i hK
          replace hK := hid hK
          simp only [wantedAt]
          go_simp
          exact hK.out _ _ (by simpa using q2.out) (grown_refl _ _)
        case o31 =>
          go_light
          intro ac w' hgw
          replace hgw := hid hgw
          simp only [outThen, preThen, slotIs, factAt, isv, List.getElem?_cons_zero, List.getElem?_cons_succ, Option.getD_some, forall_eq]
          intros
          rename_i hK
          replace hK := hid hK
          simp only [wantedAt]
          go_simp
          exact hK.out _ _ rfl (grown_refl _ _)
        case o32 =>
          go_light
          intro ac w' hgw
          replace hgw := hid hgw
          simp only [outThen, preThen, slotIs, factAt, isv, List.getElem?_cons_zero, List.getElem?_cons_succ, Option.getD_some, forall_eq]
          intros
          rename_i hK
          replace hK := hid hK
          simp only [wantedAt]
          go_simp
          exact hK.out _ _ rfl (grown_refl _ _)
        case o33 =>
          go_light
          intro ac w' hgw
          replace hgw := hid hgw
          simp only [outThen, preThen, slotIs, factAt, isv, List.getElem?_cons_zero, List.getElem?_cons_succ, Option.getD_some, forall_eq]
          intros
          rename_i hK
          replace hK := hid hK
          simp only [wantedAt]
          go_simp
          exact hK.out _ _ rfl (grown_refl _ _)
        case o34 =>
          go_light
          intro ac w' hgw
          replace hgw := hid hgw
          simp only [outThen, preThen, slotIs, factAt, isv, List.getElem?_cons_zero, List.getElem?_cons_succ, Option.getD_some, forall_eq]
          intros
          rename_i hK
          replace hK := hid hK
          simp only [wantedAt]
          go_simp
          exact hK.out _ _ rfl (grown_refl _ _)
        case o35 =>
          go_light
          intro ac w' hgw
          replace hgw := hid hgw
          simp only [outThen, preThen, slotIs, factAt, isv, List.getElem?_cons_zero, List.getElem?_cons_succ, Option.getD_some, forall_eq]
          intros
          rename_i hK
          replace hK := hid hK
          simp only [wantedAt]
          go_simp
          exact hK.out _ _ rfl (grown_refl _ _)
      case st =>
        repeat (first | exact AllStable.nil | (refine AllStable.cons ?_ ?_; focus (first | exact stable_isv _ | exact stable_isBytes _ | exact stable_isRow1 _ | exact stable_isRowOf _ _ | exact stable_isArrOf _)))
      case fin =>
        intro w8 hgw
        simp only [finalIn, factAt, isv, List.getElem?_cons_zero, List.getElem?_cons_succ, Option.getD_some, forall_eq, slotIs, subj]
        simp only [Act.put, List.setIfInBounds_toArray, List.set_cons_zero, List.set_cons_succ]
        have hG8 := hid (grown_trans hG4.out (grown_trans (grown_drew (grown_refl w4 none)) hgw))
        clear hgw
        go_wp2_with fail
        go_meet
        go_light
        exact ⟨rfl, hG8.out⟩
    · have q1 : (0 : Int) < (z.length : Int) := by have := List.length_pos_iff.2 hze; omega
      have q2 : ((z.length : Int) == 0) = false := by rw [beq_eq_false_iff_ne]; omega
      replace q1 := hid q1
      replace q2 := hid q2
      clear hcases hze
      replace hput := hid hput
      replace hw3 := hid hw3
      apply wp_region_each [isv _, isv _, isv (.bool true), isv _, isv _, isv _, isv _, isv _, isv _, isv _, isv _, isv _, isv _, isv _, isv _, isv _, isv _, isv _, isv _, isv _, isArrOf b, isv (.string (strOfNums b)), isv _, isv (.string (strOfNums b)), isv (.bool false), isv _, isv _, isv _, isv _, isv _, isv (.bool false), isv _, isv _, isv _, isv _, isv _]
        147 [some 51, some 52, some 53, some 54, some 55, some 56, some 57, some 58, some 59, some 60, some 61, some 62, some 63, some 64, some 65, some 66, some 67, some 68, some 69, some 70, some 71, some 72, some 73, some 74, some 75, some 76, some 77, some 78, some 79, some 80, some 81, some 82, some 83, some 84, some 85, some 86]
        [some 51, some 52, some 53, some 54, some 55, some 56, some 57, some 58, some 59, some 60, some 61, some 62, some 63, some 64, some 65, some 66, some 67, some 68, some 69, some 70, some 71, some 72, some 73, some 74, some 75, some 76, some 77, some 78, some 79, some 80, some 81, some 82, some 83, some 84, some 85, some 86]
        [[], [0], [1], [2], [3], [4, 3], [3, 5], [6], [7], [8, 7], [7, 9], [10], [11], [12, 11], [11, 13], [14], [15], [16, 15], [17, 15], [18], [19, 18], [20, 18], [18], [22, 18], [21, 23, 18], [18, 24, 15], [15, 25], [26], [27], [28, 27], [29, 27], [30, 27], [31], [32, 31], [31, 33, 27], [27, 34]]
        [(1, .slice A z.length c1), (11, .slice B b.length cb), (13, .slice A4 ws.length c4), (14, .int .i64 0)] (by kernel_rfl) rfl (by kernel_rfl) rfl rfl (by kernel_rfl) (OutsOk.cons rfl rfl (OutsOk.cons rfl rfl (OutsOk.cons rfl rfl (OutsOk.cons rfl rfl OutsOk.nil)))) ?st ?ob ?fin
      case ob =>
        refine Obs.consv rfl ?o0 (Obs.consv rfl ?o1 (Obs.consv rfl ?o2 (Obs.consv rfl ?o3 (Obs.consv rfl ?o4 (Obs.consv rfl ?o5 (Obs.consv rfl ?o6 (Obs.consv rfl ?o7 (Obs.consv rfl ?o8 (Obs.consv rfl ?o9 (Obs.consv rfl ?o10 (Obs.consv rfl ?o11 (Obs.consv rfl ?o12 (Obs.consv rfl ?o13 (Obs.consv rfl ?o14 (Obs.consv rfl ?o15 (Obs.consv rfl ?o16 (Obs.consv rfl ?o17 (Obs.consv rfl ?o18 (Obs.consv rfl ?o19 (Obs.consv rfl ?o20 (Obs.consv rfl ?o21 (Obs.consv rfl ?o22 (Obs.consv rfl ?o23 (Obs.consv rfl ?o24 (Obs.consv rfl ?o25 (Obs.consv rfl ?o26 (Obs.consv rfl ?o27 (Obs.consv rfl ?o28 (Obs.consv rfl ?o29 (Obs.consv rfl ?o30 (Obs.consv rfl ?o31 (Obs.consv rfl ?o32 (Obs.consv rfl ?o33 (Obs.consv rfl ?o34 (Obs.consv rfl ?o35 Obs.nil)))))))))))))))))))))))))))))))))))
        case o0 =>
          go_light
          intro ac w' hgw
          replace hgw := hid hgw
          simp only [outThen, preThen, slotIs, factAt, isv, List.getElem?_cons_zero, List.getElem?_cons_succ, Option.getD_some, forall_eq]
          intros
          rename_i hK
          replace hK := hid hK
          simp only [wantedAt]
          go_simp
          exact hK.out _ _ rfl (grown_refl _ _)
        case o1 =>
          go_light
          intro ac w' hgw
          replace hgw := hid hgw
          simp only [outThen, preThen, slotIs, factAt, isv, List.getElem?_cons_zero, List.getElem?_cons_succ, Option.getD_some, forall_eq]
          intros
          rename_i hK
          replace hK := hid hK
          simp only [wantedAt]
          go_simp
          exact hK.out _ _ rfl (grown_refl _ _)
        case o2 =>
          go_light
          intro ac w' hgw
          replace hgw := hid hgw
          simp only [outThen, preThen, slotIs, factAt, isv, List.getElem?_cons_zero, List.getElem?_cons_succ, Option.getD_some, forall_eq]
          intros
          rename_i hK
          replace hK := hid hK
          simp only [wantedAt]
          go_simp
          exact hK.out _ _ (by simpa using q1.out) (grown_refl _ _)
        case o3 =>
          go_light
          intro ac w' hgw
          replace hgw := hid hgw
          simp only [outThen, preThen, slotIs, factAt, isv, List.getElem?_cons_zero, List.getElem?_cons_succ, Option.getD_some, forall_eq]
          intros
          rename_i hK
          replace hK := hid hK
          simp only [wantedAt]
          go_simp
          exact hK.out _ _ rfl (grown_refl _ _)
        case o4 =>
          go_light
          intro ac w' hgw
          replace hgw := hid hgw
          simp only [outThen, preThen, slotIs, factAt, isv, List.getElem?_cons_zero, List.getElem?_cons_succ, Option.getD_some, forall_eq]
          intros
          rename_i hK
          replace hK := hid hK
          simp only [wantedAt]
          go_simp
          exact hK.out _ _ rfl (grown_refl _ _)
        case o5 =>
          go_light
          intro ac w' hgw
          replace hgw := hid hgw
          simp only [outThen, preThen, slotIs, factAt, isv, List.getElem?_cons_zero, List.getElem?_cons_succ, Option.getD_some, forall_eq]
          intros
          rename_i hK
          replace hK := hid hK
          simp only [wantedAt]
          go_simp
          exact hK.out _ _ rfl (grown_refl _ _)
        case o6 =>
          go_light
          intro ac w' hgw
          replace hgw := hid hgw
          simp only [outThen, preThen, slotIs, factAt, isv, List.getElem?_cons_zero, List.getElem?_cons_succ, Option.getD_some, forall_eq]
          intros
          rename_i hK
          replace hK := hid hK
          simp only [wantedAt]
          go_simp
          exact hK.out _ _ rfl (grown_refl _ _)
        case o7 =>
          go_light
          intro ac w' hgw
          replace hgw := hid hgw
          simp only [outThen, preThen, slotIs, factAt, isv, List.getElem?_cons_zero, List.getElem?_cons_succ, Option.getD_some, forall_eq]
          intros
          rename_i hK
          replace hK := hid hK
          simp only [wantedAt]
          go_simp
          exact hK.out _ _ rfl (grown_refl _ _)
        case o8 =>
          go_light
          intro ac w' hgw
          replace hgw := hid hgw
          simp only [outThen, preThen, slotIs, factAt, isv, List.getElem?_cons_zero, List.getElem?_cons_succ, Option.getD_some, forall_eq]
          intros
          rename_i hK
          replace hK := hid hK
          simp only [wantedAt]
          go_simp
          exact hK.out _ _ rfl (grown_refl _ _)
        case o9 =>
          go_light
          intro ac w' hgw
          replace hgw := hid hgw
          simp only [outThen, preThen, slotIs, factAt, isv, List.getElem?_cons_zero, List.getElem?_cons_succ, Option.getD_some, forall_eq]
          intros
          rename_i hK
          replace hK := hid hK
          simp only [wantedAt]
          go_simp
          exact hK.out _ _ rfl (grown_refl _ _)
        case o10 =>
          go_light
          intro ac w' hgw
          replace hgw := hid hgw
          simp only [outThen, preThen, slotIs, factAt, isv, List.getElem?_cons_zero, List.getElem?_cons_succ, Option.getD_some, forall_eq]
          intros
          rename_i hK
          replace hK := hid hK
          simp only [wantedAt]
          go_simp
          exact hK.out _ _ rfl (grown_refl _ _)
        case o11 =>
          go_light
          intro ac w' hgw
          replace hgw := hid hgw
          simp only [outThen, preThen, slotIs, factAt, isv, List.getElem?_cons_zero, List.getElem?_cons_succ, Option.getD_some, forall_eq]
          intros
          rename_i hK
          replace hK := hid hK
          simp only [wantedAt]
          go_simp
          exact hK.out _ _ rfl (grown_refl _ _)
        case o12 =>
          go_light
          intro ac w' hgw
          replace hgw := hid hgw
          simp only [outThen, preThen, slotIs, factAt, isv, List.getElem?_cons_zero, List.getElem?_cons_succ, Option.getD_some, forall_eq]
          intros
          rename_i hK
          replace hK := hid hK
          simp only [wantedAt]
          go_simp
          exact hK.out _ _ rfl (grown_refl _ _)
        case o13 =>
          go_light
          intro ac w' hgw
          replace hgw := hid hgw
          simp only [outThen, preThen, slotIs, factAt, isv, List.getElem?_cons_zero, List.getElem?_cons_succ, Option.getD_some, forall_eq]
          intros
          rename_i hK
          replace hK := hid hK
          simp only [wantedAt]
          go_simp
          exact hK.out _ _ rfl (grown_refl _ _)
        case o14 =>
          go_light
          intro ac w' hgw
          replace hgw := hid hgw
          simp only [outThen, preThen, slotIs, factAt, isv, List.getElem?_cons_zero, List.getElem?_cons_succ, Option.getD_some, forall_eq]
          intros
          rename_i hK
          replace hK := hid hK
          simp only [wantedAt]
          go_simp
          exact hK.out _ _ rfl (grown_refl _ _)
        case o15 =>
          go_light
          intro ac w' hgw
          replace hgw := hid hgw
          simp only [outThen, preThen, slotIs, factAt, isv, List.getElem?_cons_zero, List.getElem?_cons_succ, Option.getD_some, forall_eq]
          intros
          rename_i hK
          replace hK := hid hK
          simp only [wantedAt]
          go_simp
          exact hK.out _ _ rfl (grown_refl _ _)
        case o16 =>
          go_light
          intro ac w' hgw
          replace hgw := hid hgw
          simp only [outThen, preThen, slotIs, factAt, isv, List.getElem?_cons_zero, List.getElem?_cons_succ, Option.getD_some, forall_eq]
          intros
          rename_i hK
          replace hK := hid hK
          simp only [wantedAt]
          go_simp
          exact hK.out _ _ rfl (grown_refl _ _)
        case o17 =>
          go_light
          intro ac w' hgw
          replace hgw := hid hgw
          simp only [outThen, preThen, slotIs, factAt, isv, List.getElem?_cons_zero, List.getElem?_cons_succ, Option.getD_some, forall_eq]
          intros
          rename_i hK
          replace hK := hid hK
          simp only [wantedAt]
          go_simp
          exact hK.out _ _ rfl (grown_refl _ _)
        case o18 =>
          go_light
          intro ac w' hgw
          replace hgw := hid hgw
          simp only [outThen, preThen, slotIs, factAt, isv, List.getElem?_cons_zero, List.getElem?_cons_succ, Option.getD_some, forall_eq]
          intros
          rename_i hK
          replace hK := hid hK
          simp only [wantedAt]
          go_simp
          exact hK.out _ _ rfl (grown_refl _ _)
        case o19 =>
          go_light
          intro ac w' hgw
          replace hgw := hid hgw
          simp only [outThen, preThen, slotIs, factAt, isv, List.getElem?_cons_zero, List.getElem?_cons_succ, Option.getD_some, forall_eq]
          intros
          rename_i hK
          replace hK := hid hK
          simp only [wantedAt]
          go_simp
          exact hK.out _ _ rfl (grown_refl _ _)
        case o20 =>
          go_light
          intro ac w' hgw
          replace hgw := hid hgw
          simp only [outThen, preThen, slotIs, factAt, isv, List.getElem?_cons_zero, List.getElem?_cons_succ, Option.getD_some, forall_eq]
          intros
          rename_i hK
          replace hK := hid hK
          simp only [wantedAt]
          go_simp
          refine (packPut_is false A4 c4 ws _ hw1 hw2 hw3.out (hR4.out.grown (grown_trans (grown_drew (grown_refl w4 none)) hgw.out))).mono ?_
          intro e w9 ho
          rw [hput.out] at ho
          obtain ⟨X9, d9, rfl, _, _, h9, hg⟩ := ho.arr
          exact hK.out _ _ ⟨X9, d9, rfl, h9⟩ hg
        case o21 =>
          go_light
          intro ac w' hgw
          replace hgw := hid hgw
          simp only [outThen, preThen, slotIs, factAt, isv, List.getElem?_cons_zero, List.getElem?_cons_succ, Option.getD_some, forall_eq]
          intro _ _ _ _ v1 h1 hv hv2 K hK
          replace hK := hid hK
          obtain ⟨X9, d9, rfl, h9⟩ := h1
          have cv := conv_arr w' X9 d9 b h9
          clear h9
          simp only [wantedAt]
          go_simp
          exact hK.out _ _ rfl (grown_refl _ _)
        case o22 =>
          go_light
          intro ac w' hgw
          replace hgw := hid hgw
          simp only [outThen, preThen, slotIs, factAt, isv, List.getElem?_cons_zero, List.getElem?_cons_succ, Option.getD_some, forall_eq]
          intros
          rename_i hK
          replace hK := hid hK
          simp only [wantedAt]
          go_simp
          exact hK.out _ _ rfl (grown_refl _ _)
        case o23 =>
          go_light
          intro ac w' hgw
          replace hgw := hid hgw
          simp only [outThen, preThen, slotIs, factAt, isv, List.getElem?_cons_zero, List.getElem?_cons_succ, Option.getD_some, forall_eq]
          intros
          rename_i hK
          replace hK := hid hK
          have cv := conv_arr w' B cb b (hBb.out.grown (grown_trans (grown_drew (grown_refl w4 none)) hgw.out))
          simp only [wantedAt]
          go_simp
          exact hK.out _ _ rfl (grown_refl _ _)
        case o24 =>
          go_light
          intro ac w' hgw
          replace hgw := hid hgw
          simp only [outThen, preThen, slotIs, factAt, isv, List.getElem?_cons_zero, List.getElem?_cons_succ, Option.getD_some, forall_eq]
          intros
          rename_i hK
          replace hK := hid hK
          generalize strOfNums b = sb at *
          simp only [wantedAt]
          go_simp
          exact hK.out _ _ rfl (grown_refl _ _)
        case o25 =>
          go_light
          intro ac w' hgw
          replace hgw := hid hgw
          simp only [outThen, preThen, slotIs, factAt, isv, List.getElem?_cons_zero, List.getElem?_cons_succ, Option.getD_some, forall_eq]
          intros
          rename_i hK
          replace hK := hid hK
          simp only [wantedAt]
          go_simp
          exact hK.out _ _ rfl (grown_refl _ _)
        case o26 =>
          go_light
          intro ac w' hgw
          replace hgw := hid hgw
          simp only [outThen, preThen, slotIs, factAt, isv, List.getElem?_cons_zero, List.getElem?_cons_succ, Option.getD_some, forall_eq]
          intros
          rename_i hK
          replace hK := hid hK
          simp only [wantedAt]
          go_simp
          exact hK.out _ _ rfl (grown_refl _ _)
        case o27 =>
          go_light
          intro ac w' hgw
          replace hgw := hid hgw
          simp only [outThen, preThen, slotIs, factAt, isv, List.getElem?_cons_zero, List.getElem?_cons_succ, Option.getD_some, forall_eq]
          intros
          rename_i hK
          replace hK := hid hK
          simp only [wantedAt]
          go_simp
          exact hK.out _ _ rfl (grown_refl _ _)
        case o28 =>
          go_light
          intro ac w' hgw
          replace hgw := hid hgw
          simp only [outThen, preThen, slotIs, factAt, isv, List.getElem?_cons_zero, List.getElem?_cons_succ, Option.getD_some, forall_eq]
          intros
          rename_i hK
          replace hK := hid hK
          simp only [wantedAt]
          go_simp
          exact hK.out _ _ rfl (grown_refl _ _)
        case o29 =>
          go_light
          intro ac w' hgw
          replace hgw := hid hgw
          simp only [outThen, preThen, slotIs, factAt, isv, List.getElem?_cons_zero, List.getElem?_cons_succ, Option.getD_some, forall_eq]
          intros
          rename_i hK
          replace hK := hid hK
          simp only [wantedAt]
          go_simp
          exact hK.out _ _ rfl (grown_refl _ _)
        case o30 =>
          go_light
          intro ac w' hgw
          replace hgw := hid hgw
          simp only [outThen, preThen, slotIs, factAt, isv, List.getElem?_cons_zero, List.getElem?_cons_succ, Option.getD_some, forall_eq]
          intros
          rename_i hK
          replace hK := hid hK
          simp only [wantedAt]
          go_simp
          exact hK.out _ _ (by simpa using q2.out) (grown_refl _ _)
        case o31 =>
          go_light
          intro ac w' hgw
          replace hgw := hid hgw
          simp only [outThen, preThen, slotIs, factAt, isv, List.getElem?_cons_zero, List.getElem?_cons_succ, Option.getD_some, forall_eq]
          intros
          rename_i hK
          replace hK := hid hK
          simp only [wantedAt]
          go_simp
          exact hK.out _ _ rfl (grown_refl _ _)
        case o32 =>
          go_light
          intro ac w' hgw
          replace hgw := hid hgw
          simp only [outThen, preThen, slotIs, factAt, isv, List.getElem?_cons_zero, List.getElem?_cons_succ, Option.getD_some, forall_eq]
          intros
          rename_i hK
          replace hK := hid hK
          simp only [wantedAt]
          go_simp
          exact hK.out _ _ rfl (grown_refl _ _)
        case o33 =>
          go_light
          intro ac w' hgw
          replace hgw := hid hgw
          simp only [outThen, preThen, slotIs, factAt, isv, List.getElem?_cons_zero, List.getElem?_cons_succ, Option.getD_some, forall_eq]
          intros
          rename_i hK
          replace hK := hid hK
          simp only [wantedAt]
          go_simp
          exact hK.out _ _ rfl (grown_refl _ _)
        case o34 =>
          go_light
          intro ac w' hgw
          replace hgw := hid hgw
          simp only [outThen, preThen, slotIs, factAt, isv, List.getElem?_cons_zero, List.getElem?_cons_succ, Option.getD_some, forall_eq]
          intros
          rename_i hK
          replace hK := hid hK
          simp only [wantedAt]
          go_simp
          exact hK.out _ _ rfl (grown_refl _ _)
        case o35 =>
          go_light
          intro ac w' hgw
          replace hgw := hid hgw
          simp only [outThen, preThen, slotIs, factAt, isv, List.getElem?_cons_zero, List.getElem?_cons_succ, Option.getD_some, forall_eq]
          intros
          rename_i hK
          replace hK := hid hK
          simp only [wantedAt]
          go_simp
          exact hK.out _ _ rfl (grown_refl _ _)
      case st =>
        repeat (first | exact AllStable.nil | (refine AllStable.cons ?_ ?_; focus (first | exact stable_isv _ | exact stable_isBytes _ | exact stable_isRow1 _ | exact stable_isRowOf _ _ | exact stable_isArrOf _)))
      case fin =>
        intro w8 hgw
        simp only [finalIn, factAt, isv, List.getElem?_cons_zero, List.getElem?_cons_succ, Option.getD_some, forall_eq, slotIs, subj]
        rintro v1 ⟨X8, d8, rfl, _⟩
        simp only [Act.put, List.setIfInBounds_toArray, List.set_cons_zero, List.set_cons_succ]
        have hG8 := hid (grown_trans hG4.out (grown_trans (grown_drew (grown_refl w4 none)) hgw))
        clear hgw
        go_wp2_with fail
        go_meet
        go_light
        exact ⟨rfl, hG8.out⟩
  case rest =>
    obtain ⟨rfl, hG⟩ := hcut
    replace hG := hid hG
    clear hBb hR4 hcases hG4 hG2 hG1 hbb hcb hcm
    go_wp2_with fail
    refine (packPut_is f P c2 xss wc (by omega) h3000 hX.out (hP.out.grown hG.out)).mono ?_
    intro e w5 ho
    obtain ⟨A5, c5, rfl, hc5, hm5, hA5, hg5⟩ := ho.arr
    clear ho
    have hT := told_small xss (by omega) h3000
    have hab := hid (ahead_bytes f xss hX.out)
    have hal := ahead_le f xss (by omega) h3000
    have hge := words_ge xss
    have hep := enc_pos xss.length
    have hal2 := PlainPacked.ahead_len f xss
    have hzN : (put f xss).length = (aheadOf f xss).length + 4 := len_summed _
    have hgot0 := hid (got_put f xss hT)
    have hmore := hid (fun (h : mo ≠ []) => got_more f xss mo hT h)
    have hless := hid (fun n h0 h1 => got_less f xss n hT (words_byte xss hX.out.mem) h0 h1)
    have hA6 : Arr w5 .u8 A5 (aheadOf f xss) := by
      have h1 := hA5.take (aheadOf f xss).length
      have h2 := summed_take (aheadOf f xss)
      rw [len_summed, Nat.add_sub_cancel] at h2
      have h3 : (put f xss).take (aheadOf f xss).length = aheadOf f xss := h2
      rwa [h3] at h1
    have hput : Hid (put f xss = summed (aheadOf f xss)) := rfl
    rw [hput.out] at hgot0
    rw [hzN] at hc5 ⊢
    have hG5 := hid (grown_trans hG.out hg5)
    clear hA5 hg5 hput hT
    generalize aheadOf f xss = ah at hab hal hal2 hzN hgot0 hmore hless hA6 hc5 ⊢
    have hN7 : 7 ≤ ah.length := by omega
    clear hge hep hal2 hzN
    replace hA6 := hid hA6
    unfold maxLen at hm5
    have t10 : ¬ ((ah.length : Int) + 4 < 10) := by omega
    go_upto_region 11 with fail
    go_cut [4] from 96 to 100 (fun u wx => ∃ q : Nat, 1 ≤ q ∧ q + 6 ≤ ah.length ∧ u = .int .i64 q ∧ wx = w5)
    case first =>
      by_cases g0 : less < 1
      · go_wp2_with fail
        all_goals (go_meet; go_light; exact ⟨1, by omega, by omega, by first | rfl | (simp; omega), rfl⟩)
      · obtain ⟨k, rfl⟩ := Int.eq_ofNat_of_zero_le (show 0 ≤ less by omega)
        by_cases g1 : (k : Int) ≤ (ah.length : Int) - 6
        · go_wp2_with fail
          all_goals (go_meet; go_light; exact ⟨k, by omega, by omega, by first | rfl | (simp; omega), rfl⟩)
        · go_wp2_with fail
          all_goals (go_meet; go_light; exact ⟨ah.length - 6, by omega, by omega, by first | rfl | (simp; omega), rfl⟩)
    case rest =>
      obtain ⟨q, hq1, hq6, rfl, rfl⟩ := hcut
      have hrowE : Hid ((wc.alloc (.cells #[] 5)).ownsRow wc.heap.size 5 1 (.slice (some ⟨wc.heap.size, 0, none⟩) 0 0) ([] : List Int).length (([] : List Int).map (Value.int .u8))) :=
        World.ownsRow_made wc #[] 0 (Nat.le_refl _) (by simp) (by simp)
      have hA6' := hid (hA6.out.grown (World.grownBy_alloc wc (.cells #[] 5) none))
      have s1 : (ah.length : Int) ≤ (c5 : Int) := by omega
      have s2 : (0 : Int) ≤ (ah.length : Int) - (q : Int) := by omega
      have s3 : (ah.length : Int) - (q : Int) ≤ (c5 : Int) := by omega
      have s4 : ((ah.length : Int) - (q : Int)).toNat = ah.length - q := by omega
      obtain ⟨am, ham⟩ : ∃ am, ah ++ mo = am := ⟨_, rfl⟩
      have hamb : Hid (Bytes am) := hid (by rw [← ham]; exact bytes_app hab.out hmo.out)
      have haml : am.length ≤ 20030 := by rw [← ham, List.length_append]; omega
      have hE1 : Hid ((mo = [] ∧ (got (summed am)).2.2 = 0) ∨ (mo ≠ [] ∧ (got (summed am)).2.2 = 43)) := hid (by
        by_cases hmo0 : mo = []
        · left
          refine ⟨hmo0, ?_⟩
          rw [← ham, hmo0, List.append_nil, hgot0.out]
        · right
          exact ⟨hmo0, by rw [← ham, hmore.out hmo0]⟩)
      replace ham := hid ham
      clear hgot0 hmore
      go_wp2_with (first
        | (at_builtin; refine wpList_append_all rfl _ _ 23 rfl wc.heap.size 5 i0 .u8 1 Try.underlying23 hi0 hz0 hz1 hz2 _ [] ah _ _ _ (wc.alloc (.cells #[] 5)) hrowE.out hA6'.out rfl rfl rfl (by decide) (by simp; omega) (by simp) ?_; intro v6 w6 hrow6 hB6; rw [List.nil_append] at hrow6; have hB6' := hid (((Below.refl _ wc).alloc (Nat.le_refl _) (.cells #[] 5)).trans hB6); replace hrow6 := hid hrow6; clear hB6)
        | (at_builtin; refine wpList_append_all rfl _ _ 23 rfl wc.heap.size 5 i0 .u8 1 Try.underlying23 hi0 hz0 hz1 hz2 _ ah mo _ _ _ w6 hrow6.out (hM.out.grown (grown_trans hG5.out (below_grown hB6'.out))) rfl rfl rfl (by decide) (by omega) hB6'.out.size ?_; intro v7 w7 hrow7 hB7; rw [ham.out] at hrow7; obtain ⟨A7, c7, rfl, hc7, hd7⟩ := own_form hrow7))
      have hg7 := below_grown (hB6'.out.trans hB7)
      have hG7 := hid (grown_trans hG5.out hg7)
      have hA7 := hid (Arr.of_own (k := .u8) hrow7)
      have hAh7 := hid (hA6.out.grown hg7)
      clear hrow7 hB7 hB6' hrow6 hrowE hA6' hg7 hA6 hc7 hd7
      refine (refSummed_is A7 c7 am w7 (by omega) hamb.out hA7.out).mono ?_
      intro e w8 ho
      obtain ⟨B8, c8, rfl, hc8, hm8, hB8, hg8⟩ := ho.arr
      have hG8 := hid (grown_trans hG7.out hg8)
      have hAh8 := hid (hAh7.out.grown hg8)
      have hsb := hid (summed_bytes hamb.out)
      have hsl : (summed am).length ≤ 20034 := by rw [len_summed]; omega
      clear ho hg8 hA7 hAh7 hamb haml
      generalize summed am = sm at hE1 hc8 hB8 hsb hsl ⊢
      go_wp2_with fail
      refine (packTake_is B8 c8 sm w8 (by omega) hc8 hm8 hsb.out hB8).mono ?_
      rintro e w9 ⟨A9, c9, l9, rfl, _, _, hg9⟩
      have hG9 := hid (grown_trans hG8.out hg9)
      have hAh9 := hid ((hAh8.out.grown hg9).take (ah.length - q))
      clear hg9 hAh8 hB8 hc8 hm8 hsb hsl
      generalize got sm = G9 at hE1 ⊢
      obtain ⟨g1, g2, E⟩ := G9
      simp only at hE1 ⊢
      have hL := hid (hless.out (ah.length - q) (by omega) (by omega))
      have hatb := hid (hab.out.take (ah.length - q))
      have hatl : (ah.take (ah.length - q)).length = ah.length - q := by rw [List.length_take]; omega
      generalize ah.take (ah.length - q) = at_ at hAh9 hL hatb hatl
      replace hatl := hid hatl
      clear hless
      go_wp2_with fail
      have key := refSummed_is A5 c5 at_ w9 (by rw [hatl.out]; omega) hatb.out hAh9.out
      rw [hatl.out] at key
      refine key.mono ?_
      clear key
      intro e w10 ho
      obtain ⟨B10, c10, rfl, hc10, hm10, hB10, hg10⟩ := ho.arr
      have hG10 := hid (grown_trans hG9.out hg10)
      have hsb := hid (summed_bytes hatb.out)
      have hsl : (summed at_).length ≤ 20034 := by rw [len_summed, hatl.out]; omega
      clear ho hg10 hAh9 hatb
      generalize summed at_ = sm at hL hc10 hB10 hsb hsl ⊢
      go_wp2_with fail
      refine (packTake_is B10 c10 sm w10 (by omega) hc10 hm10 hsb.out hB10).mono ?_
      rw [hL.out]
      rintro e w11 ⟨A11, c11, l11, rfl, _, _, hg11⟩
      have hG11 := hid (grown_trans hG10.out hg11)
      clear hg11 hB10 hc10 hm10 hsb hsl hL
      simp only
      rcases hE1.out with ⟨hm0, rfl⟩ | ⟨hm0, rfl⟩
      · have u1 : ¬ (0 : Int) < (mo.length : Int) := by rw [hm0]; decide
        clear hE1
        go_wp2_with fail
        refine (pwakes_true _).mono ?_
        rintro e w12 ⟨rfl, hg12⟩
        have hG12 := hid (grown_trans hG11.out hg12)
        clear hg12
        go_wp2_with fail
        go_ret
        exact ⟨rfl, hG12.out⟩
      · have u1 : (0 : Int) < (mo.length : Int) := by have := List.length_pos_iff.2 hm0; omega
        clear hE1
        go_wp2_with fail
        refine (pwakes_true _).mono ?_
        rintro e w12 ⟨rfl, hg12⟩
        have hG12 := hid (grown_trans hG11.out hg12)
        clear hg12
        go_wp2_with fail
        go_ret
        exact ⟨rfl, hG12.out⟩
end Go.Proofs.Ytghnbfphhmgcpaa
