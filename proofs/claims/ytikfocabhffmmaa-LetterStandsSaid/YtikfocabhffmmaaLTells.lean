/- The walk of the law LetterTells: it returns true at every input. -/
import Derived.Test.YtikfocabhffmmaaLWakes
import Derived.Test.YtikfocabhffmmaaCames
set_option linter.unusedVariables false
namespace Go.Proofs.Ytikfocabhffmmaa
open Go.RowKit PlainLetter

/-- Where great says no, all is small. -/
theorem small_texts {xss : List (List Int)} (h1 : xss.length ≤ 80) (h2 : xss.flatten.length ≤ 3000) (hB : ∀ i, Bytes (xss.getD i [])) : Small xss := ⟨by omega, fun i => by
  refine ⟨?_, hB i⟩
  by_cases hi : i < xss.length
  · have h3 : (xss.getD i []).length ≤ xss.flatten.length := by
      have e := flatten_take_succ xss i hi
      have := flatten_take_le xss (i + 1)
      rw [e, List.length_append] at this
      omega
    omega
  · simp [List.getD, List.getElem?_eq_none (Nat.le_of_not_lt hi)]⟩

theorem ltells_out (f : Bool) (c place : Int) (A B P : Option Addr) (m n c1 c2 c3 : Nat) (xss : List (List Int)) (w : World) (hP : Arrs w P xss) (hl : xss.length ≤ 9223372036854775807) (h : 400 < m ∨ 400 < n) :
    Calls Try.prog 3 #[.bool f, .int .u8 c, .slice A m c1, .slice B n c2, .int .i64 place, .slice P xss.length c3] w fun e w' => e = .returned (.bool true) ∧ w.grownBy w' none := by
  by_cases h1 : 400 < m
  · clear h
    go_enter Try.func3, Try.ntmps3
    go_wp2_with fail
    refine (lwakes_true _).mono ?_
    rintro e w' ⟨rfl, hg⟩
    go_wp2_with fail
    go_ret
    exact ⟨rfl, hg⟩
  · have h2 : 400 < n := by omega
    clear h
    go_enter Try.func3, Try.ntmps3
    go_wp2_with fail
    refine (lwakes_true _).mono ?_
    rintro e w' ⟨rfl, hg⟩
    go_wp2_with fail
    go_ret
    exact ⟨rfl, hg⟩

set_option maxRecDepth 100000 in
set_option maxHeartbeats 4000000 in
theorem ltells_in (f : Bool) (c place : Int) (A B P : Option Addr) (c1 c2 c3 : Nat) (a b : List Int) (xss : List (List Int)) (w : World) (hc0 : 0 ≤ c) (hc255 : c ≤ 255) (hla : a.length ≤ 400) (hlb : b.length ≤ 400) (hc1 : a.length ≤ c1) (hm1 : c1 ≤ maxLen)
    (ha : Bytes a) (hb : Bytes b) (hB : ∀ i, Bytes (xss.getD i [])) (hA : Arr w .u8 A a) (hBb : Arr w .u8 B b) (hP : Arrs w P xss) (hl : xss.length ≤ 9223372036854775807) :
    Calls Try.prog 3 #[.bool f, .int .u8 c, .slice A a.length c1, .slice B b.length c2, .int .i64 place, .slice P xss.length c3] w fun e w' => e = .returned (.bool true) ∧ w.grownBy w' none := by
  have hP0 := hid hP
  have hA0 : Hid (Arr w.drew .u8 A a) := hA
  have hB0 : Hid (Arr w.drew .u8 B b) := hBb
  have hPd : Hid (Arrs w.drew P xss) := hP.grown (grown_drew (grown_refl w none))
  replace ha := hid ha
  replace hb := hid hb
  replace hB := hid hB
  clear hP hA hBb
  go_enter Try.func3, Try.ntmps3
  go_wp2_with fail
  refine (greatTexts_is P c3 xss w hP0.out hl).mono ?_
  rintro e w1 ⟨rfl, rfl | ⟨rfl, h80, h3000⟩⟩
  · go_wp2_with fail
    refine (lwakes_true _).mono ?_
    rintro e w' ⟨rfl, hg⟩
    go_wp2_with fail
    go_ret
    exact ⟨rfl, hg⟩
  have hSm := hid (small_texts h80 h3000 hB.out)
  have hfl : Hid (xss.flatten.length ≤ 100000) := by show _ ≤ _; omega
  have hfb : Hid (xss.length ≤ 100000) := by show _ ≤ _; omega
  clear h80 h3000 hB
  obtain ⟨jn, hjn⟩ : ∃ jn, xss.flatten = jn := ⟨_, rfl⟩
  replace hjn := hid hjn
  go_wp2_with fail
  apply wp_region_each [isv _, isv (.int .u8 (fold c)), isv _, isv (.int .u8 (fold c)), isv _, isv _, isv _, isArrOf (a.map fold), isv (.string (strOfNums (a.map fold))), isv _, isArrOf (a.map fold), isv (.string (strOfNums (a.map fold))), isv _, isv _, isv _, isv _, isv _, isv _, isv (.bool (same f a b)), isv _, isv _, isv _, isv (.bool (same f a b)), isv _, isv _, isv _, isv _, isv _, isv _, isv _, isv (.bool (stands f a place b)), isv _, isv _, isv _, isv _, isv (.bool (stands f a place b)), isv _, isv _, isv _, isv _, isv _, isv _, isv (.int .i64 (which f a xss)), isv _, isv _, isv _, isv (.int .i64 (which f a xss)), isv _, isv _, isv _, isv _, isArrOf jn, isv (.string (strOfNums jn)), isv _, isArrOf jn, isv (.string (strOfNums jn)), isv _, isv _, isv _, isv (.bool true), isv _, isv _]
    87 [some 26, some 27, some 28, some 29, some 30, some 31, some 32, some 33, some 34, some 35, some 36, some 37, some 38, some 39, some 40, some 41, some 42, some 43, some 44, some 45, some 46, some 47, some 48, some 49, some 50, some 51, some 52, some 53, some 54, some 55, some 56, some 57, some 58, some 59, some 60, some 61, some 62, some 63, some 64, some 65, some 66, some 67, some 68, some 69, some 70, some 71, some 72, some 73, some 74, some 75, some 76, some 77, some 78, some 79, some 80, some 81, some 82, some 83, some 84, some 85, some 86, some 12]
    [some 26, some 27, some 28, some 29, some 30, some 31, some 32, some 33, some 34, some 35, some 36, some 37, some 38, some 39, some 40, some 41, some 42, some 43, some 44, some 45, some 46, some 47, some 48, some 49, some 50, some 51, some 52, some 53, some 54, some 55, some 56, some 57, some 58, some 59, some 60, some 61, some 62, some 63, some 64, some 65, some 66, some 67, some 68, some 69, some 70, some 71, some 72, some 73, some 74, some 75, some 76, some 77, some 78, some 79, some 80, some 81, some 82, some 83, some 84, some 85, some 86, some 12]
    [[], [0], [], [2], [1, 3], [4], [5], [6, 5], [7, 5], [5], [9, 5], [10, 5], [8, 11, 5], [5, 12], [13], [14], [14], [14], [15, 16, 17, 14], [14], [14], [14], [19, 20, 21, 14], [18, 22, 14], [14, 23], [24], [25], [25], [25], [25], [26, 27, 28, 29, 25], [25], [25], [25], [25], [31, 32, 33, 34, 25], [30, 35, 25], [25, 36], [37], [38], [38], [38], [39, 40, 41, 38], [38], [38], [38], [43, 44, 45, 38], [42, 46, 38], [38, 47], [48], [49], [50, 49], [51, 49], [49], [53, 49], [54, 49], [52, 55, 49], [49, 56], [57], [58], [58, 59], [60]]
    [(0, .bool f), (1, .int .u8 c), (2, .slice A a.length c1), (3, .slice B b.length c2), (4, .int .i64 place), (5, .slice P xss.length c3)] (by kernel_rfl) rfl (by kernel_rfl) rfl rfl (by kernel_rfl) (OutsOk.cons rfl rfl (OutsOk.cons rfl rfl (OutsOk.cons rfl rfl (OutsOk.cons rfl rfl (OutsOk.cons rfl rfl (OutsOk.cons rfl rfl OutsOk.nil)))))) ?st ?ob ?fin
  case ob =>
    refine Obs.consv rfl ?o0 (Obs.consv rfl ?o1 (Obs.consv rfl ?o2 (Obs.consv rfl ?o3 (Obs.consv rfl ?o4 (Obs.consv rfl ?o5 (Obs.consv rfl ?o6 (Obs.consv rfl ?o7 (Obs.consv rfl ?o8 (Obs.consv rfl ?o9 (Obs.consv rfl ?o10 (Obs.consv rfl ?o11 (Obs.consv rfl ?o12 (Obs.consv rfl ?o13 (Obs.consv rfl ?o14 (Obs.consv rfl ?o15 (Obs.consv rfl ?o16 (Obs.consv rfl ?o17 (Obs.consv rfl ?o18 (Obs.consv rfl ?o19 (Obs.consv rfl ?o20 (Obs.consv rfl ?o21 (Obs.consv rfl ?o22 (Obs.consv rfl ?o23 (Obs.consv rfl ?o24 (Obs.consv rfl ?o25 (Obs.consv rfl ?o26 (Obs.consv rfl ?o27 (Obs.consv rfl ?o28 (Obs.consv rfl ?o29 (Obs.consv rfl ?o30 (Obs.consv rfl ?o31 (Obs.consv rfl ?o32 (Obs.consv rfl ?o33 (Obs.consv rfl ?o34 (Obs.consv rfl ?o35 (Obs.consv rfl ?o36 (Obs.consv rfl ?o37 (Obs.consv rfl ?o38 (Obs.consv rfl ?o39 (Obs.consv rfl ?o40 (Obs.consv rfl ?o41 (Obs.consv rfl ?o42 (Obs.consv rfl ?o43 (Obs.consv rfl ?o44 (Obs.consv rfl ?o45 (Obs.consv rfl ?o46 (Obs.consv rfl ?o47 (Obs.consv rfl ?o48 (Obs.consv rfl ?o49 (Obs.consv rfl ?o50 (Obs.consv rfl ?o51 (Obs.consv rfl ?o52 (Obs.consv rfl ?o53 (Obs.consv rfl ?o54 (Obs.consv rfl ?o55 (Obs.consv rfl ?o56 (Obs.consv rfl ?o57 (Obs.consv rfl ?o58 (Obs.consv rfl ?o59 (Obs.consv rfl ?o60 (Obs.consv rfl ?o61 Obs.nil)))))))))))))))))))))))))))))))))))))))))))))))))))))))))))))
    case o0 =>
      go_light
      intro ac w' hgw
      replace hgw := hid hgw
      simp only [outThen, preThen, slotIs, factAt, isv, List.getElem?_cons_zero, List.getElem?_cons_succ, Option.getD_some, forall_eq]
      intros
      rename_i hK
      replace hK := hid hK
      simp only [wantedAt]
      go_simp
      exact hK.out _ _ rfl (grown_refl _ _)
    case o1 =>
      go_light
      intro ac w' hgw
      replace hgw := hid hgw
      simp only [outThen, preThen, slotIs, factAt, isv, List.getElem?_cons_zero, List.getElem?_cons_succ, Option.getD_some, forall_eq]
      intros
      rename_i hK
      replace hK := hid hK
      simp only [wantedAt]
      go_simp
      refine (letFold_is c _ hc0 hc255).mono ?_
      rintro e w9 ⟨rfl, rfl⟩
      exact hK.out _ _ rfl (grown_refl _ _)
    case o2 =>
      go_light
      intro ac w' hgw
      replace hgw := hid hgw
      simp only [outThen, preThen, slotIs, factAt, isv, List.getElem?_cons_zero, List.getElem?_cons_succ, Option.getD_some, forall_eq]
      intros
      rename_i hK
      replace hK := hid hK
      simp only [wantedAt]
      go_simp
      exact hK.out _ _ rfl (grown_refl _ _)
    case o3 =>
      go_light
      intro ac w' hgw
      replace hgw := hid hgw
      simp only [outThen, preThen, slotIs, factAt, isv, List.getElem?_cons_zero, List.getElem?_cons_succ, Option.getD_some, forall_eq]
      intros
      rename_i hK
      replace hK := hid hK
      simp only [wantedAt]
      go_simp
      refine (refFold_is c _ hc0 hc255).mono ?_
      rintro e w9 ⟨rfl, rfl⟩
      exact hK.out _ _ rfl (grown_refl _ _)
    case o4 =>
      go_light
      intro ac w' hgw
      replace hgw := hid hgw
      simp only [outThen, preThen, slotIs, factAt, isv, List.getElem?_cons_zero, List.getElem?_cons_succ, Option.getD_some, forall_eq]
      intros
      rename_i hK
      replace hK := hid hK
      simp only [wantedAt]
      go_simp
      exact hK.out _ _ rfl (grown_refl _ _)
    case o5 =>
      go_light
      intro ac w' hgw
      replace hgw := hid hgw
      simp only [outThen, preThen, slotIs, factAt, isv, List.getElem?_cons_zero, List.getElem?_cons_succ, Option.getD_some, forall_eq]
      intros
      rename_i hK
      replace hK := hid hK
      simp only [wantedAt]
      go_simp
      exact hK.out _ _ rfl (grown_refl _ _)
    case o6 =>
      go_light
      intro ac w' hgw
      replace hgw := hid hgw
      simp only [outThen, preThen, slotIs, factAt, isv, List.getElem?_cons_zero, List.getElem?_cons_succ, Option.getD_some, forall_eq]
      intros
      rename_i hK
      replace hK := hid hK
      simp only [wantedAt]
      go_simp
      exact hK.out _ _ rfl (grown_refl _ _)
    case o7 =>
      go_light
      intro ac w' hgw
      replace hgw := hid hgw
      simp only [outThen, preThen, slotIs, factAt, isv, List.getElem?_cons_zero, List.getElem?_cons_succ, Option.getD_some, forall_eq]
      intros
      rename_i hK
      replace hK := hid hK
      have hAw := hid (hA0.out.grown hgw.out)
      have hBw := hid (hB0.out.grown hgw.out)
      have hPw := hid (hPd.out.grown hgw.out)
      simp only [wantedAt]
      go_simp
      refine (letFolded_is A c1 a _ (by omega) ha.out hAw.out).mono ?_
      rintro e w9 ho
      obtain ⟨X9, d9, rfl, _, _, h9, hg⟩ := ho.arr
      exact hK.out _ _ ⟨X9, d9, rfl, h9⟩ hg
    case o8 =>
      go_light
      intro ac w' hgw
      replace hgw := hid hgw
      simp only [outThen, preThen, slotIs, factAt, isv, List.getElem?_cons_zero, List.getElem?_cons_succ, Option.getD_some, forall_eq]
      intro _ _ _ _ _ _ v1 h1 hv hq K hK
      replace hK := hid hK
      obtain ⟨X9, d9, rfl, h9⟩ := h1
      have cv := conv_arr w' X9 d9 (a.map fold) h9
      try simp only [List.length_map] at cv hv
      clear h9
      simp only [wantedAt]
      go_simp
      exact hK.out _ _ rfl (grown_refl _ _)
    case o9 =>
      go_light
      intro ac w' hgw
      replace hgw := hid hgw
      simp only [outThen, preThen, slotIs, factAt, isv, List.getElem?_cons_zero, List.getElem?_cons_succ, Option.getD_some, forall_eq]
      intros
      rename_i hK
      replace hK := hid hK
      simp only [wantedAt]
      go_simp
      exact hK.out _ _ rfl (grown_refl _ _)
    case o10 =>
      go_light
      intro ac w' hgw
      replace hgw := hid hgw
      simp only [outThen, preThen, slotIs, factAt, isv, List.getElem?_cons_zero, List.getElem?_cons_succ, Option.getD_some, forall_eq]
      intros
      rename_i hK
      replace hK := hid hK
      have hAw := hid (hA0.out.grown hgw.out)
      have hBw := hid (hB0.out.grown hgw.out)
      have hPw := hid (hPd.out.grown hgw.out)
      simp only [wantedAt]
      go_simp
      refine (refFolded_is A c1 a _ (by omega) ha.out hAw.out).mono ?_
      rintro e w9 ho
      obtain ⟨X9, d9, rfl, _, _, h9, hg⟩ := ho.arr
      exact hK.out _ _ ⟨X9, d9, rfl, h9⟩ hg
    case o11 =>
      go_light
      intro ac w' hgw
      replace hgw := hid hgw
      simp only [outThen, preThen, slotIs, factAt, isv, List.getElem?_cons_zero, List.getElem?_cons_succ, Option.getD_some, forall_eq]
      intro _ _ _ _ _ _ v1 h1 hv hq K hK
      replace hK := hid hK
      obtain ⟨X9, d9, rfl, h9⟩ := h1
      have cv := conv_arr w' X9 d9 (a.map fold) h9
      try simp only [List.length_map] at cv hv
      clear h9
      simp only [wantedAt]
      go_simp
      exact hK.out _ _ rfl (grown_refl _ _)
    case o12 =>
      go_light
      intro ac w' hgw
      replace hgw := hid hgw
      simp only [outThen, preThen, slotIs, factAt, isv, List.getElem?_cons_zero, List.getElem?_cons_succ, Option.getD_some, forall_eq]
      intros
      rename_i hK
      replace hK := hid hK
      simp only [wantedAt]
      go_simp
      exact hK.out _ _ rfl (grown_refl _ _)
    case o13 =>
      go_light
      intro ac w' hgw
      replace hgw := hid hgw
      simp only [outThen, preThen, slotIs, factAt, isv, List.getElem?_cons_zero, List.getElem?_cons_succ, Option.getD_some, forall_eq]
      intros
      rename_i hK
      replace hK := hid hK
      simp only [wantedAt]
      go_simp
      exact hK.out _ _ rfl (grown_refl _ _)
    case o14 =>
      go_light
      intro ac w' hgw
      replace hgw := hid hgw
      simp only [outThen, preThen, slotIs, factAt, isv, List.getElem?_cons_zero, List.getElem?_cons_succ, Option.getD_some, forall_eq]
      intros
      rename_i hK
      replace hK := hid hK
      simp only [wantedAt]
      go_simp
      exact hK.out _ _ rfl (grown_refl _ _)
    case o15 =>
      go_light
      intro ac w' hgw
      replace hgw := hid hgw
      simp only [outThen, preThen, slotIs, factAt, isv, List.getElem?_cons_zero, List.getElem?_cons_succ, Option.getD_some, forall_eq]
      intros
      rename_i hK
      replace hK := hid hK
      simp only [wantedAt]
      go_simp
      exact hK.out _ _ rfl (grown_refl _ _)
    case o16 =>
      go_light
      intro ac w' hgw
      replace hgw := hid hgw
      simp only [outThen, preThen, slotIs, factAt, isv, List.getElem?_cons_zero, List.getElem?_cons_succ, Option.getD_some, forall_eq]
      intros
      rename_i hK
      replace hK := hid hK
      simp only [wantedAt]
      go_simp
      exact hK.out _ _ rfl (grown_refl _ _)
    case o17 =>
      go_light
      intro ac w' hgw
      replace hgw := hid hgw
      simp only [outThen, preThen, slotIs, factAt, isv, List.getElem?_cons_zero, List.getElem?_cons_succ, Option.getD_some, forall_eq]
      intros
      rename_i hK
      replace hK := hid hK
      simp only [wantedAt]
      go_simp
      exact hK.out _ _ rfl (grown_refl _ _)
    case o18 =>
      go_light
      intro ac w' hgw
      replace hgw := hid hgw
      simp only [outThen, preThen, slotIs, factAt, isv, List.getElem?_cons_zero, List.getElem?_cons_succ, Option.getD_some, forall_eq]
      intros
      rename_i hK
      replace hK := hid hK
      have hAw := hid (hA0.out.grown hgw.out)
      have hBw := hid (hB0.out.grown hgw.out)
      have hPw := hid (hPd.out.grown hgw.out)
      simp only [wantedAt]
      go_simp
      refine (letSame_is f A B c1 c2 a b _ (by omega) (by omega) ha.out hb.out hAw.out hBw.out).mono ?_
      rintro e w9 ⟨rfl, hg⟩
      exact hK.out _ _ rfl hg
    case o19 =>
      go_light
      intro ac w' hgw
      replace hgw := hid hgw
      simp only [outThen, preThen, slotIs, factAt, isv, List.getElem?_cons_zero, List.getElem?_cons_succ, Option.getD_some, forall_eq]
      intros
      rename_i hK
      replace hK := hid hK
      simp only [wantedAt]
      go_simp
      exact hK.out _ _ rfl (grown_refl _ _)
    case o20 =>
      go_light
      intro ac w' hgw
      replace hgw := hid hgw
      simp only [outThen, preThen, slotIs, factAt, isv, List.getElem?_cons_zero, List.getElem?_cons_succ, Option.getD_some, forall_eq]
      intros
      rename_i hK
      replace hK := hid hK
      simp only [wantedAt]
      go_simp
      exact hK.out _ _ rfl (grown_refl _ _)
    case o21 =>
      go_light
      intro ac w' hgw
      replace hgw := hid hgw
      simp only [outThen, preThen, slotIs, factAt, isv, List.getElem?_cons_zero, List.getElem?_cons_succ, Option.getD_some, forall_eq]
      intros
      rename_i hK
      replace hK := hid hK
      simp only [wantedAt]
      go_simp
      exact hK.out _ _ rfl (grown_refl _ _)
    case o22 =>
      go_light
      intro ac w' hgw
      replace hgw := hid hgw
      simp only [outThen, preThen, slotIs, factAt, isv, List.getElem?_cons_zero, List.getElem?_cons_succ, Option.getD_some, forall_eq]
      intros
      rename_i hK
      replace hK := hid hK
      have hAw := hid (hA0.out.grown hgw.out)
      have hBw := hid (hB0.out.grown hgw.out)
      have hPw := hid (hPd.out.grown hgw.out)
      simp only [wantedAt]
      go_simp
      refine (refSame_is f A B c1 c2 a b _ (by omega) (by omega) ha.out hb.out hAw.out hBw.out).mono ?_
      rintro e w9 ⟨rfl, hg⟩
      exact hK.out _ _ rfl hg
    case o23 =>
      go_light
      intro ac w' hgw
      replace hgw := hid hgw
      simp only [outThen, preThen, slotIs, factAt, isv, List.getElem?_cons_zero, List.getElem?_cons_succ, Option.getD_some, forall_eq]
      intros
      rename_i hK
      replace hK := hid hK
      simp only [wantedAt]
      go_simp
      exact hK.out _ _ rfl (grown_refl _ _)
    case o24 =>
      go_light
      intro ac w' hgw
      replace hgw := hid hgw
      simp only [outThen, preThen, slotIs, factAt, isv, List.getElem?_cons_zero, List.getElem?_cons_succ, Option.getD_some, forall_eq]
      intros
      rename_i hK
      replace hK := hid hK
      simp only [wantedAt]
      go_simp
      exact hK.out _ _ rfl (grown_refl _ _)
    case o25 =>
      go_light
      intro ac w' hgw
      replace hgw := hid hgw
      simp only [outThen, preThen, slotIs, factAt, isv, List.getElem?_cons_zero, List.getElem?_cons_succ, Option.getD_some, forall_eq]
      intros
      rename_i hK
      replace hK := hid hK
      simp only [wantedAt]
      go_simp
      exact hK.out _ _ rfl (grown_refl _ _)
    case o26 =>
      go_light
      intro ac w' hgw
      replace hgw := hid hgw
      simp only [outThen, preThen, slotIs, factAt, isv, List.getElem?_cons_zero, List.getElem?_cons_succ, Option.getD_some, forall_eq]
      intros
      rename_i hK
      replace hK := hid hK
      simp only [wantedAt]
      go_simp
      exact hK.out _ _ rfl (grown_refl _ _)
    case o27 =>
      go_light
      intro ac w' hgw
      replace hgw := hid hgw
      simp only [outThen, preThen, slotIs, factAt, isv, List.getElem?_cons_zero, List.getElem?_cons_succ, Option.getD_some, forall_eq]
      intros
      rename_i hK
      replace hK := hid hK
      simp only [wantedAt]
      go_simp
      exact hK.out _ _ rfl (grown_refl _ _)
    case o28 =>
      go_light
      intro ac w' hgw
      replace hgw := hid hgw
      simp only [outThen, preThen, slotIs, factAt, isv, List.getElem?_cons_zero, List.getElem?_cons_succ, Option.getD_some, forall_eq]
      intros
      rename_i hK
      replace hK := hid hK
      simp only [wantedAt]
      go_simp
      exact hK.out _ _ rfl (grown_refl _ _)
    case o29 =>
      go_light
      intro ac w' hgw
      replace hgw := hid hgw
      simp only [outThen, preThen, slotIs, factAt, isv, List.getElem?_cons_zero, List.getElem?_cons_succ, Option.getD_some, forall_eq]
      intros
      rename_i hK
      replace hK := hid hK
      simp only [wantedAt]
      go_simp
      exact hK.out _ _ rfl (grown_refl _ _)
    case o30 =>
      go_light
      intro ac w' hgw
      replace hgw := hid hgw
      simp only [outThen, preThen, slotIs, factAt, isv, List.getElem?_cons_zero, List.getElem?_cons_succ, Option.getD_some, forall_eq]
      intros
      rename_i hK
      replace hK := hid hK
      have hAw := hid (hA0.out.grown hgw.out)
      have hBw := hid (hB0.out.grown hgw.out)
      have hPw := hid (hPd.out.grown hgw.out)
      simp only [wantedAt]
      go_simp
      refine (letAt_is f A B c1 c2 a b place _ (by omega) (by omega) hc1 hm1 ha.out hb.out hAw.out hBw.out).mono ?_
      rintro e w9 ⟨rfl, hg⟩
      exact hK.out _ _ rfl hg
    case o31 =>
      go_light
      intro ac w' hgw
      replace hgw := hid hgw
      simp only [outThen, preThen, slotIs, factAt, isv, List.getElem?_cons_zero, List.getElem?_cons_succ, Option.getD_some, forall_eq]
      intros
      rename_i hK
      replace hK := hid hK
      simp only [wantedAt]
      go_simp
      exact hK.out _ _ rfl (grown_refl _ _)
    case o32 =>
      go_light
      intro ac w' hgw
      replace hgw := hid hgw
      simp only [outThen, preThen, slotIs, factAt, isv, List.getElem?_cons_zero, List.getElem?_cons_succ, Option.getD_some, forall_eq]
      intros
      rename_i hK
      replace hK := hid hK
      simp only [wantedAt]
      go_simp
      exact hK.out _ _ rfl (grown_refl _ _)
    case o33 =>
      go_light
      intro ac w' hgw
      replace hgw := hid hgw
      simp only [outThen, preThen, slotIs, factAt, isv, List.getElem?_cons_zero, List.getElem?_cons_succ, Option.getD_some, forall_eq]
      intros
      rename_i hK
      replace hK := hid hK
      simp only [wantedAt]
      go_simp
      exact hK.out _ _ rfl (grown_refl _ _)
    case o34 =>
      go_light
      intro ac w' hgw
      replace hgw := hid hgw
      simp only [outThen, preThen, slotIs, factAt, isv, List.getElem?_cons_zero, List.getElem?_cons_succ, Option.getD_some, forall_eq]
      intros
      rename_i hK
      replace hK := hid hK
      simp only [wantedAt]
      go_simp
      exact hK.out _ _ rfl (grown_refl _ _)
    case o35 =>
      go_light
      intro ac w' hgw
      replace hgw := hid hgw
      simp only [outThen, preThen, slotIs, factAt, isv, List.getElem?_cons_zero, List.getElem?_cons_succ, Option.getD_some, forall_eq]
      intros
      rename_i hK
      replace hK := hid hK
      have hAw := hid (hA0.out.grown hgw.out)
      have hBw := hid (hB0.out.grown hgw.out)
      have hPw := hid (hPd.out.grown hgw.out)
      simp only [wantedAt]
      go_simp
      refine (refAt_is f A B c1 c2 a b place _ (by omega) (by omega) hc1 hm1 ha.out hb.out hAw.out hBw.out).mono ?_
      rintro e w9 ⟨rfl, hg⟩
      exact hK.out _ _ rfl hg
    case o36 =>
      go_light
      intro ac w' hgw
      replace hgw := hid hgw
      simp only [outThen, preThen, slotIs, factAt, isv, List.getElem?_cons_zero, List.getElem?_cons_succ, Option.getD_some, forall_eq]
      intros
      rename_i hK
      replace hK := hid hK
      simp only [wantedAt]
      go_simp
      exact hK.out _ _ rfl (grown_refl _ _)
    case o37 =>
      go_light
      intro ac w' hgw
      replace hgw := hid hgw
      simp only [outThen, preThen, slotIs, factAt, isv, List.getElem?_cons_zero, List.getElem?_cons_succ, Option.getD_some, forall_eq]
      intros
      rename_i hK
      replace hK := hid hK
      simp only [wantedAt]
      go_simp
      exact hK.out _ _ rfl (grown_refl _ _)
    case o38 =>
      go_light
      intro ac w' hgw
      replace hgw := hid hgw
      simp only [outThen, preThen, slotIs, factAt, isv, List.getElem?_cons_zero, List.getElem?_cons_succ, Option.getD_some, forall_eq]
      intros
      rename_i hK
      replace hK := hid hK
      simp only [wantedAt]
      go_simp
      exact hK.out _ _ rfl (grown_refl _ _)
    case o39 =>
      go_light
      intro ac w' hgw
      replace hgw := hid hgw
      simp only [outThen, preThen, slotIs, factAt, isv, List.getElem?_cons_zero, List.getElem?_cons_succ, Option.getD_some, forall_eq]
      intros
      rename_i hK
      replace hK := hid hK
      simp only [wantedAt]
      go_simp
      exact hK.out _ _ rfl (grown_refl _ _)
    case o40 =>
      go_light
      intro ac w' hgw
      replace hgw := hid hgw
      simp only [outThen, preThen, slotIs, factAt, isv, List.getElem?_cons_zero, List.getElem?_cons_succ, Option.getD_some, forall_eq]
      intros
      rename_i hK
      replace hK := hid hK
      simp only [wantedAt]
      go_simp
      exact hK.out _ _ rfl (grown_refl _ _)
    case o41 =>
      go_light
      intro ac w' hgw
      replace hgw := hid hgw
      simp only [outThen, preThen, slotIs, factAt, isv, List.getElem?_cons_zero, List.getElem?_cons_succ, Option.getD_some, forall_eq]
      intros
      rename_i hK
      replace hK := hid hK
      simp only [wantedAt]
      go_simp
      exact hK.out _ _ rfl (grown_refl _ _)
    case o42 =>
      go_light
      intro ac w' hgw
      replace hgw := hid hgw
      simp only [outThen, preThen, slotIs, factAt, isv, List.getElem?_cons_zero, List.getElem?_cons_succ, Option.getD_some, forall_eq]
      intros
      rename_i hK
      replace hK := hid hK
      have hAw := hid (hA0.out.grown hgw.out)
      have hBw := hid (hB0.out.grown hgw.out)
      have hPw := hid (hPd.out.grown hgw.out)
      simp only [wantedAt]
      go_simp
      refine (letWhich_is f A P c1 c3 a xss _ (by omega) ha.out hAw.out hPw.out hSm.out).mono ?_
      rintro e w9 ⟨rfl, hg⟩
      exact hK.out _ _ rfl hg
    case o43 =>
      go_light
      intro ac w' hgw
      replace hgw := hid hgw
      simp only [outThen, preThen, slotIs, factAt, isv, List.getElem?_cons_zero, List.getElem?_cons_succ, Option.getD_some, forall_eq]
      intros
      rename_i hK
      replace hK := hid hK
      simp only [wantedAt]
      go_simp
      exact hK.out _ _ rfl (grown_refl _ _)
    case o44 =>
      go_light
      intro ac w' hgw
      replace hgw := hid hgw
      simp only [outThen, preThen, slotIs, factAt, isv, List.getElem?_cons_zero, List.getElem?_cons_succ, Option.getD_some, forall_eq]
      intros
      rename_i hK
      replace hK := hid hK
      simp only [wantedAt]
      go_simp
      exact hK.out _ _ rfl (grown_refl _ _)
    case o45 =>
      go_light
      intro ac w' hgw
      replace hgw := hid hgw
      simp only [outThen, preThen, slotIs, factAt, isv, List.getElem?_cons_zero, List.getElem?_cons_succ, Option.getD_some, forall_eq]
      intros
      rename_i hK
      replace hK := hid hK
      simp only [wantedAt]
      go_simp
      exact hK.out _ _ rfl (grown_refl _ _)
    case o46 =>
      go_light
      intro ac w' hgw
      replace hgw := hid hgw
      simp only [outThen, preThen, slotIs, factAt, isv, List.getElem?_cons_zero, List.getElem?_cons_succ, Option.getD_some, forall_eq]
      intros
      rename_i hK
      replace hK := hid hK
      have hAw := hid (hA0.out.grown hgw.out)
      have hBw := hid (hB0.out.grown hgw.out)
      have hPw := hid (hPd.out.grown hgw.out)
      simp only [wantedAt]
      go_simp
      refine (refWhich_is f A P c1 c3 a xss _ (by omega) ha.out hAw.out hPw.out hSm.out).mono ?_
      rintro e w9 ⟨rfl, hg⟩
      exact hK.out _ _ rfl hg
    case o47 =>
      go_light
      intro ac w' hgw
      replace hgw := hid hgw
      simp only [outThen, preThen, slotIs, factAt, isv, List.getElem?_cons_zero, List.getElem?_cons_succ, Option.getD_some, forall_eq]
      intros
      rename_i hK
      replace hK := hid hK
      simp only [wantedAt]
      go_simp
      exact hK.out _ _ rfl (grown_refl _ _)
    case o48 =>
      go_light
      intro ac w' hgw
      replace hgw := hid hgw
      simp only [outThen, preThen, slotIs, factAt, isv, List.getElem?_cons_zero, List.getElem?_cons_succ, Option.getD_some, forall_eq]
      intros
      rename_i hK
      replace hK := hid hK
      simp only [wantedAt]
      go_simp
      exact hK.out _ _ rfl (grown_refl _ _)
    case o49 =>
      go_light
      intro ac w' hgw
      replace hgw := hid hgw
      simp only [outThen, preThen, slotIs, factAt, isv, List.getElem?_cons_zero, List.getElem?_cons_succ, Option.getD_some, forall_eq]
      intros
      rename_i hK
      replace hK := hid hK
      simp only [wantedAt]
      go_simp
      exact hK.out _ _ rfl (grown_refl _ _)
    case o50 =>
      go_light
      intro ac w' hgw
      replace hgw := hid hgw
      simp only [outThen, preThen, slotIs, factAt, isv, List.getElem?_cons_zero, List.getElem?_cons_succ, Option.getD_some, forall_eq]
      intros
      rename_i hK
      replace hK := hid hK
      simp only [wantedAt]
      go_simp
      exact hK.out _ _ rfl (grown_refl _ _)
    case o51 =>
      go_light
      intro ac w' hgw
      replace hgw := hid hgw
      simp only [outThen, preThen, slotIs, factAt, isv, List.getElem?_cons_zero, List.getElem?_cons_succ, Option.getD_some, forall_eq]
      intros
      rename_i hK
      replace hK := hid hK
      have hAw := hid (hA0.out.grown hgw.out)
      have hBw := hid (hB0.out.grown hgw.out)
      have hPw := hid (hPd.out.grown hgw.out)
      simp only [wantedAt]
      go_simp
      refine (letJoin_is P c3 xss _ hfb.out hfl.out hPw.out).mono ?_
      rintro e w9 ho
      rw [hjn.out] at ho
      obtain ⟨X9, d9, rfl, _, _, h9, hg⟩ := ho.arr
      exact hK.out _ _ ⟨X9, d9, rfl, h9⟩ hg
    case o52 =>
      go_light
      intro ac w' hgw
      replace hgw := hid hgw
      simp only [outThen, preThen, slotIs, factAt, isv, List.getElem?_cons_zero, List.getElem?_cons_succ, Option.getD_some, forall_eq]
      intro _ _ _ _ _ _ v1 h1 hv hq K hK
      replace hK := hid hK
      obtain ⟨X9, d9, rfl, h9⟩ := h1
      have cv := conv_arr w' X9 d9 (jn) h9
      try simp only [List.length_map] at cv hv
      clear h9
      simp only [wantedAt]
      go_simp
      exact hK.out _ _ rfl (grown_refl _ _)
    case o53 =>
      go_light
      intro ac w' hgw
      replace hgw := hid hgw
      simp only [outThen, preThen, slotIs, factAt, isv, List.getElem?_cons_zero, List.getElem?_cons_succ, Option.getD_some, forall_eq]
      intros
      rename_i hK
      replace hK := hid hK
      simp only [wantedAt]
      go_simp
      exact hK.out _ _ rfl (grown_refl _ _)
    case o54 =>
      go_light
      intro ac w' hgw
      replace hgw := hid hgw
      simp only [outThen, preThen, slotIs, factAt, isv, List.getElem?_cons_zero, List.getElem?_cons_succ, Option.getD_some, forall_eq]
      intros
      rename_i hK
      replace hK := hid hK
      have hAw := hid (hA0.out.grown hgw.out)
      have hBw := hid (hB0.out.grown hgw.out)
      have hPw := hid (hPd.out.grown hgw.out)
      simp only [wantedAt]
      go_simp
      refine (refJoinTexts_is P c3 xss _ hfb.out hfl.out hPw.out).mono ?_
      rintro e w9 ho
      rw [hjn.out] at ho
      obtain ⟨X9, d9, rfl, _, _, h9, hg⟩ := ho.arr
      exact hK.out _ _ ⟨X9, d9, rfl, h9⟩ hg
    case o55 =>
      go_light
      intro ac w' hgw
      replace hgw := hid hgw
      simp only [outThen, preThen, slotIs, factAt, isv, List.getElem?_cons_zero, List.getElem?_cons_succ, Option.getD_some, forall_eq]
      intro _ _ _ _ _ _ v1 h1 hv hq K hK
      replace hK := hid hK
      obtain ⟨X9, d9, rfl, h9⟩ := h1
      have cv := conv_arr w' X9 d9 (jn) h9
      try simp only [List.length_map] at cv hv
      clear h9
      simp only [wantedAt]
      go_simp
      exact hK.out _ _ rfl (grown_refl _ _)
    case o56 =>
      go_light
      intro ac w' hgw
      replace hgw := hid hgw
      simp only [outThen, preThen, slotIs, factAt, isv, List.getElem?_cons_zero, List.getElem?_cons_succ, Option.getD_some, forall_eq]
      intros
      rename_i hK
      replace hK := hid hK
      simp only [wantedAt]
      go_simp
      exact hK.out _ _ rfl (grown_refl _ _)
    case o57 =>
      go_light
      intro ac w' hgw
      replace hgw := hid hgw
      simp only [outThen, preThen, slotIs, factAt, isv, List.getElem?_cons_zero, List.getElem?_cons_succ, Option.getD_some, forall_eq]
      intros
      rename_i hK
      replace hK := hid hK
      simp only [wantedAt]
      go_simp
      exact hK.out _ _ rfl (grown_refl _ _)
    case o58 =>
      go_light
      intro ac w' hgw
      replace hgw := hid hgw
      simp only [outThen, preThen, slotIs, factAt, isv, List.getElem?_cons_zero, List.getElem?_cons_succ, Option.getD_some, forall_eq]
      intros
      rename_i hK
      replace hK := hid hK
      simp only [wantedAt]
      go_simp
      exact hK.out _ _ rfl (grown_refl _ _)
    case o59 =>
      go_light
      intro ac w' hgw
      replace hgw := hid hgw
      simp only [outThen, preThen, slotIs, factAt, isv, List.getElem?_cons_zero, List.getElem?_cons_succ, Option.getD_some, forall_eq]
      intros
      rename_i hK
      replace hK := hid hK
      simp only [wantedAt]
      go_simp
      refine (lwakes_true _).mono ?_
      rintro e w9 ⟨rfl, hg⟩
      exact hK.out _ _ rfl hg
    case o60 =>
      go_light
      intro ac w' hgw
      replace hgw := hid hgw
      simp only [outThen, preThen, slotIs, factAt, isv, List.getElem?_cons_zero, List.getElem?_cons_succ, Option.getD_some, forall_eq]
      intros
      rename_i hK
      replace hK := hid hK
      simp only [wantedAt]
      go_simp
      exact hK.out _ _ rfl (grown_refl _ _)
    case o61 =>
      go_light
      intro ac w' hgw
      replace hgw := hid hgw
      simp only [outThen, preThen, slotIs, factAt, isv, List.getElem?_cons_zero, List.getElem?_cons_succ, Option.getD_some, forall_eq]
      intros
      rename_i hK
      replace hK := hid hK
      simp only [wantedAt]
      go_simp
      exact hK.out _ _ rfl (grown_refl _ _)
  case st =>
    repeat (first | exact AllStable.nil | (refine AllStable.cons ?_ ?_; focus (first | exact stable_isv _ | exact stable_isBytes _ | exact stable_isRow1 _ | exact stable_isRowOf _ _ | exact stable_isArrOf _)))
  case fin =>
    intro w8 hgw
    simp only [finalIn, factAt, isv, List.getElem?_cons_zero, List.getElem?_cons_succ, Option.getD_some, forall_eq, slotIs, subj]
    rintro v1 ⟨X1, d1, rfl, _⟩ v2 ⟨X2, d2, rfl, _⟩ v3 ⟨X3, d3, rfl, _⟩ v4 ⟨X4, d4, rfl, _⟩
    simp only [Act.put, List.setIfInBounds_toArray, List.set_cons_zero, List.set_cons_succ]
    replace hgw := hid (grown_trans (grown_drew (grown_refl w none)) hgw)
    go_wp2_with fail
    go_ret
    exact ⟨rfl, hgw.out⟩

/-- **The law LetterTells, walked.** -/
theorem ltells_walk (f : Bool) (c place : Int) (A B P : Option Addr) (c1 c2 c3 : Nat) (a b : List Int) (xss : List (List Int)) (w : World) (hc0 : 0 ≤ c) (hc255 : c ≤ 255) (hc1 : a.length ≤ c1) (hm1 : c1 ≤ maxLen)
    (ha : Bytes a) (hb : Bytes b) (hB : ∀ i, Bytes (xss.getD i [])) (hA : Arr w .u8 A a) (hBb : Arr w .u8 B b) (hP : Arrs w P xss) (hl : xss.length ≤ 9223372036854775807) :
    Calls Try.prog 3 #[.bool f, .int .u8 c, .slice A a.length c1, .slice B b.length c2, .int .i64 place, .slice P xss.length c3] w fun e w' => e = .returned (.bool true) ∧ w.grownBy w' none := by
  by_cases h : 400 < a.length ∨ 400 < b.length
  · exact ltells_out f c place A B P a.length b.length c1 c2 c3 xss w hP hl h
  · exact ltells_in f c place A B P c1 c2 c3 a b xss w hc0 hc255 (by omega) (by omega) hc1 hm1 ha hb hB hA hBb hP hl

end Go.Proofs.Ytikfocabhffmmaa
