/- Package occ: whether a word stands at a place; whether a hit stands. -/
import Derived.Test.YtmahiodejhakpaaOGath
import Derived.Test.YtmahiodejhakpaaK10
import Derived.Test.YtmahiodejhakpaaK19
import Derived.Test.YtmahiodejhakpaaK20
set_option linter.unusedSimpArgs false
set_option linter.unusedVariables false
set_option maxRecDepth 100000
namespace Go.Proofs.Ytmahiodejhakpaa
open Go.RowKit PlainLetter PlainPatset PlainOcc

theorem placed_is (fr : Int) (w : World) : Calls Try.prog 23 #[.int .i64 fr] w fun e w' => e = .returned (.bool (decide (0 ≤ fr ∧ fr ≤ 4611686018427387904))) ∧ w' = w := by
  obtain ⟨V, hV⟩ : ∃ V, decide (0 ≤ fr ∧ fr ≤ 4611686018427387904) = V := ⟨_, rfl⟩
  rw [hV]
  by_cases h0 : 0 ≤ fr
  · by_cases h1 : fr ≤ 4611686018427387904
    · have hq : Hid (V = true) := hid (hV.symm.trans (decide_eq_true ⟨h0, h1⟩))
      clear hV
      go_enter Try.func23, Try.ntmps23
      go_wp2_with fail
      go_ret
      exact ⟨by rw [hq.out]; rfl, rfl⟩
    · have hq : Hid (V = false) := hid (hV.symm.trans (decide_eq_false (fun h => h1 h.2)))
      clear hV
      go_enter Try.func23, Try.ntmps23
      go_wp2_with fail
      go_ret
      exact ⟨by rw [hq.out]; rfl, rfl⟩
  · have hq : Hid (V = false) := hid (hV.symm.trans (decide_eq_false (fun h => h0 h.1)))
    clear hV
    go_enter Try.func23, Try.ntmps23
    go_wp2_with fail
    go_ret
    exact ⟨by rw [hq.out]; rfl, rfl⟩

set_option maxHeartbeats 2000000 in
theorem at_is (f : Bool) (P A : Option Addr) (c d h k : Nat) (v : Value) (text : List Int) (place : Int) (xss : List (List Int)) (w : World) (H : Holds w h 52 #[.bool f, .slice P xss.length c, v]) (hP : Arrs w P xss) (hk : k < xss.length)
    (hxl : (xss.getD k []).length ≤ 100000) (hxb : Bytes (xss.getD k [])) (ht : text.length ≤ 100000) (hd : text.length ≤ d) (hdm : d ≤ maxLen) (htb : Bytes text) (hA : Arr w .u8 A text) :
    Calls Try.prog 28 #[.pointer (some ⟨h, 0, none⟩), .slice A text.length d, .int .i64 place, .int .i64 (k : Nat)] w fun e w' => e = .returned (.bool (stands f text place (xss.getD k []))) ∧ w.grownBy w' none := by
  obtain ⟨b, off, Ai, ci, rfl, hb, hcell, hAi⟩ := hP.at_ hk
  have q0 : (0 : Int) ≤ (k : Int) := by omega
  have q1 : (k : Int) < (xss.length : Int) := by omega
  generalize xss.getD k [] = x at hxl hxb hcell hAi ⊢
  obtain ⟨S, hS⟩ : ∃ S, stands f text place x = S := ⟨_, rfl⟩
  rw [hS]
  replace hS := hid hS
  replace H := hid H
  replace hcell := hid hcell
  replace hAi := hid hAi
  replace hA := hid hA
  replace htb := hid htb
  replace hxb := hid hxb
  replace hdm := hid hdm
  have hbl := hid hb
  clear hb hP
  go_enter Try.func28, Try.ntmps28
  go_upto_region 1 with fail
  apply wp_region_each [isv _, isv _, isv _, isv _, isv (.bool f), isv _, isv _, isv _, isv _, isv _, isv _, isv _, isv _, isv _, isv (.slice Ai x.length ci), isv (.bool S), isv (.bool S)]
    25 [some 9, some 10, some 11, some 12, some 13, some 14, some 15, some 16, some 17, some 18, some 19, some 20, some 21, some 22, some 23, some 24, some 8]
    [some 9, some 10, some 11, some 12, some 13, some 14, some 15, some 16, some 17, some 18, some 19, some 20, some 21, some 22, some 23, some 24, some 8]
    [[], [0], [1], [2], [3], [], [], [], [7], [8], [9], [10], [], [11, 12], [13], [4, 5, 6, 14], [15]]
    [(0, .pointer (some ⟨h, 0, none⟩)), (1, .slice A text.length d), (2, .int .i64 place), (3, .int .i64 (k : Nat))] (by kernel_rfl) rfl (by kernel_rfl) rfl rfl (by kernel_rfl) (OutsOk.cons rfl rfl (OutsOk.cons rfl rfl (OutsOk.cons rfl rfl (OutsOk.cons rfl rfl OutsOk.nil)))) ?st ?ob ?fin
  case ob =>
    refine Obs.consv rfl ?o0 (Obs.consv rfl ?o1 (Obs.consv rfl ?o2 (Obs.consv rfl ?o3 (Obs.consv rfl ?o4 (Obs.consv rfl ?o5 (Obs.consv rfl ?o6 (Obs.consv rfl ?o7 (Obs.consv rfl ?o8 (Obs.consv rfl ?o9 (Obs.consv rfl ?o10 (Obs.consv rfl ?o11 (Obs.consv rfl ?o12 (Obs.consv rfl ?o13 (Obs.consv rfl ?o14 (Obs.consv rfl ?o15 (Obs.consv rfl ?o16 Obs.nil))))))))))))))))
    case o0 =>
      go_light
      intro ac w' hgw
      have g0 := grown_trans (grown_drew (grown_refl w none)) hgw
      have k1 := H.out.kept0 g0
      have c0 := k1.cell 0
      have c1 := k1.cell 1
      simp at c0 c1
      have hcw := ((gcell g0).1 b _ hbl.out).trans hcell.out
      have hAw := hid (hA.out.grown g0)
      have hxw := hid (hAi.out.grown g0)
      clear k1 g0
      replace hgw := hid hgw
      simp only [outThen, preThen, slotIs, factAt, isv, List.getElem?_cons_zero, List.getElem?_cons_succ, Option.getD_some, forall_eq]
      intros
      rename_i hK
      replace hK := hid hK
      simp only [wantedAt]
      go_simp
      exact hK.out _ _ rfl (grown_refl _ _)
    case o1 =>
      go_light
      intro ac w' hgw
      have g0 := grown_trans (grown_drew (grown_refl w none)) hgw
      have k1 := H.out.kept0 g0
      have c0 := k1.cell 0
      have c1 := k1.cell 1
      simp at c0 c1
      have hcw := ((gcell g0).1 b _ hbl.out).trans hcell.out
      have hAw := hid (hA.out.grown g0)
      have hxw := hid (hAi.out.grown g0)
      clear k1 g0
      replace hgw := hid hgw
      simp only [outThen, preThen, slotIs, factAt, isv, List.getElem?_cons_zero, List.getElem?_cons_succ, Option.getD_some, forall_eq]
      intros
      rename_i hK
      replace hK := hid hK
      simp only [wantedAt]
      go_simp
      exact hK.out _ _ rfl (grown_refl _ _)
    case o2 =>
      go_light
      intro ac w' hgw
      have g0 := grown_trans (grown_drew (grown_refl w none)) hgw
      have k1 := H.out.kept0 g0
      have c0 := k1.cell 0
      have c1 := k1.cell 1
      simp at c0 c1
      have hcw := ((gcell g0).1 b _ hbl.out).trans hcell.out
      have hAw := hid (hA.out.grown g0)
      have hxw := hid (hAi.out.grown g0)
      clear k1 g0
      replace hgw := hid hgw
      simp only [outThen, preThen, slotIs, factAt, isv, List.getElem?_cons_zero, List.getElem?_cons_succ, Option.getD_some, forall_eq]
      intros
      rename_i hK
      replace hK := hid hK
      simp only [wantedAt]
      go_simp
      exact hK.out _ _ rfl (grown_refl _ _)
    case o3 =>
      go_light
      intro ac w' hgw
      have g0 := grown_trans (grown_drew (grown_refl w none)) hgw
      have k1 := H.out.kept0 g0
      have c0 := k1.cell 0
      have c1 := k1.cell 1
      simp at c0 c1
      have hcw := ((gcell g0).1 b _ hbl.out).trans hcell.out
      have hAw := hid (hA.out.grown g0)
      have hxw := hid (hAi.out.grown g0)
      clear k1 g0
      replace hgw := hid hgw
      simp only [outThen, preThen, slotIs, factAt, isv, List.getElem?_cons_zero, List.getElem?_cons_succ, Option.getD_some, forall_eq]
      intros
      rename_i hK
      replace hK := hid hK
      simp only [wantedAt]
      go_simp
      exact hK.out _ _ rfl (grown_refl _ _)
    case o4 =>
      go_light
      intro ac w' hgw
      have g0 := grown_trans (grown_drew (grown_refl w none)) hgw
      have k1 := H.out.kept0 g0
      have c0 := k1.cell 0
      have c1 := k1.cell 1
      simp at c0 c1
      have hcw := ((gcell g0).1 b _ hbl.out).trans hcell.out
      have hAw := hid (hA.out.grown g0)
      have hxw := hid (hAi.out.grown g0)
      clear k1 g0
      replace hgw := hid hgw
      simp only [outThen, preThen, slotIs, factAt, isv, List.getElem?_cons_zero, List.getElem?_cons_succ, Option.getD_some, forall_eq]
      intros
      rename_i hK
      replace hK := hid hK
      simp only [wantedAt]
      go_simp
      exact hK.out _ _ rfl (grown_refl _ _)
    case o5 =>
      go_light
      intro ac w' hgw
      have g0 := grown_trans (grown_drew (grown_refl w none)) hgw
      have k1 := H.out.kept0 g0
      have c0 := k1.cell 0
      have c1 := k1.cell 1
      simp at c0 c1
      have hcw := ((gcell g0).1 b _ hbl.out).trans hcell.out
      have hAw := hid (hA.out.grown g0)
      have hxw := hid (hAi.out.grown g0)
      clear k1 g0
      replace hgw := hid hgw
      simp only [outThen, preThen, slotIs, factAt, isv, List.getElem?_cons_zero, List.getElem?_cons_succ, Option.getD_some, forall_eq]
      intros
      rename_i hK
      replace hK := hid hK
      simp only [wantedAt]
      go_simp
      exact hK.out _ _ rfl (grown_refl _ _)
    case o6 =>
      go_light
      intro ac w' hgw
      have g0 := grown_trans (grown_drew (grown_refl w none)) hgw
      have k1 := H.out.kept0 g0
      have c0 := k1.cell 0
      have c1 := k1.cell 1
      simp at c0 c1
      have hcw := ((gcell g0).1 b _ hbl.out).trans hcell.out
      have hAw := hid (hA.out.grown g0)
      have hxw := hid (hAi.out.grown g0)
      clear k1 g0
      replace hgw := hid hgw
      simp only [outThen, preThen, slotIs, factAt, isv, List.getElem?_cons_zero, List.getElem?_cons_succ, Option.getD_some, forall_eq]
      intros
      rename_i hK
      replace hK := hid hK
      simp only [wantedAt]
      go_simp
      exact hK.out _ _ rfl (grown_refl _ _)
    case o7 =>
      go_light
      intro ac w' hgw
      have g0 := grown_trans (grown_drew (grown_refl w none)) hgw
      have k1 := H.out.kept0 g0
      have c0 := k1.cell 0
      have c1 := k1.cell 1
      simp at c0 c1
      have hcw := ((gcell g0).1 b _ hbl.out).trans hcell.out
      have hAw := hid (hA.out.grown g0)
      have hxw := hid (hAi.out.grown g0)
      clear k1 g0
      replace hgw := hid hgw
      simp only [outThen, preThen, slotIs, factAt, isv, List.getElem?_cons_zero, List.getElem?_cons_succ, Option.getD_some, forall_eq]
      intros
      rename_i hK
      replace hK := hid hK
      simp only [wantedAt]
      go_simp
      exact hK.out _ _ rfl (grown_refl _ _)
    case o8 =>
      go_light
      intro ac w' hgw
      have g0 := grown_trans (grown_drew (grown_refl w none)) hgw
      have k1 := H.out.kept0 g0
      have c0 := k1.cell 0
      have c1 := k1.cell 1
      simp at c0 c1
      have hcw := ((gcell g0).1 b _ hbl.out).trans hcell.out
      have hAw := hid (hA.out.grown g0)
      have hxw := hid (hAi.out.grown g0)
      clear k1 g0
      replace hgw := hid hgw
      simp only [outThen, preThen, slotIs, factAt, isv, List.getElem?_cons_zero, List.getElem?_cons_succ, Option.getD_some, forall_eq]
      intros
      rename_i hK
      replace hK := hid hK
      simp only [wantedAt]
      go_simp
      exact hK.out _ _ rfl (grown_refl _ _)
    case o9 =>
      go_light
      intro ac w' hgw
      have g0 := grown_trans (grown_drew (grown_refl w none)) hgw
      have k1 := H.out.kept0 g0
      have c0 := k1.cell 0
      have c1 := k1.cell 1
      simp at c0 c1
      have hcw := ((gcell g0).1 b _ hbl.out).trans hcell.out
      have hAw := hid (hA.out.grown g0)
      have hxw := hid (hAi.out.grown g0)
      clear k1 g0
      replace hgw := hid hgw
      simp only [outThen, preThen, slotIs, factAt, isv, List.getElem?_cons_zero, List.getElem?_cons_succ, Option.getD_some, forall_eq]
      intros
      rename_i hK
      replace hK := hid hK
      simp only [wantedAt]
      go_simp
      exact hK.out _ _ rfl (grown_refl _ _)
    case o10 =>
      go_light
      intro ac w' hgw
      have g0 := grown_trans (grown_drew (grown_refl w none)) hgw
      have k1 := H.out.kept0 g0
      have c0 := k1.cell 0
      have c1 := k1.cell 1
      simp at c0 c1
      have hcw := ((gcell g0).1 b _ hbl.out).trans hcell.out
      have hAw := hid (hA.out.grown g0)
      have hxw := hid (hAi.out.grown g0)
      clear k1 g0
      replace hgw := hid hgw
      simp only [outThen, preThen, slotIs, factAt, isv, List.getElem?_cons_zero, List.getElem?_cons_succ, Option.getD_some, forall_eq]
      intros
      rename_i hK
      replace hK := hid hK
      simp only [wantedAt]
      go_simp
      exact hK.out _ _ rfl (grown_refl _ _)
    case o11 =>
      go_light
      intro ac w' hgw
      have g0 := grown_trans (grown_drew (grown_refl w none)) hgw
      have k1 := H.out.kept0 g0
      have c0 := k1.cell 0
      have c1 := k1.cell 1
      simp at c0 c1
      have hcw := ((gcell g0).1 b _ hbl.out).trans hcell.out
      have hAw := hid (hA.out.grown g0)
      have hxw := hid (hAi.out.grown g0)
      clear k1 g0
      replace hgw := hid hgw
      simp only [outThen, preThen, slotIs, factAt, isv, List.getElem?_cons_zero, List.getElem?_cons_succ, Option.getD_some, forall_eq]
      intros
      rename_i hK
      replace hK := hid hK
      simp only [wantedAt]
      go_simp
      exact hK.out _ _ rfl (grown_refl _ _)
    case o12 =>
      go_light
      intro ac w' hgw
      have g0 := grown_trans (grown_drew (grown_refl w none)) hgw
      have k1 := H.out.kept0 g0
      have c0 := k1.cell 0
      have c1 := k1.cell 1
      simp at c0 c1
      have hcw := ((gcell g0).1 b _ hbl.out).trans hcell.out
      have hAw := hid (hA.out.grown g0)
      have hxw := hid (hAi.out.grown g0)
      clear k1 g0
      replace hgw := hid hgw
      simp only [outThen, preThen, slotIs, factAt, isv, List.getElem?_cons_zero, List.getElem?_cons_succ, Option.getD_some, forall_eq]
      intros
      rename_i hK
      replace hK := hid hK
      simp only [wantedAt]
      go_simp
      exact hK.out _ _ rfl (grown_refl _ _)
    case o13 =>
      go_light
      intro ac w' hgw
      have g0 := grown_trans (grown_drew (grown_refl w none)) hgw
      have k1 := H.out.kept0 g0
      have c0 := k1.cell 0
      have c1 := k1.cell 1
      simp at c0 c1
      have hcw := ((gcell g0).1 b _ hbl.out).trans hcell.out
      have hAw := hid (hA.out.grown g0)
      have hxw := hid (hAi.out.grown g0)
      clear k1 g0
      replace hgw := hid hgw
      simp only [outThen, preThen, slotIs, factAt, isv, List.getElem?_cons_zero, List.getElem?_cons_succ, Option.getD_some, forall_eq]
      intros
      rename_i hK
      replace hK := hid hK
      simp only [wantedAt]
      go_simp
      exact hK.out _ _ rfl (grown_refl _ _)
    case o14 =>
      go_light
      intro ac w' hgw
      have g0 := grown_trans (grown_drew (grown_refl w none)) hgw
      have k1 := H.out.kept0 g0
      have c0 := k1.cell 0
      have c1 := k1.cell 1
      simp at c0 c1
      have hcw := ((gcell g0).1 b _ hbl.out).trans hcell.out
      have hAw := hid (hA.out.grown g0)
      have hxw := hid (hAi.out.grown g0)
      clear k1 g0
      replace hgw := hid hgw
      simp only [outThen, preThen, slotIs, factAt, isv, List.getElem?_cons_zero, List.getElem?_cons_succ, Option.getD_some, forall_eq]
      intros
      rename_i hK
      replace hK := hid hK
      simp only [wantedAt]
      go_simp
      exact hK.out _ _ rfl (grown_refl _ _)
    case o15 =>
      go_light
      intro ac w' hgw
      have g0 := grown_trans (grown_drew (grown_refl w none)) hgw
      have k1 := H.out.kept0 g0
      have c0 := k1.cell 0
      have c1 := k1.cell 1
      simp at c0 c1
      have hcw := ((gcell g0).1 b _ hbl.out).trans hcell.out
      have hAw := hid (hA.out.grown g0)
      have hxw := hid (hAi.out.grown g0)
      clear k1 g0
      replace hgw := hid hgw
      simp only [outThen, preThen, slotIs, factAt, isv, List.getElem?_cons_zero, List.getElem?_cons_succ, Option.getD_some, forall_eq]
      intros
      rename_i hK
      replace hK := hid hK
      simp only [wantedAt]
      go_simp
      refine (letAt_is f A Ai d ci text x place w' ht hxl hd hdm.out htb.out hxb.out hAw.out hxw.out).mono ?_
      rintro e w3 ⟨rfl, hg⟩
      rw [hS.out]
      exact hK.out _ _ rfl hg
    case o16 =>
      go_light
      intro ac w' hgw
      have g0 := grown_trans (grown_drew (grown_refl w none)) hgw
      have k1 := H.out.kept0 g0
      have c0 := k1.cell 0
      have c1 := k1.cell 1
      simp at c0 c1
      have hcw := ((gcell g0).1 b _ hbl.out).trans hcell.out
      have hAw := hid (hA.out.grown g0)
      have hxw := hid (hAi.out.grown g0)
      clear k1 g0
      replace hgw := hid hgw
      simp only [outThen, preThen, slotIs, factAt, isv, List.getElem?_cons_zero, List.getElem?_cons_succ, Option.getD_some, forall_eq]
      intros
      rename_i hK
      replace hK := hid hK
      simp only [wantedAt]
      go_simp
      exact hK.out _ _ rfl (grown_refl _ _)
  case st =>
    repeat (first | exact AllStable.nil | (refine AllStable.cons ?_ ?_; focus (first | exact stable_isv _ | exact stable_isBytes _ | exact stable_isRow1 _ | exact stable_isRowOf _ _ | exact stable_isVar _ | exact stable_isVarOf _ _ _)))
  case fin =>
    intro w3 hgw
    simp only [finalIn, factAt, isv, List.getElem?_cons_zero, List.getElem?_cons_succ, Option.getD_some, forall_eq, slotIs, subj]
    simp only [Act.put, List.setIfInBounds_toArray, List.set_cons_zero, List.set_cons_succ]
    have hG3 := hid (grown_trans (grown_drew (grown_refl w none)) hgw)
    clear hgw
    go_wp2_with fail
    go_ret
    exact ⟨rfl, hG3.out⟩

theorem standsHit_place (f : Bool) (ws : List (List Int)) (text : List Int) (fr : Int) (k : Nat) (a1 : Int) (hk : k < ws.length) (hne : ws.getD k [] ≠ []) (h1 : ¬ a1 < fr) : standsHit f ws text fr (a1, (k : Int)) = stands f text (a1 - fr) (ws.getD k []) := by
  by_cases h2 : fr + text.length < a1
  · rw [stands_none _ _ _ _ (by omega)]
    unfold standsHit
    simp only
    rw [if_pos (.inr (.inr h2))]
  · have := standsHit_at f ws text fr (a1 - fr).toNat k hk (by omega) hne
    rw [show fr + ((a1 - fr).toNat : Int) = a1 by omega, show (((a1 - fr).toNat : Nat) : Int) = a1 - fr by omega] at this
    exact this

set_option maxHeartbeats 2000000 in
theorem occStands_is (f : Bool) (P A : Option Addr) (c d : Nat) (fr : Int) (text : List Int) (a : Hit) (xss : List (List Int)) (w : World) (hn : xss.length ≤ 1000) (hl : xss.flatten.length ≤ 10000) (hB : ∀ i, Bytes (xss.getD i [])) (hP : Arrs w P xss)
    (ht : text.length ≤ 10000) (hd : text.length ≤ d) (hdm : d ≤ maxLen) (htb : Bytes text) (hA : Arr w .u8 A text) (hf0 : -9223372036854775808 ≤ fr) (hf1 : fr ≤ 9223372036854775807) (hh0 : -9223372036854775808 ≤ a.1) (hh1 : a.1 ≤ 9223372036854775807) :
    Calls Try.prog 11 #[.agg #[.bool f, .slice P xss.length c], .int .i64 fr, .slice A text.length d, hitV a] w fun e w' => e = .returned (.bool (right f xss && decide (0 ≤ fr ∧ fr ≤ 4611686018427387904) && standsHit f xss text fr a)) ∧ w.grownBy w' none := by
  obtain ⟨a1, a2⟩ := a
  simp only at hh0 hh1
  have hgl : Hid (∀ i, (xss.getD i []).length ≤ 100000) := hid (fun k => by
    by_cases hk : k < xss.length
    · have h1 := flatten_take_succ xss k hk
      have h2 := flatten_take_le xss (k + 1)
      rw [h1, List.length_append] at h2
      omega
    · simp [List.getD, List.getElem?_eq_none (Nat.le_of_not_lt hk)])
  have hG0 : Hid (w.grownBy ((w.alloc (.cells #[.bool f, .slice P xss.length c] 24)).alloc (.cells #[.int .i64 a1, .int .i64 a2] 35)) none) := grown_alloc (grown_alloc (grown_refl w none) _) _
  have H0 : Hid (Holds ((w.alloc (.cells #[.bool f, .slice P xss.length c] 24)).alloc (.cells #[.int .i64 a1, .int .i64 a2] 35)) w.heap.size 24 #[.bool f, .slice P xss.length c]) := (Holds.new _ _ _).alloc _
  have H1 : Hid (Holds ((w.alloc (.cells #[.bool f, .slice P xss.length c] 24)).alloc (.cells #[.int .i64 a1, .int .i64 a2] 35)) (w.heap.size + 1) 35 #[.int .i64 a1, .int .i64 a2]) := Holds.new_at _ _ (by simp)
  obtain ⟨V, hV⟩ : ∃ V, (right f xss && decide (0 ≤ fr ∧ fr ≤ 4611686018427387904) && standsHit f xss text fr (a1, a2)) = V := ⟨_, rfl⟩
  rw [hV]
  replace hV := hid hV
  by_cases hpl : 0 ≤ fr ∧ fr ≤ 4611686018427387904
  · have hD : decide (0 ≤ fr ∧ fr ≤ 4611686018427387904) = true := decide_eq_true hpl
    have key0 := placed_is fr ((w.alloc (.cells #[.bool f, .slice P xss.length c] 24)).alloc (.cells #[.int .i64 a1, .int .i64 a2] 35))
    rw [hD] at key0
    replace key0 := hid key0
    have hV1 := hid (hV.out)
    rw [hD, Bool.and_true] at hV1
    clear hD
    by_cases hlt : a1 < fr
    · have hS : Hid (V = false) := hid (by rw [← hV1.out]; unfold standsHit; simp only; rw [if_pos (.inr (.inl hlt)), Bool.and_false])
      have d0 := H1.out.cell 0
      simp at d0
      clear hP hA hB hV hV1
      replace hpl := hid hpl
      go_enter Try.func11, Try.ntmps11
      go_wp2_with (go_at_call 23; refine key0.out.mono ?_; rintro e w2 ⟨rfl, rfl⟩)
      go_ret
      exact ⟨by rw [hS.out]; rfl, hG0.out⟩
    · have hG2 : Hid (w.grownBy (((w.alloc (.cells #[.bool f, .slice P xss.length c] 24)).alloc (.cells #[.int .i64 a1, .int .i64 a2] 35)).alloc (.cells #[.bool f, .slice P xss.length c, .slice none 0 0] 52)) none) := grown_alloc hG0.out _
      have HH : Hid (Holds (((w.alloc (.cells #[.bool f, .slice P xss.length c] 24)).alloc (.cells #[.int .i64 a1, .int .i64 a2] 35)).alloc (.cells #[.bool f, .slice P xss.length c, .slice none 0 0] 52)) (w.heap.size + 2) 52 #[.bool f, .slice P xss.length c, .slice none 0 0]) := Holds.new_at _ _ (by simp)
      have key1 := G.known_is f P xss.length c (.slice none 0 0) (w.heap.size + 2) a1 a2 (((w.alloc (.cells #[.bool f, .slice P xss.length c] 24)).alloc (.cells #[.int .i64 a1, .int .i64 a2] 35)).alloc (.cells #[.bool f, .slice P xss.length c, .slice none 0 0] 52)) HH.out
      replace H0 := hid (H0.out.alloc (.cells #[.bool f, .slice P xss.length c, .slice none 0 0] 52))
      replace H1 := hid (H1.out.alloc (.cells #[.bool f, .slice P xss.length c, .slice none 0 0] 52))
      have d0 := H1.out.cell 0
      have d1 := H1.out.cell 1
      simp at d0 d1
      by_cases hK : 0 ≤ a2 ∧ a2 < (xss.length : Int)
      · have hX : decide (0 ≤ a2 ∧ a2 < (xss.length : Int)) = true := decide_eq_true hK
        rw [hX] at key1
        replace key1 := hid key1
        obtain ⟨k, rfl⟩ : ∃ k : Nat, a2 = k := ⟨a2.toNat, by omega⟩
        have hk : k < xss.length := by omega
        clear hX
        have hsub : IntKind.i64.wrap (a1 - fr) = a1 - fr := by simp [IntKind.wrap, IntKind.bits, IntKind.signed]; omega
        have key2 := hid (fun (W : World) (hg : G.Gr (((w.alloc (.cells #[.bool f, .slice P xss.length c] 24)).alloc (.cells #[.int .i64 a1, .int .i64 (k : Int)] 35)).alloc (.cells #[.bool f, .slice P xss.length c, .slice none 0 0] 52)) W) => at_is f P A c d (w.heap.size + 2) k (.slice none 0 0) text (a1 - fr) xss W (HH.out.kept0 hg.gr) (hP.grown (grown_trans hG2.out hg.gr)) hk (hgl.out k) (hB k) (by omega) hd hdm htb (hA.grown (grown_trans hG2.out hg.gr)))
        have keyR := hid (fun (W : World) (hg : w.grownBy W none) => patRight_is f P c xss W hn hl hB (hP.grown hg))
        -- of an empty word: no set may have it, so the sum of the answers is the same
        have hpr : Hid ((stands f text (a1 - fr) (xss.getD k []) && right f xss) = V) := hid (by
          rw [← hV1.out]
          cases hr : right f xss with
          | false => simp
          | true =>
            rw [Bool.and_true, Bool.true_and]
            refine (standsHit_place f xss text fr k a1 hk (right_full hr k hk) hlt).symm)
        clear hP hA hB hV hV1 HH
        generalize stands f text (a1 - fr) (xss.getD k []) = s at key2 hpr
        generalize right f xss = R at keyR hpr
        replace hpl := hid hpl
        replace hK := hid hK
        go_enter Try.func11, Try.ntmps11
        go_wp2_with (first
          | (go_at_call 23; refine key0.out.mono ?_; rintro e w2 ⟨rfl, rfl⟩)
          | (go_at_call 27; refine key1.out.mono ?_; rintro e w2 ⟨rfl, hg⟩; have key3 := hid (key2.out w2 hg); have hGa := hid (grown_trans hG2.out hg.gr); have HS := hid (H0.out.kept0 hg.gr); have HT := H1.out.kept0 hg.gr; clear d0 d1; have d0 := HT.cell 0; have d1 := HT.cell 1; simp at d0 d1; clear hg HT))
        refine key3.out.mono ?_
        rintro e w3 ⟨rfl, hg3⟩
        have hGb := hid (grown_trans hGa.out hg3)
        have HS2 := HS.out.kept0 hg3
        have e0 := HS2.cell 0
        have e1 := HS2.cell 1
        simp at e0 e1
        have key4 := hid (keyR.out w3 hGb.out)
        clear hg3 HS2 key3
        cases s with
        | false =>
          have hq : Hid (V = false) := hid (by rw [← hpr.out]; rfl)
          go_wp2_with fail
          go_ret
          exact ⟨by rw [hq.out]; rfl, hGb.out⟩
        | true =>
          have hq : Hid (R = V) := hid (by rw [← hpr.out]; simp)
          go_wp2_with fail
          refine key4.out.mono ?_
          rintro e w4 ⟨rfl, hg4⟩
          have hGc := hid (grown_trans hGb.out hg4)
          clear hg4
          go_wp2_with fail
          go_ret
          exact ⟨by rw [← hq.out]; rfl, hGc.out⟩
      · have hX : decide (0 ≤ a2 ∧ a2 < (xss.length : Int)) = false := decide_eq_false hK
        rw [hX] at key1
        replace key1 := hid key1
        have hS : Hid (V = false) := hid (by
          rw [← hV1.out]
          unfold standsHit
          simp only
          have : lenOf xss a2 = 0 := by unfold lenOf; rw [if_pos (by omega)]
          rw [if_pos (.inl this), Bool.and_false])
        clear hX hP hA hB hV hV1 HH
        replace hpl := hid hpl
        replace hK := hid hK
        go_enter Try.func11, Try.ntmps11
        go_wp2_with (first
          | (go_at_call 23; refine key0.out.mono ?_; rintro e w2 ⟨rfl, rfl⟩)
          | (go_at_call 27; refine key1.out.mono ?_; rintro e w2 ⟨rfl, hg⟩; have hGa := hid (grown_trans hG2.out hg.gr); clear hg))
        go_ret
        exact ⟨by rw [hS.out]; rfl, hGa.out⟩
  · have hD : decide (0 ≤ fr ∧ fr ≤ 4611686018427387904) = false := decide_eq_false hpl
    have key0 := placed_is fr ((w.alloc (.cells #[.bool f, .slice P xss.length c] 24)).alloc (.cells #[.int .i64 a1, .int .i64 a2] 35))
    rw [hD] at key0
    replace key0 := hid key0
    have hS : Hid (V = false) := hid (by rw [← hV.out, hD, Bool.and_false, Bool.false_and])
    clear hP hA hB hV hD
    replace hpl := hid hpl
    go_enter Try.func11, Try.ntmps11
    go_wp2_with (go_at_call 23; refine key0.out.mono ?_; rintro e w2 ⟨rfl, rfl⟩)
    go_ret
    exact ⟨by rw [hS.out]; rfl, hG0.out⟩
end Go.Proofs.Ytmahiodejhakpaa
