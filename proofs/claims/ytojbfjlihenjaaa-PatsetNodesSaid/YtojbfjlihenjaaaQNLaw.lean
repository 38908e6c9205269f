/- The law PatsetNodes: a word more makes as many nodes more as it has bytes behind the longest beginning that some word has, too. -/
import Derived.Test.YtojbfjlihenjaaaQWakes
import Derived.Test.YtojbfjlihenjaaaPlainNodes
import Derived.Test.YtojbfjlihenjaaaQRows
import Derived.BigRegion
set_option linter.unusedSimpArgs false
set_option linter.unusedVariables false
set_option linter.unnecessarySimpa false
set_option maxRecDepth 100000
namespace Go.Proofs.Ytojbfjlihenjaaa
open Go.RowKit PlainLetter PlainPatset

/-- A slice of slices that reads as these lists, each of which fits. -/
def ArrsC (w : World) (A : Option Addr) (xss : List (List Int)) : Prop :=
  xss ≠ [] → ∃ b off, A = some ⟨b, off, none⟩ ∧ b < w.heap.size ∧ ∀ i, i < xss.length → ∃ Ai ci, w.cell? ⟨b, off + i, none⟩ = some (.slice Ai (xss.getD i []).length ci) ∧ (xss.getD i []).length ≤ ci ∧ ci ≤ maxLen ∧ Arr w .u8 Ai (xss.getD i [])
theorem ArrsC.arrs {w : World} {A : Option Addr} {xss : List (List Int)} (h : ArrsC w A xss) : Arrs w A xss := fun hz => by
  obtain ⟨b, off, h1, h2, h3⟩ := h hz
  exact ⟨b, off, h1, h2, fun i hi => by obtain ⟨Ai, ci, g1, _, _, g2⟩ := h3 i hi; exact ⟨Ai, ci, g1, g2⟩⟩

theorem RowLike.put {xss : List (List Int)} {vs : List Value} {w : World} (h : RowLike xss vs w) (i : Nat) {z : List Int} {A : Option Addr} (c : Nat) (hA : Arr w .u8 A z) : RowLike (xss.set i z) (vs.set i (.slice A z.length c)) w := by
  refine ⟨by simp [h.1], fun m hm => ?_⟩
  rw [List.length_set] at hm
  by_cases hmi : i = m
  · subst hmi
    have e : (xss.set i z).getD i [] = z := by simp [List.getD, hm]
    rw [e]
    exact ⟨A, c, by rw [List.getElem?_set_self (by rw [h.1]; exact hm)], hA⟩
  · obtain ⟨Am, cm, h1, h2⟩ := h.2 m hm
    have e : (xss.set i z).getD m [] = xss.getD m [] := by simp [List.getD, List.getElem?_set_ne hmi]
    rw [e]
    exact ⟨Am, cm, by rw [List.getElem?_set_ne hmi]; exact h1, h2⟩

theorem arrs_of_holds_row {w : World} {g : Nat} {t : TypeId} {cur : Array Value} {yss : List (List Int)} {us : List Value} (h : Holds w g t cur) (hc : ∀ i, i < yss.length → cur[i]? = us[i]?) (hr : RowLike yss us w) : Arrs w (some ⟨g, 0, none⟩) yss := fun _ =>
  ⟨g, 0, rfl, h.lt, fun i hi => by
    obtain ⟨Ai, ci, h1, h2⟩ := hr.2 i hi
    exact ⟨Ai, ci, by rw [Nat.zero_add, h.cell, hc i hi, h1], h2⟩⟩

theorem set_cells {cur : Array Value} {vs : List Value} {n : Nat} (hn : vs.length = n) (hs : n ≤ cur.size) (h : ∀ i, i < n → cur[i]? = vs[i]?) (k : Nat) (V : Value) : ∀ i, i < n → (cur.setIfInBounds k V)[i]? = (vs.set k V)[i]? := fun i hi => by
  by_cases hki : k = i
  · subst hki
    rw [Array.getElem?_setIfInBounds_self_of_lt (by omega), List.getElem?_set_self (by omega)]
  · rw [Array.getElem?_setIfInBounds_ne hki, List.getElem?_set_ne hki]
    exact h i hi

set_option maxHeartbeats 16000000 in
theorem qnodes_walk (f : Bool) (P A : Option Addr) (c d : Nat) (p r : Int) (xss : List (List Int)) (x : List Int) (w : World) (hB : ∀ i, Bytes (xss.getD i [])) (hxb : Bytes x) (hPC : ArrsC w P xss) (hA : Arr w .u8 A x) (hl : xss.length ≤ 9223372036854775807)
    (hx : x.length ≤ d) (hd : d ≤ 9223372036854775807) (hp0 : -9223372036854775808 ≤ p) (hp1 : p ≤ 9223372036854775807) (hr0 : -9223372036854775808 ≤ r) (hr1 : r ≤ 9223372036854775807) :
    Calls Try.prog 6 #[.bool f, .slice P xss.length c, .slice A x.length d, .int .i64 p, .int .i64 r] w fun e w' => e = .returned (.bool true) ∧ w.grownBy w' none := by
  obtain ⟨i3, hi3, hy0, hy1, hy2⟩ := info_parts Try.rowInfo
  have hP := hid hPC.arrs
  replace hPC := hid hPC
  replace hB := hid hB
  replace hxb := hid hxb
  replace hA := hid hA
  go_enter Try.func6, Try.ntmps6
  go_wp2_with fail
  refine (greatTexts_is P c xss _ hP.out hl).mono ?_
  rintro e w1 ⟨rfl, rfl | ⟨rfl, h80, h3000⟩⟩
  · go_wp2_with fail
    refine (qwakes_true _).mono ?_
    rintro e w2 ⟨rfl, hg⟩
    replace hg := hid hg
    go_wp2_with fail
    go_ret
    exact ⟨rfl, hg.out⟩
  by_cases h400 : 400 < x.length
  · have q : (400 : Int) < (x.length : Int) := by omega
    go_wp2_with fail
    refine (qwakes_true _).mono ?_
    rintro e w2 ⟨rfl, hg⟩
    replace hg := hid hg
    go_wp2_with fail
    go_ret
    exact ⟨rfl, hg.out⟩
  have q : ¬ (400 : Int) < (x.length : Int) := by omega
  go_wp2_with fail
  refine (patNodes_is f P c xss w (by omega) (by omega) hB.out hP.out).mono ?_
  rintro e w1 ⟨rfl, hg1⟩
  have hnm := nodes_total f xss
  have hgl : Hid (∀ i, (xss.getD i []).length ≤ 3000) := hid (fun i => by
    by_cases hk : i < xss.length
    · have h1 := flatten_take_succ xss i hk
      have h2 := flatten_take_le xss (i + 1)
      rw [h1, List.length_append] at h2
      omega
    · simp [List.getD, List.getElem?_eq_none (Nat.le_of_not_lt hk)])
  have hmore := hid (nodes_more f xss x)
  have hold := hid (fun j h => old_take f xss (foldIf f x) j h)
  have holdx := old_le (xss.map (foldIf f)) (foldIf f x)
  have hfx := hid (foldIf_length f x)
  rw [hfx.out] at holdx
  have hsw := hid (fun i k hi hk => nodes_swap f xss i k hi hk)
  obtain ⟨nm, hnmE⟩ : ∃ nm, nodes f xss = nm := ⟨_, rfl⟩
  rw [hnmE] at hnm hmore hsw ⊢
  replace hnmE := hid hnmE
  replace hg1 := hid hg1
  go_wp2_with fail
  go_loopw [12, 13] (fun u v wr => ∃ j kn : Nat, j ≤ xss.length ∧ v = .int .i64 j ∧ u = .int .i64 kn ∧ Hid (old ((xss.take j).map (foldIf f)) (foldIf f x) = kn) ∧ w.grownBy wr none) (fun _ v _ => xss.length - (intOf v).toNat)
  case atStart => exact ⟨0, 0, by omega, rfl, rfl, hid (by simp [old]), hg1.out⟩
  case round =>
    obtain ⟨j, kn, hj, rfl, rfl, hkn, hG⟩ := hrel
    have hknb : kn ≤ x.length := by
      have := old_le ((xss.take j).map (foldIf f)) (foldIf f x)
      rw [hfx.out, hkn.out] at this
      exact this
    by_cases hlt : j < xss.length
    · obtain ⟨b, off, rfl, hb, hall⟩ := hPC.out (by intro e; subst e; simp at hlt)
      obtain ⟨Ai, ci, hcell, hyc, hym, hAy0⟩ := hall j hlt
      have hcell0 := hid hcell
      have hyl := hgl.out j
      have hyb := hid (hB.out j)
      obtain ⟨y, hxs⟩ : ∃ y, xss.getD j [] = y := ⟨_, rfl⟩
      rw [hxs] at hcell0 hyc hyl hyb hAy0
      replace hAy0 := hid hAy0
      replace hxs := hid hxs
      have hb0 := hid hb
      clear hcell hall hb
      obtain ⟨hcx1, hcy1⟩ := common_le_both f x y
      have hj0 : Hid ((0 : Int) ≤ (j : Int)) := hid (by omega)
      have hj1 : Hid ((j : Int) < (xss.length : Int)) := hid (by omega)
      have j1' : (j : Int) < (xss.length : Int) := by omega
      replace hG := hid hG
      unfold maxLen at hym
      go_wp2_with fail
      go_loopw [14] (fun s wx => ∃ cc : Nat, cc ≤ common (foldIf f x) (foldIf f y) ∧ s = .int .i64 cc ∧ w.grownBy wx none) (fun s _ => common (foldIf f x) (foldIf f y) - (intOf s).toNat)
      case atStart => exact ⟨0, Nat.zero_le _, rfl, hG.out⟩
      case round =>
        clear hG
        obtain ⟨cc, hcl0, rfl, hG⟩ := hrel
        have hcl := hid hcl0
        have hcx := hid (((gcell hG).1 b (off + j) hb0.out).trans hcell0.out)
        have hbl : Hid (b < wr.heap.size) := Nat.lt_of_lt_of_le hb0.out hG.size
        have hAx := hid (hA.out.grown hG)
        have hAy := hid (hAy0.out.grown hG)
        replace hG := hid hG
        go_upto_region 9 with fail
        by_cases c1 : cc < x.length
        · have q1 : Hid ((cc : Int) < (x.length : Int)) := hid (by omega)
          by_cases c2 : cc < y.length
          · have q2 : Hid ((cc : Int) < (y.length : Int)) := hid (by omega)
            have hsame := same_step f x y cc c1 c2
            obtain ⟨cc1, hcc1⟩ : ∃ cc1, cc + 1 = cc1 := ⟨_, rfl⟩
            rw [hcc1] at hsame
            have hk1 : Hid (cc1 ≤ d) := hid (by omega)
            have hk2 : Hid (cc1 ≤ ci) := hid (by omega)
            have hk3 : Hid (cc1 ≤ 100000) := hid (by omega)
            have hk9 : Hid ((cc : Int) < 9223372036854775807) := hid (by omega)
            have hx1 : Hid ((x.take cc1).length = cc1) := hid (by rw [List.length_take]; omega)
            have hy1 : Hid ((y.take cc1).length = cc1) := hid (by rw [List.length_take]; omega)
            have hxt := hid (hxb.out.take cc1)
            have hyt := hid (hyb.out.take cc1)
            obtain ⟨B, hBd⟩ : ∃ B, decide (cc1 ≤ common (foldIf f x) (foldIf f y)) = B := ⟨_, rfl⟩
            rw [hBd] at hsame
            replace hsame := hid hsame
            replace hBd := hid hBd
            replace hcc1 := hid hcc1
            apply wp_region_each [isv _, isv _, isv _, isv (.bool true), isv (.bool true), isv _, isv _, isv _, isv _, isv _, isv _, isv (.bool true), isv (.bool true), isv (.bool true), isv _, isv _, isv _, isv (.int .i64 (cc1 : Nat)), isv (.slice A cc1 d), isv _, isv _, isv _, isv _, isv _, isv (.int .i64 (cc1 : Nat)), isv (.slice Ai cc1 ci), isv (.bool B), isv (.bool B)]
              126 [some 33, some 34, some 35, some 36, some 37, some 38, some 39, some 40, some 41, some 42, some 43, some 44, some 45, some 46, some 47, some 48, some 49, some 50, some 51, some 52, some 53, some 54, some 55, some 56, some 57, some 58, some 59, some 60]
              [some 33, some 34, some 35, some 36, some 37, some 38, some 39, some 40, some 41, some 42, some 43, some 44, some 45, some 46, some 47, some 48, some 49, some 50, some 51, some 52, some 53, some 54, some 55, some 56, some 57, some 58, some 59, some 60]
              [[], [], [1], [0, 2], [3], [4], [4], [4], [6, 7, 4], [8, 4], [9, 4], [5, 10, 4], [4, 11], [12], [13], [13], [13], [16, 13], [15, 17, 13], [13], [13], [19, 20, 13], [21, 13], [13], [23, 13], [22, 24, 13], [14, 18, 25, 13], [13, 26]]
              [(0, .bool f), (1, .slice (some ⟨b, off, none⟩) xss.length c), (2, .slice A x.length d), (13, .int .i64 j), (14, .int .i64 cc)] (by kernel_rfl) rfl (by kernel_rfl) rfl rfl (by kernel_rfl) (OutsOk.cons rfl rfl (OutsOk.cons rfl rfl (OutsOk.cons rfl rfl (OutsOk.cons rfl rfl (OutsOk.cons rfl rfl OutsOk.nil))))) ?st ?ob ?fin
            case ob =>
              refine Obs.consv rfl ?o0 (Obs.consv rfl ?o1 (Obs.consv rfl ?o2 (Obs.consv rfl ?o3 (Obs.consv rfl ?o4 (Obs.consv rfl ?o5 (Obs.consv rfl ?o6 (Obs.consv rfl ?o7 (Obs.consv rfl ?o8 (Obs.consv rfl ?o9 (Obs.consv rfl ?o10 (Obs.consv rfl ?o11 (Obs.consv rfl ?o12 (Obs.consv rfl ?o13 (Obs.consv rfl ?o14 (Obs.consv rfl ?o15 (Obs.consv rfl ?o16 (Obs.consv rfl ?o17 (Obs.consv rfl ?o18 (Obs.consv rfl ?o19 (Obs.consv rfl ?o20 (Obs.consv rfl ?o21 (Obs.consv rfl ?o22 (Obs.consv rfl ?o23 (Obs.consv rfl ?o24 (Obs.consv rfl ?o25 (Obs.consv rfl ?o26 (Obs.consv rfl ?o27 Obs.nil)))))))))))))))))))))))))))
              case o0 =>
                go_light
                intro ac w' hgw
                have hcw := ((gcell hgw).1 b (off + j) hbl.out).trans hcx.out
                replace hgw := hid hgw
                simp only [outThen, preThen, slotIs, factAt, isv, List.getElem?_cons_zero, List.getElem?_cons_succ, Option.getD_some, forall_eq]
                intros
                rename_i hK
                replace hK := hid hK
                simp only [wantedAt]
                go_simp
                exact hK.out _ _ rfl (grown_refl _ _)
              case o1 =>
                go_light
                intro ac w' hgw
                have hcw := ((gcell hgw).1 b (off + j) hbl.out).trans hcx.out
                replace hgw := hid hgw
                simp only [outThen, preThen, slotIs, factAt, isv, List.getElem?_cons_zero, List.getElem?_cons_succ, Option.getD_some, forall_eq]
                intros
                rename_i hK
                replace hK := hid hK
                simp only [wantedAt]
                go_simp
                exact hK.out _ _ rfl (grown_refl _ _)
              case o2 =>
                go_light
                intro ac w' hgw
                have hcw := ((gcell hgw).1 b (off + j) hbl.out).trans hcx.out
                replace hgw := hid hgw
                simp only [outThen, preThen, slotIs, factAt, isv, List.getElem?_cons_zero, List.getElem?_cons_succ, Option.getD_some, forall_eq]
                intros
                rename_i hK
                replace hK := hid hK
                simp only [wantedAt]
                go_simp
                exact hK.out _ _ rfl (grown_refl _ _)
              case o3 =>
                go_light
                intro ac w' hgw
                have hcw := ((gcell hgw).1 b (off + j) hbl.out).trans hcx.out
                replace hgw := hid hgw
                simp only [outThen, preThen, slotIs, factAt, isv, List.getElem?_cons_zero, List.getElem?_cons_succ, Option.getD_some, forall_eq]
                intros
                rename_i hK
                replace hK := hid hK
                simp only [wantedAt]
                go_simp
                exact hK.out _ _ (by simpa using q1.out) (grown_refl _ _)
              case o4 =>
                go_light
                intro ac w' hgw
                have hcw := ((gcell hgw).1 b (off + j) hbl.out).trans hcx.out
                replace hgw := hid hgw
                simp only [outThen, preThen, slotIs, factAt, isv, List.getElem?_cons_zero, List.getElem?_cons_succ, Option.getD_some, forall_eq]
                intros
                rename_i hK
                replace hK := hid hK
                simp only [wantedAt]
                go_simp
                exact hK.out _ _ rfl (grown_refl _ _)
              case o5 =>
                go_light
                intro ac w' hgw
                have hcw := ((gcell hgw).1 b (off + j) hbl.out).trans hcx.out
                replace hgw := hid hgw
                simp only [outThen, preThen, slotIs, factAt, isv, List.getElem?_cons_zero, List.getElem?_cons_succ, Option.getD_some, forall_eq]
                intros
                rename_i hK
                replace hK := hid hK
                simp only [wantedAt]
                go_simp
                exact hK.out _ _ rfl (grown_refl _ _)
              case o6 =>
                go_light
                intro ac w' hgw
                have hcw := ((gcell hgw).1 b (off + j) hbl.out).trans hcx.out
                replace hgw := hid hgw
                simp only [outThen, preThen, slotIs, factAt, isv, List.getElem?_cons_zero, List.getElem?_cons_succ, Option.getD_some, forall_eq]
                intros
                rename_i hK
                replace hK := hid hK
                simp only [wantedAt]
                go_simp
                exact hK.out _ _ rfl (grown_refl _ _)
              case o7 =>
                go_light
                intro ac w' hgw
                have hcw := ((gcell hgw).1 b (off + j) hbl.out).trans hcx.out
                replace hgw := hid hgw
                simp only [outThen, preThen, slotIs, factAt, isv, List.getElem?_cons_zero, List.getElem?_cons_succ, Option.getD_some, forall_eq]
                intros
                rename_i hK
                replace hK := hid hK
                simp only [wantedAt]
                go_simp
                exact hK.out _ _ rfl (grown_refl _ _)
              case o8 =>
                go_light
                intro ac w' hgw
                have hcw := ((gcell hgw).1 b (off + j) hbl.out).trans hcx.out
                replace hgw := hid hgw
                simp only [outThen, preThen, slotIs, factAt, isv, List.getElem?_cons_zero, List.getElem?_cons_succ, Option.getD_some, forall_eq]
                intros
                rename_i hK
                replace hK := hid hK
                simp only [wantedAt]
                have j0 := hj0.out
                have j1 := hj1.out
                go_simp
                exact hK.out _ _ rfl (grown_refl _ _)
              case o9 =>
                go_light
                intro ac w' hgw
                have hcw := ((gcell hgw).1 b (off + j) hbl.out).trans hcx.out
                replace hgw := hid hgw
                simp only [outThen, preThen, slotIs, factAt, isv, List.getElem?_cons_zero, List.getElem?_cons_succ, Option.getD_some, forall_eq]
                intros
                rename_i hK
                replace hK := hid hK
                simp only [wantedAt]
                go_simp
                exact hK.out _ _ rfl (grown_refl _ _)
              case o10 =>
                go_light
                intro ac w' hgw
                have hcw := ((gcell hgw).1 b (off + j) hbl.out).trans hcx.out
                replace hgw := hid hgw
                simp only [outThen, preThen, slotIs, factAt, isv, List.getElem?_cons_zero, List.getElem?_cons_succ, Option.getD_some, forall_eq]
                intros
                rename_i hK
                replace hK := hid hK
                simp only [wantedAt]
                go_simp
                exact hK.out _ _ rfl (grown_refl _ _)
              case o11 =>
                go_light
                intro ac w' hgw
                have hcw := ((gcell hgw).1 b (off + j) hbl.out).trans hcx.out
                replace hgw := hid hgw
                simp only [outThen, preThen, slotIs, factAt, isv, List.getElem?_cons_zero, List.getElem?_cons_succ, Option.getD_some, forall_eq]
                intros
                rename_i hK
                replace hK := hid hK
                simp only [wantedAt]
                go_simp
                exact hK.out _ _ (by simpa using q2.out) (grown_refl _ _)
              case o12 =>
                go_light
                intro ac w' hgw
                have hcw := ((gcell hgw).1 b (off + j) hbl.out).trans hcx.out
                replace hgw := hid hgw
                simp only [outThen, preThen, slotIs, factAt, isv, List.getElem?_cons_zero, List.getElem?_cons_succ, Option.getD_some, forall_eq]
                intros
                rename_i hK
                replace hK := hid hK
                simp only [wantedAt]
                go_simp
                exact hK.out _ _ rfl (grown_refl _ _)
              case o13 =>
                go_light
                intro ac w' hgw
                have hcw := ((gcell hgw).1 b (off + j) hbl.out).trans hcx.out
                replace hgw := hid hgw
                simp only [outThen, preThen, slotIs, factAt, isv, List.getElem?_cons_zero, List.getElem?_cons_succ, Option.getD_some, forall_eq]
                intros
                rename_i hK
                replace hK := hid hK
                simp only [wantedAt]
                go_simp
                exact hK.out _ _ rfl (grown_refl _ _)
              case o14 =>
                go_light
                intro ac w' hgw
                have hcw := ((gcell hgw).1 b (off + j) hbl.out).trans hcx.out
                replace hgw := hid hgw
                simp only [outThen, preThen, slotIs, factAt, isv, List.getElem?_cons_zero, List.getElem?_cons_succ, Option.getD_some, forall_eq]
                intros
                rename_i hK
                replace hK := hid hK
                simp only [wantedAt]
                go_simp
                exact hK.out _ _ rfl (grown_refl _ _)
              case o15 =>
                go_light
                intro ac w' hgw
                have hcw := ((gcell hgw).1 b (off + j) hbl.out).trans hcx.out
                replace hgw := hid hgw
                simp only [outThen, preThen, slotIs, factAt, isv, List.getElem?_cons_zero, List.getElem?_cons_succ, Option.getD_some, forall_eq]
                intros
                rename_i hK
                replace hK := hid hK
                simp only [wantedAt]
                go_simp
                exact hK.out _ _ rfl (grown_refl _ _)
              case o16 =>
                go_light
                intro ac w' hgw
                have hcw := ((gcell hgw).1 b (off + j) hbl.out).trans hcx.out
                replace hgw := hid hgw
                simp only [outThen, preThen, slotIs, factAt, isv, List.getElem?_cons_zero, List.getElem?_cons_succ, Option.getD_some, forall_eq]
                intros
                rename_i hK
                replace hK := hid hK
                simp only [wantedAt]
                go_simp
                exact hK.out _ _ rfl (grown_refl _ _)
              case o17 =>
                go_light
                intro ac w' hgw
                have hcw := ((gcell hgw).1 b (off + j) hbl.out).trans hcx.out
                replace hgw := hid hgw
                simp only [outThen, preThen, slotIs, factAt, isv, List.getElem?_cons_zero, List.getElem?_cons_succ, Option.getD_some, forall_eq]
                intros
                rename_i hK
                replace hK := hid hK
                simp only [wantedAt]
                have k9 := hk9.out
                go_simp
                exact hK.out _ _ (by rw [IntWalk.i64_in _ (by omega), ← hcc1.out]; simp) (grown_refl _ _)
              case o18 =>
                go_light
                intro ac w' hgw
                have hcw := ((gcell hgw).1 b (off + j) hbl.out).trans hcx.out
                replace hgw := hid hgw
                simp only [outThen, preThen, slotIs, factAt, isv, List.getElem?_cons_zero, List.getElem?_cons_succ, Option.getD_some, forall_eq]
                intros
                rename_i hK
                replace hK := hid hK
                simp only [wantedAt]
                have k1 := hk1.out
                go_simp
                exact hK.out _ _ rfl (grown_refl _ _)
              case o19 =>
                go_light
                intro ac w' hgw
                have hcw := ((gcell hgw).1 b (off + j) hbl.out).trans hcx.out
                replace hgw := hid hgw
                simp only [outThen, preThen, slotIs, factAt, isv, List.getElem?_cons_zero, List.getElem?_cons_succ, Option.getD_some, forall_eq]
                intros
                rename_i hK
                replace hK := hid hK
                simp only [wantedAt]
                go_simp
                exact hK.out _ _ rfl (grown_refl _ _)
              case o20 =>
                go_light
                intro ac w' hgw
                have hcw := ((gcell hgw).1 b (off + j) hbl.out).trans hcx.out
                replace hgw := hid hgw
                simp only [outThen, preThen, slotIs, factAt, isv, List.getElem?_cons_zero, List.getElem?_cons_succ, Option.getD_some, forall_eq]
                intros
                rename_i hK
                replace hK := hid hK
                simp only [wantedAt]
                go_simp
                exact hK.out _ _ rfl (grown_refl _ _)
              case o21 =>
                go_light
                intro ac w' hgw
                have hcw := ((gcell hgw).1 b (off + j) hbl.out).trans hcx.out
                replace hgw := hid hgw
                simp only [outThen, preThen, slotIs, factAt, isv, List.getElem?_cons_zero, List.getElem?_cons_succ, Option.getD_some, forall_eq]
                intros
                rename_i hK
                replace hK := hid hK
                simp only [wantedAt]
                have j0 := hj0.out
                have j1 := hj1.out
                go_simp
                exact hK.out _ _ rfl (grown_refl _ _)
              case o22 =>
                go_light
                intro ac w' hgw
                have hcw := ((gcell hgw).1 b (off + j) hbl.out).trans hcx.out
                replace hgw := hid hgw
                simp only [outThen, preThen, slotIs, factAt, isv, List.getElem?_cons_zero, List.getElem?_cons_succ, Option.getD_some, forall_eq]
                intros
                rename_i hK
                replace hK := hid hK
                simp only [wantedAt]
                go_simp
                exact hK.out _ _ rfl (grown_refl _ _)
              case o23 =>
                go_light
                intro ac w' hgw
                have hcw := ((gcell hgw).1 b (off + j) hbl.out).trans hcx.out
                replace hgw := hid hgw
                simp only [outThen, preThen, slotIs, factAt, isv, List.getElem?_cons_zero, List.getElem?_cons_succ, Option.getD_some, forall_eq]
                intros
                rename_i hK
                replace hK := hid hK
                simp only [wantedAt]
                go_simp
                exact hK.out _ _ rfl (grown_refl _ _)
              case o24 =>
                go_light
                intro ac w' hgw
                have hcw := ((gcell hgw).1 b (off + j) hbl.out).trans hcx.out
                replace hgw := hid hgw
                simp only [outThen, preThen, slotIs, factAt, isv, List.getElem?_cons_zero, List.getElem?_cons_succ, Option.getD_some, forall_eq]
                intros
                rename_i hK
                replace hK := hid hK
                simp only [wantedAt]
                have k9 := hk9.out
                go_simp
                exact hK.out _ _ (by rw [IntWalk.i64_in _ (by omega), ← hcc1.out]; simp) (grown_refl _ _)
              case o25 =>
                go_light
                intro ac w' hgw
                have hcw := ((gcell hgw).1 b (off + j) hbl.out).trans hcx.out
                replace hgw := hid hgw
                simp only [outThen, preThen, slotIs, factAt, isv, List.getElem?_cons_zero, List.getElem?_cons_succ, Option.getD_some, forall_eq]
                intros
                rename_i hK
                replace hK := hid hK
                simp only [wantedAt]
                have k2 := hk2.out
                go_simp
                exact hK.out _ _ rfl (grown_refl _ _)
              case o26 =>
                go_light
                intro ac w' hgw
                have hcw := ((gcell hgw).1 b (off + j) hbl.out).trans hcx.out
                replace hgw := hid hgw
                simp only [outThen, preThen, slotIs, factAt, isv, List.getElem?_cons_zero, List.getElem?_cons_succ, Option.getD_some, forall_eq]
                intros
                rename_i hK
                replace hK := hid hK
                simp only [wantedAt]
                go_simp
                have key := refSame_is f A Ai d ci (x.take cc1) (y.take cc1) w' (by rw [hx1.out]; exact hk3.out) (by rw [hy1.out]; exact hk3.out) hxt.out hyt.out ((hAx.out.grown (grown_trans (grown_drew (grown_refl wr none)) hgw.out)).take cc1) ((hAy.out.grown (grown_trans (grown_drew (grown_refl wr none)) hgw.out)).take cc1)
                rw [hx1.out, hy1.out] at key
                refine key.mono ?_
                clear key
                rintro e w9 ⟨rfl, hg9⟩
                rw [hsame.out]
                exact hK.out _ _ rfl hg9
              case o27 =>
                go_light
                intro ac w' hgw
                have hcw := ((gcell hgw).1 b (off + j) hbl.out).trans hcx.out
                replace hgw := hid hgw
                simp only [outThen, preThen, slotIs, factAt, isv, List.getElem?_cons_zero, List.getElem?_cons_succ, Option.getD_some, forall_eq]
                intros
                rename_i hK
                replace hK := hid hK
                simp only [wantedAt]
                go_simp
                exact hK.out _ _ rfl (grown_refl _ _)
            case st =>
              repeat (first | exact AllStable.nil | (refine AllStable.cons ?_ ?_; focus (first | exact stable_isv _ | exact stable_isBytes _ | exact stable_isRow1 _ | exact stable_isRowOf _ _ | exact stable_isArrOf _)))
            case fin =>
              intro w8 hgw
              simp only [finalIn, factAt, isv, List.getElem?_cons_zero, List.getElem?_cons_succ, Option.getD_some, forall_eq, slotIs, subj]
              simp only [Act.put, List.setIfInBounds_toArray, List.set_cons_zero, List.set_cons_succ]
              have hG8 := hid (grown_trans hG.out (grown_trans (grown_drew (grown_refl wr none)) hgw))
              clear hgw
              cases B with
              | true =>
                have hB1 := of_decide_eq_true hBd.out
                go_wp2_with fail
                go_roundw
                case rel => exact ⟨cc + 1, by have := hcc1.out; omega, by go_num, hG8.out⟩
                case measure => simp [intOf]; have := hcc1.out; omega
              | false =>
                have hB1 := of_decide_eq_false hBd.out
                have hcm : Hid (cc = common (foldIf f x) (foldIf f y)) := hid (by have := hcc1.out; omega)
                by_cases hkc : (kn : Int) < (cc : Int)
                all_goals
                  go_wp2_with fail
                  go_roundw
                  case rel => exact ⟨j + 1, max kn cc, by omega, by go_num, by first | (rw [Nat.max_eq_right (by omega)]; done) | (rw [Nat.max_eq_left (by omega)]; done), hid (by rw [hold.out j hlt, hxs.out, hkn.out, ← hcm.out]), hG8.out⟩
                  case measure => simp [intOf]; omega
          · have q2 : Hid (¬ (cc : Int) < (y.length : Int)) := hid (by omega)
            apply wp_region_each [isv _, isv _, isv _, isv (.bool true), isv (.bool true), isv _, isv _, isv _, isv _, isv _, isv _, isv (.bool false), isv (.bool false), isv (.bool false), isv _, isv _, isv _, isv _, isv _, isv _, isv _, isv _, isv _, isv _, isv _, isv _, isv _, isv (.bool false)]
              126 [some 33, some 34, some 35, some 36, some 37, some 38, some 39, some 40, some 41, some 42, some 43, some 44, some 45, some 46, some 47, some 48, some 49, some 50, some 51, some 52, some 53, some 54, some 55, some 56, some 57, some 58, some 59, some 60]
              [some 33, some 34, some 35, some 36, some 37, some 38, some 39, some 40, some 41, some 42, some 43, some 44, some 45, some 46, some 47, some 48, some 49, some 50, some 51, some 52, some 53, some 54, some 55, some 56, some 57, some 58, some 59, some 60]
              [[], [], [1], [0, 2], [3], [4], [4], [4], [6, 7, 4], [8, 4], [9, 4], [5, 10, 4], [4, 11], [12], [13], [13], [13], [16, 13], [15, 17, 13], [13], [13], [19, 20, 13], [21, 13], [13], [23, 13], [22, 24, 13], [14, 18, 25, 13], [13, 26]]
              [(0, .bool f), (1, .slice (some ⟨b, off, none⟩) xss.length c), (2, .slice A x.length d), (13, .int .i64 j), (14, .int .i64 cc)] (by kernel_rfl) rfl (by kernel_rfl) rfl rfl (by kernel_rfl) (OutsOk.cons rfl rfl (OutsOk.cons rfl rfl (OutsOk.cons rfl rfl (OutsOk.cons rfl rfl (OutsOk.cons rfl rfl OutsOk.nil))))) ?st ?ob ?fin
            case ob =>
              refine Obs.consv rfl ?o0 (Obs.consv rfl ?o1 (Obs.consv rfl ?o2 (Obs.consv rfl ?o3 (Obs.consv rfl ?o4 (Obs.consv rfl ?o5 (Obs.consv rfl ?o6 (Obs.consv rfl ?o7 (Obs.consv rfl ?o8 (Obs.consv rfl ?o9 (Obs.consv rfl ?o10 (Obs.consv rfl ?o11 (Obs.consv rfl ?o12 (Obs.consv rfl ?o13 (Obs.consv rfl ?o14 (Obs.consv rfl ?o15 (Obs.consv rfl ?o16 (Obs.consv rfl ?o17 (Obs.consv rfl ?o18 (Obs.consv rfl ?o19 (Obs.consv rfl ?o20 (Obs.consv rfl ?o21 (Obs.consv rfl ?o22 (Obs.consv rfl ?o23 (Obs.consv rfl ?o24 (Obs.consv rfl ?o25 (Obs.consv rfl ?o26 (Obs.consv rfl ?o27 Obs.nil)))))))))))))))))))))))))))
              case o0 =>
                go_light
                intro ac w' hgw
                have hcw := ((gcell hgw).1 b (off + j) hbl.out).trans hcx.out
                replace hgw := hid hgw
                simp only [outThen, preThen, slotIs, factAt, isv, List.getElem?_cons_zero, List.getElem?_cons_succ, Option.getD_some, forall_eq]
                intros
                rename_i hK
                replace hK := hid hK
                simp only [wantedAt]
                go_simp
                exact hK.out _ _ rfl (grown_refl _ _)
              case o1 =>
                go_light
                intro ac w' hgw
                have hcw := ((gcell hgw).1 b (off + j) hbl.out).trans hcx.out
                replace hgw := hid hgw
                simp only [outThen, preThen, slotIs, factAt, isv, List.getElem?_cons_zero, List.getElem?_cons_succ, Option.getD_some, forall_eq]
                intros
                rename_i hK
                replace hK := hid hK
                simp only [wantedAt]
                go_simp
                exact hK.out _ _ rfl (grown_refl _ _)
              case o2 =>
                go_light
                intro ac w' hgw
                have hcw := ((gcell hgw).1 b (off + j) hbl.out).trans hcx.out
                replace hgw := hid hgw
                simp only [outThen, preThen, slotIs, factAt, isv, List.getElem?_cons_zero, List.getElem?_cons_succ, Option.getD_some, forall_eq]
                intros
                rename_i hK
                replace hK := hid hK
                simp only [wantedAt]
                go_simp
                exact hK.out _ _ rfl (grown_refl _ _)
              case o3 =>
                go_light
                intro ac w' hgw
                have hcw := ((gcell hgw).1 b (off + j) hbl.out).trans hcx.out
                replace hgw := hid hgw
                simp only [outThen, preThen, slotIs, factAt, isv, List.getElem?_cons_zero, List.getElem?_cons_succ, Option.getD_some, forall_eq]
                intros
                rename_i hK
                replace hK := hid hK
                simp only [wantedAt]
                go_simp
                exact hK.out _ _ (by simpa using q1.out) (grown_refl _ _)
              case o4 =>
                go_light
                intro ac w' hgw
                have hcw := ((gcell hgw).1 b (off + j) hbl.out).trans hcx.out
                replace hgw := hid hgw
                simp only [outThen, preThen, slotIs, factAt, isv, List.getElem?_cons_zero, List.getElem?_cons_succ, Option.getD_some, forall_eq]
                intros
                rename_i hK
                replace hK := hid hK
                simp only [wantedAt]
                go_simp
                exact hK.out _ _ rfl (grown_refl _ _)
              case o5 =>
                go_light
                intro ac w' hgw
                have hcw := ((gcell hgw).1 b (off + j) hbl.out).trans hcx.out
                replace hgw := hid hgw
                simp only [outThen, preThen, slotIs, factAt, isv, List.getElem?_cons_zero, List.getElem?_cons_succ, Option.getD_some, forall_eq]
                intros
                rename_i hK
                replace hK := hid hK
                simp only [wantedAt]
                go_simp
                exact hK.out _ _ rfl (grown_refl _ _)
              case o6 =>
                go_light
                intro ac w' hgw
                have hcw := ((gcell hgw).1 b (off + j) hbl.out).trans hcx.out
                replace hgw := hid hgw
                simp only [outThen, preThen, slotIs, factAt, isv, List.getElem?_cons_zero, List.getElem?_cons_succ, Option.getD_some, forall_eq]
                intros
                rename_i hK
                replace hK := hid hK
                simp only [wantedAt]
                go_simp
                exact hK.out _ _ rfl (grown_refl _ _)
              case o7 =>
                go_light
                intro ac w' hgw
                have hcw := ((gcell hgw).1 b (off + j) hbl.out).trans hcx.out
                replace hgw := hid hgw
                simp only [outThen, preThen, slotIs, factAt, isv, List.getElem?_cons_zero, List.getElem?_cons_succ, Option.getD_some, forall_eq]
                intros
                rename_i hK
                replace hK := hid hK
                simp only [wantedAt]
                go_simp
                exact hK.out _ _ rfl (grown_refl _ _)
              case o8 =>
                go_light
                intro ac w' hgw
                have hcw := ((gcell hgw).1 b (off + j) hbl.out).trans hcx.out
                replace hgw := hid hgw
                simp only [outThen, preThen, slotIs, factAt, isv, List.getElem?_cons_zero, List.getElem?_cons_succ, Option.getD_some, forall_eq]
                intros
                rename_i hK
                replace hK := hid hK
                simp only [wantedAt]
                have j0 := hj0.out
                have j1 := hj1.out
                go_simp
                exact hK.out _ _ rfl (grown_refl _ _)
              case o9 =>
                go_light
                intro ac w' hgw
                have hcw := ((gcell hgw).1 b (off + j) hbl.out).trans hcx.out
                replace hgw := hid hgw
                simp only [outThen, preThen, slotIs, factAt, isv, List.getElem?_cons_zero, List.getElem?_cons_succ, Option.getD_some, forall_eq]
                intros
                rename_i hK
                replace hK := hid hK
                simp only [wantedAt]
                go_simp
                exact hK.out _ _ rfl (grown_refl _ _)
              case o10 =>
                go_light
                intro ac w' hgw
                have hcw := ((gcell hgw).1 b (off + j) hbl.out).trans hcx.out
                replace hgw := hid hgw
                simp only [outThen, preThen, slotIs, factAt, isv, List.getElem?_cons_zero, List.getElem?_cons_succ, Option.getD_some, forall_eq]
                intros
                rename_i hK
                replace hK := hid hK
                simp only [wantedAt]
                go_simp
                exact hK.out _ _ rfl (grown_refl _ _)
              case o11 =>
                go_light
                intro ac w' hgw
                have hcw := ((gcell hgw).1 b (off + j) hbl.out).trans hcx.out
                replace hgw := hid hgw
                simp only [outThen, preThen, slotIs, factAt, isv, List.getElem?_cons_zero, List.getElem?_cons_succ, Option.getD_some, forall_eq]
                intros
                rename_i hK
                replace hK := hid hK
                simp only [wantedAt]
                go_simp
                exact hK.out _ _ (by simpa using q2.out) (grown_refl _ _)
              case o12 =>
                go_light
                intro ac w' hgw
                have hcw := ((gcell hgw).1 b (off + j) hbl.out).trans hcx.out
                replace hgw := hid hgw
                simp only [outThen, preThen, slotIs, factAt, isv, List.getElem?_cons_zero, List.getElem?_cons_succ, Option.getD_some, forall_eq]
                intros
                rename_i hK
                replace hK := hid hK
                simp only [wantedAt]
                go_simp
                exact hK.out _ _ rfl (grown_refl _ _)
              case o13 =>
                go_light
                intro ac w' hgw
                have hcw := ((gcell hgw).1 b (off + j) hbl.out).trans hcx.out
                replace hgw := hid hgw
                simp only [outThen, preThen, slotIs, factAt, isv, List.getElem?_cons_zero, List.getElem?_cons_succ, Option.getD_some, forall_eq]
                intros
                rename_i hK
                replace hK := hid hK
                simp only [wantedAt]
                go_simp
                exact hK.out _ _ rfl (grown_refl _ _)
              case o14 =>
                go_light
                intro ac w' hgw
                have hcw := ((gcell hgw).1 b (off + j) hbl.out).trans hcx.out
                replace hgw := hid hgw
                simp only [outThen, preThen, slotIs, factAt, isv, List.getElem?_cons_zero, List.getElem?_cons_succ, Option.getD_some, forall_eq]
                intros
                rename_i hK
                replace hK := hid hK
                simp only [wantedAt]
                go_simp
                exact hK.out _ _ rfl (grown_refl _ _)
              case o15 =>
                go_light
                intro ac w' hgw
                have hcw := ((gcell hgw).1 b (off + j) hbl.out).trans hcx.out
                replace hgw := hid hgw
                simp only [outThen, preThen, slotIs, factAt, isv, List.getElem?_cons_zero, List.getElem?_cons_succ, Option.getD_some, forall_eq]
                intros
                rename_i hK
                replace hK := hid hK
                simp only [wantedAt]
                go_simp
                exact hK.out _ _ rfl (grown_refl _ _)
              case o16 =>
                go_light
                intro ac w' hgw
                have hcw := ((gcell hgw).1 b (off + j) hbl.out).trans hcx.out
                replace hgw := hid hgw
                simp only [outThen, preThen, slotIs, factAt, isv, List.getElem?_cons_zero, List.getElem?_cons_succ, Option.getD_some, forall_eq]
                intros
                rename_i hK
                replace hK := hid hK
                simp only [wantedAt]
                go_simp
                exact hK.out _ _ rfl (grown_refl _ _)
              case o17 =>
                go_light
                intro ac w' hgw
                have hcw := ((gcell hgw).1 b (off + j) hbl.out).trans hcx.out
                replace hgw := hid hgw
                simp only [outThen, preThen, slotIs, factAt, isv, List.getElem?_cons_zero, List.getElem?_cons_succ, Option.getD_some, forall_eq]
                intros
                rename_i hK
                replace hK := hid hK
                simp only [wantedAt]
                go_simp
                exact hK.out _ _ rfl (grown_refl _ _)
              case o18 =>
                go_light
                intro ac w' hgw
                have hcw := ((gcell hgw).1 b (off + j) hbl.out).trans hcx.out
                replace hgw := hid hgw
                simp only [outThen, preThen, slotIs, factAt, isv, List.getElem?_cons_zero, List.getElem?_cons_succ, Option.getD_some, forall_eq]
                intros
                rename_i hK
                replace hK := hid hK
                simp only [wantedAt]
                go_simp
                exact hK.out _ _ rfl (grown_refl _ _)
              case o19 =>
                go_light
                intro ac w' hgw
                have hcw := ((gcell hgw).1 b (off + j) hbl.out).trans hcx.out
                replace hgw := hid hgw
                simp only [outThen, preThen, slotIs, factAt, isv, List.getElem?_cons_zero, List.getElem?_cons_succ, Option.getD_some, forall_eq]
                intros
                rename_i hK
                replace hK := hid hK
                simp only [wantedAt]
                go_simp
                exact hK.out _ _ rfl (grown_refl _ _)
              case o20 =>
                go_light
                intro ac w' hgw
                have hcw := ((gcell hgw).1 b (off + j) hbl.out).trans hcx.out
                replace hgw := hid hgw
                simp only [outThen, preThen, slotIs, factAt, isv, List.getElem?_cons_zero, List.getElem?_cons_succ, Option.getD_some, forall_eq]
                intros
                rename_i hK
                replace hK := hid hK
                simp only [wantedAt]
                go_simp
                exact hK.out _ _ rfl (grown_refl _ _)
              case o21 =>
                go_light
                intro ac w' hgw
                have hcw := ((gcell hgw).1 b (off + j) hbl.out).trans hcx.out
                replace hgw := hid hgw
                simp only [outThen, preThen, slotIs, factAt, isv, List.getElem?_cons_zero, List.getElem?_cons_succ, Option.getD_some, forall_eq]
                intros
                rename_i hK
                replace hK := hid hK
                simp only [wantedAt]
                have j0 := hj0.out
                have j1 := hj1.out
                go_simp
                exact hK.out _ _ rfl (grown_refl _ _)
              case o22 =>
                go_light
                intro ac w' hgw
                have hcw := ((gcell hgw).1 b (off + j) hbl.out).trans hcx.out
                replace hgw := hid hgw
                simp only [outThen, preThen, slotIs, factAt, isv, List.getElem?_cons_zero, List.getElem?_cons_succ, Option.getD_some, forall_eq]
                intros
                rename_i hK
                replace hK := hid hK
                simp only [wantedAt]
                go_simp
                exact hK.out _ _ rfl (grown_refl _ _)
              case o23 =>
                go_light
                intro ac w' hgw
                have hcw := ((gcell hgw).1 b (off + j) hbl.out).trans hcx.out
                replace hgw := hid hgw
                simp only [outThen, preThen, slotIs, factAt, isv, List.getElem?_cons_zero, List.getElem?_cons_succ, Option.getD_some, forall_eq]
                intros
                rename_i hK
                replace hK := hid hK
                simp only [wantedAt]
                go_simp
                exact hK.out _ _ rfl (grown_refl _ _)
              case o24 =>
                go_light
                intro ac w' hgw
                have hcw := ((gcell hgw).1 b (off + j) hbl.out).trans hcx.out
                replace hgw := hid hgw
                simp only [outThen, preThen, slotIs, factAt, isv, List.getElem?_cons_zero, List.getElem?_cons_succ, Option.getD_some, forall_eq]
                intros
                rename_i hK
                replace hK := hid hK
                simp only [wantedAt]
                go_simp
                exact hK.out _ _ rfl (grown_refl _ _)
              case o25 =>
                go_light
                intro ac w' hgw
                have hcw := ((gcell hgw).1 b (off + j) hbl.out).trans hcx.out
                replace hgw := hid hgw
                simp only [outThen, preThen, slotIs, factAt, isv, List.getElem?_cons_zero, List.getElem?_cons_succ, Option.getD_some, forall_eq]
                intros
                rename_i hK
                replace hK := hid hK
                simp only [wantedAt]
                go_simp
                exact hK.out _ _ rfl (grown_refl _ _)
              case o26 =>
                go_light
                intro ac w' hgw
                have hcw := ((gcell hgw).1 b (off + j) hbl.out).trans hcx.out
                replace hgw := hid hgw
                simp only [outThen, preThen, slotIs, factAt, isv, List.getElem?_cons_zero, List.getElem?_cons_succ, Option.getD_some, forall_eq]
                intros
                rename_i hK
                replace hK := hid hK
                simp only [wantedAt]
                go_simp
                exact hK.out _ _ rfl (grown_refl _ _)
              case o27 =>
                go_light
                intro ac w' hgw
                have hcw := ((gcell hgw).1 b (off + j) hbl.out).trans hcx.out
                replace hgw := hid hgw
                simp only [outThen, preThen, slotIs, factAt, isv, List.getElem?_cons_zero, List.getElem?_cons_succ, Option.getD_some, forall_eq]
                intros
                rename_i hK
                replace hK := hid hK
                simp only [wantedAt]
                go_simp
                exact hK.out _ _ rfl (grown_refl _ _)
            case st =>
              repeat (first | exact AllStable.nil | (refine AllStable.cons ?_ ?_; focus (first | exact stable_isv _ | exact stable_isBytes _ | exact stable_isRow1 _ | exact stable_isRowOf _ _ | exact stable_isArrOf _)))
            case fin =>
              intro w8 hgw
              simp only [finalIn, factAt, isv, List.getElem?_cons_zero, List.getElem?_cons_succ, Option.getD_some, forall_eq, slotIs, subj]
              simp only [Act.put, List.setIfInBounds_toArray, List.set_cons_zero, List.set_cons_succ]
              have hG8 := hid (grown_trans hG.out (grown_trans (grown_drew (grown_refl wr none)) hgw))
              clear hgw
              have hcm : Hid (cc = common (foldIf f x) (foldIf f y)) := hid (by have := hcl.out; omega)
              by_cases hkc : (kn : Int) < (cc : Int)
              all_goals
                go_wp2_with fail
                go_roundw
                case rel => exact ⟨j + 1, max kn cc, by omega, by go_num, by first | (rw [Nat.max_eq_right (by omega)]; done) | (rw [Nat.max_eq_left (by omega)]; done), hid (by rw [hold.out j hlt, hxs.out, hkn.out, ← hcm.out]), hG8.out⟩
                case measure => simp [intOf]; omega
        · have q1 : Hid (¬ (cc : Int) < (x.length : Int)) := hid (by omega)
          apply wp_region_each [isv _, isv _, isv _, isv (.bool false), isv (.bool false), isv _, isv _, isv _, isv _, isv _, isv _, isv _, isv (.bool false), isv (.bool false), isv _, isv _, isv _, isv _, isv _, isv _, isv _, isv _, isv _, isv _, isv _, isv _, isv _, isv (.bool false)]
            126 [some 33, some 34, some 35, some 36, some 37, some 38, some 39, some 40, some 41, some 42, some 43, some 44, some 45, some 46, some 47, some 48, some 49, some 50, some 51, some 52, some 53, some 54, some 55, some 56, some 57, some 58, some 59, some 60]
            [some 33, some 34, some 35, some 36, some 37, some 38, some 39, some 40, some 41, some 42, some 43, some 44, some 45, some 46, some 47, some 48, some 49, some 50, some 51, some 52, some 53, some 54, some 55, some 56, some 57, some 58, some 59, some 60]
            [[], [], [1], [0, 2], [3], [4], [4], [4], [6, 7, 4], [8, 4], [9, 4], [5, 10, 4], [4, 11], [12], [13], [13], [13], [16, 13], [15, 17, 13], [13], [13], [19, 20, 13], [21, 13], [13], [23, 13], [22, 24, 13], [14, 18, 25, 13], [13, 26]]
            [(0, .bool f), (1, .slice (some ⟨b, off, none⟩) xss.length c), (2, .slice A x.length d), (13, .int .i64 j), (14, .int .i64 cc)] (by kernel_rfl) rfl (by kernel_rfl) rfl rfl (by kernel_rfl) (OutsOk.cons rfl rfl (OutsOk.cons rfl rfl (OutsOk.cons rfl rfl (OutsOk.cons rfl rfl (OutsOk.cons rfl rfl OutsOk.nil))))) ?st ?ob ?fin
          case ob =>
            refine Obs.consv rfl ?o0 (Obs.consv rfl ?o1 (Obs.consv rfl ?o2 (Obs.consv rfl ?o3 (Obs.consv rfl ?o4 (Obs.consv rfl ?o5 (Obs.consv rfl ?o6 (Obs.consv rfl ?o7 (Obs.consv rfl ?o8 (Obs.consv rfl ?o9 (Obs.consv rfl ?o10 (Obs.consv rfl ?o11 (Obs.consv rfl ?o12 (Obs.consv rfl ?o13 (Obs.consv rfl ?o14 (Obs.consv rfl ?o15 (Obs.consv rfl ?o16 (Obs.consv rfl ?o17 (Obs.consv rfl ?o18 (Obs.consv rfl ?o19 (Obs.consv rfl ?o20 (Obs.consv rfl ?o21 (Obs.consv rfl ?o22 (Obs.consv rfl ?o23 (Obs.consv rfl ?o24 (Obs.consv rfl ?o25 (Obs.consv rfl ?o26 (Obs.consv rfl ?o27 Obs.nil)))))))))))))))))))))))))))
            case o0 =>
              go_light
              intro ac w' hgw
              have hcw := ((gcell hgw).1 b (off + j) hbl.out).trans hcx.out
              replace hgw := hid hgw
              simp only [outThen, preThen, slotIs, factAt, isv, List.getElem?_cons_zero, List.getElem?_cons_succ, Option.getD_some, forall_eq]
              intros
              rename_i hK
              replace hK := hid hK
              simp only [wantedAt]
              go_simp
              exact hK.out _ _ rfl (grown_refl _ _)
            case o1 =>
              go_light
              intro ac w' hgw
              have hcw := ((gcell hgw).1 b (off + j) hbl.out).trans hcx.out
              replace hgw := hid hgw
              simp only [outThen, preThen, slotIs, factAt, isv, List.getElem?_cons_zero, List.getElem?_cons_succ, Option.getD_some, forall_eq]
              intros
              rename_i hK
              replace hK := hid hK
              simp only [wantedAt]
              go_simp
              exact hK.out _ _ rfl (grown_refl _ _)
            case o2 =>
              go_light
              intro ac w' hgw
              have hcw := ((gcell hgw).1 b (off + j) hbl.out).trans hcx.out
              replace hgw := hid hgw
              simp only [outThen, preThen, slotIs, factAt, isv, List.getElem?_cons_zero, List.getElem?_cons_succ, Option.getD_some, forall_eq]
              intros
              rename_i hK
              replace hK := hid hK
              simp only [wantedAt]
              go_simp
              exact hK.out _ _ rfl (grown_refl _ _)
            case o3 =>
              go_light
              intro ac w' hgw
              have hcw := ((gcell hgw).1 b (off + j) hbl.out).trans hcx.out
              replace hgw := hid hgw
              simp only [outThen, preThen, slotIs, factAt, isv, List.getElem?_cons_zero, List.getElem?_cons_succ, Option.getD_some, forall_eq]
              intros
              rename_i hK
              replace hK := hid hK
              simp only [wantedAt]
              go_simp
              exact hK.out _ _ (by simpa using q1.out) (grown_refl _ _)
            case o4 =>
              go_light
              intro ac w' hgw
              have hcw := ((gcell hgw).1 b (off + j) hbl.out).trans hcx.out
              replace hgw := hid hgw
              simp only [outThen, preThen, slotIs, factAt, isv, List.getElem?_cons_zero, List.getElem?_cons_succ, Option.getD_some, forall_eq]
              intros
              rename_i hK
              replace hK := hid hK
              simp only [wantedAt]
              go_simp
              exact hK.out _ _ rfl (grown_refl _ _)
            case o5 =>
              go_light
              intro ac w' hgw
              have hcw := ((gcell hgw).1 b (off + j) hbl.out).trans hcx.out
              replace hgw := hid hgw
              simp only [outThen, preThen, slotIs, factAt, isv, List.getElem?_cons_zero, List.getElem?_cons_succ, Option.getD_some, forall_eq]
              intros
              rename_i hK
              replace hK := hid hK
              simp only [wantedAt]
              go_simp
              exact hK.out _ _ rfl (grown_refl _ _)
            case o6 =>
              go_light
              intro ac w' hgw
              have hcw := ((gcell hgw).1 b (off + j) hbl.out).trans hcx.out
              replace hgw := hid hgw
              simp only [outThen, preThen, slotIs, factAt, isv, List.getElem?_cons_zero, List.getElem?_cons_succ, Option.getD_some, forall_eq]
              intros
              rename_i hK
              replace hK := hid hK
              simp only [wantedAt]
              go_simp
              exact hK.out _ _ rfl (grown_refl _ _)
            case o7 =>
              go_light
              intro ac w' hgw
              have hcw := ((gcell hgw).1 b (off + j) hbl.out).trans hcx.out
              replace hgw := hid hgw
              simp only [outThen, preThen, slotIs, factAt, isv, List.getElem?_cons_zero, List.getElem?_cons_succ, Option.getD_some, forall_eq]
              intros
              rename_i hK
              replace hK := hid hK
              simp only [wantedAt]
              go_simp
              exact hK.out _ _ rfl (grown_refl _ _)
            case o8 =>
              go_light
              intro ac w' hgw
              have hcw := ((gcell hgw).1 b (off + j) hbl.out).trans hcx.out
              replace hgw := hid hgw
              simp only [outThen, preThen, slotIs, factAt, isv, List.getElem?_cons_zero, List.getElem?_cons_succ, Option.getD_some, forall_eq]
              intros
              rename_i hK
              replace hK := hid hK
              simp only [wantedAt]
              go_simp
              exact hK.out _ _ rfl (grown_refl _ _)
            case o9 =>
              go_light
              intro ac w' hgw
              have hcw := ((gcell hgw).1 b (off + j) hbl.out).trans hcx.out
              replace hgw := hid hgw
              simp only [outThen, preThen, slotIs, factAt, isv, List.getElem?_cons_zero, List.getElem?_cons_succ, Option.getD_some, forall_eq]
              intros
              rename_i hK
              replace hK := hid hK
              simp only [wantedAt]
              go_simp
              exact hK.out _ _ rfl (grown_refl _ _)
            case o10 =>
              go_light
              intro ac w' hgw
              have hcw := ((gcell hgw).1 b (off + j) hbl.out).trans hcx.out
              replace hgw := hid hgw
              simp only [outThen, preThen, slotIs, factAt, isv, List.getElem?_cons_zero, List.getElem?_cons_succ, Option.getD_some, forall_eq]
              intros
              rename_i hK
              replace hK := hid hK
              simp only [wantedAt]
              go_simp
              exact hK.out _ _ rfl (grown_refl _ _)
            case o11 =>
              go_light
              intro ac w' hgw
              have hcw := ((gcell hgw).1 b (off + j) hbl.out).trans hcx.out
              replace hgw := hid hgw
              simp only [outThen, preThen, slotIs, factAt, isv, List.getElem?_cons_zero, List.getElem?_cons_succ, Option.getD_some, forall_eq]
              intros
              rename_i hK
              replace hK := hid hK
              simp only [wantedAt]
              go_simp
              exact hK.out _ _ rfl (grown_refl _ _)
            case o12 =>
              go_light
              intro ac w' hgw
              have hcw := ((gcell hgw).1 b (off + j) hbl.out).trans hcx.out
              replace hgw := hid hgw
              simp only [outThen, preThen, slotIs, factAt, isv, List.getElem?_cons_zero, List.getElem?_cons_succ, Option.getD_some, forall_eq]
              intros
              rename_i hK
              replace hK := hid hK
              simp only [wantedAt]
              go_simp
              exact hK.out _ _ rfl (grown_refl _ _)
            case o13 =>
              go_light
              intro ac w' hgw
              have hcw := ((gcell hgw).1 b (off + j) hbl.out).trans hcx.out
              replace hgw := hid hgw
              simp only [outThen, preThen, slotIs, factAt, isv, List.getElem?_cons_zero, List.getElem?_cons_succ, Option.getD_some, forall_eq]
              intros
              rename_i hK
              replace hK := hid hK
              simp only [wantedAt]
              go_simp
              exact hK.out _ _ rfl (grown_refl _ _)
            case o14 =>
              go_light
              intro ac w' hgw
              have hcw := ((gcell hgw).1 b (off + j) hbl.out).trans hcx.out
              replace hgw := hid hgw
              simp only [outThen, preThen, slotIs, factAt, isv, List.getElem?_cons_zero, List.getElem?_cons_succ, Option.getD_some, forall_eq]
              intros
              rename_i hK
              replace hK := hid hK
              simp only [wantedAt]
              go_simp
              exact hK.out _ _ rfl (grown_refl _ _)
            case o15 =>
              go_light
              intro ac w' hgw
              have hcw := ((gcell hgw).1 b (off + j) hbl.out).trans hcx.out
              replace hgw := hid hgw
              simp only [outThen, preThen, slotIs, factAt, isv, List.getElem?_cons_zero, List.getElem?_cons_succ, Option.getD_some, forall_eq]
              intros
              rename_i hK
              replace hK := hid hK
              simp only [wantedAt]
              go_simp
              exact hK.out _ _ rfl (grown_refl _ _)
            case o16 =>
              go_light
              intro ac w' hgw
              have hcw := ((gcell hgw).1 b (off + j) hbl.out).trans hcx.out
              replace hgw := hid hgw
              simp only [outThen, preThen, slotIs, factAt, isv, List.getElem?_cons_zero, List.getElem?_cons_succ, Option.getD_some, forall_eq]
              intros
              rename_i hK
              replace hK := hid hK
              simp only [wantedAt]
              go_simp
              exact hK.out _ _ rfl (grown_refl _ _)
            case o17 =>
              go_light
              intro ac w' hgw
              have hcw := ((gcell hgw).1 b (off + j) hbl.out).trans hcx.out
              replace hgw := hid hgw
              simp only [outThen, preThen, slotIs, factAt, isv, List.getElem?_cons_zero, List.getElem?_cons_succ, Option.getD_some, forall_eq]
              intros
              rename_i hK
              replace hK := hid hK
              simp only [wantedAt]
              go_simp
              exact hK.out _ _ rfl (grown_refl _ _)
            case o18 =>
              go_light
              intro ac w' hgw
              have hcw := ((gcell hgw).1 b (off + j) hbl.out).trans hcx.out
              replace hgw := hid hgw
              simp only [outThen, preThen, slotIs, factAt, isv, List.getElem?_cons_zero, List.getElem?_cons_succ, Option.getD_some, forall_eq]
              intros
              rename_i hK
              replace hK := hid hK
              simp only [wantedAt]
              go_simp
              exact hK.out _ _ rfl (grown_refl _ _)
            case o19 =>
              go_light
              intro ac w' hgw
              have hcw := ((gcell hgw).1 b (off + j) hbl.out).trans hcx.out
              replace hgw := hid hgw
              simp only [outThen, preThen, slotIs, factAt, isv, List.getElem?_cons_zero, List.getElem?_cons_succ, Option.getD_some, forall_eq]
              intros
              rename_i hK
              replace hK := hid hK
              simp only [wantedAt]
              go_simp
              exact hK.out _ _ rfl (grown_refl _ _)
            case o20 =>
              go_light
              intro ac w' hgw
              have hcw := ((gcell hgw).1 b (off + j) hbl.out).trans hcx.out
              replace hgw := hid hgw
              simp only [outThen, preThen, slotIs, factAt, isv, List.getElem?_cons_zero, List.getElem?_cons_succ, Option.getD_some, forall_eq]
              intros
              rename_i hK
              replace hK := hid hK
              simp only [wantedAt]
              go_simp
              exact hK.out _ _ rfl (grown_refl _ _)
            case o21 =>
              go_light
              intro ac w' hgw
              have hcw := ((gcell hgw).1 b (off + j) hbl.out).trans hcx.out
              replace hgw := hid hgw
              simp only [outThen, preThen, slotIs, factAt, isv, List.getElem?_cons_zero, List.getElem?_cons_succ, Option.getD_some, forall_eq]
              intros
              rename_i hK
              replace hK := hid hK
              simp only [wantedAt]
              go_simp
              exact hK.out _ _ rfl (grown_refl _ _)
            case o22 =>
              go_light
              intro ac w' hgw
              have hcw := ((gcell hgw).1 b (off + j) hbl.out).trans hcx.out
              replace hgw := hid hgw
              simp only [outThen, preThen, slotIs, factAt, isv, List.getElem?_cons_zero, List.getElem?_cons_succ, Option.getD_some, forall_eq]
              intros
              rename_i hK
              replace hK := hid hK
              simp only [wantedAt]
              go_simp
              exact hK.out _ _ rfl (grown_refl _ _)
            case o23 =>
              go_light
              intro ac w' hgw
              have hcw := ((gcell hgw).1 b (off + j) hbl.out).trans hcx.out
              replace hgw := hid hgw
              simp only [outThen, preThen, slotIs, factAt, isv, List.getElem?_cons_zero, List.getElem?_cons_succ, Option.getD_some, forall_eq]
              intros
              rename_i hK
              replace hK := hid hK
              simp only [wantedAt]
              go_simp
              exact hK.out _ _ rfl (grown_refl _ _)
            case o24 =>
              go_light
              intro ac w' hgw
              have hcw := ((gcell hgw).1 b (off + j) hbl.out).trans hcx.out
              replace hgw := hid hgw
              simp only [outThen, preThen, slotIs, factAt, isv, List.getElem?_cons_zero, List.getElem?_cons_succ, Option.getD_some, forall_eq]
              intros
              rename_i hK
              replace hK := hid hK
              simp only [wantedAt]
              go_simp
              exact hK.out _ _ rfl (grown_refl _ _)
            case o25 =>
              go_light
              intro ac w' hgw
              have hcw := ((gcell hgw).1 b (off + j) hbl.out).trans hcx.out
              replace hgw := hid hgw
              simp only [outThen, preThen, slotIs, factAt, isv, List.getElem?_cons_zero, List.getElem?_cons_succ, Option.getD_some, forall_eq]
              intros
              rename_i hK
              replace hK := hid hK
              simp only [wantedAt]
              go_simp
              exact hK.out _ _ rfl (grown_refl _ _)
            case o26 =>
              go_light
              intro ac w' hgw
              have hcw := ((gcell hgw).1 b (off + j) hbl.out).trans hcx.out
              replace hgw := hid hgw
              simp only [outThen, preThen, slotIs, factAt, isv, List.getElem?_cons_zero, List.getElem?_cons_succ, Option.getD_some, forall_eq]
              intros
              rename_i hK
              replace hK := hid hK
              simp only [wantedAt]
              go_simp
              exact hK.out _ _ rfl (grown_refl _ _)
            case o27 =>
              go_light
              intro ac w' hgw
              have hcw := ((gcell hgw).1 b (off + j) hbl.out).trans hcx.out
              replace hgw := hid hgw
              simp only [outThen, preThen, slotIs, factAt, isv, List.getElem?_cons_zero, List.getElem?_cons_succ, Option.getD_some, forall_eq]
              intros
              rename_i hK
              replace hK := hid hK
              simp only [wantedAt]
              go_simp
              exact hK.out _ _ rfl (grown_refl _ _)
          case st =>
            repeat (first | exact AllStable.nil | (refine AllStable.cons ?_ ?_; focus (first | exact stable_isv _ | exact stable_isBytes _ | exact stable_isRow1 _ | exact stable_isRowOf _ _ | exact stable_isArrOf _)))
          case fin =>
            intro w8 hgw
            simp only [finalIn, factAt, isv, List.getElem?_cons_zero, List.getElem?_cons_succ, Option.getD_some, forall_eq, slotIs, subj]
            simp only [Act.put, List.setIfInBounds_toArray, List.set_cons_zero, List.set_cons_succ]
            have hG8 := hid (grown_trans hG.out (grown_trans (grown_drew (grown_refl wr none)) hgw))
            clear hgw
            have hcm : Hid (cc = common (foldIf f x) (foldIf f y)) := hid (by have := hcl.out; omega)
            by_cases hkc : (kn : Int) < (cc : Int)
            all_goals
              go_wp2_with fail
              go_roundw
              case rel => exact ⟨j + 1, max kn cc, by omega, by go_num, by first | (rw [Nat.max_eq_right (by omega)]; done) | (rw [Nat.max_eq_left (by omega)]; done), hid (by rw [hold.out j hlt, hxs.out, hkn.out, ← hcm.out]), hG8.out⟩
              case measure => simp [intOf]; omega
    · obtain rfl : j = xss.length := by omega
      rw [List.take_length] at hkn
      obtain ⟨vs, hvs, hrow⟩ := cells_of_arrs hP.out
      have hvl := hid hrow.1
      have hone := hid hrow.oneCell
      have hcr := hid (hvs.grown hG)
      have hrow0 := hid hrow
      have hE0 : Hid ((wr.alloc (.cells #[] 25)).ownsRow w.heap.size 25 1 (.slice (some ⟨wr.heap.size, 0, none⟩) 0 0) 0 []) := hid (World.ownsRow_made wr #[] 0 hG.size (by simp) (by simp))
      have hAx := hid (hA.out.grown hG)
      have hGr := hid hG
      have hsz := hid hG.size
      obtain ⟨M, hM⟩ : ∃ M, nm + (x.length - kn) = M := ⟨_, rfl⟩
      have hmo : Hid (nodes f (xss ++ [x]) = M) := hid (by rw [hmore.out, hfx.out, hkn.out, hM])
      have hneq : ((M : Int) != (nm : Int) + (x.length : Int) - (kn : Int)) = false := by rw [bne_eq_false_iff_eq]; omega
      have hnm2 : nm ≤ 3001 := by omega
      have hone1 : Hid (∀ u ∈ [Value.slice A x.length d], u.oneCell' = true) := hid (by simp [Value.oneCell'])
      have hvs0 := hid hvs
      clear hvs hrow hG hmore hold hg1 hM
      go_wp2_with (first
        | (at_builtin; refine wpList_append_cells (i := i3) Try.underlying22 hi3 hy0 hy1 hy2 rfl _ _ rfl w.heap.size _ 0 [] vs P xss.length c (wr.alloc (.cells #[] 25)) hE0.out (hcr.out.grown (grown_alloc (grown_refl wr none) _)) rfl rfl hvl.out hone.out (by omega) (by have := hsz.out; simp; omega) ?_; intro v5 w5 hown5 hg5; rw [Nat.zero_add, List.nil_append] at hown5; have hG5 := hid (grown_of_own (grown_alloc hGr.out (.cells #[] 25)) hE0.out hg5); obtain ⟨A5, c5, rfl, _, _⟩ := own_form hown5; replace hown5 := hid hown5; clear hg5)
        | (at_builtin; refine wpList_append_cells (i := i3) Try.underlying22 hi3 hy0 hy1 hy2 rfl _ _ rfl w.heap.size _ xss.length vs [.slice A x.length d] (some ⟨w5.heap.size, 0, none⟩) 1 1 (w5.alloc (.cells #[.slice A x.length d] 25)) (hown5.out.alloc _) (cells_one w5 (.slice A x.length d) 25) rfl rfl rfl hone1.out (by omega) (by have := hG5.out.size; simp; omega) ?_; intro v6 w6 hown6 hg6; have hG6 := hid (grown_of_own (grown_alloc hG5.out (.cells #[.slice A x.length d] 25)) (hown5.out.alloc _) hg6); obtain ⟨A6, c6, rfl, _, _⟩ := own_form hown6; replace hown6 := hid hown6; clear hg6))
      have hmb : ∀ i, Bytes ((xss ++ [x]).getD i []) := getD_all Bytes (fun k => by simp) fun z hz => by
        rcases List.mem_append.1 hz with hz | hz
        · exact all_getD Bytes hB.out z hz
        · obtain rfl : z = x := by simpa using hz
          exact hxb.out
      have key := patNodes_is f A6 c6 (xss ++ [x]) w6 (by simp; omega) (by simp only [List.flatten_append, List.length_append, List.flatten_cons, List.flatten_nil, List.append_nil]; omega) hmb (arrs_of_own hown6.out ((hrow0.out.append (RowLike.one (c := d) hA.out)).grown hG6.out))
      rw [show (xss ++ [x]).length = xss.length + 1 by simp, hmo.out] at key
      refine key.mono ?_
      clear key hmb
      rintro e w7 ⟨rfl, hg7⟩
      have hG7 := hid (grown_trans hG6.out hg7)
      clear hg7 hown6 hown5 hG5 hG6 hE0 hcr hAx hmo
      by_cases hx0 : xss = []
      · have b1 : ((xss.length : Int) == 0) = true := by rw [hx0]; rfl
        have b2 : ((nm : Int) == 1) = true := by rw [← hnmE.out, hx0]; rfl
        replace hx0 := hid hx0
        go_wp2_with fail
        refine (qwakes_true _).mono ?_
        rintro e w12 ⟨rfl, hg12⟩
        have hG12 := hid (grown_trans hG7.out hg12)
        clear hg12
        go_wp2_with fail
        go_ret
        exact ⟨rfl, hG12.out⟩
      · have hpos : 0 < xss.length := List.length_pos_iff.2 hx0
        have b1 : ((xss.length : Int) == 0) = false := by rw [beq_eq_false_iff_ne]; omega
        replace hx0 := hid hx0
        have hE7 : Hid ((w7.alloc (.cells #[] 25)).ownsRow w.heap.size 25 1 (.slice (some ⟨w7.heap.size, 0, none⟩) 0 0) 0 []) := hid (World.ownsRow_made w7 #[] 0 hG7.out.size (by simp) (by simp))
        have hvs7 := hid (hvs0.out.grown hG7.out)
        have hsz7 := hid hG7.out.size
        obtain ⟨K1, hK1, hK1l⟩ : ∃ K : Nat, (if (xss.length : Int) - 1 < (if p < 0 then 0 else p) then (xss.length : Int) - 1 else if p < 0 then 0 else p) = (K : Int) ∧ K < xss.length := by
          refine ⟨(if (xss.length : Int) - 1 < (if p < 0 then 0 else p) then (xss.length : Int) - 1 else if p < 0 then 0 else p).toNat, ?_, ?_⟩ <;> (repeat' split) <;> omega
        obtain ⟨K2, hK2, hK2l⟩ : ∃ K : Nat, (if (xss.length : Int) - 1 < (if r < 0 then 0 else r) then (xss.length : Int) - 1 else if r < 0 then 0 else r) = (K : Int) ∧ K < xss.length := by
          refine ⟨(if (xss.length : Int) - 1 < (if r < 0 then 0 else r) then (xss.length : Int) - 1 else if r < 0 then 0 else r).toNat, ?_, ?_⟩ <;> (repeat' split) <;> omega
        replace hK1 := hid hK1
        replace hK2 := hid hK2
        go_upto_region 18 with (at_builtin; refine wpList_append_cells (i := i3) Try.underlying22 hi3 hy0 hy1 hy2 rfl _ _ rfl w.heap.size _ 0 [] vs P xss.length c (w7.alloc (.cells #[] 25)) hE7.out (hvs7.out.grown (grown_alloc (grown_refl w7 none) _)) rfl rfl hvl.out hone.out (by omega) (by have := hsz7.out; simp; omega) ?_; intro v8 w8 hown8 hg8; rw [Nat.zero_add, List.nil_append] at hown8; have hG8 := hid (grown_of_own (grown_alloc hG7.out (.cells #[] 25)) hE7.out hg8); obtain ⟨A8, c8, rfl, _, _⟩ := own_form hown8; replace hown8 := hid hown8; clear hg8)
        rw [hK1.out, hK2.out]
        generalize (if p < 0 then (0 : Int) else p) = pp
        generalize (if r < 0 then (0 : Int) else r) = rr
        obtain ⟨gt, cur, rfl, hbt, hHt, hcl8, htk⟩ : ∃ gt cur, A8 = some ⟨gt, 0, none⟩ ∧ w.heap.size ≤ gt ∧ Holds w8 gt 25 cur ∧ xss.length ≤ cur.size ∧ ∀ i, i < xss.length → cur[i]? = vs[i]? := by
          rcases hown8.out.2 with ⟨_, h0⟩ | ⟨g', cap, cur, hv, hbg, hg', hnc, hm, hs, ht⟩
          · omega
          · injection hv with e1 _ _
            refine ⟨g', cur, e1, hbg, hg', by omega, fun i hi => ?_⟩
            rw [← ht, List.getElem?_take, if_pos (by omega)]
            simp
        obtain ⟨B1, e1, hv1, hb1⟩ := hrow0.out.2 K1 hK1l
        obtain ⟨B2, e2, hv2, hb2⟩ := hrow0.out.2 K2 hK2l
        have d1 : w8.cell? ⟨gt, K1, none⟩ = some (.slice B1 (xss.getD K1 []).length e1) := by rw [hHt.cell, htk K1 hK1l, hv1]
        have d2 : w8.cell? ⟨gt, K2, none⟩ = some (.slice B2 (xss.getD K2 []).length e2) := by rw [hHt.cell, htk K2 hK2l, hv2]
        have f1 := hHt.free K1
        have f2 := hHt.free K2
        have lg := hHt.lt
        have k10 : (0 : Int) ≤ (K1 : Int) := by omega
        have k11 : (K1 : Int) < (xss.length : Int) := by omega
        have k20 : (0 : Int) ≤ (K2 : Int) := by omega
        have k21 : (K2 : Int) < (xss.length : Int) := by omega
        obtain ⟨x1, hx1⟩ : ∃ x1, (xss.getD K1 []).length = x1 := ⟨_, rfl⟩
        obtain ⟨x2, hx2⟩ : ∃ x2, (xss.getD K2 []).length = x2 := ⟨_, rfl⟩
        rw [hx1] at d1 hv1
        rw [hx2] at d2 hv2
        replace hx1 := hid hx1
        replace hx2 := hid hx2
        replace hHt := hid hHt
        replace hb1 := hid hb1
        replace hb2 := hid hb2
        replace htk := hid htk
        replace hv1 := hid hv1
        replace hv2 := hid hv2
        by_cases hKK : K1 = K2
        · subst hKK
          have hd := d1.symm.trans d2
          simp only [Option.some.injEq, Value.slice.injEq] at hd
          obtain ⟨rfl, rfl, rfl⟩ := hd
          go_region
          have hW : Holds ((w8.setCell ⟨gt, K1, none⟩ (.slice B1 x1 e1)).setCell ⟨gt, K1, none⟩ (.slice B1 x1 e1)).drew gt 25 ((cur.setIfInBounds K1 (.slice B1 x1 e1)).setIfInBounds K1 (.slice B1 x1 e1)) := ((hHt.out.set K1 (.slice B1 x1 e1)).set K1 (.slice B1 x1 e1)).drew
          have hG9 := hid (grown_drew (grown_set (p := ⟨gt, K1, none⟩) (grown_set (p := ⟨gt, K1, none⟩) hG8.out (.inr hbt) (.slice B1 x1 e1)) (.inr hbt) (.slice B1 x1 e1)))
          obtain ⟨W9, hW9⟩ : ∃ W9, ((w8.setCell ⟨gt, K1, none⟩ (.slice B1 x1 e1)).setCell ⟨gt, K1, none⟩ (.slice B1 x1 e1)).drew = W9 := ⟨_, rfl⟩
          rw [hW9] at hW hG9 ⊢
          clear hW9
          have hr1 := hrow0.out.put K1 e1 hb1.out
          have hr2 := hr1.put K1 e1 hb1.out
          rw [hx1.out] at hr2
          have g1 : xss.getD K1 [] = xss[K1] := by simp [List.getD, hK1l]
          have g2 : xss.getD K1 [] = xss[K1] := by simp [List.getD, hK1l]
          have hsw2 := hsw.out K1 K1 hK1l hK1l
          have hperm : ((xss.set K1 xss[K1]).set K1 xss[K1]).Perm xss := List.set_set_perm hK1l hK1l
          rw [← g1] at hsw2 hperm
          have hPl := hperm.length_eq
          have hPf := hperm.flatten.length_eq
          have hPb : ∀ i, Bytes (((xss.set K1 (xss.getD K1 [])).set K1 (xss.getD K1 [])).getD i []) := getD_all Bytes (fun k => by simp) fun z hz => all_getD Bytes hB.out z (hperm.mem_iff.1 hz)
          have hP9 := arrs_of_holds_row hW (us := (vs.set K1 (.slice B1 x1 e1)).set K1 (.slice B1 x1 e1)) (fun i hi => set_cells (n := xss.length) (by simp [hvl.out]) (by simp; exact hcl8) (set_cells hvl.out hcl8 htk.out K1 _) K1 _ i (by omega)) (hr2.grown hG9.out)
          have key := patNodes_is f (some ⟨gt, 0, none⟩) c8 _ W9 (by omega) (by omega) hPb hP9
          rw [hPl, hsw2] at key
          clear hPl hPf hPb hP9 hperm hsw2 hr1 hr2 g1 g2 hW hHt hcl8
          go_wp2_with fail
          refine key.mono ?_
          rintro e w10 ⟨rfl, hg10⟩
          have hG10 := hid (grown_trans hG9.out hg10)
          clear hg10
          go_wp2_with fail
          refine (qwakes_true _).mono ?_
          rintro e w12 ⟨rfl, hg12⟩
          have hG12 := hid (grown_trans hG10.out hg12)
          clear hg12
          go_wp2_with fail
          go_ret
          exact ⟨rfl, hG12.out⟩
        · go_region
          have hW : Holds ((w8.setCell ⟨gt, K1, none⟩ (.slice B2 x2 e2)).setCell ⟨gt, K2, none⟩ (.slice B1 x1 e1)).drew gt 25 ((cur.setIfInBounds K1 (.slice B2 x2 e2)).setIfInBounds K2 (.slice B1 x1 e1)) := ((hHt.out.set K1 (.slice B2 x2 e2)).set K2 (.slice B1 x1 e1)).drew
          have hG9 := hid (grown_drew (grown_set (p := ⟨gt, K2, none⟩) (grown_set (p := ⟨gt, K1, none⟩) hG8.out (.inr hbt) (.slice B2 x2 e2)) (.inr hbt) (.slice B1 x1 e1)))
          obtain ⟨W9, hW9⟩ : ∃ W9, ((w8.setCell ⟨gt, K1, none⟩ (.slice B2 x2 e2)).setCell ⟨gt, K2, none⟩ (.slice B1 x1 e1)).drew = W9 := ⟨_, rfl⟩
          rw [hW9] at hW hG9 ⊢
          clear hW9
          have hr1 := hrow0.out.put K1 e2 hb2.out
          have hr2 := hr1.put K2 e1 hb1.out
          rw [hx1.out, hx2.out] at hr2
          have g1 : xss.getD K1 [] = xss[K1] := by simp [List.getD, hK1l]
          have g2 : xss.getD K2 [] = xss[K2] := by simp [List.getD, hK2l]
          have hsw2 := hsw.out K1 K2 hK1l hK2l
          have hperm : ((xss.set K1 xss[K2]).set K2 xss[K1]).Perm xss := List.set_set_perm hK1l hK2l
          rw [← g1, ← g2] at hsw2 hperm
          have hPl := hperm.length_eq
          have hPf := hperm.flatten.length_eq
          have hPb : ∀ i, Bytes (((xss.set K1 (xss.getD K2 [])).set K2 (xss.getD K1 [])).getD i []) := getD_all Bytes (fun k => by simp) fun z hz => all_getD Bytes hB.out z (hperm.mem_iff.1 hz)
          have hP9 := arrs_of_holds_row hW (us := (vs.set K1 (.slice B2 x2 e2)).set K2 (.slice B1 x1 e1)) (fun i hi => set_cells (n := xss.length) (by simp [hvl.out]) (by simp; exact hcl8) (set_cells hvl.out hcl8 htk.out K1 _) K2 _ i (by omega)) (hr2.grown hG9.out)
          have key := patNodes_is f (some ⟨gt, 0, none⟩) c8 _ W9 (by omega) (by omega) hPb hP9
          rw [hPl, hsw2] at key
          clear hPl hPf hPb hP9 hperm hsw2 hr1 hr2 g1 g2 hW hHt hcl8
          go_wp2_with fail
          refine key.mono ?_
          rintro e w10 ⟨rfl, hg10⟩
          have hG10 := hid (grown_trans hG9.out hg10)
          clear hg10
          go_wp2_with fail
          refine (qwakes_true _).mono ?_
          rintro e w12 ⟨rfl, hg12⟩
          have hG12 := hid (grown_trans hG10.out hg12)
          clear hg12
          go_wp2_with fail
          go_ret
          exact ⟨rfl, hG12.out⟩
end Go.Proofs.Ytojbfjlihenjaaa
