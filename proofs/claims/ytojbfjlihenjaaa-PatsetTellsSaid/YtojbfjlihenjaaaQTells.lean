/- The law PatsetTells: all that patset tells is what the document's own answer is. -/
import Derived.Test.YtojbfjlihenjaaaQWakes
set_option linter.unusedSimpArgs false
set_option linter.unusedVariables false
namespace Go.Proofs.Ytojbfjlihenjaaa
open Go.RowKit PlainLetter PlainPatset

def madeF (f : Bool) (xss : List (List Int)) : Bool := if check f xss = 0 then f else false
def madeW (f : Bool) (xss : List (List Int)) : List (List Int) := if check f xss = 0 then makeWords f xss else []
theorem MakeTells.made {f : Bool} {xss : List (List Int)} {w w' : World} {e : Ending} (h : MakeTells f xss w e w') : ∃ A c, e = .returned (.tuple #[.agg #[.bool (madeF f xss), .slice A (madeW f xss).length c], .int .i64 (check f xss)]) ∧ Arrs w' A (madeW f xss) ∧ w.grownBy w' none := by
  obtain ⟨v, rfl, hv, hg⟩ := h
  unfold madeF madeW
  by_cases h0 : check f xss = 0
  · simp only [if_pos h0] at hv ⊢
    obtain ⟨A, c, l, rfl, hm, hr⟩ := hv
    have h2 := hr.arrs.2
    rw [hm] at h2
    exact ⟨A, c, by rw [← hm, List.length_map], h2, hg⟩
  · simp only [if_neg h0] at hv ⊢
    subst hv
    exact ⟨none, 0, rfl, Arrs.nil _ _, hg⟩
theorem made_bytes (f : Bool) (xss : List (List Int)) (hn : xss.length ≤ 100000) (hl : ∀ i, (xss.getD i []).length ≤ 100000) (hB : ∀ i, Bytes (xss.getD i [])) : Small (madeW f xss) := by
  unfold madeW
  split
  · exact make_small f xss hn hl hB
  · exact small_nil

set_option maxRecDepth 100000 in
set_option maxHeartbeats 8000000 in
theorem qtells_walk (f g g3 : Bool) (P1 P2 P3 A : Option Addr) (c1 c2 c3 d : Nat) (xss yss zss : List (List Int)) (x : List Int) (w : World) (hB1 : ∀ i, Bytes (xss.getD i [])) (hB2 : ∀ i, Bytes (yss.getD i [])) (hB3 : ∀ i, Bytes (zss.getD i [])) (hxb : Bytes x)
    (hP1 : Arrs w P1 xss) (hP2 : Arrs w P2 yss) (hP3 : Arrs w P3 zss) (hA : Arr w .u8 A x) (hl1 : xss.length ≤ 9223372036854775807) (hl2 : yss.length ≤ 9223372036854775807) (hl3 : zss.length ≤ 9223372036854775807) :
    Calls Try.prog 3 #[.bool f, .slice P1 xss.length c1, .agg #[.bool g, .slice P2 yss.length c2], .agg #[.bool g3, .slice P3 zss.length c3], .slice A x.length d] w fun e w' => e = .returned (.bool true) ∧ w.grownBy w' none := by
  replace hB1 := hid hB1
  replace hB2 := hid hB2
  replace hB3 := hid hB3
  replace hxb := hid hxb
  replace hP1 := hid hP1
  replace hP2 := hid hP2
  replace hP3 := hid hP3
  replace hA := hid hA
  have H1 : Holds ((w.alloc (.cells #[.bool g, .slice P2 yss.length c2] 24)).alloc (.cells #[.bool g3, .slice P3 zss.length c3] 24)) w.heap.size 24 #[.bool g, .slice P2 yss.length c2] := (Holds.new _ _ _).alloc _
  have H2 : Holds ((w.alloc (.cells #[.bool g, .slice P2 yss.length c2] 24)).alloc (.cells #[.bool g3, .slice P3 zss.length c3] 24)) (w.heap.size + 1) 24 #[.bool g3, .slice P3 zss.length c3] := by
    refine Holds.new_at _ _ ?_
    simp
  have hG : Hid (w.grownBy ((w.alloc (.cells #[.bool g, .slice P2 yss.length c2] 24)).alloc (.cells #[.bool g3, .slice P3 zss.length c3] 24)) none) := grown_alloc (grown_alloc (grown_refl w none) _) _
  go_enter Try.func3, Try.ntmps3
  go_upto_region 1 with fail
  obtain ⟨W0, hW0⟩ : ∃ W0, (w.alloc (.cells #[.bool g, .slice P2 yss.length c2] 24)).alloc (.cells #[.bool g3, .slice P3 zss.length c3] 24) = W0 := ⟨_, rfl⟩
  rw [hW0] at H1 H2 hG ⊢
  clear hW0
  obtain ⟨h, hh⟩ : ∃ h, w.heap.size = h := ⟨_, rfl⟩
  rw [hh] at H1 H2 ⊢
  replace hh := hid hh
  replace H1 := hid H1
  replace H2 := hid H2
  have hW : Hid (W0.grownBy W0 none) := grown_refl _ _
  have e0 := (H1.out.kept0 hW.out).cell 0
  have e1 := (H1.out.kept0 hW.out).cell 1
  have e2 := (H2.out.kept0 hW.out).cell 0
  have e3 := (H2.out.kept0 hW.out).cell 1
  simp at e0 e1 e2 e3
  go_wp2_with fail
  refine (greatTexts_is P1 c1 xss _ (hP1.out.grown hG.out) hl1).mono ?_
  rintro e w1 ⟨rfl, rfl | ⟨rfl, h80, h3000⟩⟩
  · go_wp2_with fail
    refine (qwakes_true _).mono ?_
    rintro e w9 ⟨rfl, hg⟩
    have hGf := hid (grown_trans hG.out hg)
    clear hg
    go_wp2_with fail
    go_ret
    exact ⟨rfl, hGf.out⟩
  go_wp2_with fail
  clear e0 e1 e2 e3
  refine (refSetGreat_is g P2 c2 yss _ (hP2.out.grown hG.out) hl2).mono ?_
  rintro e w1 ⟨rfl | ⟨rfl, hy80, hy3000⟩, hg⟩
  · replace hG := hid (grown_trans hG.out hg)
    clear hg
    go_wp2_with fail
    refine (qwakes_true _).mono ?_
    rintro e w9 ⟨rfl, hg⟩
    have hGf := hid (grown_trans hG.out hg)
    clear hg
    go_wp2_with fail
    go_ret
    exact ⟨rfl, hGf.out⟩
  replace hG := hid (grown_trans hG.out hg)
  replace hW := hid (grown_trans hW.out hg)
  clear hg
  have e0 := (H1.out.kept0 hW.out).cell 0
  have e1 := (H1.out.kept0 hW.out).cell 1
  have e2 := (H2.out.kept0 hW.out).cell 0
  have e3 := (H2.out.kept0 hW.out).cell 1
  simp at e0 e1 e2 e3
  go_wp2_with fail
  clear e0 e1 e2 e3
  refine (refSetGreat_is g3 P3 c3 zss _ (hP3.out.grown hG.out) hl3).mono ?_
  rintro e w2 ⟨rfl | ⟨rfl, hz80, hz3000⟩, hg⟩
  · replace hG := hid (grown_trans hG.out hg)
    clear hg
    go_wp2_with fail
    refine (qwakes_true _).mono ?_
    rintro e w9 ⟨rfl, hg⟩
    have hGf := hid (grown_trans hG.out hg)
    clear hg
    go_wp2_with fail
    go_ret
    exact ⟨rfl, hGf.out⟩
  replace hG := hid (grown_trans hG.out hg)
  replace hW := hid (grown_trans hW.out hg)
  clear hg
  by_cases hx : 400 < x.length
  · have hx2 : (400 : Int) < (x.length : Int) := by omega
    go_wp2_with fail
    refine (qwakes_true _).mono ?_
    rintro e w9 ⟨rfl, hg⟩
    have hGf := hid (grown_trans hG.out hg)
    clear hg
    go_wp2_with fail
    go_ret
    exact ⟨rfl, hGf.out⟩
  have hx2 : ¬ (400 : Int) < (x.length : Int) := by omega
  go_wp2_with fail
  refine (patMake_is f P1 c1 xss _ (by omega) (by omega) hB1.out (hP1.out.grown hG.out)).mono ?_
  intro e w3 hmk
  obtain ⟨AM, cM, rfl, hAM, hg⟩ := hmk.made
  replace hAM := hid hAM
  clear hmk
  replace hG := hid (grown_trans hG.out hg)
  replace hW := hid (grown_trans hW.out hg)
  clear hg
  have hSm := hid (made_bytes f xss (by omega) (fun i => by
    by_cases hk : i < xss.length
    · have h1 := flatten_take_succ xss i hk
      have h2 := flatten_take_le xss (i + 1)
      rw [h1, List.length_append] at h2
      omega
    · simp [List.getD, List.getElem?_eq_none (Nat.le_of_not_lt hk)]) hB1.out)
  have hmade := hid (fun (W : World) (e : Ending) (w' : World) (h : MakeTells f xss W e w') => h.made)
  obtain ⟨M, hM⟩ : ∃ M, madeW f xss = M := ⟨_, rfl⟩
  obtain ⟨F, hF⟩ : ∃ F, madeF f xss = F := ⟨_, rfl⟩
  obtain ⟨er, her⟩ : ∃ er, check f xss = er := ⟨_, rfl⟩
  simp only [hM, hF, her] at hAM hSm hmade ⊢
  clear hM hF
  replace her := hid her
  go_upto_region 4 with fail
  have HA0 := Holds.new w3 24 #[.bool F, .slice AM M.length cM]
  have hg := grown_alloc (grown_refl w3 none) (.cells #[.bool F, .slice AM M.length cM] 24)
  obtain ⟨VHA, hV⟩ : ∃ V, (w3.alloc (.cells #[.bool F, .slice AM M.length cM] 24)) = V := ⟨_, rfl⟩
  rw [hV] at HA0 hg ⊢
  clear hV
  obtain ⟨bHA, hb⟩ : ∃ b, w3.heap.size = b := ⟨_, rfl⟩
  rw [hb] at HA0 ⊢
  clear hb
  have HA := hid HA0
  clear HA0
  replace hAM := hid (hAM.out.grown hg)
  replace hG := hid (grown_trans hG.out hg)
  replace hW := hid (grown_trans hW.out hg)
  clear hg
  go_wp2_with fail
  refine (refMake_is f P1 c1 xss _ (by omega) (by omega) hB1.out (hP1.out.grown hG.out)).mono ?_
  intro e w5 hmk
  obtain ⟨AN, cN, rfl, hAN, hg⟩ := hmade.out _ _ _ hmk
  replace hAN := hid hAN
  replace hAM := hid (hAM.out.grown hg)
  replace HA := hid (HA.out.kept0 hg)
  clear hmk hmade
  replace hG := hid (grown_trans hG.out hg)
  replace hW := hid (grown_trans hW.out hg)
  clear hg
  go_upto_region 5 with fail
  have HB0 := Holds.new w5 24 #[.bool F, .slice AN M.length cN]
  have hg := grown_alloc (grown_refl w5 none) (.cells #[.bool F, .slice AN M.length cN] 24)
  obtain ⟨VHB, hV⟩ : ∃ V, (w5.alloc (.cells #[.bool F, .slice AN M.length cN] 24)) = V := ⟨_, rfl⟩
  rw [hV] at HB0 hg ⊢
  clear hV
  obtain ⟨bHB, hb⟩ : ∃ b, w5.heap.size = b := ⟨_, rfl⟩
  rw [hb] at HB0 ⊢
  clear hb
  have HB := hid HB0
  clear HB0
  replace hAM := hid (hAM.out.grown hg)
  replace hAN := hid (hAN.out.grown hg)
  replace HA := hid (HA.out.kept0 hg)
  replace hG := hid (grown_trans hG.out hg)
  replace hW := hid (grown_trans hW.out hg)
  clear hg
  obtain ⟨nn, hnn⟩ : ∃ nn, number g yss x = nn := ⟨_, rfl⟩
  obtain ⟨ni, nb⟩ := nn
  replace hnn := hid hnn
  have hSy : Small yss := ⟨by omega, fun i => ⟨by
    by_cases hk : i < yss.length
    · have h1 := flatten_take_succ yss i hk
      have h2 := flatten_take_le yss (i + 1)
      rw [h1, List.length_append] at h2
      omega
    · simp [List.getD, List.getElem?_eq_none (Nat.le_of_not_lt hk)], hB2.out i⟩⟩
  replace hSy := hid hSy
  have e0 := (H1.out.kept0 hW.out).cell 0
  have e1 := (H1.out.kept0 hW.out).cell 1
  have e2 := (H2.out.kept0 hW.out).cell 0
  have e3 := (H2.out.kept0 hW.out).cell 1
  simp at e0 e1 e2 e3
  go_wp2_with fail
  clear e0 e1 e2 e3
  have hq := patNumber_is g P2 A c2 d yss x VHB (by omega) hxb.out (hA.out.grown hG.out) (hP2.out.grown hG.out) (by omega) (by omega) hB2.out
  rw [hnn.out] at hq
  refine hq.mono ?_
  clear hq
  rintro e w6 ⟨rfl, hg⟩
  replace hAM := hid (hAM.out.grown hg)
  replace hAN := hid (hAN.out.grown hg)
  replace HA := hid (HA.out.kept0 hg)
  replace HB := hid (HB.out.kept0 hg)
  replace hG := hid (grown_trans hG.out hg)
  replace hW := hid (grown_trans hW.out hg)
  clear hg
  have e0 := (H1.out.kept0 hW.out).cell 0
  have e1 := (H1.out.kept0 hW.out).cell 1
  have e2 := (H2.out.kept0 hW.out).cell 0
  have e3 := (H2.out.kept0 hW.out).cell 1
  simp at e0 e1 e2 e3
  go_wp2_with fail
  clear e0 e1 e2 e3
  have hq := refNumber_is g P2 A c2 d yss x w6 (by omega) hxb.out (hA.out.grown hG.out) (hP2.out.grown hG.out) hSy.out
  rw [hnn.out] at hq
  refine hq.mono ?_
  clear hq
  rintro e w7 ⟨rfl, hg⟩
  replace hAM := hid (hAM.out.grown hg)
  replace hAN := hid (hAN.out.grown hg)
  replace HA := hid (HA.out.kept0 hg)
  replace HB := hid (HB.out.kept0 hg)
  replace hG := hid (grown_trans hG.out hg)
  replace hW := hid (grown_trans hW.out hg)
  clear hg
  have a0 := HA.out.cell 0
  have a1 := HA.out.cell 1
  have b0 := HB.out.cell 0
  have b1 := HB.out.cell 1
  simp at a0 a1 b0 b1
  go_wp2_with fail
  clear a0 a1 b0 b1
  have hq := refSetSame_is F F AM AN cM cN M M w7 hSm.out.1 hAM.out hAN.out (fun i => (hSm.out.2 i).2) (fun i => (hSm.out.2 i).2)
  rw [show decide (F = F ∧ M = M) = true by simp] at hq
  refine hq.mono ?_
  clear hq
  rintro e w8 ⟨rfl, hg⟩
  clear hAM hAN HA HB
  replace hG := hid (grown_trans hG.out hg)
  replace hW := hid (grown_trans hW.out hg)
  clear hg
  have q1 : (er != er) = false := by simp
  have q2 : (ni != ni) = false := by simp
  have q3 : (nb != nb) = false := by simp
  go_wp2_with fail
  have hq := patCheck_is f P1 c1 xss w8 (by omega) (by omega) hB1.out (hP1.out.grown hG.out)
  rw [her.out] at hq
  refine hq.mono ?_
  clear hq
  rintro e w9 ⟨rfl, hg⟩
  replace hG := hid (grown_trans hG.out hg)
  replace hW := hid (grown_trans hW.out hg)
  clear hg
  go_wp2_with fail
  have hq := refCheck_is f P1 c1 xss w9 (by omega) (by omega) hB1.out (hP1.out.grown hG.out)
  rw [her.out] at hq
  refine hq.mono ?_
  clear hq
  rintro e w10 ⟨rfl, hg⟩
  replace hG := hid (grown_trans hG.out hg)
  replace hW := hid (grown_trans hW.out hg)
  clear hg
  obtain ⟨nd, hnd⟩ : ∃ nd, nodes f xss = nd := ⟨_, rfl⟩
  replace hnd := hid hnd
  go_wp2_with fail
  have hq := patNodes_is f P1 c1 xss w10 (by omega) (by omega) hB1.out (hP1.out.grown hG.out)
  rw [hnd.out] at hq
  refine hq.mono ?_
  clear hq
  rintro e w11 ⟨rfl, hg⟩
  replace hG := hid (grown_trans hG.out hg)
  replace hW := hid (grown_trans hW.out hg)
  clear hg
  go_wp2_with fail
  have hq := refNodes_is f P1 c1 xss w11 (by omega) (by omega) hB1.out (hP1.out.grown hG.out)
  rw [hnd.out] at hq
  refine hq.mono ?_
  clear hq
  rintro e w12 ⟨rfl, hg⟩
  replace hG := hid (grown_trans hG.out hg)
  replace hW := hid (grown_trans hW.out hg)
  clear hg
  have q4 : ((nd : Int) != (nd : Int)) = false := by simp
  go_upto_region 9 with fail
  clear q1 q2 q3 q4
  have e0 := hid ((H1.out.kept0 hW.out).cell 0)
  have e1 := hid ((H1.out.kept0 hW.out).cell 1)
  have e2 := hid ((H2.out.kept0 hW.out).cell 0)
  have e3 := hid ((H2.out.kept0 hW.out).cell 1)
  simp at e0 e1 e2 e3
  have hl1 := hid (H1.out.kept0 hW.out).lt
  have hl2 := hid (H2.out.kept0 hW.out).lt
  replace hP2 := hid (hP2.out.grown hG.out)
  replace hP3 := hid (hP3.out.grown hG.out)
  clear H1 H2 hW
  obtain ⟨R, hR⟩ : ∃ R, right g yss = R := ⟨_, rfl⟩
  obtain ⟨L, hL⟩ : ∃ L, longest yss = L := ⟨_, rfl⟩
  obtain ⟨D, hD⟩ : ∃ D, decide (g = g3 ∧ yss = zss) = D := ⟨_, rfl⟩
  replace hR := hid hR
  replace hL := hid hL
  replace hD := hid hD
  apply wp_region_each [isv (.agg #[.bool g, .slice P2 yss.length c2]), isv (.bool R), isv (.agg #[.bool g, .slice P2 yss.length c2]), isv (.bool R), isv (.bool true), isv (.bool true), isv (.agg #[.bool g, .slice P2 yss.length c2]), isv (.int .i64 (L : Nat)), isv (.agg #[.bool g, .slice P2 yss.length c2]), isv (.int .i64 (L : Nat)), isv (.bool true), isv (.bool true), isv (.bool true), isv (.agg #[.bool g, .slice P2 yss.length c2]), isv (.agg #[.bool g3, .slice P3 zss.length c3]), isv (.bool D), isv (.agg #[.bool g, .slice P2 yss.length c2]), isv (.agg #[.bool g3, .slice P3 zss.length c3]), isv (.bool D), isv (.bool true), isv (.bool true), isv (.bool true), isv (.agg #[.bool g, .slice P2 yss.length c2]), isSetV g yss.length yss, isv (.agg #[.bool g, .slice P2 yss.length c2]), isv (.bool true), isv (.bool true), isv (.bool true), isv (.bool true), isv (.bool true), isv (.bool true)]
    126 [some 96, some 97, some 98, some 99, some 100, some 101, some 102, some 103, some 104, some 105, some 106, some 107, some 108, some 109, some 110, some 111, some 112, some 113, some 114, some 115, some 116, some 117, some 118, some 119, some 120, some 121, some 122, some 123, some 124, some 125, some 10]
    [some 96, some 97, some 98, some 99, some 100, some 101, some 102, some 103, some 104, some 105, some 106, some 107, some 108, some 109, some 110, some 111, some 112, some 113, some 114, some 115, some 116, some 117, some 118, some 119, some 120, some 121, some 122, some 123, some 124, some 125, some 10]
    [[], [0], [], [2], [1, 3], [4], [5], [6, 5], [5], [8, 5], [7, 9, 5], [5, 10], [11], [12], [12], [13, 14, 12], [12], [12], [16, 17, 12], [15, 18, 12], [12, 19], [20], [21], [22, 21], [21], [23, 24, 21], [21, 25], [26], [27], [27, 28], [29]]
    [(7, .pointer (some ⟨h, 0, none⟩)), (8, .pointer (some ⟨h + 1, 0, none⟩))] (by kernel_rfl) rfl (by kernel_rfl) rfl rfl (by kernel_rfl) (OutsOk.cons rfl rfl (OutsOk.cons rfl rfl OutsOk.nil)) ?st ?ob ?fin
  case ob =>
    refine Obs.consv rfl ?o0 (Obs.consv rfl ?o1 (Obs.consv rfl ?o2 (Obs.consv rfl ?o3 (Obs.consv rfl ?o4 (Obs.consv rfl ?o5 (Obs.consv rfl ?o6 (Obs.consv rfl ?o7 (Obs.consv rfl ?o8 (Obs.consv rfl ?o9 (Obs.consv rfl ?o10 (Obs.consv rfl ?o11 (Obs.consv rfl ?o12 (Obs.consv rfl ?o13 (Obs.consv rfl ?o14 (Obs.consv rfl ?o15 (Obs.consv rfl ?o16 (Obs.consv rfl ?o17 (Obs.consv rfl ?o18 (Obs.consv rfl ?o19 (Obs.consv rfl ?o20 (Obs.consv rfl ?o21 (Obs.consv rfl ?o22 (Obs.consv rfl ?o23 (Obs.consv rfl ?o24 (Obs.consv rfl ?o25 (Obs.consv rfl ?o26 (Obs.consv rfl ?o27 (Obs.consv rfl ?o28 (Obs.consv rfl ?o29 (Obs.consv rfl ?o30 Obs.nil))))))))))))))))))))))))))))))
    case o0 =>
      go_light
      intro ac w' hgw
      replace hgw := hid (grown_trans (grown_drew (grown_refl w12 none)) hgw)
      simp only [outThen, preThen, slotIs, factAt, isv, List.getElem?_cons_zero, List.getElem?_cons_succ, Option.getD_some, forall_eq]
      have k0 := ((gcell hgw.out).1 h 0 hl1.out).trans e0.out
      have k1 := ((gcell hgw.out).1 h 1 hl1.out).trans e1.out
      intros
      rename_i hK
      replace hK := hid hK
      simp only [wantedAt]
      go_simp
      exact hK.out _ _ rfl (grown_refl _ _)
    case o1 =>
      go_light
      intro ac w' hgw
      replace hgw := hid (grown_trans (grown_drew (grown_refl w12 none)) hgw)
      simp only [outThen, preThen, slotIs, factAt, isv, List.getElem?_cons_zero, List.getElem?_cons_succ, Option.getD_some, forall_eq]
      intros
      rename_i hK
      replace hK := hid hK
      simp only [wantedAt]
      go_simp
      have hq := patRight_is g P2 c2 yss w' (by omega) (by omega) hB2.out (hP2.out.grown hgw.out)
      rw [hR.out] at hq
      refine hq.mono ?_
      rintro e w9 ⟨rfl, hg⟩
      exact hK.out _ _ rfl hg
    case o2 =>
      go_light
      intro ac w' hgw
      replace hgw := hid (grown_trans (grown_drew (grown_refl w12 none)) hgw)
      simp only [outThen, preThen, slotIs, factAt, isv, List.getElem?_cons_zero, List.getElem?_cons_succ, Option.getD_some, forall_eq]
      have k0 := ((gcell hgw.out).1 h 0 hl1.out).trans e0.out
      have k1 := ((gcell hgw.out).1 h 1 hl1.out).trans e1.out
      intros
      rename_i hK
      replace hK := hid hK
      simp only [wantedAt]
      go_simp
      exact hK.out _ _ rfl (grown_refl _ _)
    case o3 =>
      go_light
      intro ac w' hgw
      replace hgw := hid (grown_trans (grown_drew (grown_refl w12 none)) hgw)
      simp only [outThen, preThen, slotIs, factAt, isv, List.getElem?_cons_zero, List.getElem?_cons_succ, Option.getD_some, forall_eq]
      intros
      rename_i hK
      replace hK := hid hK
      simp only [wantedAt]
      go_simp
      have hq := refRight_is g P2 c2 yss w' (by omega) (by omega) hB2.out (hP2.out.grown hgw.out)
      rw [hR.out] at hq
      refine hq.mono ?_
      rintro e w9 ⟨rfl, hg⟩
      exact hK.out _ _ rfl hg
    case o4 =>
      go_light
      intro ac w' hgw
      replace hgw := hid (grown_trans (grown_drew (grown_refl w12 none)) hgw)
      simp only [outThen, preThen, slotIs, factAt, isv, List.getElem?_cons_zero, List.getElem?_cons_succ, Option.getD_some, forall_eq]
      intros
      rename_i hK
      replace hK := hid hK
      simp only [wantedAt]
      go_simp
      exact hK.out _ _ rfl (grown_refl _ _)
    case o5 =>
      go_light
      intro ac w' hgw
      replace hgw := hid (grown_trans (grown_drew (grown_refl w12 none)) hgw)
      simp only [outThen, preThen, slotIs, factAt, isv, List.getElem?_cons_zero, List.getElem?_cons_succ, Option.getD_some, forall_eq]
      intros
      rename_i hK
      replace hK := hid hK
      simp only [wantedAt]
      go_simp
      exact hK.out _ _ rfl (grown_refl _ _)
    case o6 =>
      go_light
      intro ac w' hgw
      replace hgw := hid (grown_trans (grown_drew (grown_refl w12 none)) hgw)
      simp only [outThen, preThen, slotIs, factAt, isv, List.getElem?_cons_zero, List.getElem?_cons_succ, Option.getD_some, forall_eq]
      have k0 := ((gcell hgw.out).1 h 0 hl1.out).trans e0.out
      have k1 := ((gcell hgw.out).1 h 1 hl1.out).trans e1.out
      intros
      rename_i hK
      replace hK := hid hK
      simp only [wantedAt]
      go_simp
      exact hK.out _ _ rfl (grown_refl _ _)
    case o7 =>
      go_light
      intro ac w' hgw
      replace hgw := hid (grown_trans (grown_drew (grown_refl w12 none)) hgw)
      simp only [outThen, preThen, slotIs, factAt, isv, List.getElem?_cons_zero, List.getElem?_cons_succ, Option.getD_some, forall_eq]
      intros
      rename_i hK
      replace hK := hid hK
      simp only [wantedAt]
      go_simp
      have hq := patLongest_is g P2 c2 yss w' (by omega) (by omega) (hP2.out.grown hgw.out)
      rw [hL.out] at hq
      refine hq.mono ?_
      rintro e w9 ⟨rfl, hg⟩
      exact hK.out _ _ rfl hg
    case o8 =>
      go_light
      intro ac w' hgw
      replace hgw := hid (grown_trans (grown_drew (grown_refl w12 none)) hgw)
      simp only [outThen, preThen, slotIs, factAt, isv, List.getElem?_cons_zero, List.getElem?_cons_succ, Option.getD_some, forall_eq]
      have k0 := ((gcell hgw.out).1 h 0 hl1.out).trans e0.out
      have k1 := ((gcell hgw.out).1 h 1 hl1.out).trans e1.out
      intros
      rename_i hK
      replace hK := hid hK
      simp only [wantedAt]
      go_simp
      exact hK.out _ _ rfl (grown_refl _ _)
    case o9 =>
      go_light
      intro ac w' hgw
      replace hgw := hid (grown_trans (grown_drew (grown_refl w12 none)) hgw)
      simp only [outThen, preThen, slotIs, factAt, isv, List.getElem?_cons_zero, List.getElem?_cons_succ, Option.getD_some, forall_eq]
      intros
      rename_i hK
      replace hK := hid hK
      simp only [wantedAt]
      go_simp
      have hq := refLongest_is g P2 c2 yss w' (by omega) (by omega) (hP2.out.grown hgw.out)
      rw [hL.out] at hq
      refine hq.mono ?_
      rintro e w9 ⟨rfl, hg⟩
      exact hK.out _ _ rfl hg
    case o10 =>
      go_light
      intro ac w' hgw
      replace hgw := hid (grown_trans (grown_drew (grown_refl w12 none)) hgw)
      simp only [outThen, preThen, slotIs, factAt, isv, List.getElem?_cons_zero, List.getElem?_cons_succ, Option.getD_some, forall_eq]
      intros
      rename_i hK
      replace hK := hid hK
      simp only [wantedAt]
      go_simp
      exact hK.out _ _ rfl (grown_refl _ _)
    case o11 =>
      go_light
      intro ac w' hgw
      replace hgw := hid (grown_trans (grown_drew (grown_refl w12 none)) hgw)
      simp only [outThen, preThen, slotIs, factAt, isv, List.getElem?_cons_zero, List.getElem?_cons_succ, Option.getD_some, forall_eq]
      intros
      rename_i hK
      replace hK := hid hK
      simp only [wantedAt]
      go_simp
      exact hK.out _ _ rfl (grown_refl _ _)
    case o12 =>
      go_light
      intro ac w' hgw
      replace hgw := hid (grown_trans (grown_drew (grown_refl w12 none)) hgw)
      simp only [outThen, preThen, slotIs, factAt, isv, List.getElem?_cons_zero, List.getElem?_cons_succ, Option.getD_some, forall_eq]
      intros
      rename_i hK
      replace hK := hid hK
      simp only [wantedAt]
      go_simp
      exact hK.out _ _ rfl (grown_refl _ _)
    case o13 =>
      go_light
      intro ac w' hgw
      replace hgw := hid (grown_trans (grown_drew (grown_refl w12 none)) hgw)
      simp only [outThen, preThen, slotIs, factAt, isv, List.getElem?_cons_zero, List.getElem?_cons_succ, Option.getD_some, forall_eq]
      have k0 := ((gcell hgw.out).1 h 0 hl1.out).trans e0.out
      have k1 := ((gcell hgw.out).1 h 1 hl1.out).trans e1.out
      intros
      rename_i hK
      replace hK := hid hK
      simp only [wantedAt]
      go_simp
      exact hK.out _ _ rfl (grown_refl _ _)
    case o14 =>
      go_light
      intro ac w' hgw
      replace hgw := hid (grown_trans (grown_drew (grown_refl w12 none)) hgw)
      simp only [outThen, preThen, slotIs, factAt, isv, List.getElem?_cons_zero, List.getElem?_cons_succ, Option.getD_some, forall_eq]
      have k2 := ((gcell hgw.out).1 (h + 1) 0 hl2.out).trans e2.out
      have k3 := ((gcell hgw.out).1 (h + 1) 1 hl2.out).trans e3.out
      intros
      rename_i hK
      replace hK := hid hK
      simp only [wantedAt]
      go_simp
      exact hK.out _ _ rfl (grown_refl _ _)
    case o15 =>
      go_light
      intro ac w' hgw
      replace hgw := hid (grown_trans (grown_drew (grown_refl w12 none)) hgw)
      simp only [outThen, preThen, slotIs, factAt, isv, List.getElem?_cons_zero, List.getElem?_cons_succ, Option.getD_some, forall_eq]
      intros
      rename_i hK
      replace hK := hid hK
      simp only [wantedAt]
      go_simp
      have hq := patSame_is g g3 P2 P3 c2 c3 yss zss w' (by omega) (hP2.out.grown hgw.out) (hP3.out.grown hgw.out) hB2.out hB3.out
      rw [hD.out] at hq
      refine hq.mono ?_
      rintro e w9 ⟨rfl, hg⟩
      exact hK.out _ _ rfl hg
    case o16 =>
      go_light
      intro ac w' hgw
      replace hgw := hid (grown_trans (grown_drew (grown_refl w12 none)) hgw)
      simp only [outThen, preThen, slotIs, factAt, isv, List.getElem?_cons_zero, List.getElem?_cons_succ, Option.getD_some, forall_eq]
      have k0 := ((gcell hgw.out).1 h 0 hl1.out).trans e0.out
      have k1 := ((gcell hgw.out).1 h 1 hl1.out).trans e1.out
      intros
      rename_i hK
      replace hK := hid hK
      simp only [wantedAt]
      go_simp
      exact hK.out _ _ rfl (grown_refl _ _)
    case o17 =>
      go_light
      intro ac w' hgw
      replace hgw := hid (grown_trans (grown_drew (grown_refl w12 none)) hgw)
      simp only [outThen, preThen, slotIs, factAt, isv, List.getElem?_cons_zero, List.getElem?_cons_succ, Option.getD_some, forall_eq]
      have k2 := ((gcell hgw.out).1 (h + 1) 0 hl2.out).trans e2.out
      have k3 := ((gcell hgw.out).1 (h + 1) 1 hl2.out).trans e3.out
      intros
      rename_i hK
      replace hK := hid hK
      simp only [wantedAt]
      go_simp
      exact hK.out _ _ rfl (grown_refl _ _)
    case o18 =>
      go_light
      intro ac w' hgw
      replace hgw := hid (grown_trans (grown_drew (grown_refl w12 none)) hgw)
      simp only [outThen, preThen, slotIs, factAt, isv, List.getElem?_cons_zero, List.getElem?_cons_succ, Option.getD_some, forall_eq]
      intros
      rename_i hK
      replace hK := hid hK
      simp only [wantedAt]
      go_simp
      have hq := refSetSame_is g g3 P2 P3 c2 c3 yss zss w' (by omega) (hP2.out.grown hgw.out) (hP3.out.grown hgw.out) hB2.out hB3.out
      rw [hD.out] at hq
      refine hq.mono ?_
      rintro e w9 ⟨rfl, hg⟩
      exact hK.out _ _ rfl hg
    case o19 =>
      go_light
      intro ac w' hgw
      replace hgw := hid (grown_trans (grown_drew (grown_refl w12 none)) hgw)
      simp only [outThen, preThen, slotIs, factAt, isv, List.getElem?_cons_zero, List.getElem?_cons_succ, Option.getD_some, forall_eq]
      intros
      rename_i hK
      replace hK := hid hK
      simp only [wantedAt]
      go_simp
      exact hK.out _ _ rfl (grown_refl _ _)
    case o20 =>
      go_light
      intro ac w' hgw
      replace hgw := hid (grown_trans (grown_drew (grown_refl w12 none)) hgw)
      simp only [outThen, preThen, slotIs, factAt, isv, List.getElem?_cons_zero, List.getElem?_cons_succ, Option.getD_some, forall_eq]
      intros
      rename_i hK
      replace hK := hid hK
      simp only [wantedAt]
      go_simp
      exact hK.out _ _ rfl (grown_refl _ _)
    case o21 =>
      go_light
      intro ac w' hgw
      replace hgw := hid (grown_trans (grown_drew (grown_refl w12 none)) hgw)
      simp only [outThen, preThen, slotIs, factAt, isv, List.getElem?_cons_zero, List.getElem?_cons_succ, Option.getD_some, forall_eq]
      intros
      rename_i hK
      replace hK := hid hK
      simp only [wantedAt]
      go_simp
      exact hK.out _ _ rfl (grown_refl _ _)
    case o22 =>
      go_light
      intro ac w' hgw
      replace hgw := hid (grown_trans (grown_drew (grown_refl w12 none)) hgw)
      simp only [outThen, preThen, slotIs, factAt, isv, List.getElem?_cons_zero, List.getElem?_cons_succ, Option.getD_some, forall_eq]
      have k0 := ((gcell hgw.out).1 h 0 hl1.out).trans e0.out
      have k1 := ((gcell hgw.out).1 h 1 hl1.out).trans e1.out
      intros
      rename_i hK
      replace hK := hid hK
      simp only [wantedAt]
      go_simp
      exact hK.out _ _ rfl (grown_refl _ _)
    case o23 =>
      go_light
      intro ac w' hgw
      replace hgw := hid (grown_trans (grown_drew (grown_refl w12 none)) hgw)
      simp only [outThen, preThen, slotIs, factAt, isv, List.getElem?_cons_zero, List.getElem?_cons_succ, Option.getD_some, forall_eq]
      intros
      rename_i hK
      replace hK := hid hK
      simp only [wantedAt]
      go_simp
      refine (patOwn_is g P2 c2 yss w' (by omega) (by omega) (hP2.out.grown hgw.out)).mono ?_
      rintro e w9 ⟨v, rfl, ⟨A, cA, l, rfl, hm, hr⟩, hg⟩
      have h2 := hr.arrs.2
      rw [hm] at h2
      have h3 : l.length = yss.length := by rw [← hm]; simp
      rw [h3]
      exact hK.out _ _ ⟨A, cA, rfl, h2⟩ hg
    case o24 =>
      go_light
      intro ac w' hgw
      replace hgw := hid (grown_trans (grown_drew (grown_refl w12 none)) hgw)
      simp only [outThen, preThen, slotIs, factAt, isv, List.getElem?_cons_zero, List.getElem?_cons_succ, Option.getD_some, forall_eq]
      have k0 := ((gcell hgw.out).1 h 0 hl1.out).trans e0.out
      have k1 := ((gcell hgw.out).1 h 1 hl1.out).trans e1.out
      intros
      rename_i hK
      replace hK := hid hK
      simp only [wantedAt]
      go_simp
      exact hK.out _ _ rfl (grown_refl _ _)
    case o25 =>
      go_light
      intro ac w' hgw
      replace hgw := hid (grown_trans (grown_drew (grown_refl w12 none)) hgw)
      simp only [outThen, preThen, slotIs, factAt, isv, List.getElem?_cons_zero, List.getElem?_cons_succ, Option.getD_some, forall_eq]
      intros
      rename_i v1 h1 hv1 _ _ K hK
      replace hK := hid hK
      obtain ⟨P, d, rfl, ha⟩ := h1
      have ha' := hid ha
      clear ha
      simp only [wantedAt]
      go_simp
      have hq := refSetSame_is g g P P2 d c2 yss yss w' (by omega) ha'.out (hP2.out.grown hgw.out) hB2.out hB2.out
      rw [show decide (g = g ∧ yss = yss) = true by simp] at hq
      refine hq.mono ?_
      rintro e w9 ⟨rfl, hg⟩
      exact hK.out _ _ rfl hg
    case o26 =>
      go_light
      intro ac w' hgw
      replace hgw := hid (grown_trans (grown_drew (grown_refl w12 none)) hgw)
      simp only [outThen, preThen, slotIs, factAt, isv, List.getElem?_cons_zero, List.getElem?_cons_succ, Option.getD_some, forall_eq]
      intros
      rename_i hK
      replace hK := hid hK
      simp only [wantedAt]
      go_simp
      exact hK.out _ _ rfl (grown_refl _ _)
    case o27 =>
      go_light
      intro ac w' hgw
      replace hgw := hid (grown_trans (grown_drew (grown_refl w12 none)) hgw)
      simp only [outThen, preThen, slotIs, factAt, isv, List.getElem?_cons_zero, List.getElem?_cons_succ, Option.getD_some, forall_eq]
      intros
      rename_i hK
      replace hK := hid hK
      simp only [wantedAt]
      go_simp
      exact hK.out _ _ rfl (grown_refl _ _)
    case o28 =>
      go_light
      intro ac w' hgw
      replace hgw := hid (grown_trans (grown_drew (grown_refl w12 none)) hgw)
      simp only [outThen, preThen, slotIs, factAt, isv, List.getElem?_cons_zero, List.getElem?_cons_succ, Option.getD_some, forall_eq]
      intros
      rename_i hK
      replace hK := hid hK
      simp only [wantedAt]
      go_simp
      have hq := qwakes_true w'
      refine hq.mono ?_
      rintro e w9 ⟨rfl, hg⟩
      exact hK.out _ _ rfl hg
    case o29 =>
      go_light
      intro ac w' hgw
      replace hgw := hid (grown_trans (grown_drew (grown_refl w12 none)) hgw)
      simp only [outThen, preThen, slotIs, factAt, isv, List.getElem?_cons_zero, List.getElem?_cons_succ, Option.getD_some, forall_eq]
      intros
      rename_i hK
      replace hK := hid hK
      simp only [wantedAt]
      go_simp
      exact hK.out _ _ rfl (grown_refl _ _)
    case o30 =>
      go_light
      intro ac w' hgw
      replace hgw := hid (grown_trans (grown_drew (grown_refl w12 none)) hgw)
      simp only [outThen, preThen, slotIs, factAt, isv, List.getElem?_cons_zero, List.getElem?_cons_succ, Option.getD_some, forall_eq]
      intros
      rename_i hK
      replace hK := hid hK
      simp only [wantedAt]
      go_simp
      exact hK.out _ _ rfl (grown_refl _ _)
  case st =>
    repeat (first | exact AllStable.nil | (refine AllStable.cons ?_ ?_; focus (first | exact stable_isv _ | exact stable_isSetV _ _ _)))
  case fin =>
    intro w12 hgw
    simp only [finalIn, factAt, isv, List.getElem?_cons_zero, List.getElem?_cons_succ, Option.getD_some, forall_eq, slotIs, subj]
    rintro v23 ⟨P23, d23, rfl, _⟩
    simp only [Act.put, List.setIfInBounds_toArray, List.set_cons_zero, List.set_cons_succ]
    have hG3 := hid (grown_trans (grown_drew hG.out) hgw)
    go_wp2_with fail
    go_ret
    exact ⟨rfl, hG3.out⟩

end Go.Proofs.Ytojbfjlihenjaaa
