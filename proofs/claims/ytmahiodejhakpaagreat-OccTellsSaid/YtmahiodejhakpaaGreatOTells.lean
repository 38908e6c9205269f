/- The law OccTells: all that occ tells is what the document's own answer is. -/
import Derived.Test.YtmahiodejhakpaaGreatK32
import Derived.Test.YtmahiodejhakpaaGreatK12
import Derived.Test.YtmahiodejhakpaaGreatOOcc
import Derived.Test.YtmahiodejhakpaaGreatK33
set_option linter.unusedVariables false
set_option linter.unusedSimpArgs false
set_option maxRecDepth 100000
namespace Go.Proofs.YtmahiodejhakpaaGreat
open Go.RowKit PlainLetter PlainPatset PlainOcc

def toldHits (f : Bool) (xss : List (List Int)) (text : List Int) (fr : Int) : List Hit := if right f xss = true ∧ 0 ≤ fr ∧ fr ≤ 4611686018427387904 then occ f xss text fr else []
def toldErr (f : Bool) (xss : List (List Int)) (fr : Int) : Int := if right f xss = true ∧ 0 ≤ fr ∧ fr ≤ 4611686018427387904 then 0 else 2
theorem OccTold.any {base : Nat} {f : Bool} {xss : List (List Int)} {text : List Int} {fr : Int} {v : Value} {w : World} (h : OccTold base f xss text fr v w) :
    ∃ A c, v = .tuple #[.slice A (toldHits f xss text fr).length c, .int .i64 (toldErr f xss fr)] ∧ Hits w A (toldHits f xss text fr) := by
  unfold OccTold at h
  unfold toldHits toldErr
  by_cases hc : right f xss = true ∧ 0 ≤ fr ∧ fr ≤ 4611686018427387904
  · rw [if_pos hc] at h
    obtain ⟨u, rfl, hu⟩ := h
    obtain ⟨A, c, rfl, h2, _, _⟩ := hu.form
    rw [if_pos hc, if_pos hc]
    exact ⟨A, c, rfl, h2⟩
  · rw [if_neg hc] at h
    subst h
    rw [if_neg hc, if_neg hc]
    exact ⟨none, 0, rfl, Hits.nil _ _⟩
theorem toldHits_few (f : Bool) (xss : List (List Int)) (text : List Int) (fr : Int) (h1 : xss.length ≤ 80) (h2 : text.length ≤ 300) : (toldHits f xss text fr).length ≤ 24080 := by
  unfold toldHits
  split
  · exact occ_fewer f xss text fr h1 h2
  · simp

set_option maxHeartbeats 16000000 in
theorem otells_walk (f : Bool) (P A AL : Option Addr) (c d dl : Nat) (fr low high : Int) (xss : List (List Int)) (text : List Int) (l : List Hit) (a b : Hit) (w : World) (hB : ∀ i, Bytes (xss.getD i [])) (hP : Arrs w P xss) (hA : Arr w .u8 A text) (htb : Bytes text) (hL : Hits w AL l) (hl : xss.length ≤ 9223372036854775807)
    (hd : text.length ≤ d) (hdm : d ≤ maxLen) (hf0 : -9223372036854775808 ≤ fr) (hf1 : fr ≤ 9223372036854775807) (ha0 : -9223372036854775808 ≤ a.1) (ha1 : a.1 ≤ 9223372036854775807) :
    Calls Tryz.prog 3 #[.agg #[.bool f, .slice P xss.length c], .int .i64 fr, .slice A text.length d, .slice AL l.length dl, hitV a, hitV b, .int .i64 low, .int .i64 high] w fun e w' => e = .returned (.bool true) ∧ w.grownBy w' none := by
  obtain ⟨a1, a2⟩ := a
  obtain ⟨b1, b2⟩ := b
  simp only at ha0 ha1
  replace hdm := hid hdm
  replace hB := hid hB
  replace htb := hid htb
  replace hP := hid hP
  replace hA := hid hA
  replace hL := hid hL
  have H1 : Holds (((w.alloc (.cells #[.bool f, .slice P xss.length c] 24)).alloc (.cells #[.int .i64 a1, .int .i64 a2] 28)).alloc (.cells #[.int .i64 b1, .int .i64 b2] 28)) w.heap.size 24 #[.bool f, .slice P xss.length c] := ((Holds.new _ _ _).alloc _).alloc _
  have H2 : Holds (((w.alloc (.cells #[.bool f, .slice P xss.length c] 24)).alloc (.cells #[.int .i64 a1, .int .i64 a2] 28)).alloc (.cells #[.int .i64 b1, .int .i64 b2] 28)) (w.heap.size + 1) 28 #[.int .i64 a1, .int .i64 a2] := by
    refine Holds.alloc (Holds.new_at _ _ ?_) _
    simp
  have H3 : Holds (((w.alloc (.cells #[.bool f, .slice P xss.length c] 24)).alloc (.cells #[.int .i64 a1, .int .i64 a2] 28)).alloc (.cells #[.int .i64 b1, .int .i64 b2] 28)) (w.heap.size + 2) 28 #[.int .i64 b1, .int .i64 b2] := by
    refine Holds.new_at _ _ ?_
    simp
  have hG : Hid (w.grownBy (((w.alloc (.cells #[.bool f, .slice P xss.length c] 24)).alloc (.cells #[.int .i64 a1, .int .i64 a2] 28)).alloc (.cells #[.int .i64 b1, .int .i64 b2] 28)) none) := grown_alloc (grown_alloc (grown_alloc (grown_refl w none) _) _) _
  go_enter Tryz.func3, Tryz.ntmps3
  go_upto_region 1 with fail
  obtain ⟨W0, hW0⟩ : ∃ W0, ((w.alloc (.cells #[.bool f, .slice P xss.length c] 24)).alloc (.cells #[.int .i64 a1, .int .i64 a2] 28)).alloc (.cells #[.int .i64 b1, .int .i64 b2] 28) = W0 := ⟨_, rfl⟩
  rw [hW0] at H1 H2 H3 hG ⊢
  clear hW0
  obtain ⟨h, hh⟩ : ∃ h, w.heap.size = h := ⟨_, rfl⟩
  rw [hh] at H1 H2 H3 ⊢
  replace hh := hid hh
  replace H1 := hid H1
  replace H2 := hid H2
  replace H3 := hid H3
  have hW : Hid (W0.grownBy W0 none) := grown_refl _ _
  have e0 := ((H1.out.kept0 hW.out).cell 0).trans (show _ = some (Value.bool f) from rfl)
  have e1 := ((H1.out.kept0 hW.out).cell 1).trans (show _ = some (Value.slice P xss.length c) from rfl)
  go_wp2_with fail
  refine (refSetGreat_is f P c xss _ (hP.out.grown hG.out) hl).mono ?_
  rintro e w1 ⟨rfl | ⟨rfl, h80, h3000⟩, hg⟩
  · replace hG := hid (grown_trans hG.out hg)
    clear hg
    go_wp2_with fail
    refine (owakes_true _).mono ?_
    rintro e w9 ⟨rfl, hg⟩
    have hGf := hid (grown_trans hG.out hg)
    clear hg
    go_wp2_with fail
    go_ret
    exact ⟨rfl, hGf.out⟩
  replace hG := hid (grown_trans hG.out hg)
  replace hW := hid (grown_trans hW.out hg)
  clear hg e0 e1
  have e0 := ((H1.out.kept0 hW.out).cell 0).trans (show _ = some (Value.bool f) from rfl)
  have e1 := ((H1.out.kept0 hW.out).cell 1).trans (show _ = some (Value.slice P xss.length c) from rfl)
  by_cases ht300 : 300 < text.length
  · have ht' : (300 : Int) < (text.length : Int) := by omega
    go_wp2_with fail
    refine (owakes_true _).mono ?_
    rintro e w9 ⟨rfl, hg⟩
    have hGf := hid (grown_trans hG.out hg)
    clear hg
    go_wp2_with fail
    go_ret
    exact ⟨rfl, hGf.out⟩
  have ht' : ¬ (300 : Int) < (text.length : Int) := by omega
  by_cases hl60 : 60 < l.length
  · have hl' : (60 : Int) < (l.length : Int) := by omega
    go_wp2_with fail
    refine (owakes_true _).mono ?_
    rintro e w9 ⟨rfl, hg⟩
    have hGf := hid (grown_trans hG.out hg)
    clear hg
    go_wp2_with fail
    go_ret
    exact ⟨rfl, hGf.out⟩
  have hl' : ¬ (60 : Int) < (l.length : Int) := by omega
  go_wp2_with fail
  refine (occOcc_is f P A c d fr text xss _ (by omega) (by omega) hB.out (hP.out.grown hG.out) (by omega) hd hdm.out htb.out (hA.out.grown hG.out) hf0 hf1).mono ?_
  rintro e w2 ⟨v, rfl, hv, hg⟩
  obtain ⟨Ax, cx, rfl, hX⟩ := hv.any
  clear hv
  replace hG := hid (grown_trans hG.out hg)
  replace hW := hid (grown_trans hW.out hg)
  clear hg e0 e1
  have e0 := ((H1.out.kept0 hW.out).cell 0).trans (show _ = some (Value.bool f) from rfl)
  have e1 := ((H1.out.kept0 hW.out).cell 1).trans (show _ = some (Value.slice P xss.length c) from rfl)
  have hfew := toldHits_few f xss text fr h80 (by omega)
  have hany := hid (fun (base : Nat) (v : Value) (W : World) (h : OccTold base f xss text fr v W) => h.any)
  generalize toldHits f xss text fr = lo at hX hfew hany ⊢
  generalize toldErr f xss fr = er at hany ⊢
  go_wp2_with fail
  refine (refOcc_is f P A c d fr text xss _ (by omega) (by omega) hB.out (hP.out.grown hG.out) (by omega) hd hdm.out htb.out (hA.out.grown hG.out) hf0 hf1).mono ?_
  rintro e w4 ⟨v, rfl, hv, hg⟩
  obtain ⟨Ay, cy, rfl, hY⟩ := hany.out _ _ _ hv
  replace hX := hid (hX.grown hg)
  replace hY := hid hY
  clear hv hany
  replace hG := hid (grown_trans hG.out hg)
  replace hW := hid (grown_trans hW.out hg)
  clear hg e0 e1
  have e0 := ((H1.out.kept0 hW.out).cell 0).trans (show _ = some (Value.bool f) from rfl)
  have e1 := ((H1.out.kept0 hW.out).cell 1).trans (show _ = some (Value.slice P xss.length c) from rfl)
  obtain ⟨ST, hST⟩ : ∃ x, (right f xss && decide (0 ≤ fr ∧ fr ≤ 4611686018427387904) && standsHit f xss text fr (a1, a2)) = x := ⟨_, rfl⟩
  obtain ⟨LE, hLE⟩ : ∃ x, less xss (a1, a2) (b1, b2) = x := ⟨_, rfl⟩
  obtain ⟨RI, hRI⟩ : ∃ x, rise xss l = x := ⟨_, rfl⟩
  replace hST := hid hST
  replace hLE := hid hLE
  replace hRI := hid hRI
  go_upto_region 5 with fail
  clear e0 e1
  apply wp_region_each [isv (.slice Ax lo.length cx), isv (.slice Ay lo.length cy), isv (.bool true), isv (.bool false), isv (.bool false), isv (.int .i64 er), isv (.int .i64 er), isv (.bool false), isv (.bool false), isv (.bool false), isv (.agg #[.bool f, .slice P xss.length c]), isv (.int .i64 fr), isv (.slice A text.length d), isv (.agg #[.int .i64 a1, .int .i64 a2]), isv (.bool ST), isv (.agg #[.bool f, .slice P xss.length c]), isv (.int .i64 fr), isv (.slice A text.length d), isv (.agg #[.int .i64 a1, .int .i64 a2]), isv (.bool ST), isv (.bool false), isv (.bool false), isv (.bool false), isv (.agg #[.bool f, .slice P xss.length c]), isv (.agg #[.int .i64 a1, .int .i64 a2]), isv (.agg #[.int .i64 b1, .int .i64 b2]), isv (.bool LE), isv (.agg #[.bool f, .slice P xss.length c]), isv (.agg #[.int .i64 a1, .int .i64 a2]), isv (.agg #[.int .i64 b1, .int .i64 b2]), isv (.bool LE), isv (.bool false), isv (.bool false), isv (.bool false), isv (.agg #[.bool f, .slice P xss.length c]), isv (.slice AL l.length dl), isv (.bool RI), isv (.agg #[.bool f, .slice P xss.length c]), isv (.slice AL l.length dl), isv (.bool RI), isv (.bool false), isv (.bool false)]
    133 [some 49, some 50, some 51, some 52, some 53, some 54, some 55, some 56, some 57, some 58, some 59, some 60, some 61, some 62, some 63, some 64, some 65, some 66, some 67, some 68, some 69, some 70, some 71, some 72, some 73, some 74, some 75, some 76, some 77, some 78, some 79, some 80, some 81, some 82, some 83, some 84, some 85, some 86, some 87, some 88, some 89, some 90]
    [some 49, some 50, some 51, some 52, some 53, some 54, some 55, some 56, some 57, some 58, some 59, some 60, some 61, some 62, some 63, some 64, some 65, some 66, some 67, some 68, some 69, some 70, some 71, some 72, some 73, some 74, some 75, some 76, some 77, some 78, some 79, some 80, some 81, some 82, some 83, some 84, some 85, some 86, some 87, some 88, some 89, some 90]
    [[], [], [0, 1], [2], [3], [4], [4], [5, 6, 4], [4, 7], [8], [9], [9], [9], [9], [10, 11, 12, 13, 9], [9], [9], [9], [9], [15, 16, 17, 18, 9], [14, 19, 9], [9, 20], [21], [22], [22], [22], [23, 24, 25, 22], [22], [22], [22], [27, 28, 29, 22], [26, 30, 22], [22, 31], [32], [33], [33], [34, 35, 33], [33], [33], [37, 38, 33], [36, 39, 33], [33, 40]]
    [(1, .int .i64 fr), (2, .slice A text.length d), (3, .slice AL l.length dl), (8, .pointer (some ⟨h, 0, none⟩)), (12, .pointer (some ⟨h + 1, 0, none⟩)), (13, .pointer (some ⟨h + 2, 0, none⟩)), (17, .slice Ax lo.length cx), (18, .int .i64 er), (19, .slice Ay lo.length cy), (20, .int .i64 er)] (by kernel_rfl) rfl (by kernel_rfl) rfl rfl (by kernel_rfl) (OutsOk.cons rfl rfl (OutsOk.cons rfl rfl (OutsOk.cons rfl rfl (OutsOk.cons rfl rfl (OutsOk.cons rfl rfl (OutsOk.cons rfl rfl (OutsOk.cons rfl rfl (OutsOk.cons rfl rfl (OutsOk.cons rfl rfl (OutsOk.cons rfl rfl OutsOk.nil)))))))))) ?st ?ob ?fin
  case ob =>
    refine Obs.consv rfl ?o0 (Obs.consv rfl ?o1 (Obs.consv rfl ?o2 (Obs.consv rfl ?o3 (Obs.consv rfl ?o4 (Obs.consv rfl ?o5 (Obs.consv rfl ?o6 (Obs.consv rfl ?o7 (Obs.consv rfl ?o8 (Obs.consv rfl ?o9 (Obs.consv rfl ?o10 (Obs.consv rfl ?o11 (Obs.consv rfl ?o12 (Obs.consv rfl ?o13 (Obs.consv rfl ?o14 (Obs.consv rfl ?o15 (Obs.consv rfl ?o16 (Obs.consv rfl ?o17 (Obs.consv rfl ?o18 (Obs.consv rfl ?o19 (Obs.consv rfl ?o20 (Obs.consv rfl ?o21 (Obs.consv rfl ?o22 (Obs.consv rfl ?o23 (Obs.consv rfl ?o24 (Obs.consv rfl ?o25 (Obs.consv rfl ?o26 (Obs.consv rfl ?o27 (Obs.consv rfl ?o28 (Obs.consv rfl ?o29 (Obs.consv rfl ?o30 (Obs.consv rfl ?o31 (Obs.consv rfl ?o32 (Obs.consv rfl ?o33 (Obs.consv rfl ?o34 (Obs.consv rfl ?o35 (Obs.consv rfl ?o36 (Obs.consv rfl ?o37 (Obs.consv rfl ?o38 (Obs.consv rfl ?o39 (Obs.consv rfl ?o40 (Obs.consv rfl ?o41 Obs.nil)))))))))))))))))))))))))))))))))))))))))
    case o0 =>
      go_light
      intro ac w' hgw
      have g2 := grown_trans (grown_drew (grown_refl w4 none)) hgw
      have kz := H1.out.kept0 (grown_trans hW.out g2)
      have c0 := (kz.cell 0).trans (show _ = some (Value.bool f) from rfl)
      have c1 := (kz.cell 1).trans (show _ = some (Value.slice P xss.length c) from rfl)
      have ka := H2.out.kept0 (grown_trans hW.out g2)
      have x0 := (ka.cell 0).trans (show _ = some (Value.int .i64 a1) from rfl)
      have x1 := (ka.cell 1).trans (show _ = some (Value.int .i64 a2) from rfl)
      have kb := H3.out.kept0 (grown_trans hW.out g2)
      have y0 := (kb.cell 0).trans (show _ = some (Value.int .i64 b1) from rfl)
      have y1 := (kb.cell 1).trans (show _ = some (Value.int .i64 b2) from rfl)
      have hPw := hid (hP.out.grown (grown_trans hG.out g2))
      have hAw := hid (hA.out.grown (grown_trans hG.out g2))
      have hLw := hid (hL.out.grown (grown_trans hG.out g2))
      have hXw := hid (hX.out.grown g2)
      have hYw := hid (hY.out.grown g2)
      clear kz ka kb g2
      replace hgw := hid hgw
      simp only [outThen, preThen, slotIs, factAt, isv, List.getElem?_cons_zero, List.getElem?_cons_succ, Option.getD_some, forall_eq]
      intros
      rename_i hK
      replace hK := hid hK
      simp only [wantedAt]
      go_simp
      exact hK.out _ _ rfl (grown_refl _ _)
    case o1 =>
      go_light
      intro ac w' hgw
      have g2 := grown_trans (grown_drew (grown_refl w4 none)) hgw
      have kz := H1.out.kept0 (grown_trans hW.out g2)
      have c0 := (kz.cell 0).trans (show _ = some (Value.bool f) from rfl)
      have c1 := (kz.cell 1).trans (show _ = some (Value.slice P xss.length c) from rfl)
      have ka := H2.out.kept0 (grown_trans hW.out g2)
      have x0 := (ka.cell 0).trans (show _ = some (Value.int .i64 a1) from rfl)
      have x1 := (ka.cell 1).trans (show _ = some (Value.int .i64 a2) from rfl)
      have kb := H3.out.kept0 (grown_trans hW.out g2)
      have y0 := (kb.cell 0).trans (show _ = some (Value.int .i64 b1) from rfl)
      have y1 := (kb.cell 1).trans (show _ = some (Value.int .i64 b2) from rfl)
      have hPw := hid (hP.out.grown (grown_trans hG.out g2))
      have hAw := hid (hA.out.grown (grown_trans hG.out g2))
      have hLw := hid (hL.out.grown (grown_trans hG.out g2))
      have hXw := hid (hX.out.grown g2)
      have hYw := hid (hY.out.grown g2)
      clear kz ka kb g2
      replace hgw := hid hgw
      simp only [outThen, preThen, slotIs, factAt, isv, List.getElem?_cons_zero, List.getElem?_cons_succ, Option.getD_some, forall_eq]
      intros
      rename_i hK
      replace hK := hid hK
      simp only [wantedAt]
      go_simp
      exact hK.out _ _ rfl (grown_refl _ _)
    case o2 =>
      go_light
      intro ac w' hgw
      have g2 := grown_trans (grown_drew (grown_refl w4 none)) hgw
      have kz := H1.out.kept0 (grown_trans hW.out g2)
      have c0 := (kz.cell 0).trans (show _ = some (Value.bool f) from rfl)
      have c1 := (kz.cell 1).trans (show _ = some (Value.slice P xss.length c) from rfl)
      have ka := H2.out.kept0 (grown_trans hW.out g2)
      have x0 := (ka.cell 0).trans (show _ = some (Value.int .i64 a1) from rfl)
      have x1 := (ka.cell 1).trans (show _ = some (Value.int .i64 a2) from rfl)
      have kb := H3.out.kept0 (grown_trans hW.out g2)
      have y0 := (kb.cell 0).trans (show _ = some (Value.int .i64 b1) from rfl)
      have y1 := (kb.cell 1).trans (show _ = some (Value.int .i64 b2) from rfl)
      have hPw := hid (hP.out.grown (grown_trans hG.out g2))
      have hAw := hid (hA.out.grown (grown_trans hG.out g2))
      have hLw := hid (hL.out.grown (grown_trans hG.out g2))
      have hXw := hid (hX.out.grown g2)
      have hYw := hid (hY.out.grown g2)
      clear kz ka kb g2
      replace hgw := hid hgw
      simp only [outThen, preThen, slotIs, factAt, isv, List.getElem?_cons_zero, List.getElem?_cons_succ, Option.getD_some, forall_eq]
      intros
      rename_i hK9
      replace hK9 := hid hK9
      simp only [wantedAt]
      go_simp
      have hq := refHitsSame_is Ax Ay cx cy lo lo w' (by omega) hXw.out hYw.out
      rw [show decide (lo = lo) = true by simp] at hq
      refine hq.mono ?_
      rintro e w9 ⟨rfl, hg⟩
      exact hK9.out _ _ rfl hg
    case o3 =>
      go_light
      intro ac w' hgw
      have g2 := grown_trans (grown_drew (grown_refl w4 none)) hgw
      have kz := H1.out.kept0 (grown_trans hW.out g2)
      have c0 := (kz.cell 0).trans (show _ = some (Value.bool f) from rfl)
      have c1 := (kz.cell 1).trans (show _ = some (Value.slice P xss.length c) from rfl)
      have ka := H2.out.kept0 (grown_trans hW.out g2)
      have x0 := (ka.cell 0).trans (show _ = some (Value.int .i64 a1) from rfl)
      have x1 := (ka.cell 1).trans (show _ = some (Value.int .i64 a2) from rfl)
      have kb := H3.out.kept0 (grown_trans hW.out g2)
      have y0 := (kb.cell 0).trans (show _ = some (Value.int .i64 b1) from rfl)
      have y1 := (kb.cell 1).trans (show _ = some (Value.int .i64 b2) from rfl)
      have hPw := hid (hP.out.grown (grown_trans hG.out g2))
      have hAw := hid (hA.out.grown (grown_trans hG.out g2))
      have hLw := hid (hL.out.grown (grown_trans hG.out g2))
      have hXw := hid (hX.out.grown g2)
      have hYw := hid (hY.out.grown g2)
      clear kz ka kb g2
      replace hgw := hid hgw
      simp only [outThen, preThen, slotIs, factAt, isv, List.getElem?_cons_zero, List.getElem?_cons_succ, Option.getD_some, forall_eq]
      intros
      rename_i hK
      replace hK := hid hK
      simp only [wantedAt]
      go_simp
      exact hK.out _ _ rfl (grown_refl _ _)
    case o4 =>
      go_light
      intro ac w' hgw
      have g2 := grown_trans (grown_drew (grown_refl w4 none)) hgw
      have kz := H1.out.kept0 (grown_trans hW.out g2)
      have c0 := (kz.cell 0).trans (show _ = some (Value.bool f) from rfl)
      have c1 := (kz.cell 1).trans (show _ = some (Value.slice P xss.length c) from rfl)
      have ka := H2.out.kept0 (grown_trans hW.out g2)
      have x0 := (ka.cell 0).trans (show _ = some (Value.int .i64 a1) from rfl)
      have x1 := (ka.cell 1).trans (show _ = some (Value.int .i64 a2) from rfl)
      have kb := H3.out.kept0 (grown_trans hW.out g2)
      have y0 := (kb.cell 0).trans (show _ = some (Value.int .i64 b1) from rfl)
      have y1 := (kb.cell 1).trans (show _ = some (Value.int .i64 b2) from rfl)
      have hPw := hid (hP.out.grown (grown_trans hG.out g2))
      have hAw := hid (hA.out.grown (grown_trans hG.out g2))
      have hLw := hid (hL.out.grown (grown_trans hG.out g2))
      have hXw := hid (hX.out.grown g2)
      have hYw := hid (hY.out.grown g2)
      clear kz ka kb g2
      replace hgw := hid hgw
      simp only [outThen, preThen, slotIs, factAt, isv, List.getElem?_cons_zero, List.getElem?_cons_succ, Option.getD_some, forall_eq]
      intros
      rename_i hK
      replace hK := hid hK
      simp only [wantedAt]
      go_simp
      exact hK.out _ _ rfl (grown_refl _ _)
    case o5 =>
      go_light
      intro ac w' hgw
      have g2 := grown_trans (grown_drew (grown_refl w4 none)) hgw
      have kz := H1.out.kept0 (grown_trans hW.out g2)
      have c0 := (kz.cell 0).trans (show _ = some (Value.bool f) from rfl)
      have c1 := (kz.cell 1).trans (show _ = some (Value.slice P xss.length c) from rfl)
      have ka := H2.out.kept0 (grown_trans hW.out g2)
      have x0 := (ka.cell 0).trans (show _ = some (Value.int .i64 a1) from rfl)
      have x1 := (ka.cell 1).trans (show _ = some (Value.int .i64 a2) from rfl)
      have kb := H3.out.kept0 (grown_trans hW.out g2)
      have y0 := (kb.cell 0).trans (show _ = some (Value.int .i64 b1) from rfl)
      have y1 := (kb.cell 1).trans (show _ = some (Value.int .i64 b2) from rfl)
      have hPw := hid (hP.out.grown (grown_trans hG.out g2))
      have hAw := hid (hA.out.grown (grown_trans hG.out g2))
      have hLw := hid (hL.out.grown (grown_trans hG.out g2))
      have hXw := hid (hX.out.grown g2)
      have hYw := hid (hY.out.grown g2)
      clear kz ka kb g2
      replace hgw := hid hgw
      simp only [outThen, preThen, slotIs, factAt, isv, List.getElem?_cons_zero, List.getElem?_cons_succ, Option.getD_some, forall_eq]
      intros
      rename_i hK
      replace hK := hid hK
      simp only [wantedAt]
      go_simp
      exact hK.out _ _ rfl (grown_refl _ _)
    case o6 =>
      go_light
      intro ac w' hgw
      have g2 := grown_trans (grown_drew (grown_refl w4 none)) hgw
      have kz := H1.out.kept0 (grown_trans hW.out g2)
      have c0 := (kz.cell 0).trans (show _ = some (Value.bool f) from rfl)
      have c1 := (kz.cell 1).trans (show _ = some (Value.slice P xss.length c) from rfl)
      have ka := H2.out.kept0 (grown_trans hW.out g2)
      have x0 := (ka.cell 0).trans (show _ = some (Value.int .i64 a1) from rfl)
      have x1 := (ka.cell 1).trans (show _ = some (Value.int .i64 a2) from rfl)
      have kb := H3.out.kept0 (grown_trans hW.out g2)
      have y0 := (kb.cell 0).trans (show _ = some (Value.int .i64 b1) from rfl)
      have y1 := (kb.cell 1).trans (show _ = some (Value.int .i64 b2) from rfl)
      have hPw := hid (hP.out.grown (grown_trans hG.out g2))
      have hAw := hid (hA.out.grown (grown_trans hG.out g2))
      have hLw := hid (hL.out.grown (grown_trans hG.out g2))
      have hXw := hid (hX.out.grown g2)
      have hYw := hid (hY.out.grown g2)
      clear kz ka kb g2
      replace hgw := hid hgw
      simp only [outThen, preThen, slotIs, factAt, isv, List.getElem?_cons_zero, List.getElem?_cons_succ, Option.getD_some, forall_eq]
      intros
      rename_i hK
      replace hK := hid hK
      simp only [wantedAt]
      go_simp
      exact hK.out _ _ rfl (grown_refl _ _)
    case o7 =>
      go_light
      intro ac w' hgw
      have g2 := grown_trans (grown_drew (grown_refl w4 none)) hgw
      have kz := H1.out.kept0 (grown_trans hW.out g2)
      have c0 := (kz.cell 0).trans (show _ = some (Value.bool f) from rfl)
      have c1 := (kz.cell 1).trans (show _ = some (Value.slice P xss.length c) from rfl)
      have ka := H2.out.kept0 (grown_trans hW.out g2)
      have x0 := (ka.cell 0).trans (show _ = some (Value.int .i64 a1) from rfl)
      have x1 := (ka.cell 1).trans (show _ = some (Value.int .i64 a2) from rfl)
      have kb := H3.out.kept0 (grown_trans hW.out g2)
      have y0 := (kb.cell 0).trans (show _ = some (Value.int .i64 b1) from rfl)
      have y1 := (kb.cell 1).trans (show _ = some (Value.int .i64 b2) from rfl)
      have hPw := hid (hP.out.grown (grown_trans hG.out g2))
      have hAw := hid (hA.out.grown (grown_trans hG.out g2))
      have hLw := hid (hL.out.grown (grown_trans hG.out g2))
      have hXw := hid (hX.out.grown g2)
      have hYw := hid (hY.out.grown g2)
      clear kz ka kb g2
      replace hgw := hid hgw
      simp only [outThen, preThen, slotIs, factAt, isv, List.getElem?_cons_zero, List.getElem?_cons_succ, Option.getD_some, forall_eq]
      intros
      rename_i hK
      replace hK := hid hK
      simp only [wantedAt]
      go_simp
      exact hK.out _ _ rfl (grown_refl _ _)
    case o8 =>
      go_light
      intro ac w' hgw
      have g2 := grown_trans (grown_drew (grown_refl w4 none)) hgw
      have kz := H1.out.kept0 (grown_trans hW.out g2)
      have c0 := (kz.cell 0).trans (show _ = some (Value.bool f) from rfl)
      have c1 := (kz.cell 1).trans (show _ = some (Value.slice P xss.length c) from rfl)
      have ka := H2.out.kept0 (grown_trans hW.out g2)
      have x0 := (ka.cell 0).trans (show _ = some (Value.int .i64 a1) from rfl)
      have x1 := (ka.cell 1).trans (show _ = some (Value.int .i64 a2) from rfl)
      have kb := H3.out.kept0 (grown_trans hW.out g2)
      have y0 := (kb.cell 0).trans (show _ = some (Value.int .i64 b1) from rfl)
      have y1 := (kb.cell 1).trans (show _ = some (Value.int .i64 b2) from rfl)
      have hPw := hid (hP.out.grown (grown_trans hG.out g2))
      have hAw := hid (hA.out.grown (grown_trans hG.out g2))
      have hLw := hid (hL.out.grown (grown_trans hG.out g2))
      have hXw := hid (hX.out.grown g2)
      have hYw := hid (hY.out.grown g2)
      clear kz ka kb g2
      replace hgw := hid hgw
      simp only [outThen, preThen, slotIs, factAt, isv, List.getElem?_cons_zero, List.getElem?_cons_succ, Option.getD_some, forall_eq]
      intros
      rename_i hK
      replace hK := hid hK
      simp only [wantedAt]
      go_simp
      exact hK.out _ _ rfl (grown_refl _ _)
    case o9 =>
      go_light
      intro ac w' hgw
      have g2 := grown_trans (grown_drew (grown_refl w4 none)) hgw
      have kz := H1.out.kept0 (grown_trans hW.out g2)
      have c0 := (kz.cell 0).trans (show _ = some (Value.bool f) from rfl)
      have c1 := (kz.cell 1).trans (show _ = some (Value.slice P xss.length c) from rfl)
      have ka := H2.out.kept0 (grown_trans hW.out g2)
      have x0 := (ka.cell 0).trans (show _ = some (Value.int .i64 a1) from rfl)
      have x1 := (ka.cell 1).trans (show _ = some (Value.int .i64 a2) from rfl)
      have kb := H3.out.kept0 (grown_trans hW.out g2)
      have y0 := (kb.cell 0).trans (show _ = some (Value.int .i64 b1) from rfl)
      have y1 := (kb.cell 1).trans (show _ = some (Value.int .i64 b2) from rfl)
      have hPw := hid (hP.out.grown (grown_trans hG.out g2))
      have hAw := hid (hA.out.grown (grown_trans hG.out g2))
      have hLw := hid (hL.out.grown (grown_trans hG.out g2))
      have hXw := hid (hX.out.grown g2)
      have hYw := hid (hY.out.grown g2)
      clear kz ka kb g2
      replace hgw := hid hgw
      simp only [outThen, preThen, slotIs, factAt, isv, List.getElem?_cons_zero, List.getElem?_cons_succ, Option.getD_some, forall_eq]
      intros
      rename_i hK
      replace hK := hid hK
      simp only [wantedAt]
      go_simp
      exact hK.out _ _ rfl (grown_refl _ _)
    case o10 =>
      go_light
      intro ac w' hgw
      have g2 := grown_trans (grown_drew (grown_refl w4 none)) hgw
      have kz := H1.out.kept0 (grown_trans hW.out g2)
      have c0 := (kz.cell 0).trans (show _ = some (Value.bool f) from rfl)
      have c1 := (kz.cell 1).trans (show _ = some (Value.slice P xss.length c) from rfl)
      have ka := H2.out.kept0 (grown_trans hW.out g2)
      have x0 := (ka.cell 0).trans (show _ = some (Value.int .i64 a1) from rfl)
      have x1 := (ka.cell 1).trans (show _ = some (Value.int .i64 a2) from rfl)
      have kb := H3.out.kept0 (grown_trans hW.out g2)
      have y0 := (kb.cell 0).trans (show _ = some (Value.int .i64 b1) from rfl)
      have y1 := (kb.cell 1).trans (show _ = some (Value.int .i64 b2) from rfl)
      have hPw := hid (hP.out.grown (grown_trans hG.out g2))
      have hAw := hid (hA.out.grown (grown_trans hG.out g2))
      have hLw := hid (hL.out.grown (grown_trans hG.out g2))
      have hXw := hid (hX.out.grown g2)
      have hYw := hid (hY.out.grown g2)
      clear kz ka kb g2
      replace hgw := hid hgw
      simp only [outThen, preThen, slotIs, factAt, isv, List.getElem?_cons_zero, List.getElem?_cons_succ, Option.getD_some, forall_eq]
      intros
      rename_i hK
      replace hK := hid hK
      simp only [wantedAt]
      go_simp
      exact hK.out _ _ rfl (grown_refl _ _)
    case o11 =>
      go_light
      intro ac w' hgw
      have g2 := grown_trans (grown_drew (grown_refl w4 none)) hgw
      have kz := H1.out.kept0 (grown_trans hW.out g2)
      have c0 := (kz.cell 0).trans (show _ = some (Value.bool f) from rfl)
      have c1 := (kz.cell 1).trans (show _ = some (Value.slice P xss.length c) from rfl)
      have ka := H2.out.kept0 (grown_trans hW.out g2)
      have x0 := (ka.cell 0).trans (show _ = some (Value.int .i64 a1) from rfl)
      have x1 := (ka.cell 1).trans (show _ = some (Value.int .i64 a2) from rfl)
      have kb := H3.out.kept0 (grown_trans hW.out g2)
      have y0 := (kb.cell 0).trans (show _ = some (Value.int .i64 b1) from rfl)
      have y1 := (kb.cell 1).trans (show _ = some (Value.int .i64 b2) from rfl)
      have hPw := hid (hP.out.grown (grown_trans hG.out g2))
      have hAw := hid (hA.out.grown (grown_trans hG.out g2))
      have hLw := hid (hL.out.grown (grown_trans hG.out g2))
      have hXw := hid (hX.out.grown g2)
      have hYw := hid (hY.out.grown g2)
      clear kz ka kb g2
      replace hgw := hid hgw
      simp only [outThen, preThen, slotIs, factAt, isv, List.getElem?_cons_zero, List.getElem?_cons_succ, Option.getD_some, forall_eq]
      intros
      rename_i hK
      replace hK := hid hK
      simp only [wantedAt]
      go_simp
      exact hK.out _ _ rfl (grown_refl _ _)
    case o12 =>
      go_light
      intro ac w' hgw
      have g2 := grown_trans (grown_drew (grown_refl w4 none)) hgw
      have kz := H1.out.kept0 (grown_trans hW.out g2)
      have c0 := (kz.cell 0).trans (show _ = some (Value.bool f) from rfl)
      have c1 := (kz.cell 1).trans (show _ = some (Value.slice P xss.length c) from rfl)
      have ka := H2.out.kept0 (grown_trans hW.out g2)
      have x0 := (ka.cell 0).trans (show _ = some (Value.int .i64 a1) from rfl)
      have x1 := (ka.cell 1).trans (show _ = some (Value.int .i64 a2) from rfl)
      have kb := H3.out.kept0 (grown_trans hW.out g2)
      have y0 := (kb.cell 0).trans (show _ = some (Value.int .i64 b1) from rfl)
      have y1 := (kb.cell 1).trans (show _ = some (Value.int .i64 b2) from rfl)
      have hPw := hid (hP.out.grown (grown_trans hG.out g2))
      have hAw := hid (hA.out.grown (grown_trans hG.out g2))
      have hLw := hid (hL.out.grown (grown_trans hG.out g2))
      have hXw := hid (hX.out.grown g2)
      have hYw := hid (hY.out.grown g2)
      clear kz ka kb g2
      replace hgw := hid hgw
      simp only [outThen, preThen, slotIs, factAt, isv, List.getElem?_cons_zero, List.getElem?_cons_succ, Option.getD_some, forall_eq]
      intros
      rename_i hK
      replace hK := hid hK
      simp only [wantedAt]
      go_simp
      exact hK.out _ _ rfl (grown_refl _ _)
    case o13 =>
      go_light
      intro ac w' hgw
      have g2 := grown_trans (grown_drew (grown_refl w4 none)) hgw
      have kz := H1.out.kept0 (grown_trans hW.out g2)
      have c0 := (kz.cell 0).trans (show _ = some (Value.bool f) from rfl)
      have c1 := (kz.cell 1).trans (show _ = some (Value.slice P xss.length c) from rfl)
      have ka := H2.out.kept0 (grown_trans hW.out g2)
      have x0 := (ka.cell 0).trans (show _ = some (Value.int .i64 a1) from rfl)
      have x1 := (ka.cell 1).trans (show _ = some (Value.int .i64 a2) from rfl)
      have kb := H3.out.kept0 (grown_trans hW.out g2)
      have y0 := (kb.cell 0).trans (show _ = some (Value.int .i64 b1) from rfl)
      have y1 := (kb.cell 1).trans (show _ = some (Value.int .i64 b2) from rfl)
      have hPw := hid (hP.out.grown (grown_trans hG.out g2))
      have hAw := hid (hA.out.grown (grown_trans hG.out g2))
      have hLw := hid (hL.out.grown (grown_trans hG.out g2))
      have hXw := hid (hX.out.grown g2)
      have hYw := hid (hY.out.grown g2)
      clear kz ka kb g2
      replace hgw := hid hgw
      simp only [outThen, preThen, slotIs, factAt, isv, List.getElem?_cons_zero, List.getElem?_cons_succ, Option.getD_some, forall_eq]
      intros
      rename_i hK
      replace hK := hid hK
      simp only [wantedAt]
      go_simp
      exact hK.out _ _ rfl (grown_refl _ _)
    case o14 =>
      go_light
      intro ac w' hgw
      have g2 := grown_trans (grown_drew (grown_refl w4 none)) hgw
      have kz := H1.out.kept0 (grown_trans hW.out g2)
      have c0 := (kz.cell 0).trans (show _ = some (Value.bool f) from rfl)
      have c1 := (kz.cell 1).trans (show _ = some (Value.slice P xss.length c) from rfl)
      have ka := H2.out.kept0 (grown_trans hW.out g2)
      have x0 := (ka.cell 0).trans (show _ = some (Value.int .i64 a1) from rfl)
      have x1 := (ka.cell 1).trans (show _ = some (Value.int .i64 a2) from rfl)
      have kb := H3.out.kept0 (grown_trans hW.out g2)
      have y0 := (kb.cell 0).trans (show _ = some (Value.int .i64 b1) from rfl)
      have y1 := (kb.cell 1).trans (show _ = some (Value.int .i64 b2) from rfl)
      have hPw := hid (hP.out.grown (grown_trans hG.out g2))
      have hAw := hid (hA.out.grown (grown_trans hG.out g2))
      have hLw := hid (hL.out.grown (grown_trans hG.out g2))
      have hXw := hid (hX.out.grown g2)
      have hYw := hid (hY.out.grown g2)
      clear kz ka kb g2
      replace hgw := hid hgw
      simp only [outThen, preThen, slotIs, factAt, isv, List.getElem?_cons_zero, List.getElem?_cons_succ, Option.getD_some, forall_eq]
      intros
      rename_i hK9
      replace hK9 := hid hK9
      simp only [wantedAt]
      go_simp
      have hq := occStands_is f P A c d fr text (a1, a2) xss w' (by omega) (by omega) hB.out hPw.out (by omega) hd hdm.out htb.out hAw.out hf0 hf1 ha0 ha1
      rw [hST.out] at hq
      refine hq.mono ?_
      rintro e w9 ⟨rfl, hg⟩
      exact hK9.out _ _ rfl hg
    case o15 =>
      go_light
      intro ac w' hgw
      have g2 := grown_trans (grown_drew (grown_refl w4 none)) hgw
      have kz := H1.out.kept0 (grown_trans hW.out g2)
      have c0 := (kz.cell 0).trans (show _ = some (Value.bool f) from rfl)
      have c1 := (kz.cell 1).trans (show _ = some (Value.slice P xss.length c) from rfl)
      have ka := H2.out.kept0 (grown_trans hW.out g2)
      have x0 := (ka.cell 0).trans (show _ = some (Value.int .i64 a1) from rfl)
      have x1 := (ka.cell 1).trans (show _ = some (Value.int .i64 a2) from rfl)
      have kb := H3.out.kept0 (grown_trans hW.out g2)
      have y0 := (kb.cell 0).trans (show _ = some (Value.int .i64 b1) from rfl)
      have y1 := (kb.cell 1).trans (show _ = some (Value.int .i64 b2) from rfl)
      have hPw := hid (hP.out.grown (grown_trans hG.out g2))
      have hAw := hid (hA.out.grown (grown_trans hG.out g2))
      have hLw := hid (hL.out.grown (grown_trans hG.out g2))
      have hXw := hid (hX.out.grown g2)
      have hYw := hid (hY.out.grown g2)
      clear kz ka kb g2
      replace hgw := hid hgw
      simp only [outThen, preThen, slotIs, factAt, isv, List.getElem?_cons_zero, List.getElem?_cons_succ, Option.getD_some, forall_eq]
      intros
      rename_i hK
      replace hK := hid hK
      simp only [wantedAt]
      go_simp
      exact hK.out _ _ rfl (grown_refl _ _)
    case o16 =>
      go_light
      intro ac w' hgw
      have g2 := grown_trans (grown_drew (grown_refl w4 none)) hgw
      have kz := H1.out.kept0 (grown_trans hW.out g2)
      have c0 := (kz.cell 0).trans (show _ = some (Value.bool f) from rfl)
      have c1 := (kz.cell 1).trans (show _ = some (Value.slice P xss.length c) from rfl)
      have ka := H2.out.kept0 (grown_trans hW.out g2)
      have x0 := (ka.cell 0).trans (show _ = some (Value.int .i64 a1) from rfl)
      have x1 := (ka.cell 1).trans (show _ = some (Value.int .i64 a2) from rfl)
      have kb := H3.out.kept0 (grown_trans hW.out g2)
      have y0 := (kb.cell 0).trans (show _ = some (Value.int .i64 b1) from rfl)
      have y1 := (kb.cell 1).trans (show _ = some (Value.int .i64 b2) from rfl)
      have hPw := hid (hP.out.grown (grown_trans hG.out g2))
      have hAw := hid (hA.out.grown (grown_trans hG.out g2))
      have hLw := hid (hL.out.grown (grown_trans hG.out g2))
      have hXw := hid (hX.out.grown g2)
      have hYw := hid (hY.out.grown g2)
      clear kz ka kb g2
      replace hgw := hid hgw
      simp only [outThen, preThen, slotIs, factAt, isv, List.getElem?_cons_zero, List.getElem?_cons_succ, Option.getD_some, forall_eq]
      intros
      rename_i hK
      replace hK := hid hK
      simp only [wantedAt]
      go_simp
      exact hK.out _ _ rfl (grown_refl _ _)
    case o17 =>
      go_light
      intro ac w' hgw
      have g2 := grown_trans (grown_drew (grown_refl w4 none)) hgw
      have kz := H1.out.kept0 (grown_trans hW.out g2)
      have c0 := (kz.cell 0).trans (show _ = some (Value.bool f) from rfl)
      have c1 := (kz.cell 1).trans (show _ = some (Value.slice P xss.length c) from rfl)
      have ka := H2.out.kept0 (grown_trans hW.out g2)
      have x0 := (ka.cell 0).trans (show _ = some (Value.int .i64 a1) from rfl)
      have x1 := (ka.cell 1).trans (show _ = some (Value.int .i64 a2) from rfl)
      have kb := H3.out.kept0 (grown_trans hW.out g2)
      have y0 := (kb.cell 0).trans (show _ = some (Value.int .i64 b1) from rfl)
      have y1 := (kb.cell 1).trans (show _ = some (Value.int .i64 b2) from rfl)
      have hPw := hid (hP.out.grown (grown_trans hG.out g2))
      have hAw := hid (hA.out.grown (grown_trans hG.out g2))
      have hLw := hid (hL.out.grown (grown_trans hG.out g2))
      have hXw := hid (hX.out.grown g2)
      have hYw := hid (hY.out.grown g2)
      clear kz ka kb g2
      replace hgw := hid hgw
      simp only [outThen, preThen, slotIs, factAt, isv, List.getElem?_cons_zero, List.getElem?_cons_succ, Option.getD_some, forall_eq]
      intros
      rename_i hK
      replace hK := hid hK
      simp only [wantedAt]
      go_simp
      exact hK.out _ _ rfl (grown_refl _ _)
    case o18 =>
      go_light
      intro ac w' hgw
      have g2 := grown_trans (grown_drew (grown_refl w4 none)) hgw
      have kz := H1.out.kept0 (grown_trans hW.out g2)
      have c0 := (kz.cell 0).trans (show _ = some (Value.bool f) from rfl)
      have c1 := (kz.cell 1).trans (show _ = some (Value.slice P xss.length c) from rfl)
      have ka := H2.out.kept0 (grown_trans hW.out g2)
      have x0 := (ka.cell 0).trans (show _ = some (Value.int .i64 a1) from rfl)
      have x1 := (ka.cell 1).trans (show _ = some (Value.int .i64 a2) from rfl)
      have kb := H3.out.kept0 (grown_trans hW.out g2)
      have y0 := (kb.cell 0).trans (show _ = some (Value.int .i64 b1) from rfl)
      have y1 := (kb.cell 1).trans (show _ = some (Value.int .i64 b2) from rfl)
      have hPw := hid (hP.out.grown (grown_trans hG.out g2))
      have hAw := hid (hA.out.grown (grown_trans hG.out g2))
      have hLw := hid (hL.out.grown (grown_trans hG.out g2))
      have hXw := hid (hX.out.grown g2)
      have hYw := hid (hY.out.grown g2)
      clear kz ka kb g2
      replace hgw := hid hgw
      simp only [outThen, preThen, slotIs, factAt, isv, List.getElem?_cons_zero, List.getElem?_cons_succ, Option.getD_some, forall_eq]
      intros
      rename_i hK
      replace hK := hid hK
      simp only [wantedAt]
      go_simp
      exact hK.out _ _ rfl (grown_refl _ _)
    case o19 =>
      go_light
      intro ac w' hgw
      have g2 := grown_trans (grown_drew (grown_refl w4 none)) hgw
      have kz := H1.out.kept0 (grown_trans hW.out g2)
      have c0 := (kz.cell 0).trans (show _ = some (Value.bool f) from rfl)
      have c1 := (kz.cell 1).trans (show _ = some (Value.slice P xss.length c) from rfl)
      have ka := H2.out.kept0 (grown_trans hW.out g2)
      have x0 := (ka.cell 0).trans (show _ = some (Value.int .i64 a1) from rfl)
      have x1 := (ka.cell 1).trans (show _ = some (Value.int .i64 a2) from rfl)
      have kb := H3.out.kept0 (grown_trans hW.out g2)
      have y0 := (kb.cell 0).trans (show _ = some (Value.int .i64 b1) from rfl)
      have y1 := (kb.cell 1).trans (show _ = some (Value.int .i64 b2) from rfl)
      have hPw := hid (hP.out.grown (grown_trans hG.out g2))
      have hAw := hid (hA.out.grown (grown_trans hG.out g2))
      have hLw := hid (hL.out.grown (grown_trans hG.out g2))
      have hXw := hid (hX.out.grown g2)
      have hYw := hid (hY.out.grown g2)
      clear kz ka kb g2
      replace hgw := hid hgw
      simp only [outThen, preThen, slotIs, factAt, isv, List.getElem?_cons_zero, List.getElem?_cons_succ, Option.getD_some, forall_eq]
      intros
      rename_i hK9
      replace hK9 := hid hK9
      simp only [wantedAt]
      go_simp
      have hq := refStands_is f P A c d fr text (a1, a2) xss w' (by omega) (by omega) hB.out hPw.out (by omega) hd hdm.out htb.out hAw.out hf0 hf1 ha0 ha1
      rw [hST.out] at hq
      refine hq.mono ?_
      rintro e w9 ⟨rfl, hg⟩
      exact hK9.out _ _ rfl hg
    case o20 =>
      go_light
      intro ac w' hgw
      have g2 := grown_trans (grown_drew (grown_refl w4 none)) hgw
      have kz := H1.out.kept0 (grown_trans hW.out g2)
      have c0 := (kz.cell 0).trans (show _ = some (Value.bool f) from rfl)
      have c1 := (kz.cell 1).trans (show _ = some (Value.slice P xss.length c) from rfl)
      have ka := H2.out.kept0 (grown_trans hW.out g2)
      have x0 := (ka.cell 0).trans (show _ = some (Value.int .i64 a1) from rfl)
      have x1 := (ka.cell 1).trans (show _ = some (Value.int .i64 a2) from rfl)
      have kb := H3.out.kept0 (grown_trans hW.out g2)
      have y0 := (kb.cell 0).trans (show _ = some (Value.int .i64 b1) from rfl)
      have y1 := (kb.cell 1).trans (show _ = some (Value.int .i64 b2) from rfl)
      have hPw := hid (hP.out.grown (grown_trans hG.out g2))
      have hAw := hid (hA.out.grown (grown_trans hG.out g2))
      have hLw := hid (hL.out.grown (grown_trans hG.out g2))
      have hXw := hid (hX.out.grown g2)
      have hYw := hid (hY.out.grown g2)
      clear kz ka kb g2
      replace hgw := hid hgw
      simp only [outThen, preThen, slotIs, factAt, isv, List.getElem?_cons_zero, List.getElem?_cons_succ, Option.getD_some, forall_eq]
      intros
      rename_i hK9
      replace hK9 := hid hK9
      have q9 : ∀ b : Bool, (b != b) = false := fun b => by cases b <;> rfl
      simp only [wantedAt]
      go_simp
      exact hK9.out _ _ (by simp) (grown_refl _ _)
    case o21 =>
      go_light
      intro ac w' hgw
      have g2 := grown_trans (grown_drew (grown_refl w4 none)) hgw
      have kz := H1.out.kept0 (grown_trans hW.out g2)
      have c0 := (kz.cell 0).trans (show _ = some (Value.bool f) from rfl)
      have c1 := (kz.cell 1).trans (show _ = some (Value.slice P xss.length c) from rfl)
      have ka := H2.out.kept0 (grown_trans hW.out g2)
      have x0 := (ka.cell 0).trans (show _ = some (Value.int .i64 a1) from rfl)
      have x1 := (ka.cell 1).trans (show _ = some (Value.int .i64 a2) from rfl)
      have kb := H3.out.kept0 (grown_trans hW.out g2)
      have y0 := (kb.cell 0).trans (show _ = some (Value.int .i64 b1) from rfl)
      have y1 := (kb.cell 1).trans (show _ = some (Value.int .i64 b2) from rfl)
      have hPw := hid (hP.out.grown (grown_trans hG.out g2))
      have hAw := hid (hA.out.grown (grown_trans hG.out g2))
      have hLw := hid (hL.out.grown (grown_trans hG.out g2))
      have hXw := hid (hX.out.grown g2)
      have hYw := hid (hY.out.grown g2)
      clear kz ka kb g2
      replace hgw := hid hgw
      simp only [outThen, preThen, slotIs, factAt, isv, List.getElem?_cons_zero, List.getElem?_cons_succ, Option.getD_some, forall_eq]
      intros
      rename_i hK
      replace hK := hid hK
      simp only [wantedAt]
      go_simp
      exact hK.out _ _ rfl (grown_refl _ _)
    case o22 =>
      go_light
      intro ac w' hgw
      have g2 := grown_trans (grown_drew (grown_refl w4 none)) hgw
      have kz := H1.out.kept0 (grown_trans hW.out g2)
      have c0 := (kz.cell 0).trans (show _ = some (Value.bool f) from rfl)
      have c1 := (kz.cell 1).trans (show _ = some (Value.slice P xss.length c) from rfl)
      have ka := H2.out.kept0 (grown_trans hW.out g2)
      have x0 := (ka.cell 0).trans (show _ = some (Value.int .i64 a1) from rfl)
      have x1 := (ka.cell 1).trans (show _ = some (Value.int .i64 a2) from rfl)
      have kb := H3.out.kept0 (grown_trans hW.out g2)
      have y0 := (kb.cell 0).trans (show _ = some (Value.int .i64 b1) from rfl)
      have y1 := (kb.cell 1).trans (show _ = some (Value.int .i64 b2) from rfl)
      have hPw := hid (hP.out.grown (grown_trans hG.out g2))
      have hAw := hid (hA.out.grown (grown_trans hG.out g2))
      have hLw := hid (hL.out.grown (grown_trans hG.out g2))
      have hXw := hid (hX.out.grown g2)
      have hYw := hid (hY.out.grown g2)
      clear kz ka kb g2
      replace hgw := hid hgw
      simp only [outThen, preThen, slotIs, factAt, isv, List.getElem?_cons_zero, List.getElem?_cons_succ, Option.getD_some, forall_eq]
      intros
      rename_i hK
      replace hK := hid hK
      simp only [wantedAt]
      go_simp
      exact hK.out _ _ rfl (grown_refl _ _)
    case o23 =>
      go_light
      intro ac w' hgw
      have g2 := grown_trans (grown_drew (grown_refl w4 none)) hgw
      have kz := H1.out.kept0 (grown_trans hW.out g2)
      have c0 := (kz.cell 0).trans (show _ = some (Value.bool f) from rfl)
      have c1 := (kz.cell 1).trans (show _ = some (Value.slice P xss.length c) from rfl)
      have ka := H2.out.kept0 (grown_trans hW.out g2)
      have x0 := (ka.cell 0).trans (show _ = some (Value.int .i64 a1) from rfl)
      have x1 := (ka.cell 1).trans (show _ = some (Value.int .i64 a2) from rfl)
      have kb := H3.out.kept0 (grown_trans hW.out g2)
      have y0 := (kb.cell 0).trans (show _ = some (Value.int .i64 b1) from rfl)
      have y1 := (kb.cell 1).trans (show _ = some (Value.int .i64 b2) from rfl)
      have hPw := hid (hP.out.grown (grown_trans hG.out g2))
      have hAw := hid (hA.out.grown (grown_trans hG.out g2))
      have hLw := hid (hL.out.grown (grown_trans hG.out g2))
      have hXw := hid (hX.out.grown g2)
      have hYw := hid (hY.out.grown g2)
      clear kz ka kb g2
      replace hgw := hid hgw
      simp only [outThen, preThen, slotIs, factAt, isv, List.getElem?_cons_zero, List.getElem?_cons_succ, Option.getD_some, forall_eq]
      intros
      rename_i hK
      replace hK := hid hK
      simp only [wantedAt]
      go_simp
      exact hK.out _ _ rfl (grown_refl _ _)
    case o24 =>
      go_light
      intro ac w' hgw
      have g2 := grown_trans (grown_drew (grown_refl w4 none)) hgw
      have kz := H1.out.kept0 (grown_trans hW.out g2)
      have c0 := (kz.cell 0).trans (show _ = some (Value.bool f) from rfl)
      have c1 := (kz.cell 1).trans (show _ = some (Value.slice P xss.length c) from rfl)
      have ka := H2.out.kept0 (grown_trans hW.out g2)
      have x0 := (ka.cell 0).trans (show _ = some (Value.int .i64 a1) from rfl)
      have x1 := (ka.cell 1).trans (show _ = some (Value.int .i64 a2) from rfl)
      have kb := H3.out.kept0 (grown_trans hW.out g2)
      have y0 := (kb.cell 0).trans (show _ = some (Value.int .i64 b1) from rfl)
      have y1 := (kb.cell 1).trans (show _ = some (Value.int .i64 b2) from rfl)
      have hPw := hid (hP.out.grown (grown_trans hG.out g2))
      have hAw := hid (hA.out.grown (grown_trans hG.out g2))
      have hLw := hid (hL.out.grown (grown_trans hG.out g2))
      have hXw := hid (hX.out.grown g2)
      have hYw := hid (hY.out.grown g2)
      clear kz ka kb g2
      replace hgw := hid hgw
      simp only [outThen, preThen, slotIs, factAt, isv, List.getElem?_cons_zero, List.getElem?_cons_succ, Option.getD_some, forall_eq]
      intros
      rename_i hK
      replace hK := hid hK
      simp only [wantedAt]
      go_simp
      exact hK.out _ _ rfl (grown_refl _ _)
    case o25 =>
      go_light
      intro ac w' hgw
      have g2 := grown_trans (grown_drew (grown_refl w4 none)) hgw
      have kz := H1.out.kept0 (grown_trans hW.out g2)
      have c0 := (kz.cell 0).trans (show _ = some (Value.bool f) from rfl)
      have c1 := (kz.cell 1).trans (show _ = some (Value.slice P xss.length c) from rfl)
      have ka := H2.out.kept0 (grown_trans hW.out g2)
      have x0 := (ka.cell 0).trans (show _ = some (Value.int .i64 a1) from rfl)
      have x1 := (ka.cell 1).trans (show _ = some (Value.int .i64 a2) from rfl)
      have kb := H3.out.kept0 (grown_trans hW.out g2)
      have y0 := (kb.cell 0).trans (show _ = some (Value.int .i64 b1) from rfl)
      have y1 := (kb.cell 1).trans (show _ = some (Value.int .i64 b2) from rfl)
      have hPw := hid (hP.out.grown (grown_trans hG.out g2))
      have hAw := hid (hA.out.grown (grown_trans hG.out g2))
      have hLw := hid (hL.out.grown (grown_trans hG.out g2))
      have hXw := hid (hX.out.grown g2)
      have hYw := hid (hY.out.grown g2)
      clear kz ka kb g2
      replace hgw := hid hgw
      simp only [outThen, preThen, slotIs, factAt, isv, List.getElem?_cons_zero, List.getElem?_cons_succ, Option.getD_some, forall_eq]
      intros
      rename_i hK
      replace hK := hid hK
      simp only [wantedAt]
      go_simp
      exact hK.out _ _ rfl (grown_refl _ _)
    case o26 =>
      go_light
      intro ac w' hgw
      have g2 := grown_trans (grown_drew (grown_refl w4 none)) hgw
      have kz := H1.out.kept0 (grown_trans hW.out g2)
      have c0 := (kz.cell 0).trans (show _ = some (Value.bool f) from rfl)
      have c1 := (kz.cell 1).trans (show _ = some (Value.slice P xss.length c) from rfl)
      have ka := H2.out.kept0 (grown_trans hW.out g2)
      have x0 := (ka.cell 0).trans (show _ = some (Value.int .i64 a1) from rfl)
      have x1 := (ka.cell 1).trans (show _ = some (Value.int .i64 a2) from rfl)
      have kb := H3.out.kept0 (grown_trans hW.out g2)
      have y0 := (kb.cell 0).trans (show _ = some (Value.int .i64 b1) from rfl)
      have y1 := (kb.cell 1).trans (show _ = some (Value.int .i64 b2) from rfl)
      have hPw := hid (hP.out.grown (grown_trans hG.out g2))
      have hAw := hid (hA.out.grown (grown_trans hG.out g2))
      have hLw := hid (hL.out.grown (grown_trans hG.out g2))
      have hXw := hid (hX.out.grown g2)
      have hYw := hid (hY.out.grown g2)
      clear kz ka kb g2
      replace hgw := hid hgw
      simp only [outThen, preThen, slotIs, factAt, isv, List.getElem?_cons_zero, List.getElem?_cons_succ, Option.getD_some, forall_eq]
      intros
      rename_i hK9
      replace hK9 := hid hK9
      simp only [wantedAt]
      go_simp
      have hq := occLess_is f P c xss (a1, a2) (b1, b2) w' hPw.out
      rw [hLE.out] at hq
      refine hq.mono ?_
      rintro e w9 ⟨rfl, hg⟩
      exact hK9.out _ _ rfl hg
    case o27 =>
      go_light
      intro ac w' hgw
      have g2 := grown_trans (grown_drew (grown_refl w4 none)) hgw
      have kz := H1.out.kept0 (grown_trans hW.out g2)
      have c0 := (kz.cell 0).trans (show _ = some (Value.bool f) from rfl)
      have c1 := (kz.cell 1).trans (show _ = some (Value.slice P xss.length c) from rfl)
      have ka := H2.out.kept0 (grown_trans hW.out g2)
      have x0 := (ka.cell 0).trans (show _ = some (Value.int .i64 a1) from rfl)
      have x1 := (ka.cell 1).trans (show _ = some (Value.int .i64 a2) from rfl)
      have kb := H3.out.kept0 (grown_trans hW.out g2)
      have y0 := (kb.cell 0).trans (show _ = some (Value.int .i64 b1) from rfl)
      have y1 := (kb.cell 1).trans (show _ = some (Value.int .i64 b2) from rfl)
      have hPw := hid (hP.out.grown (grown_trans hG.out g2))
      have hAw := hid (hA.out.grown (grown_trans hG.out g2))
      have hLw := hid (hL.out.grown (grown_trans hG.out g2))
      have hXw := hid (hX.out.grown g2)
      have hYw := hid (hY.out.grown g2)
      clear kz ka kb g2
      replace hgw := hid hgw
      simp only [outThen, preThen, slotIs, factAt, isv, List.getElem?_cons_zero, List.getElem?_cons_succ, Option.getD_some, forall_eq]
      intros
      rename_i hK
      replace hK := hid hK
      simp only [wantedAt]
      go_simp
      exact hK.out _ _ rfl (grown_refl _ _)
    case o28 =>
      go_light
      intro ac w' hgw
      have g2 := grown_trans (grown_drew (grown_refl w4 none)) hgw
      have kz := H1.out.kept0 (grown_trans hW.out g2)
      have c0 := (kz.cell 0).trans (show _ = some (Value.bool f) from rfl)
      have c1 := (kz.cell 1).trans (show _ = some (Value.slice P xss.length c) from rfl)
      have ka := H2.out.kept0 (grown_trans hW.out g2)
      have x0 := (ka.cell 0).trans (show _ = some (Value.int .i64 a1) from rfl)
      have x1 := (ka.cell 1).trans (show _ = some (Value.int .i64 a2) from rfl)
      have kb := H3.out.kept0 (grown_trans hW.out g2)
      have y0 := (kb.cell 0).trans (show _ = some (Value.int .i64 b1) from rfl)
      have y1 := (kb.cell 1).trans (show _ = some (Value.int .i64 b2) from rfl)
      have hPw := hid (hP.out.grown (grown_trans hG.out g2))
      have hAw := hid (hA.out.grown (grown_trans hG.out g2))
      have hLw := hid (hL.out.grown (grown_trans hG.out g2))
      have hXw := hid (hX.out.grown g2)
      have hYw := hid (hY.out.grown g2)
      clear kz ka kb g2
      replace hgw := hid hgw
      simp only [outThen, preThen, slotIs, factAt, isv, List.getElem?_cons_zero, List.getElem?_cons_succ, Option.getD_some, forall_eq]
      intros
      rename_i hK
      replace hK := hid hK
      simp only [wantedAt]
      go_simp
      exact hK.out _ _ rfl (grown_refl _ _)
    case o29 =>
      go_light
      intro ac w' hgw
      have g2 := grown_trans (grown_drew (grown_refl w4 none)) hgw
      have kz := H1.out.kept0 (grown_trans hW.out g2)
      have c0 := (kz.cell 0).trans (show _ = some (Value.bool f) from rfl)
      have c1 := (kz.cell 1).trans (show _ = some (Value.slice P xss.length c) from rfl)
      have ka := H2.out.kept0 (grown_trans hW.out g2)
      have x0 := (ka.cell 0).trans (show _ = some (Value.int .i64 a1) from rfl)
      have x1 := (ka.cell 1).trans (show _ = some (Value.int .i64 a2) from rfl)
      have kb := H3.out.kept0 (grown_trans hW.out g2)
      have y0 := (kb.cell 0).trans (show _ = some (Value.int .i64 b1) from rfl)
      have y1 := (kb.cell 1).trans (show _ = some (Value.int .i64 b2) from rfl)
      have hPw := hid (hP.out.grown (grown_trans hG.out g2))
      have hAw := hid (hA.out.grown (grown_trans hG.out g2))
      have hLw := hid (hL.out.grown (grown_trans hG.out g2))
      have hXw := hid (hX.out.grown g2)
      have hYw := hid (hY.out.grown g2)
      clear kz ka kb g2
      replace hgw := hid hgw
      simp only [outThen, preThen, slotIs, factAt, isv, List.getElem?_cons_zero, List.getElem?_cons_succ, Option.getD_some, forall_eq]
      intros
      rename_i hK
      replace hK := hid hK
      simp only [wantedAt]
      go_simp
      exact hK.out _ _ rfl (grown_refl _ _)
    case o30 =>
      go_light
      intro ac w' hgw
      have g2 := grown_trans (grown_drew (grown_refl w4 none)) hgw
      have kz := H1.out.kept0 (grown_trans hW.out g2)
      have c0 := (kz.cell 0).trans (show _ = some (Value.bool f) from rfl)
      have c1 := (kz.cell 1).trans (show _ = some (Value.slice P xss.length c) from rfl)
      have ka := H2.out.kept0 (grown_trans hW.out g2)
      have x0 := (ka.cell 0).trans (show _ = some (Value.int .i64 a1) from rfl)
      have x1 := (ka.cell 1).trans (show _ = some (Value.int .i64 a2) from rfl)
      have kb := H3.out.kept0 (grown_trans hW.out g2)
      have y0 := (kb.cell 0).trans (show _ = some (Value.int .i64 b1) from rfl)
      have y1 := (kb.cell 1).trans (show _ = some (Value.int .i64 b2) from rfl)
      have hPw := hid (hP.out.grown (grown_trans hG.out g2))
      have hAw := hid (hA.out.grown (grown_trans hG.out g2))
      have hLw := hid (hL.out.grown (grown_trans hG.out g2))
      have hXw := hid (hX.out.grown g2)
      have hYw := hid (hY.out.grown g2)
      clear kz ka kb g2
      replace hgw := hid hgw
      simp only [outThen, preThen, slotIs, factAt, isv, List.getElem?_cons_zero, List.getElem?_cons_succ, Option.getD_some, forall_eq]
      intros
      rename_i hK9
      replace hK9 := hid hK9
      simp only [wantedAt]
      go_simp
      have hq := refLess_is f P c xss (a1, a2) (b1, b2) w' hPw.out
      rw [hLE.out] at hq
      refine hq.mono ?_
      rintro e w9 ⟨rfl, hg⟩
      exact hK9.out _ _ rfl hg
    case o31 =>
      go_light
      intro ac w' hgw
      have g2 := grown_trans (grown_drew (grown_refl w4 none)) hgw
      have kz := H1.out.kept0 (grown_trans hW.out g2)
      have c0 := (kz.cell 0).trans (show _ = some (Value.bool f) from rfl)
      have c1 := (kz.cell 1).trans (show _ = some (Value.slice P xss.length c) from rfl)
      have ka := H2.out.kept0 (grown_trans hW.out g2)
      have x0 := (ka.cell 0).trans (show _ = some (Value.int .i64 a1) from rfl)
      have x1 := (ka.cell 1).trans (show _ = some (Value.int .i64 a2) from rfl)
      have kb := H3.out.kept0 (grown_trans hW.out g2)
      have y0 := (kb.cell 0).trans (show _ = some (Value.int .i64 b1) from rfl)
      have y1 := (kb.cell 1).trans (show _ = some (Value.int .i64 b2) from rfl)
      have hPw := hid (hP.out.grown (grown_trans hG.out g2))
      have hAw := hid (hA.out.grown (grown_trans hG.out g2))
      have hLw := hid (hL.out.grown (grown_trans hG.out g2))
      have hXw := hid (hX.out.grown g2)
      have hYw := hid (hY.out.grown g2)
      clear kz ka kb g2
      replace hgw := hid hgw
      simp only [outThen, preThen, slotIs, factAt, isv, List.getElem?_cons_zero, List.getElem?_cons_succ, Option.getD_some, forall_eq]
      intros
      rename_i hK9
      replace hK9 := hid hK9
      have q9 : ∀ b : Bool, (b != b) = false := fun b => by cases b <;> rfl
      simp only [wantedAt]
      go_simp
      exact hK9.out _ _ (by simp) (grown_refl _ _)
    case o32 =>
      go_light
      intro ac w' hgw
      have g2 := grown_trans (grown_drew (grown_refl w4 none)) hgw
      have kz := H1.out.kept0 (grown_trans hW.out g2)
      have c0 := (kz.cell 0).trans (show _ = some (Value.bool f) from rfl)
      have c1 := (kz.cell 1).trans (show _ = some (Value.slice P xss.length c) from rfl)
      have ka := H2.out.kept0 (grown_trans hW.out g2)
      have x0 := (ka.cell 0).trans (show _ = some (Value.int .i64 a1) from rfl)
      have x1 := (ka.cell 1).trans (show _ = some (Value.int .i64 a2) from rfl)
      have kb := H3.out.kept0 (grown_trans hW.out g2)
      have y0 := (kb.cell 0).trans (show _ = some (Value.int .i64 b1) from rfl)
      have y1 := (kb.cell 1).trans (show _ = some (Value.int .i64 b2) from rfl)
      have hPw := hid (hP.out.grown (grown_trans hG.out g2))
      have hAw := hid (hA.out.grown (grown_trans hG.out g2))
      have hLw := hid (hL.out.grown (grown_trans hG.out g2))
      have hXw := hid (hX.out.grown g2)
      have hYw := hid (hY.out.grown g2)
      clear kz ka kb g2
      replace hgw := hid hgw
      simp only [outThen, preThen, slotIs, factAt, isv, List.getElem?_cons_zero, List.getElem?_cons_succ, Option.getD_some, forall_eq]
      intros
      rename_i hK
      replace hK := hid hK
      simp only [wantedAt]
      go_simp
      exact hK.out _ _ rfl (grown_refl _ _)
    case o33 =>
      go_light
      intro ac w' hgw
      have g2 := grown_trans (grown_drew (grown_refl w4 none)) hgw
      have kz := H1.out.kept0 (grown_trans hW.out g2)
      have c0 := (kz.cell 0).trans (show _ = some (Value.bool f) from rfl)
      have c1 := (kz.cell 1).trans (show _ = some (Value.slice P xss.length c) from rfl)
      have ka := H2.out.kept0 (grown_trans hW.out g2)
      have x0 := (ka.cell 0).trans (show _ = some (Value.int .i64 a1) from rfl)
      have x1 := (ka.cell 1).trans (show _ = some (Value.int .i64 a2) from rfl)
      have kb := H3.out.kept0 (grown_trans hW.out g2)
      have y0 := (kb.cell 0).trans (show _ = some (Value.int .i64 b1) from rfl)
      have y1 := (kb.cell 1).trans (show _ = some (Value.int .i64 b2) from rfl)
      have hPw := hid (hP.out.grown (grown_trans hG.out g2))
      have hAw := hid (hA.out.grown (grown_trans hG.out g2))
      have hLw := hid (hL.out.grown (grown_trans hG.out g2))
      have hXw := hid (hX.out.grown g2)
      have hYw := hid (hY.out.grown g2)
      clear kz ka kb g2
      replace hgw := hid hgw
      simp only [outThen, preThen, slotIs, factAt, isv, List.getElem?_cons_zero, List.getElem?_cons_succ, Option.getD_some, forall_eq]
      intros
      rename_i hK
      replace hK := hid hK
      simp only [wantedAt]
      go_simp
      exact hK.out _ _ rfl (grown_refl _ _)
    case o34 =>
      go_light
      intro ac w' hgw
      have g2 := grown_trans (grown_drew (grown_refl w4 none)) hgw
      have kz := H1.out.kept0 (grown_trans hW.out g2)
      have c0 := (kz.cell 0).trans (show _ = some (Value.bool f) from rfl)
      have c1 := (kz.cell 1).trans (show _ = some (Value.slice P xss.length c) from rfl)
      have ka := H2.out.kept0 (grown_trans hW.out g2)
      have x0 := (ka.cell 0).trans (show _ = some (Value.int .i64 a1) from rfl)
      have x1 := (ka.cell 1).trans (show _ = some (Value.int .i64 a2) from rfl)
      have kb := H3.out.kept0 (grown_trans hW.out g2)
      have y0 := (kb.cell 0).trans (show _ = some (Value.int .i64 b1) from rfl)
      have y1 := (kb.cell 1).trans (show _ = some (Value.int .i64 b2) from rfl)
      have hPw := hid (hP.out.grown (grown_trans hG.out g2))
      have hAw := hid (hA.out.grown (grown_trans hG.out g2))
      have hLw := hid (hL.out.grown (grown_trans hG.out g2))
      have hXw := hid (hX.out.grown g2)
      have hYw := hid (hY.out.grown g2)
      clear kz ka kb g2
      replace hgw := hid hgw
      simp only [outThen, preThen, slotIs, factAt, isv, List.getElem?_cons_zero, List.getElem?_cons_succ, Option.getD_some, forall_eq]
      intros
      rename_i hK
      replace hK := hid hK
      simp only [wantedAt]
      go_simp
      exact hK.out _ _ rfl (grown_refl _ _)
    case o35 =>
      go_light
      intro ac w' hgw
      have g2 := grown_trans (grown_drew (grown_refl w4 none)) hgw
      have kz := H1.out.kept0 (grown_trans hW.out g2)
      have c0 := (kz.cell 0).trans (show _ = some (Value.bool f) from rfl)
      have c1 := (kz.cell 1).trans (show _ = some (Value.slice P xss.length c) from rfl)
      have ka := H2.out.kept0 (grown_trans hW.out g2)
      have x0 := (ka.cell 0).trans (show _ = some (Value.int .i64 a1) from rfl)
      have x1 := (ka.cell 1).trans (show _ = some (Value.int .i64 a2) from rfl)
      have kb := H3.out.kept0 (grown_trans hW.out g2)
      have y0 := (kb.cell 0).trans (show _ = some (Value.int .i64 b1) from rfl)
      have y1 := (kb.cell 1).trans (show _ = some (Value.int .i64 b2) from rfl)
      have hPw := hid (hP.out.grown (grown_trans hG.out g2))
      have hAw := hid (hA.out.grown (grown_trans hG.out g2))
      have hLw := hid (hL.out.grown (grown_trans hG.out g2))
      have hXw := hid (hX.out.grown g2)
      have hYw := hid (hY.out.grown g2)
      clear kz ka kb g2
      replace hgw := hid hgw
      simp only [outThen, preThen, slotIs, factAt, isv, List.getElem?_cons_zero, List.getElem?_cons_succ, Option.getD_some, forall_eq]
      intros
      rename_i hK
      replace hK := hid hK
      simp only [wantedAt]
      go_simp
      exact hK.out _ _ rfl (grown_refl _ _)
    case o36 =>
      go_light
      intro ac w' hgw
      have g2 := grown_trans (grown_drew (grown_refl w4 none)) hgw
      have kz := H1.out.kept0 (grown_trans hW.out g2)
      have c0 := (kz.cell 0).trans (show _ = some (Value.bool f) from rfl)
      have c1 := (kz.cell 1).trans (show _ = some (Value.slice P xss.length c) from rfl)
      have ka := H2.out.kept0 (grown_trans hW.out g2)
      have x0 := (ka.cell 0).trans (show _ = some (Value.int .i64 a1) from rfl)
      have x1 := (ka.cell 1).trans (show _ = some (Value.int .i64 a2) from rfl)
      have kb := H3.out.kept0 (grown_trans hW.out g2)
      have y0 := (kb.cell 0).trans (show _ = some (Value.int .i64 b1) from rfl)
      have y1 := (kb.cell 1).trans (show _ = some (Value.int .i64 b2) from rfl)
      have hPw := hid (hP.out.grown (grown_trans hG.out g2))
      have hAw := hid (hA.out.grown (grown_trans hG.out g2))
      have hLw := hid (hL.out.grown (grown_trans hG.out g2))
      have hXw := hid (hX.out.grown g2)
      have hYw := hid (hY.out.grown g2)
      clear kz ka kb g2
      replace hgw := hid hgw
      simp only [outThen, preThen, slotIs, factAt, isv, List.getElem?_cons_zero, List.getElem?_cons_succ, Option.getD_some, forall_eq]
      intros
      rename_i hK9
      replace hK9 := hid hK9
      simp only [wantedAt]
      go_simp
      have hq := occRise_is f P AL c dl xss l w' (by omega) hPw.out hLw.out
      rw [hRI.out] at hq
      refine hq.mono ?_
      rintro e w9 ⟨rfl, hg⟩
      exact hK9.out _ _ rfl hg
    case o37 =>
      go_light
      intro ac w' hgw
      have g2 := grown_trans (grown_drew (grown_refl w4 none)) hgw
      have kz := H1.out.kept0 (grown_trans hW.out g2)
      have c0 := (kz.cell 0).trans (show _ = some (Value.bool f) from rfl)
      have c1 := (kz.cell 1).trans (show _ = some (Value.slice P xss.length c) from rfl)
      have ka := H2.out.kept0 (grown_trans hW.out g2)
      have x0 := (ka.cell 0).trans (show _ = some (Value.int .i64 a1) from rfl)
      have x1 := (ka.cell 1).trans (show _ = some (Value.int .i64 a2) from rfl)
      have kb := H3.out.kept0 (grown_trans hW.out g2)
      have y0 := (kb.cell 0).trans (show _ = some (Value.int .i64 b1) from rfl)
      have y1 := (kb.cell 1).trans (show _ = some (Value.int .i64 b2) from rfl)
      have hPw := hid (hP.out.grown (grown_trans hG.out g2))
      have hAw := hid (hA.out.grown (grown_trans hG.out g2))
      have hLw := hid (hL.out.grown (grown_trans hG.out g2))
      have hXw := hid (hX.out.grown g2)
      have hYw := hid (hY.out.grown g2)
      clear kz ka kb g2
      replace hgw := hid hgw
      simp only [outThen, preThen, slotIs, factAt, isv, List.getElem?_cons_zero, List.getElem?_cons_succ, Option.getD_some, forall_eq]
      intros
      rename_i hK
      replace hK := hid hK
      simp only [wantedAt]
      go_simp
      exact hK.out _ _ rfl (grown_refl _ _)
    case o38 =>
      go_light
      intro ac w' hgw
      have g2 := grown_trans (grown_drew (grown_refl w4 none)) hgw
      have kz := H1.out.kept0 (grown_trans hW.out g2)
      have c0 := (kz.cell 0).trans (show _ = some (Value.bool f) from rfl)
      have c1 := (kz.cell 1).trans (show _ = some (Value.slice P xss.length c) from rfl)
      have ka := H2.out.kept0 (grown_trans hW.out g2)
      have x0 := (ka.cell 0).trans (show _ = some (Value.int .i64 a1) from rfl)
      have x1 := (ka.cell 1).trans (show _ = some (Value.int .i64 a2) from rfl)
      have kb := H3.out.kept0 (grown_trans hW.out g2)
      have y0 := (kb.cell 0).trans (show _ = some (Value.int .i64 b1) from rfl)
      have y1 := (kb.cell 1).trans (show _ = some (Value.int .i64 b2) from rfl)
      have hPw := hid (hP.out.grown (grown_trans hG.out g2))
      have hAw := hid (hA.out.grown (grown_trans hG.out g2))
      have hLw := hid (hL.out.grown (grown_trans hG.out g2))
      have hXw := hid (hX.out.grown g2)
      have hYw := hid (hY.out.grown g2)
      clear kz ka kb g2
      replace hgw := hid hgw
      simp only [outThen, preThen, slotIs, factAt, isv, List.getElem?_cons_zero, List.getElem?_cons_succ, Option.getD_some, forall_eq]
      intros
      rename_i hK
      replace hK := hid hK
      simp only [wantedAt]
      go_simp
      exact hK.out _ _ rfl (grown_refl _ _)
    case o39 =>
      go_light
      intro ac w' hgw
      have g2 := grown_trans (grown_drew (grown_refl w4 none)) hgw
      have kz := H1.out.kept0 (grown_trans hW.out g2)
      have c0 := (kz.cell 0).trans (show _ = some (Value.bool f) from rfl)
      have c1 := (kz.cell 1).trans (show _ = some (Value.slice P xss.length c) from rfl)
      have ka := H2.out.kept0 (grown_trans hW.out g2)
      have x0 := (ka.cell 0).trans (show _ = some (Value.int .i64 a1) from rfl)
      have x1 := (ka.cell 1).trans (show _ = some (Value.int .i64 a2) from rfl)
      have kb := H3.out.kept0 (grown_trans hW.out g2)
      have y0 := (kb.cell 0).trans (show _ = some (Value.int .i64 b1) from rfl)
      have y1 := (kb.cell 1).trans (show _ = some (Value.int .i64 b2) from rfl)
      have hPw := hid (hP.out.grown (grown_trans hG.out g2))
      have hAw := hid (hA.out.grown (grown_trans hG.out g2))
      have hLw := hid (hL.out.grown (grown_trans hG.out g2))
      have hXw := hid (hX.out.grown g2)
      have hYw := hid (hY.out.grown g2)
      clear kz ka kb g2
      replace hgw := hid hgw
      simp only [outThen, preThen, slotIs, factAt, isv, List.getElem?_cons_zero, List.getElem?_cons_succ, Option.getD_some, forall_eq]
      intros
      rename_i hK9
      replace hK9 := hid hK9
      simp only [wantedAt]
      go_simp
      have hq := refRise_is f P AL c dl xss l w' (by omega) hPw.out hLw.out
      rw [hRI.out] at hq
      refine hq.mono ?_
      rintro e w9 ⟨rfl, hg⟩
      exact hK9.out _ _ rfl hg
    case o40 =>
      go_light
      intro ac w' hgw
      have g2 := grown_trans (grown_drew (grown_refl w4 none)) hgw
      have kz := H1.out.kept0 (grown_trans hW.out g2)
      have c0 := (kz.cell 0).trans (show _ = some (Value.bool f) from rfl)
      have c1 := (kz.cell 1).trans (show _ = some (Value.slice P xss.length c) from rfl)
      have ka := H2.out.kept0 (grown_trans hW.out g2)
      have x0 := (ka.cell 0).trans (show _ = some (Value.int .i64 a1) from rfl)
      have x1 := (ka.cell 1).trans (show _ = some (Value.int .i64 a2) from rfl)
      have kb := H3.out.kept0 (grown_trans hW.out g2)
      have y0 := (kb.cell 0).trans (show _ = some (Value.int .i64 b1) from rfl)
      have y1 := (kb.cell 1).trans (show _ = some (Value.int .i64 b2) from rfl)
      have hPw := hid (hP.out.grown (grown_trans hG.out g2))
      have hAw := hid (hA.out.grown (grown_trans hG.out g2))
      have hLw := hid (hL.out.grown (grown_trans hG.out g2))
      have hXw := hid (hX.out.grown g2)
      have hYw := hid (hY.out.grown g2)
      clear kz ka kb g2
      replace hgw := hid hgw
      simp only [outThen, preThen, slotIs, factAt, isv, List.getElem?_cons_zero, List.getElem?_cons_succ, Option.getD_some, forall_eq]
      intros
      rename_i hK9
      replace hK9 := hid hK9
      have q9 : ∀ b : Bool, (b != b) = false := fun b => by cases b <;> rfl
      simp only [wantedAt]
      go_simp
      exact hK9.out _ _ (by simp) (grown_refl _ _)
    case o41 =>
      go_light
      intro ac w' hgw
      have g2 := grown_trans (grown_drew (grown_refl w4 none)) hgw
      have kz := H1.out.kept0 (grown_trans hW.out g2)
      have c0 := (kz.cell 0).trans (show _ = some (Value.bool f) from rfl)
      have c1 := (kz.cell 1).trans (show _ = some (Value.slice P xss.length c) from rfl)
      have ka := H2.out.kept0 (grown_trans hW.out g2)
      have x0 := (ka.cell 0).trans (show _ = some (Value.int .i64 a1) from rfl)
      have x1 := (ka.cell 1).trans (show _ = some (Value.int .i64 a2) from rfl)
      have kb := H3.out.kept0 (grown_trans hW.out g2)
      have y0 := (kb.cell 0).trans (show _ = some (Value.int .i64 b1) from rfl)
      have y1 := (kb.cell 1).trans (show _ = some (Value.int .i64 b2) from rfl)
      have hPw := hid (hP.out.grown (grown_trans hG.out g2))
      have hAw := hid (hA.out.grown (grown_trans hG.out g2))
      have hLw := hid (hL.out.grown (grown_trans hG.out g2))
      have hXw := hid (hX.out.grown g2)
      have hYw := hid (hY.out.grown g2)
      clear kz ka kb g2
      replace hgw := hid hgw
      simp only [outThen, preThen, slotIs, factAt, isv, List.getElem?_cons_zero, List.getElem?_cons_succ, Option.getD_some, forall_eq]
      intros
      rename_i hK
      replace hK := hid hK
      simp only [wantedAt]
      go_simp
      exact hK.out _ _ rfl (grown_refl _ _)
  case st =>
    repeat (first | exact AllStable.nil | (refine AllStable.cons ?_ ?_; focus (first | exact stable_isv _ | exact stable_isBytes _ | exact stable_isRow1 _ | exact stable_isRowOf _ _ | exact stable_isArrOf _)))
  case fin =>
    intro w5 hgw
    simp only [finalIn, factAt, isv, List.getElem?_cons_zero, List.getElem?_cons_succ, Option.getD_some, forall_eq, slotIs, subj]
    simp only [Act.put, List.setIfInBounds_toArray, List.set_cons_zero, List.set_cons_succ]
    have hg := grown_trans (grown_drew (grown_refl w4 none)) hgw
    replace hG := hid (grown_trans hG.out hg)
    replace hY := hid (hY.out.grown hg)
    have hL5 := hid (hL.out.grown hG.out)
    clear hg hgw
    obtain ⟨i0, hi0, hz0, hz1, hz2⟩ := info_parts Tryz.hitInfo
    have hrow : Hid (OwnHits (w5.alloc (.cells #[] 28)) w5.heap.size (.slice (some ⟨w5.heap.size, 0, none⟩) 0 0) []) := hid (World.ownsRow_made (size := 2) w5 #[] 0 (Nat.le_refl _) (by unfold maxLen; omega) rfl)
    have hLa := hid (hL5.out.grown (grown_alloc (grown_refl w5 none) (.cells #[] 28)))
    go_wp2_with (first
      | (at_builtin; refine wpList_append_hits rfl _ _ 26 rfl w5.heap.size i0 Tryz.underlying26 hi0 hz0 hz1 hz2 _ [] l _ _ _ _ hrow.out hLa.out rfl rfl rfl (by simp; omega) (by simp) ?_; intro v7 w7 r7 g7 B7; rw [List.nil_append] at r7; have G7 := below_grown (((Below.refl w5.heap.size w5).alloc (Nat.le_refl _) (.cells #[] 28)).trans B7); have s7 := G7.size; have hY7 := hid (hY.out.grown G7); replace r7 := hid r7; replace B7 := hid B7; replace G7 := hid G7; clear g7)
      | (at_builtin; refine wpList_append_hits rfl _ _ 26 rfl w5.heap.size i0 Tryz.underlying26 hi0 hz0 hz1 hz2 _ l lo _ _ _ _ r7.out hY7.out rfl rfl rfl (by omega) s7 ?_; intro v8 w8 r8 g8 B8; have G8 := hid (below_grown (((Below.refl w5.heap.size w5).alloc (Nat.le_refl _) (.cells #[] 28)).trans (B7.out.trans B8))); obtain ⟨lj, hlj⟩ : ∃ lj, l ++ lo = lj := ⟨_, rfl⟩; rw [hlj] at r8; have hlj3 := hid hlj; obtain ⟨AJ, cJ, rfl, hHJ, _, _⟩ := r8.form; replace hHJ := hid hHJ; clear r8 g8 B8 hlj))
    replace hY := hid (hY.out.grown G8.out)
    have hLr := hid (hL5.out.grown G8.out)
    replace hG := hid (grown_trans hG.out G8.out)
    have hJ := hHJ
    clear hHJ G8 hLa hrow hL5 hX
    have hljl : lj.length ≤ 30000 := by rw [← hlj3.out, List.length_append]; omega
    refine (occBetween_is low high AL dl l _ (by omega) hLr.out).mono ?_
    rintro e w9 ⟨v, rfl, hv, hg⟩
    obtain ⟨A1, c1, rfl, hH1b, _, _⟩ := hv.form
    replace hJ := hid (hJ.out.grown hg)
    replace hLr := hid (hLr.out.grown hg)
    replace hY := hid (hY.out.grown hg)
    replace hG := hid (grown_trans hG.out hg)
    replace hH1b := hid hH1b
    clear hv hg
    have hbl := between_len low high l
    go_wp2_with fail
    refine (refBetween_is low high AL dl l _ (by omega) hLr.out).mono ?_
    rintro e w10 ⟨v, rfl, hv, hg⟩
    obtain ⟨A2, c2, rfl, hH2b, _, _⟩ := hv.form
    replace hJ := hid (hJ.out.grown hg)
    replace hLr := hid (hLr.out.grown hg)
    replace hY := hid (hY.out.grown hg)
    replace hG := hid (grown_trans hG.out hg)
    replace hH1b := hid (hH1b.out.grown hg)
    replace hH2b := hid hH2b
    clear hv hg
    generalize between low high l = bl at hH1b hH2b hbl ⊢
    go_wp2_with fail
    refine (refHitsSame_is A1 A2 c1 c2 bl bl _ (by omega) hH1b.out hH2b.out).mono ?_
    rintro e w11 ⟨rfl, hg⟩
    rw [show decide (bl = bl) = true by simp]
    replace hJ := hid (hJ.out.grown hg)
    replace hLr := hid (hLr.out.grown hg)
    replace hY := hid (hY.out.grown hg)
    replace hG := hid (grown_trans hG.out hg)
    clear hg hH1b hH2b
    have hg2 := grown_alloc (grown_refl w11 none) (.cells #[.slice AL l.length dl, .slice Ay lo.length cy] 26)
    have hr11 := hid (hitRows_two w11 AL Ay dl cy l lo hLr.out hY.out)
    replace hJ := hid (hJ.out.grown hg2)
    replace hLr := hid (hLr.out.grown hg2)
    replace hY := hid (hY.out.grown hg2)
    replace hG := hid (grown_trans hG.out hg2)
    clear hg2
    go_wp2_with fail
    have hfl : [l, lo].flatten = lj := by rw [← hlj3.out]; simp
    refine (occJoin_is _ 2 [l, lo] _ (by simp) (by rw [hfl]; omega) hr11.out).mono ?_
    rintro e w12 ⟨v, rfl, hv, hg⟩
    rw [hfl] at hv
    obtain ⟨A3, c3, rfl, hH3, _, _⟩ := hv.form
    replace hJ := hid (hJ.out.grown hg)
    replace hLr := hid (hLr.out.grown hg)
    replace hY := hid (hY.out.grown hg)
    replace hG := hid (grown_trans hG.out hg)
    replace hH3 := hid hH3
    clear hv hg hr11
    go_wp2_with fail
    refine (refHitsSame_is A3 AJ c3 cJ lj lj _ (by omega) hH3.out hJ.out).mono ?_
    rintro e w13 ⟨rfl, hg⟩
    rw [show decide (lj = lj) = true by simp]
    replace hJ := hid (hJ.out.grown hg)
    replace hLr := hid (hLr.out.grown hg)
    replace hY := hid (hY.out.grown hg)
    replace hG := hid (grown_trans hG.out hg)
    clear hg hH3
    go_wp2_with fail
    refine (occSame_is AL Ay dl cy l lo _ (by omega) hLr.out hY.out).mono ?_
    rintro e w14 ⟨rfl, hg⟩
    replace hJ := hid (hJ.out.grown hg)
    replace hLr := hid (hLr.out.grown hg)
    replace hY := hid (hY.out.grown hg)
    replace hG := hid (grown_trans hG.out hg)
    clear hg
    obtain ⟨D, hD⟩ : ∃ D, decide (l = lo) = D := ⟨_, rfl⟩
    rw [hD]
    replace hD := hid hD
    have qD : (D == D) = true := by cases D <;> rfl
    go_wp2_with fail
    refine (refHitsSame_is AL Ay dl cy l lo _ (by omega) hLr.out hY.out).mono ?_
    rintro e w15 ⟨rfl, hg⟩
    rw [hD.out]
    replace hJ := hid (hJ.out.grown hg)
    replace hLr := hid (hLr.out.grown hg)
    replace hY := hid (hY.out.grown hg)
    replace hG := hid (grown_trans hG.out hg)
    clear hg
    have hg2 := grown_alloc (grown_refl w15 none) (.cells #[.slice AL l.length dl, .slice Ay lo.length cy] 26)
    have hr15 := hid (hitRows_two w15 AL Ay dl cy l lo hLr.out hY.out)
    replace hJ := hid (hJ.out.grown hg2)
    replace hLr := hid (hLr.out.grown hg2)
    replace hY := hid (hY.out.grown hg2)
    replace hG := hid (grown_trans hG.out hg2)
    clear hg2
    go_wp2_with fail
    have hfl : [l, lo].flatten = lj := by rw [← hlj3.out]; simp
    refine (occJoin_is _ 2 [l, lo] _ (by simp) (by rw [hfl]; omega) hr15.out).mono ?_
    rintro e w16 ⟨v, rfl, hv, hg⟩
    rw [hfl] at hv
    obtain ⟨A4, c4, rfl, hH4, _, _⟩ := hv.form
    replace hJ := hid (hJ.out.grown hg)
    replace hLr := hid (hLr.out.grown hg)
    replace hY := hid (hY.out.grown hg)
    replace hG := hid (grown_trans hG.out hg)
    replace hH4 := hid hH4
    clear hv hg hr15
    go_wp2_with fail
    refine (occSame_is AJ A4 cJ c4 lj lj _ (by omega) hJ.out hH4.out).mono ?_
    rintro e w17 ⟨rfl, hg⟩
    rw [show decide (lj = lj) = true by simp]
    replace hG := hid (grown_trans hG.out hg)
    clear hg
    go_wp2_with fail
    refine (owakes_true _).mono ?_
    rintro e w18 ⟨rfl, hg⟩
    replace hG := hid (grown_trans hG.out hg)
    clear hg
    go_wp2_with fail
    go_ret
    exact ⟨rfl, hG.out⟩
end Go.Proofs.YtmahiodejhakpaaGreat
