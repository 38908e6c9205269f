/- The law OccParts: the hits that end above a place are those of what stands from the longest word's length less 1 ahead of it on, that end above it; and with those up to it they are all. -/
import Derived.Test.YtmahiodejhakpaaOWakes
import Derived.Test.YtmahiodejhakpaaK12
import Derived.Test.YtmahiodejhakpaaQLongest
import Derived.Test.YtmahiodejhakpaaOMore
import Derived.Deep.DeepCutAuto
set_option linter.unusedVariables false
set_option linter.unusedSimpArgs false
set_option maxRecDepth 100000
namespace Go.Proofs.Ytmahiodejhakpaa
open Go.RowKit PlainLetter PlainPatset PlainOcc

set_option maxHeartbeats 16000000 in
theorem oparts_walk (f : Bool) (P A : Option Addr) (c d : Nat) (fr p : Int) (xss : List (List Int)) (text : List Int) (w : World) (hB : ∀ i, Bytes (xss.getD i [])) (hP : Arrs w P xss) (hA : Arr w .u8 A text) (htb : Bytes text) (hl : xss.length ≤ 9223372036854775807)
    (hd : text.length ≤ d) (hdm : d ≤ maxLen) (hf0 : -9223372036854775808 ≤ fr) (hf1 : fr ≤ 9223372036854775807) (hp0 : -9223372036854775808 ≤ p) (hp1 : p ≤ 9223372036854775807) :
    Calls Try.prog 4 #[.agg #[.bool f, .slice P xss.length c], .int .i64 fr, .slice A text.length d, .int .i64 p] w fun e w' => e = .returned (.bool true) ∧ w.grownBy w' none := by
  have hdm2 : d ≤ 9223372036854775807 := by unfold maxLen at hdm; omega
  replace hdm := hid hdm
  replace hB := hid hB
  replace htb := hid htb
  replace hP := hid hP
  replace hA := hid hA
  have H1 : Holds (w.alloc (.cells #[.bool f, .slice P xss.length c] 24)) w.heap.size 24 #[.bool f, .slice P xss.length c] := Holds.new _ _ _
  have hG : Hid (w.grownBy (w.alloc (.cells #[.bool f, .slice P xss.length c] 24)) none) := grown_alloc (grown_refl w none) _
  go_enter Try.func4, Try.ntmps4
  go_upto_region 1 with fail
  obtain ⟨W0, hW0⟩ : ∃ W0, w.alloc (.cells #[.bool f, .slice P xss.length c] 24) = W0 := ⟨_, rfl⟩
  rw [hW0] at H1 hG ⊢
  clear hW0
  obtain ⟨h, hh⟩ : ∃ h, w.heap.size = h := ⟨_, rfl⟩
  rw [hh] at H1 ⊢
  replace hh := hid hh
  replace H1 := hid H1
  have hW : Hid (W0.grownBy W0 none) := grown_refl _ _
  have e0 := ((H1.out.kept0 hW.out).cell 0).trans (show _ = some (Value.bool f) from rfl)
  have e1 := ((H1.out.kept0 hW.out).cell 1).trans (show _ = some (Value.slice P xss.length c) from rfl)
  go_wp2_with fail
  refine (refSetGreat_is f P c xss _ (hP.out.grown hG.out) hl).mono ?_
  rintro e w1 ⟨rfl | ⟨rfl, h80, h3000⟩, hg⟩
  · replace hG := hid (grown_trans hG.out hg)
    clear hg
    go_wp2_with fail
    refine (owakes_true _).mono ?_
    rintro e w9 ⟨rfl, hg⟩
    have hGf := hid (grown_trans hG.out hg)
    clear hg
    go_wp2_with fail
    go_ret
    exact ⟨rfl, hGf.out⟩
  replace hG := hid (grown_trans hG.out hg)
  replace hW := hid (grown_trans hW.out hg)
  clear hg e0 e1
  have e0 := ((H1.out.kept0 hW.out).cell 0).trans (show _ = some (Value.bool f) from rfl)
  have e1 := ((H1.out.kept0 hW.out).cell 1).trans (show _ = some (Value.slice P xss.length c) from rfl)
  go_wp2_with fail
  refine (refRight_is f P c xss _ (by omega) (by omega) hB.out (hP.out.grown hG.out)).mono ?_
  rintro e w2 ⟨rfl, hg⟩
  replace hG := hid (grown_trans hG.out hg)
  replace hW := hid (grown_trans hW.out hg)
  clear hg e0 e1
  have e0 := ((H1.out.kept0 hW.out).cell 0).trans (show _ = some (Value.bool f) from rfl)
  have e1 := ((H1.out.kept0 hW.out).cell 1).trans (show _ = some (Value.slice P xss.length c) from rfl)
  cases hR : right f xss with
  | false =>
    go_wp2_with fail
    refine (owakes_true _).mono ?_
    rintro e w9 ⟨rfl, hg⟩
    have hGf := hid (grown_trans hG.out hg)
    clear hg
    go_wp2_with fail
    go_ret
    exact ⟨rfl, hGf.out⟩
  | true =>
  replace hR := hid hR
  by_cases hfr0 : fr < 0
  · skip
    go_wp2_with fail
    refine (owakes_true _).mono ?_
    rintro e w9 ⟨rfl, hg⟩
    have hGf := hid (grown_trans hG.out hg)
    clear hg
    go_wp2_with fail
    go_ret
    exact ⟨rfl, hGf.out⟩
  by_cases hfr1 : 4611686018427387604 < fr
  · have hfr0' : ¬ fr < 0 := hfr0
    go_wp2_with fail
    refine (owakes_true _).mono ?_
    rintro e w9 ⟨rfl, hg⟩
    have hGf := hid (grown_trans hG.out hg)
    clear hg
    go_wp2_with fail
    go_ret
    exact ⟨rfl, hGf.out⟩
  by_cases ht300 : 300 < text.length
  · have ht' : (300 : Int) < (text.length : Int) := by omega
    go_wp2_with fail
    refine (owakes_true _).mono ?_
    rintro e w9 ⟨rfl, hg⟩
    have hGf := hid (grown_trans hG.out hg)
    clear hg
    go_wp2_with fail
    go_ret
    exact ⟨rfl, hGf.out⟩
  have ht' : ¬ (300 : Int) < (text.length : Int) := by omega
  obtain ⟨K, hK, hKl⟩ : ∃ K : Nat, (if (text.length : Int) < (if p < 0 then 0 else p) then (text.length : Int) else if p < 0 then 0 else p) = (K : Int) ∧ K ≤ text.length := by
    refine ⟨(if (text.length : Int) < (if p < 0 then 0 else p) then (text.length : Int) else if p < 0 then 0 else p).toNat, ?_, ?_⟩ <;> (repeat' split) <;> omega
  have hK2 : Hid (min (max p 0) (text.length : Int) = (K : Int)) := hid (by
    rw [← hK]
    repeat' split
    all_goals omega)
  replace hK := hid hK
  go_upto_region 4 with fail
  first | rw [hK.out] | rw [hK2.out]
  try generalize (if p < 0 then (0 : Int) else p) = pp
  try generalize max p (0 : Int) = pp
  have hLb : longest xss ≤ 3000 := Nat.le_trans (longest_all xss) h3000
  obtain ⟨L, hLL⟩ : ∃ L, longest xss = L := ⟨_, rfl⟩
  rw [hLL] at hLb
  replace hLL := hid hLL
  obtain ⟨M, hMK⟩ : ∃ M : Nat, M = min (L - 1) K := ⟨_, rfl⟩
  have hML : M ≤ K := by omega
  replace hMK := hid hMK
  go_cut [9] (fun s9 wx => s9 = .int .i64 (M : Nat) ∧ w2.grownBy wx none)
  case first =>
    go_wp2_with fail
    refine (refLongest_is f P c xss _ (by omega) (by omega) (hP.out.grown hG.out)).mono ?_
    rintro e w3 ⟨rfl, hg⟩
    rw [hLL.out]
    have hfin : Hid (∀ n : Int, n = (M : Int) → Value.int .i64 n = .int .i64 (M : Nat) ∧ w2.grownBy w3 none) := hid (fun n hn => ⟨by rw [hn], hg⟩)
    clear hg
    by_cases h0 : L = 0
    · subst h0
      go_wp2_with fail
      go_meet
      exact hfin.out _ (by have := hMK.out; omega)
    · by_cases hKL : (K : Int) < (L : Int) - 1
      · have q0 : ¬ (L : Int) - 1 < 0 := by omega
        go_wp2_with fail
        go_meet
        exact hfin.out _ (by have := hMK.out; omega)
      · have q0 : ¬ (L : Int) - 1 < 0 := by omega
        go_wp2_with fail
        go_meet
        exact hfin.out _ (by have := hMK.out; omega)
  case rest =>
  obtain ⟨rfl, hg⟩ := hcut
  obtain ⟨w3, rfl⟩ : ∃ x : World, x = wc := ⟨_, rfl⟩
  replace hG := hid (grown_trans hG.out hg)
  replace hW := hid (grown_trans hW.out hg)
  clear hg e0 e1
  have e0 := ((H1.out.kept0 hW.out).cell 0).trans (show _ = some (Value.bool f) from rfl)
  have e1 := ((H1.out.kept0 hW.out).cell 1).trans (show _ = some (Value.slice P xss.length c) from rfl)
  go_upto_region 5 with fail
  go_wp2_with fail
  refine (occOcc_is f P A c d fr text xss _ (by omega) (by omega) hB.out (hP.out.grown hG.out) (by omega) hd hdm.out htb.out (hA.out.grown hG.out) hf0 hf1).mono ?_
  rintro e w4 ⟨v, rfl, hv, hg⟩
  obtain ⟨A1, c1, rfl, hH1, _, _⟩ := hv.hits hR.out (by omega) (by omega)
  have hfew0 := occ_fewer f xss text fr h80 (by omega)
  have hfew1 := occ_fewer f xss (text.take K) fr h80 (by rw [List.length_take]; omega)
  have hfew2 := occ_fewer f xss (text.drop (K - M)) (fr + K - M) h80 (by rw [List.length_drop]; omega)
  have hfst := hid (occ_first f xss text fr K hKl)
  have hprt := hid (occ_parts f xss text fr K M hKl (by rw [hLL.out]; exact hMK.out))
  generalize hl0 : occ f xss text fr = l0 at hH1 hfew0 hfst hprt ⊢
  generalize hl1 : occ f xss (text.take K) fr = l1 at hfew1 hfst hprt
  generalize hl2 : occ f xss (text.drop (K - M)) (fr + K - M) = l2 at hfew2 hprt
  replace hl1 := hid hl1
  replace hl2 := hid hl2
  clear hl0 hv
  replace hH1 := hid hH1
  replace hG := hid (grown_trans hG.out hg)
  replace hW := hid (grown_trans hW.out hg)
  clear hg e0 e1
  have e0 := ((H1.out.kept0 hW.out).cell 0).trans (show _ = some (Value.bool f) from rfl)
  have e1 := ((H1.out.kept0 hW.out).cell 1).trans (show _ = some (Value.slice P xss.length c) from rfl)
  have htk : Hid ((text.take K).length = K) := hid (by rw [List.length_take]; omega)
  have hdr : Hid ((text.drop (K - M)).length = text.length - (K - M)) := hid (List.length_drop)
  have hKd : Hid ((K : Int) ≤ (d : Int) ∧ (K : Int) ≤ (text.length : Int)) := hid ⟨by omega, by omega⟩
  go_upto_region 6 with fail
  clear e0 e1
  apply wp_region_each [isv (.agg #[.bool f, .slice P xss.length c]), isv (.int .i64 fr), isv (.slice A text.length d), isv (.int .i64 K), isv (.slice A K d), isTold l1, isTold l1, isHits l1, isv (.int .i64 0), isHits l1, isv (.int .i64 0)]
    121 [some 57, some 58, some 59, some 60, some 61, some 62, some 56, some 63, some 64, some 12, some 13]
    [some 57, some 58, some 59, some 60, some 61, some 62, some 56, some 63, some 64, some 12, some 13]
    [[], [], [], [], [2, 3], [0, 1, 4], [5], [6], [6], [7], [8]]
    [(1, .int .i64 fr), (2, .slice A text.length d), (3, .int .i64 K), (4, .pointer (some ⟨h, 0, none⟩))] (by kernel_rfl) rfl (by kernel_rfl) rfl rfl (by kernel_rfl) (OutsOk.cons rfl rfl (OutsOk.cons rfl rfl (OutsOk.cons rfl rfl (OutsOk.cons rfl rfl OutsOk.nil)))) ?st ?ob ?fin
  case ob =>
    refine Obs.consv rfl ?o0 (Obs.consv rfl ?o1 (Obs.consv rfl ?o2 (Obs.consv rfl ?o3 (Obs.consv rfl ?o4 (Obs.consv rfl ?o5 (Obs.consv rfl ?o6 (Obs.consv rfl ?o7 (Obs.consv rfl ?o8 (Obs.consv rfl ?o9 (Obs.consv rfl ?o10 Obs.nil))))))))))
    case o0 =>
      go_light
      intro ac w' hgw
      have g2 := grown_trans (grown_drew (grown_refl w4 none)) hgw
      have kz := H1.out.kept0 (grown_trans hW.out g2)
      have c0 := (kz.cell 0).trans (show _ = some (Value.bool f) from rfl)
      have c1 := (kz.cell 1).trans (show _ = some (Value.slice P xss.length c) from rfl)
      have hPw := hid (hP.out.grown (grown_trans hG.out g2))
      have hAw := hid (hA.out.grown (grown_trans hG.out g2))
      clear kz g2
      replace hgw := hid hgw
      simp only [outThen, preThen, slotIs, factAt, isv, List.getElem?_cons_zero, List.getElem?_cons_succ, Option.getD_some, forall_eq]
      intros
      rename_i hK
      replace hK := hid hK
      simp only [wantedAt]
      go_simp
      exact hK.out _ _ rfl (grown_refl _ _)
    case o1 =>
      go_light
      intro ac w' hgw
      have g2 := grown_trans (grown_drew (grown_refl w4 none)) hgw
      have kz := H1.out.kept0 (grown_trans hW.out g2)
      have c0 := (kz.cell 0).trans (show _ = some (Value.bool f) from rfl)
      have c1 := (kz.cell 1).trans (show _ = some (Value.slice P xss.length c) from rfl)
      have hPw := hid (hP.out.grown (grown_trans hG.out g2))
      have hAw := hid (hA.out.grown (grown_trans hG.out g2))
      clear kz g2
      replace hgw := hid hgw
      simp only [outThen, preThen, slotIs, factAt, isv, List.getElem?_cons_zero, List.getElem?_cons_succ, Option.getD_some, forall_eq]
      intros
      rename_i hK
      replace hK := hid hK
      simp only [wantedAt]
      go_simp
      exact hK.out _ _ rfl (grown_refl _ _)
    case o2 =>
      go_light
      intro ac w' hgw
      have g2 := grown_trans (grown_drew (grown_refl w4 none)) hgw
      have kz := H1.out.kept0 (grown_trans hW.out g2)
      have c0 := (kz.cell 0).trans (show _ = some (Value.bool f) from rfl)
      have c1 := (kz.cell 1).trans (show _ = some (Value.slice P xss.length c) from rfl)
      have hPw := hid (hP.out.grown (grown_trans hG.out g2))
      have hAw := hid (hA.out.grown (grown_trans hG.out g2))
      clear kz g2
      replace hgw := hid hgw
      simp only [outThen, preThen, slotIs, factAt, isv, List.getElem?_cons_zero, List.getElem?_cons_succ, Option.getD_some, forall_eq]
      intros
      rename_i hK
      replace hK := hid hK
      simp only [wantedAt]
      go_simp
      exact hK.out _ _ rfl (grown_refl _ _)
    case o3 =>
      go_light
      intro ac w' hgw
      have g2 := grown_trans (grown_drew (grown_refl w4 none)) hgw
      have kz := H1.out.kept0 (grown_trans hW.out g2)
      have c0 := (kz.cell 0).trans (show _ = some (Value.bool f) from rfl)
      have c1 := (kz.cell 1).trans (show _ = some (Value.slice P xss.length c) from rfl)
      have hPw := hid (hP.out.grown (grown_trans hG.out g2))
      have hAw := hid (hA.out.grown (grown_trans hG.out g2))
      clear kz g2
      replace hgw := hid hgw
      simp only [outThen, preThen, slotIs, factAt, isv, List.getElem?_cons_zero, List.getElem?_cons_succ, Option.getD_some, forall_eq]
      intros
      rename_i hK
      replace hK := hid hK
      simp only [wantedAt]
      go_simp
      exact hK.out _ _ rfl (grown_refl _ _)
    case o4 =>
      go_light
      intro ac w' hgw
      have g2 := grown_trans (grown_drew (grown_refl w4 none)) hgw
      have kz := H1.out.kept0 (grown_trans hW.out g2)
      have c0 := (kz.cell 0).trans (show _ = some (Value.bool f) from rfl)
      have c1 := (kz.cell 1).trans (show _ = some (Value.slice P xss.length c) from rfl)
      have hPw := hid (hP.out.grown (grown_trans hG.out g2))
      have hAw := hid (hA.out.grown (grown_trans hG.out g2))
      clear kz g2
      replace hgw := hid hgw
      simp only [outThen, preThen, slotIs, factAt, isv, List.getElem?_cons_zero, List.getElem?_cons_succ, Option.getD_some, forall_eq]
      intros
      rename_i hK9
      replace hK9 := hid hK9
      have q1 := hKd.out.1
      have q2 := hKd.out.2
      simp only [wantedAt]
      go_simp
      exact hK9.out _ _ rfl (grown_refl _ _)
    case o5 =>
      go_light
      intro ac w' hgw
      have g2 := grown_trans (grown_drew (grown_refl w4 none)) hgw
      have kz := H1.out.kept0 (grown_trans hW.out g2)
      have c0 := (kz.cell 0).trans (show _ = some (Value.bool f) from rfl)
      have c1 := (kz.cell 1).trans (show _ = some (Value.slice P xss.length c) from rfl)
      have hPw := hid (hP.out.grown (grown_trans hG.out g2))
      have hAw := hid (hA.out.grown (grown_trans hG.out g2))
      clear kz g2
      replace hgw := hid hgw
      simp only [outThen, preThen, slotIs, factAt, isv, List.getElem?_cons_zero, List.getElem?_cons_succ, Option.getD_some, forall_eq]
      intros
      rename_i hK9
      replace hK9 := hid hK9
      simp only [wantedAt]
      go_simp
      have hq := occOcc_is f P A c d (fr) (text.take K) xss w' (by omega) (by omega) hB.out hPw.out (by rw [htk.out]; omega) (by rw [htk.out]; omega) hdm.out (bytes_part1 htb.out _) (hAw.out.take K) (by omega) (by omega)
      rw [htk.out] at hq
      refine hq.mono ?_
      rintro e w9 ⟨v, rfl, hv, hg⟩
      obtain ⟨A9, c9, rfl, h9, _, _⟩ := hv.hits hR.out (by omega) (by omega)
      rw [hl1.out] at h9 ⊢
      exact hK9.out _ _ ⟨A9, c9, rfl, h9⟩ hg
    case o6 =>
      go_light
      intro ac w' hgw
      have g2 := grown_trans (grown_drew (grown_refl w4 none)) hgw
      have kz := H1.out.kept0 (grown_trans hW.out g2)
      have c0 := (kz.cell 0).trans (show _ = some (Value.bool f) from rfl)
      have c1 := (kz.cell 1).trans (show _ = some (Value.slice P xss.length c) from rfl)
      have hPw := hid (hP.out.grown (grown_trans hG.out g2))
      have hAw := hid (hA.out.grown (grown_trans hG.out g2))
      clear kz g2
      replace hgw := hid hgw
      simp only [outThen, preThen, slotIs, factAt, isv, List.getElem?_cons_zero, List.getElem?_cons_succ, Option.getD_some, forall_eq]
      intros
      rename_i v1 h1 hv1 K9 hK9
      replace hK9 := hid hK9
      obtain ⟨A9, c9, rfl, h9⟩ := h1
      replace h9 := hid h9
      simp only [wantedAt]
      go_simp
      exact hK9.out _ _ ⟨_, _, rfl, h9.out⟩ (grown_refl _ _)
    case o7 =>
      go_light
      intro ac w' hgw
      have g2 := grown_trans (grown_drew (grown_refl w4 none)) hgw
      have kz := H1.out.kept0 (grown_trans hW.out g2)
      have c0 := (kz.cell 0).trans (show _ = some (Value.bool f) from rfl)
      have c1 := (kz.cell 1).trans (show _ = some (Value.slice P xss.length c) from rfl)
      have hPw := hid (hP.out.grown (grown_trans hG.out g2))
      have hAw := hid (hA.out.grown (grown_trans hG.out g2))
      clear kz g2
      replace hgw := hid hgw
      simp only [outThen, preThen, slotIs, factAt, isv, List.getElem?_cons_zero, List.getElem?_cons_succ, Option.getD_some, forall_eq]
      intros
      rename_i v1 h1 hv1 K9 hK9
      replace hK9 := hid hK9
      obtain ⟨A9, c9, rfl, h9⟩ := h1
      replace h9 := hid h9
      simp only [wantedAt]
      go_simp
      exact hK9.out _ _ ⟨_, _, rfl, h9.out⟩ (grown_refl _ _)
    case o8 =>
      go_light
      intro ac w' hgw
      have g2 := grown_trans (grown_drew (grown_refl w4 none)) hgw
      have kz := H1.out.kept0 (grown_trans hW.out g2)
      have c0 := (kz.cell 0).trans (show _ = some (Value.bool f) from rfl)
      have c1 := (kz.cell 1).trans (show _ = some (Value.slice P xss.length c) from rfl)
      have hPw := hid (hP.out.grown (grown_trans hG.out g2))
      have hAw := hid (hA.out.grown (grown_trans hG.out g2))
      clear kz g2
      replace hgw := hid hgw
      simp only [outThen, preThen, slotIs, factAt, isv, List.getElem?_cons_zero, List.getElem?_cons_succ, Option.getD_some, forall_eq]
      intros
      rename_i v1 h1 hv1 K9 hK9
      replace hK9 := hid hK9
      obtain ⟨A9, c9, rfl, h9⟩ := h1
      replace h9 := hid h9
      simp only [wantedAt]
      go_simp
      exact hK9.out _ _ rfl (grown_refl _ _)
    case o9 =>
      go_light
      intro ac w' hgw
      have g2 := grown_trans (grown_drew (grown_refl w4 none)) hgw
      have kz := H1.out.kept0 (grown_trans hW.out g2)
      have c0 := (kz.cell 0).trans (show _ = some (Value.bool f) from rfl)
      have c1 := (kz.cell 1).trans (show _ = some (Value.slice P xss.length c) from rfl)
      have hPw := hid (hP.out.grown (grown_trans hG.out g2))
      have hAw := hid (hA.out.grown (grown_trans hG.out g2))
      clear kz g2
      replace hgw := hid hgw
      simp only [outThen, preThen, slotIs, factAt, isv, List.getElem?_cons_zero, List.getElem?_cons_succ, Option.getD_some, forall_eq]
      intros
      rename_i v1 h1 hv1 K9 hK9
      replace hK9 := hid hK9
      obtain ⟨A9, c9, rfl, h9⟩ := h1
      replace h9 := hid h9
      simp only [wantedAt]
      go_simp
      exact hK9.out _ _ ⟨_, _, rfl, h9.out⟩ (grown_refl _ _)
    case o10 =>
      go_light
      intro ac w' hgw
      have g2 := grown_trans (grown_drew (grown_refl w4 none)) hgw
      have kz := H1.out.kept0 (grown_trans hW.out g2)
      have c0 := (kz.cell 0).trans (show _ = some (Value.bool f) from rfl)
      have c1 := (kz.cell 1).trans (show _ = some (Value.slice P xss.length c) from rfl)
      have hPw := hid (hP.out.grown (grown_trans hG.out g2))
      have hAw := hid (hA.out.grown (grown_trans hG.out g2))
      clear kz g2
      replace hgw := hid hgw
      simp only [outThen, preThen, slotIs, factAt, isv, List.getElem?_cons_zero, List.getElem?_cons_succ, Option.getD_some, forall_eq]
      intros
      rename_i hK
      replace hK := hid hK
      simp only [wantedAt]
      go_simp
      exact hK.out _ _ rfl (grown_refl _ _)
  case st =>
    repeat (first | exact AllStable.nil | (refine AllStable.cons ?_ ?_; focus (first | exact stable_isv _ | exact stable_isTold _ | exact stable_isHits _)))
  case fin =>
    intro w5 hgw
    simp only [finalIn, factAt, isv, isHits, isTold, List.getElem?_cons_zero, List.getElem?_cons_succ, Option.getD_some, forall_eq, slotIs, subj]
    rintro v5 ⟨A5, c5, rfl, _⟩ v6 ⟨A6, c6, rfl, _⟩ v7 ⟨A7, c7, rfl, _⟩ v9 ⟨AF, cF, rfl, hHF⟩
    simp only [Act.put, List.setIfInBounds_toArray, List.set_cons_zero, List.set_cons_succ]
    have hg := grown_trans (grown_drew (grown_refl w4 none)) hgw
    replace hHF := hid hHF
    replace hH1 := hid (hH1.out.grown hg)
    replace hG := hid (grown_trans hG.out hg)
    replace hW := hid (grown_trans hW.out hg)
    clear hg hgw
    obtain ⟨E, hE⟩ : ∃ E, K - M = E := ⟨_, rfl⟩
    rw [hE] at hl2 hdr
    have hEK : (K : Int) - (M : Int) = (E : Int) := by omega
    have hEd : Hid ((E : Int) ≤ (text.length : Int) ∧ (text.length : Int) ≤ (d : Int)) := hid ⟨by omega, by omega⟩
    obtain ⟨A2, hA2⟩ : ∃ A2, (if d = E then A else A.map (fun x => x.add E)) = A2 := ⟨_, rfl⟩
    have hdrop := hid (fun (W : World) (hw : Arr W .u8 A text) => (show Arr W .u8 A2 (text.drop E) from hA2 ▸ hw.drop hd))
    replace hA2 := hid hA2
    replace hEK := hid hEK
    go_upto_region 7 with fail
    apply wp_region_each [isv (.agg #[.bool f, .slice P xss.length c]), isv (.int .i64 fr), isv (.int .i64 K), isv (.int .i64 (fr + K)), isv (.int .i64 (M : Nat)), isv (.int .i64 (fr + K - M)), isv (.slice A text.length d), isv (.int .i64 K), isv (.int .i64 (M : Nat)), isv (.int .i64 (E : Nat)), isv (.slice A2 (text.length - E) (d - E)), isTold l2, isTold l2, isHits l2, isv (.int .i64 0), isHits l2, isv (.int .i64 0)]
      121 [some 66, some 67, some 68, some 69, some 70, some 71, some 72, some 73, some 74, some 75, some 76, some 77, some 65, some 78, some 79, some 14, some 15]
      [some 66, some 67, some 68, some 69, some 70, some 71, some 72, some 73, some 74, some 75, some 76, some 77, some 65, some 78, some 79, some 14, some 15]
      [[], [], [], [1, 2], [], [3, 4], [], [], [], [7, 8], [6, 9], [0, 5, 10], [11], [12], [12], [13], [14]]
      [(1, .int .i64 fr), (2, .slice A text.length d), (3, .int .i64 K), (4, .pointer (some ⟨h, 0, none⟩)), (9, .int .i64 (M : Nat))] (by kernel_rfl) rfl (by kernel_rfl) rfl rfl (by kernel_rfl) (OutsOk.cons rfl rfl (OutsOk.cons rfl rfl (OutsOk.cons rfl rfl (OutsOk.cons rfl rfl (OutsOk.cons rfl rfl OutsOk.nil))))) ?st ?ob ?fin
    case ob =>
      refine Obs.consv rfl ?o0 (Obs.consv rfl ?o1 (Obs.consv rfl ?o2 (Obs.consv rfl ?o3 (Obs.consv rfl ?o4 (Obs.consv rfl ?o5 (Obs.consv rfl ?o6 (Obs.consv rfl ?o7 (Obs.consv rfl ?o8 (Obs.consv rfl ?o9 (Obs.consv rfl ?o10 (Obs.consv rfl ?o11 (Obs.consv rfl ?o12 (Obs.consv rfl ?o13 (Obs.consv rfl ?o14 (Obs.consv rfl ?o15 (Obs.consv rfl ?o16 Obs.nil))))))))))))))))
      case o0 =>
        go_light
        intro ac w' hgw
        have g2 := grown_trans (grown_drew (grown_refl w5 none)) hgw
        have kz := H1.out.kept0 (grown_trans hW.out g2)
        have c0 := (kz.cell 0).trans (show _ = some (Value.bool f) from rfl)
        have c1 := (kz.cell 1).trans (show _ = some (Value.slice P xss.length c) from rfl)
        have hPw := hid (hP.out.grown (grown_trans hG.out g2))
        have hAw := hid (hA.out.grown (grown_trans hG.out g2))
        clear kz g2
        replace hgw := hid hgw
        simp only [outThen, preThen, slotIs, factAt, isv, List.getElem?_cons_zero, List.getElem?_cons_succ, Option.getD_some, forall_eq]
        intros
        rename_i hK
        replace hK := hid hK
        simp only [wantedAt]
        go_simp
        exact hK.out _ _ rfl (grown_refl _ _)
      case o1 =>
        go_light
        intro ac w' hgw
        have g2 := grown_trans (grown_drew (grown_refl w5 none)) hgw
        have kz := H1.out.kept0 (grown_trans hW.out g2)
        have c0 := (kz.cell 0).trans (show _ = some (Value.bool f) from rfl)
        have c1 := (kz.cell 1).trans (show _ = some (Value.slice P xss.length c) from rfl)
        have hPw := hid (hP.out.grown (grown_trans hG.out g2))
        have hAw := hid (hA.out.grown (grown_trans hG.out g2))
        clear kz g2
        replace hgw := hid hgw
        simp only [outThen, preThen, slotIs, factAt, isv, List.getElem?_cons_zero, List.getElem?_cons_succ, Option.getD_some, forall_eq]
        intros
        rename_i hK
        replace hK := hid hK
        simp only [wantedAt]
        go_simp
        exact hK.out _ _ rfl (grown_refl _ _)
      case o2 =>
        go_light
        intro ac w' hgw
        have g2 := grown_trans (grown_drew (grown_refl w5 none)) hgw
        have kz := H1.out.kept0 (grown_trans hW.out g2)
        have c0 := (kz.cell 0).trans (show _ = some (Value.bool f) from rfl)
        have c1 := (kz.cell 1).trans (show _ = some (Value.slice P xss.length c) from rfl)
        have hPw := hid (hP.out.grown (grown_trans hG.out g2))
        have hAw := hid (hA.out.grown (grown_trans hG.out g2))
        clear kz g2
        replace hgw := hid hgw
        simp only [outThen, preThen, slotIs, factAt, isv, List.getElem?_cons_zero, List.getElem?_cons_succ, Option.getD_some, forall_eq]
        intros
        rename_i hK
        replace hK := hid hK
        simp only [wantedAt]
        go_simp
        exact hK.out _ _ rfl (grown_refl _ _)
      case o3 =>
        go_light
        intro ac w' hgw
        have g2 := grown_trans (grown_drew (grown_refl w5 none)) hgw
        have kz := H1.out.kept0 (grown_trans hW.out g2)
        have c0 := (kz.cell 0).trans (show _ = some (Value.bool f) from rfl)
        have c1 := (kz.cell 1).trans (show _ = some (Value.slice P xss.length c) from rfl)
        have hPw := hid (hP.out.grown (grown_trans hG.out g2))
        have hAw := hid (hA.out.grown (grown_trans hG.out g2))
        clear kz g2
        replace hgw := hid hgw
        simp only [outThen, preThen, slotIs, factAt, isv, List.getElem?_cons_zero, List.getElem?_cons_succ, Option.getD_some, forall_eq]
        intros
        rename_i hK9
        replace hK9 := hid hK9
        have q5 := hEK.out
        simp only [wantedAt]
        go_simp
        exact hK9.out _ _ (by first | rfl | exact congrArg (Value.int .i64) (IntWalk.i64_in _ ⟨by omega, by omega⟩) | exact congrArg (Value.int .i64) (by omega) | exact congrArg (Value.int .i64) ((IntWalk.i64_in _ ⟨by omega, by omega⟩).trans (by omega))) (grown_refl _ _)
      case o4 =>
        go_light
        intro ac w' hgw
        have g2 := grown_trans (grown_drew (grown_refl w5 none)) hgw
        have kz := H1.out.kept0 (grown_trans hW.out g2)
        have c0 := (kz.cell 0).trans (show _ = some (Value.bool f) from rfl)
        have c1 := (kz.cell 1).trans (show _ = some (Value.slice P xss.length c) from rfl)
        have hPw := hid (hP.out.grown (grown_trans hG.out g2))
        have hAw := hid (hA.out.grown (grown_trans hG.out g2))
        clear kz g2
        replace hgw := hid hgw
        simp only [outThen, preThen, slotIs, factAt, isv, List.getElem?_cons_zero, List.getElem?_cons_succ, Option.getD_some, forall_eq]
        intros
        rename_i hK
        replace hK := hid hK
        simp only [wantedAt]
        go_simp
        exact hK.out _ _ rfl (grown_refl _ _)
      case o5 =>
        go_light
        intro ac w' hgw
        have g2 := grown_trans (grown_drew (grown_refl w5 none)) hgw
        have kz := H1.out.kept0 (grown_trans hW.out g2)
        have c0 := (kz.cell 0).trans (show _ = some (Value.bool f) from rfl)
        have c1 := (kz.cell 1).trans (show _ = some (Value.slice P xss.length c) from rfl)
        have hPw := hid (hP.out.grown (grown_trans hG.out g2))
        have hAw := hid (hA.out.grown (grown_trans hG.out g2))
        clear kz g2
        replace hgw := hid hgw
        simp only [outThen, preThen, slotIs, factAt, isv, List.getElem?_cons_zero, List.getElem?_cons_succ, Option.getD_some, forall_eq]
        intros
        rename_i hK9
        replace hK9 := hid hK9
        have q5 := hEK.out
        simp only [wantedAt]
        go_simp
        exact hK9.out _ _ (by first | rfl | exact congrArg (Value.int .i64) (IntWalk.i64_in _ ⟨by omega, by omega⟩) | exact congrArg (Value.int .i64) (by omega) | exact congrArg (Value.int .i64) ((IntWalk.i64_in _ ⟨by omega, by omega⟩).trans (by omega))) (grown_refl _ _)
      case o6 =>
        go_light
        intro ac w' hgw
        have g2 := grown_trans (grown_drew (grown_refl w5 none)) hgw
        have kz := H1.out.kept0 (grown_trans hW.out g2)
        have c0 := (kz.cell 0).trans (show _ = some (Value.bool f) from rfl)
        have c1 := (kz.cell 1).trans (show _ = some (Value.slice P xss.length c) from rfl)
        have hPw := hid (hP.out.grown (grown_trans hG.out g2))
        have hAw := hid (hA.out.grown (grown_trans hG.out g2))
        clear kz g2
        replace hgw := hid hgw
        simp only [outThen, preThen, slotIs, factAt, isv, List.getElem?_cons_zero, List.getElem?_cons_succ, Option.getD_some, forall_eq]
        intros
        rename_i hK
        replace hK := hid hK
        simp only [wantedAt]
        go_simp
        exact hK.out _ _ rfl (grown_refl _ _)
      case o7 =>
        go_light
        intro ac w' hgw
        have g2 := grown_trans (grown_drew (grown_refl w5 none)) hgw
        have kz := H1.out.kept0 (grown_trans hW.out g2)
        have c0 := (kz.cell 0).trans (show _ = some (Value.bool f) from rfl)
        have c1 := (kz.cell 1).trans (show _ = some (Value.slice P xss.length c) from rfl)
        have hPw := hid (hP.out.grown (grown_trans hG.out g2))
        have hAw := hid (hA.out.grown (grown_trans hG.out g2))
        clear kz g2
        replace hgw := hid hgw
        simp only [outThen, preThen, slotIs, factAt, isv, List.getElem?_cons_zero, List.getElem?_cons_succ, Option.getD_some, forall_eq]
        intros
        rename_i hK
        replace hK := hid hK
        simp only [wantedAt]
        go_simp
        exact hK.out _ _ rfl (grown_refl _ _)
      case o8 =>
        go_light
        intro ac w' hgw
        have g2 := grown_trans (grown_drew (grown_refl w5 none)) hgw
        have kz := H1.out.kept0 (grown_trans hW.out g2)
        have c0 := (kz.cell 0).trans (show _ = some (Value.bool f) from rfl)
        have c1 := (kz.cell 1).trans (show _ = some (Value.slice P xss.length c) from rfl)
        have hPw := hid (hP.out.grown (grown_trans hG.out g2))
        have hAw := hid (hA.out.grown (grown_trans hG.out g2))
        clear kz g2
        replace hgw := hid hgw
        simp only [outThen, preThen, slotIs, factAt, isv, List.getElem?_cons_zero, List.getElem?_cons_succ, Option.getD_some, forall_eq]
        intros
        rename_i hK
        replace hK := hid hK
        simp only [wantedAt]
        go_simp
        exact hK.out _ _ rfl (grown_refl _ _)
      case o9 =>
        go_light
        intro ac w' hgw
        have g2 := grown_trans (grown_drew (grown_refl w5 none)) hgw
        have kz := H1.out.kept0 (grown_trans hW.out g2)
        have c0 := (kz.cell 0).trans (show _ = some (Value.bool f) from rfl)
        have c1 := (kz.cell 1).trans (show _ = some (Value.slice P xss.length c) from rfl)
        have hPw := hid (hP.out.grown (grown_trans hG.out g2))
        have hAw := hid (hA.out.grown (grown_trans hG.out g2))
        clear kz g2
        replace hgw := hid hgw
        simp only [outThen, preThen, slotIs, factAt, isv, List.getElem?_cons_zero, List.getElem?_cons_succ, Option.getD_some, forall_eq]
        intros
        rename_i hK9
        replace hK9 := hid hK9
        have q5 := hEK.out
        simp only [wantedAt]
        go_simp
        exact hK9.out _ _ (by first | rfl | exact congrArg (Value.int .i64) (IntWalk.i64_in _ ⟨by omega, by omega⟩) | exact congrArg (Value.int .i64) (by omega) | exact congrArg (Value.int .i64) ((IntWalk.i64_in _ ⟨by omega, by omega⟩).trans (by omega))) (grown_refl _ _)
      case o10 =>
        go_light
        intro ac w' hgw
        have g2 := grown_trans (grown_drew (grown_refl w5 none)) hgw
        have kz := H1.out.kept0 (grown_trans hW.out g2)
        have c0 := (kz.cell 0).trans (show _ = some (Value.bool f) from rfl)
        have c1 := (kz.cell 1).trans (show _ = some (Value.slice P xss.length c) from rfl)
        have hPw := hid (hP.out.grown (grown_trans hG.out g2))
        have hAw := hid (hA.out.grown (grown_trans hG.out g2))
        clear kz g2
        replace hgw := hid hgw
        simp only [outThen, preThen, slotIs, factAt, isv, List.getElem?_cons_zero, List.getElem?_cons_succ, Option.getD_some, forall_eq]
        intros
        rename_i hK9
        replace hK9 := hid hK9
        have q3 := hEd.out.1
        have q4 := hEd.out.2
        simp only [wantedAt]
        go_simp
        exact hK9.out _ _ (congrArg (fun q => Value.slice q (text.length - E) (d - E)) hA2.out) (grown_refl _ _)
      case o11 =>
        go_light
        intro ac w' hgw
        have g2 := grown_trans (grown_drew (grown_refl w5 none)) hgw
        have kz := H1.out.kept0 (grown_trans hW.out g2)
        have c0 := (kz.cell 0).trans (show _ = some (Value.bool f) from rfl)
        have c1 := (kz.cell 1).trans (show _ = some (Value.slice P xss.length c) from rfl)
        have hPw := hid (hP.out.grown (grown_trans hG.out g2))
        have hAw := hid (hA.out.grown (grown_trans hG.out g2))
        clear kz g2
        replace hgw := hid hgw
        simp only [outThen, preThen, slotIs, factAt, isv, List.getElem?_cons_zero, List.getElem?_cons_succ, Option.getD_some, forall_eq]
        intros
        rename_i hK9
        have q6 := hEK.out
        replace hK9 := hid hK9
        simp only [wantedAt]
        go_simp
        have hq := occOcc_is f P A2 c (d - E) (fr + K - M) (text.drop E) xss w' (by omega) (by omega) hB.out hPw.out (by rw [hdr.out]; omega) (by rw [hdr.out]; omega) (by have := hdm.out; omega) (bytes_part2 htb.out _) (hdrop.out _ hAw.out) (by omega) (by omega)
        rw [hdr.out] at hq
        refine hq.mono ?_
        rintro e w9 ⟨v, rfl, hv, hg⟩
        obtain ⟨A9, c9, rfl, h9, _, _⟩ := hv.hits hR.out (by omega) (by omega)
        rw [hl2.out] at h9 ⊢
        exact hK9.out _ _ ⟨A9, c9, rfl, h9⟩ hg
      case o12 =>
        go_light
        intro ac w' hgw
        have g2 := grown_trans (grown_drew (grown_refl w5 none)) hgw
        have kz := H1.out.kept0 (grown_trans hW.out g2)
        have c0 := (kz.cell 0).trans (show _ = some (Value.bool f) from rfl)
        have c1 := (kz.cell 1).trans (show _ = some (Value.slice P xss.length c) from rfl)
        have hPw := hid (hP.out.grown (grown_trans hG.out g2))
        have hAw := hid (hA.out.grown (grown_trans hG.out g2))
        clear kz g2
        replace hgw := hid hgw
        simp only [outThen, preThen, slotIs, factAt, isv, List.getElem?_cons_zero, List.getElem?_cons_succ, Option.getD_some, forall_eq]
        intros
        rename_i v1 h1 hv1 K9 hK9
        replace hK9 := hid hK9
        obtain ⟨A9, c9, rfl, h9⟩ := h1
        replace h9 := hid h9
        simp only [wantedAt]
        go_simp
        exact hK9.out _ _ ⟨_, _, rfl, h9.out⟩ (grown_refl _ _)
      case o13 =>
        go_light
        intro ac w' hgw
        have g2 := grown_trans (grown_drew (grown_refl w5 none)) hgw
        have kz := H1.out.kept0 (grown_trans hW.out g2)
        have c0 := (kz.cell 0).trans (show _ = some (Value.bool f) from rfl)
        have c1 := (kz.cell 1).trans (show _ = some (Value.slice P xss.length c) from rfl)
        have hPw := hid (hP.out.grown (grown_trans hG.out g2))
        have hAw := hid (hA.out.grown (grown_trans hG.out g2))
        clear kz g2
        replace hgw := hid hgw
        simp only [outThen, preThen, slotIs, factAt, isv, List.getElem?_cons_zero, List.getElem?_cons_succ, Option.getD_some, forall_eq]
        intros
        rename_i v1 h1 hv1 K9 hK9
        replace hK9 := hid hK9
        obtain ⟨A9, c9, rfl, h9⟩ := h1
        replace h9 := hid h9
        simp only [wantedAt]
        go_simp
        exact hK9.out _ _ ⟨_, _, rfl, h9.out⟩ (grown_refl _ _)
      case o14 =>
        go_light
        intro ac w' hgw
        have g2 := grown_trans (grown_drew (grown_refl w5 none)) hgw
        have kz := H1.out.kept0 (grown_trans hW.out g2)
        have c0 := (kz.cell 0).trans (show _ = some (Value.bool f) from rfl)
        have c1 := (kz.cell 1).trans (show _ = some (Value.slice P xss.length c) from rfl)
        have hPw := hid (hP.out.grown (grown_trans hG.out g2))
        have hAw := hid (hA.out.grown (grown_trans hG.out g2))
        clear kz g2
        replace hgw := hid hgw
        simp only [outThen, preThen, slotIs, factAt, isv, List.getElem?_cons_zero, List.getElem?_cons_succ, Option.getD_some, forall_eq]
        intros
        rename_i v1 h1 hv1 K9 hK9
        replace hK9 := hid hK9
        obtain ⟨A9, c9, rfl, h9⟩ := h1
        replace h9 := hid h9
        simp only [wantedAt]
        go_simp
        exact hK9.out _ _ rfl (grown_refl _ _)
      case o15 =>
        go_light
        intro ac w' hgw
        have g2 := grown_trans (grown_drew (grown_refl w5 none)) hgw
        have kz := H1.out.kept0 (grown_trans hW.out g2)
        have c0 := (kz.cell 0).trans (show _ = some (Value.bool f) from rfl)
        have c1 := (kz.cell 1).trans (show _ = some (Value.slice P xss.length c) from rfl)
        have hPw := hid (hP.out.grown (grown_trans hG.out g2))
        have hAw := hid (hA.out.grown (grown_trans hG.out g2))
        clear kz g2
        replace hgw := hid hgw
        simp only [outThen, preThen, slotIs, factAt, isv, List.getElem?_cons_zero, List.getElem?_cons_succ, Option.getD_some, forall_eq]
        intros
        rename_i v1 h1 hv1 K9 hK9
        replace hK9 := hid hK9
        obtain ⟨A9, c9, rfl, h9⟩ := h1
        replace h9 := hid h9
        simp only [wantedAt]
        go_simp
        exact hK9.out _ _ ⟨_, _, rfl, h9.out⟩ (grown_refl _ _)
      case o16 =>
        go_light
        intro ac w' hgw
        have g2 := grown_trans (grown_drew (grown_refl w5 none)) hgw
        have kz := H1.out.kept0 (grown_trans hW.out g2)
        have c0 := (kz.cell 0).trans (show _ = some (Value.bool f) from rfl)
        have c1 := (kz.cell 1).trans (show _ = some (Value.slice P xss.length c) from rfl)
        have hPw := hid (hP.out.grown (grown_trans hG.out g2))
        have hAw := hid (hA.out.grown (grown_trans hG.out g2))
        clear kz g2
        replace hgw := hid hgw
        simp only [outThen, preThen, slotIs, factAt, isv, List.getElem?_cons_zero, List.getElem?_cons_succ, Option.getD_some, forall_eq]
        intros
        rename_i hK
        replace hK := hid hK
        simp only [wantedAt]
        go_simp
        exact hK.out _ _ rfl (grown_refl _ _)
    case st =>
      repeat (first | exact AllStable.nil | (refine AllStable.cons ?_ ?_; focus (first | exact stable_isv _ | exact stable_isTold _ | exact stable_isHits _)))
    case fin =>
      intro w6 hgw
      simp only [finalIn, factAt, isv, isHits, isTold, List.getElem?_cons_zero, List.getElem?_cons_succ, Option.getD_some, forall_eq, slotIs, subj]
      rintro v11 ⟨A11, c11, rfl, _⟩ v12 ⟨A12, c12, rfl, _⟩ v13 ⟨A13, c13, rfl, _⟩ v15 ⟨AG, cG, rfl, hHG⟩
      simp only [Act.put, List.setIfInBounds_toArray, List.set_cons_zero, List.set_cons_succ]
      have hg := grown_trans (grown_drew (grown_refl w5 none)) hgw
      replace hHG := hid hHG
      replace hHF := hid (hHF.out.grown hg)
      replace hH1 := hid (hH1.out.grown hg)
      replace hG := hid (grown_trans hG.out hg)
      clear hg hgw
      go_wp2_with fail
      refine (occBetween_is (fr + K) (fr + text.length) AG cG l2 _ (by omega) hHG.out).mono ?_
      rintro e w7 ⟨v, rfl, hv, hg⟩
      obtain ⟨AB, cB, rfl, hHB, _, _⟩ := hv.form
      have hbl := between_len (fr + K) (fr + text.length) l2
      generalize between (fr + K) (fr + text.length) l2 = lb at hHB hprt hbl ⊢
      replace hHF := hid (hHF.out.grown hg)
      replace hH1 := hid (hH1.out.grown hg)
      replace hG := hid (grown_trans hG.out hg)
      have hrow := hid (hitRows_two w7 AF AB cF cB l1 lb hHF.out hHB)
      have hg2 := grown_alloc (grown_refl w7 none) (.cells #[.slice AF l1.length cF, .slice AB lb.length cB] 28)
      replace hHF := hid (hHF.out.grown hg2)
      replace hH1 := hid (hH1.out.grown hg2)
      replace hG := hid (grown_trans hG.out hg2)
      clear hv hg hg2 hHB
      go_wp2_with fail
      have hfl : [l1, lb].flatten = l1 ++ lb := by simp
      refine (occJoin_is _ 2 [l1, lb] _ (by simp) (by rw [hfl, List.length_append]; omega) hrow.out).mono ?_
      rintro e w8 ⟨v, rfl, hv, hg⟩
      rw [hfl] at hv
      obtain ⟨lj, hlj⟩ : ∃ lj, l1 ++ lb = lj := ⟨_, rfl⟩
      rw [hlj] at hv
      obtain ⟨AJ, cJ, rfl, hHJ, _, _⟩ := hv.form
      have e0' : decide (l0 = lj) = true := decide_eq_true (hprt.out.trans hlj)
      replace hlj := hid hlj
      replace hHF := hid (hHF.out.grown hg)
      replace hH1 := hid (hH1.out.grown hg)
      replace hG := hid (grown_trans hG.out hg)
      replace hHJ := hid hHJ
      clear hv hg hrow
      go_wp2_with fail
      refine (refHitsSame_is A1 AJ c1 cJ l0 lj _ (by omega) hH1.out hHJ.out).mono ?_
      rintro e w9 ⟨rfl, hg⟩
      rw [e0']
      replace hHF := hid (hHF.out.grown hg)
      replace hH1 := hid (hH1.out.grown hg)
      replace hG := hid (grown_trans hG.out hg)
      clear hg e0' hHJ
      go_wp2_with fail
      refine (occBetween_is (fr - 1) (fr + K) A1 c1 l0 _ (by omega) hH1.out).mono ?_
      rintro e w10 ⟨v, rfl, hv, hg⟩
      rw [← hfst.out] at hv
      obtain ⟨AZ, cZ, rfl, hHZ, _, _⟩ := hv.form
      replace hHF := hid (hHF.out.grown hg)
      replace hG := hid (grown_trans hG.out hg)
      replace hHZ := hid hHZ
      clear hv hg
      go_wp2_with fail
      refine (refHitsSame_is AF AZ cF cZ l1 l1 _ (by omega) hHF.out hHZ.out).mono ?_
      rintro e w11 ⟨rfl, hg⟩
      rw [show decide (l1 = l1) = true by simp]
      replace hG := hid (grown_trans hG.out hg)
      clear hg
      go_wp2_with fail
      refine (owakes_true _).mono ?_
      rintro e w12 ⟨rfl, hg⟩
      replace hG := hid (grown_trans hG.out hg)
      clear hg
      go_wp2_with fail
      go_ret
      exact ⟨rfl, hG.out⟩
end Go.Proofs.Ytmahiodejhakpaa
