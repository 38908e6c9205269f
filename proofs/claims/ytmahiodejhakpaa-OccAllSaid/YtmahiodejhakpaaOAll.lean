/- The law OccAll: all hits that are told rise and stand in the text; each word that stands anywhere is among them, once. -/
import Derived.Test.YtmahiodejhakpaaOMore
import Derived.Test.YtmahiodejhakpaaK12
import Derived.Test.YtmahiodejhakpaaLRefAt
set_option linter.unusedVariables false
set_option linter.unusedSimpArgs false
set_option maxRecDepth 100000
namespace Go.Proofs.Ytmahiodejhakpaa
open Go.RowKit PlainLetter PlainPatset PlainOcc

theorem hits_stand {f : Bool} {xss : List (List Int)} {text : List Int} {fr : Int} (h : right f xss = true) (k : Nat) (hk : k < (occ f xss text fr).length) : standsHit f xss text fr ((occ f xss text fr).getD k (0, 0)) = true ∧ fr ≤ ((occ f xss text fr).getD k (0, 0)).1 ∧ ((occ f xss text fr).getD k (0, 0)).1 ≤ fr + text.length := by
  have hm : (occ f xss text fr).getD k (0, 0) ∈ occ f xss text fr := by simp [List.getD, hk]
  obtain ⟨place, q, h1, h2, h3, h4⟩ := (occ_mem f xss text fr _).1 hm
  rw [h3]
  refine ⟨?_, ?_, ?_⟩
  · rw [standsHit_at f xss text fr place q h2 h1 (right_full h q h2)]; exact h4
  · show fr ≤ fr + (place : Int); omega
  · show fr + (place : Int) ≤ fr + text.length; omega

set_option maxHeartbeats 16000000 in
theorem oall_walk (f : Bool) (P A : Option Addr) (c d : Nat) (fr : Int) (xss : List (List Int)) (text : List Int) (w : World) (hB : ∀ i, Bytes (xss.getD i [])) (hP : Arrs w P xss) (hA : Arr w .u8 A text) (htb : Bytes text) (hl : xss.length ≤ 9223372036854775807)
    (hd : text.length ≤ d) (hdm : d ≤ maxLen) (hf0 : -9223372036854775808 ≤ fr) (hf1 : fr ≤ 9223372036854775807) :
    Calls Try.prog 3 #[.agg #[.bool f, .slice P xss.length c], .int .i64 fr, .slice A text.length d] w fun e w' => e = .returned (.bool true) ∧ w.grownBy w' none := by
  replace hdm := hid hdm
  replace hB := hid hB
  replace htb := hid htb
  replace hP := hid hP
  replace hA := hid hA
  have H1 : Holds (w.alloc (.cells #[.bool f, .slice P xss.length c] 24)) w.heap.size 24 #[.bool f, .slice P xss.length c] := Holds.new _ _ _
  have hG : Hid (w.grownBy (w.alloc (.cells #[.bool f, .slice P xss.length c] 24)) none) := grown_alloc (grown_refl w none) _
  go_enter Try.func3, Try.ntmps3
  go_upto_region 1 with fail
  obtain ⟨W0, hW0⟩ : ∃ W0, w.alloc (.cells #[.bool f, .slice P xss.length c] 24) = W0 := ⟨_, rfl⟩
  rw [hW0] at H1 hG ⊢
  clear hW0
  obtain ⟨h, hh⟩ : ∃ h, w.heap.size = h := ⟨_, rfl⟩
  rw [hh] at H1 ⊢
  replace hh := hid hh
  replace H1 := hid H1
  have hW : Hid (W0.grownBy W0 none) := grown_refl _ _
  have e0 := ((H1.out.kept0 hW.out).cell 0).trans (show _ = some (Value.bool f) from rfl)
  have e1 := ((H1.out.kept0 hW.out).cell 1).trans (show _ = some (Value.slice P xss.length c) from rfl)
  go_wp2_with fail
  refine (refSetGreat_is f P c xss _ (hP.out.grown hG.out) hl).mono ?_
  rintro e w1 ⟨rfl | ⟨rfl, h80, h3000⟩, hg⟩
  · replace hG := hid (grown_trans hG.out hg)
    clear hg
    go_wp2_with fail
    refine (owakes_true _).mono ?_
    rintro e w9 ⟨rfl, hg⟩
    have hGf := hid (grown_trans hG.out hg)
    clear hg
    go_wp2_with fail
    go_ret
    exact ⟨rfl, hGf.out⟩
  replace hG := hid (grown_trans hG.out hg)
  replace hW := hid (grown_trans hW.out hg)
  clear hg e0 e1
  have e0 := ((H1.out.kept0 hW.out).cell 0).trans (show _ = some (Value.bool f) from rfl)
  have e1 := ((H1.out.kept0 hW.out).cell 1).trans (show _ = some (Value.slice P xss.length c) from rfl)
  go_wp2_with fail
  refine (refRight_is f P c xss _ (by omega) (by omega) hB.out (hP.out.grown hG.out)).mono ?_
  rintro e w2 ⟨rfl, hg⟩
  replace hG := hid (grown_trans hG.out hg)
  replace hW := hid (grown_trans hW.out hg)
  clear hg e0 e1
  have e0 := ((H1.out.kept0 hW.out).cell 0).trans (show _ = some (Value.bool f) from rfl)
  have e1 := ((H1.out.kept0 hW.out).cell 1).trans (show _ = some (Value.slice P xss.length c) from rfl)
  cases hR : right f xss with
  | false =>
    go_wp2_with fail
    refine (owakes_true _).mono ?_
    rintro e w9 ⟨rfl, hg⟩
    have hGf := hid (grown_trans hG.out hg)
    clear hg
    go_wp2_with fail
    go_ret
    exact ⟨rfl, hGf.out⟩
  | true =>
  replace hR := hid hR
  by_cases hfr0 : fr < 0
  · skip
    go_wp2_with fail
    refine (owakes_true _).mono ?_
    rintro e w9 ⟨rfl, hg⟩
    have hGf := hid (grown_trans hG.out hg)
    clear hg
    go_wp2_with fail
    go_ret
    exact ⟨rfl, hGf.out⟩
  by_cases hfr1 : 4611686018427387904 < fr
  · have hfr0' : ¬ fr < 0 := hfr0
    go_wp2_with fail
    refine (owakes_true _).mono ?_
    rintro e w9 ⟨rfl, hg⟩
    have hGf := hid (grown_trans hG.out hg)
    clear hg
    go_wp2_with fail
    go_ret
    exact ⟨rfl, hGf.out⟩
  by_cases ht120 : 120 < text.length
  · have ht' : (120 : Int) < (text.length : Int) := by omega
    go_wp2_with fail
    refine (owakes_true _).mono ?_
    rintro e w9 ⟨rfl, hg⟩
    have hGf := hid (grown_trans hG.out hg)
    clear hg
    go_wp2_with fail
    go_ret
    exact ⟨rfl, hGf.out⟩
  have ht' : ¬ (120 : Int) < (text.length : Int) := by omega
  go_wp2_with fail
  refine (occOcc_is f P A c d fr text xss _ (by omega) (by omega) hB.out (hP.out.grown hG.out) (by omega) hd hdm.out htb.out (hA.out.grown hG.out) hf0 hf1).mono ?_
  rintro e w4 ⟨v, rfl, hv, hg⟩
  obtain ⟨A1, c1, rfl, hH1, _, _⟩ := hv.hits hR.out (by omega) (by omega)
  have hfew := occ_fewer f xss text fr h80 (by omega)
  have hris : rise xss (occ f xss text fr) = true := (rise_iff xss _).2 (occ_sorted f xss text fr)
  have hlen := hid (occ_len f xss text fr)
  have hstd := hid (fun k hk => hits_stand (f := f) (xss := xss) (text := text) (fr := fr) hR.out k hk)
  generalize occ f xss text fr = l0 at hH1 hfew hris hlen hstd ⊢
  clear hv
  replace hH1 := hid (hH1)
  replace hG := hid (grown_trans hG.out hg)
  replace hW := hid (grown_trans hW.out hg)
  clear hg e0 e1
  have e0 := ((H1.out.kept0 hW.out).cell 0).trans (show _ = some (Value.bool f) from rfl)
  have e1 := ((H1.out.kept0 hW.out).cell 1).trans (show _ = some (Value.slice P xss.length c) from rfl)
  go_wp2_with fail
  refine (occRise_is f P A1 c c1 xss l0 _ (by omega) (hP.out.grown hG.out) hH1.out).mono ?_
  rintro e w5 ⟨rfl, hg⟩
  rw [hris]
  replace hH1 := hid (hH1.out.grown hg)
  replace hG := hid (grown_trans hG.out hg)
  replace hW := hid (grown_trans hW.out hg)
  clear hg e0 e1
  have e0 := ((H1.out.kept0 hW.out).cell 0).trans (show _ = some (Value.bool f) from rfl)
  have e1 := ((H1.out.kept0 hW.out).cell 1).trans (show _ = some (Value.slice P xss.length c) from rfl)
  clear hris
  go_wp2_with fail
  clear e0 e1
  go_loopw [9] (fun i wr => ∃ k : Nat, k ≤ l0.length ∧ i = .int .i64 (k : Nat) ∧ w5.grownBy wr none) (fun i _ => l0.length - (intOf i).toNat)
  case atStart => exact ⟨0, Nat.zero_le _, rfl, grown_refl _ _⟩
  case round =>
    obtain ⟨k, hk, rfl, hr4⟩ := hrel
    by_cases hlt : k < l0.length
    · obtain ⟨b1, o1, rfl, hb1, hcells⟩ := hH1.out.at_ hlt
      have hb1 : Hid (b1 < wr.heap.size) := hid (Nat.lt_of_lt_of_le hb1 hr4.size)
      have hcc := hcells k hlt
      have hcc := hid ((show _ ∧ _ from ⟨((gcell hr4).1 b1 _ (by assumption)).trans hcc.1, ((gcell hr4).1 b1 _ (by assumption)).trans hcc.2⟩))
      have hst := hstd.out k hlt
      generalize l0.getD k (0, 0) = mm at hcc hst
      obtain ⟨m1, m2⟩ := mm
      have hm1 : Hid (-9223372036854775808 ≤ m1 ∧ m1 ≤ 9223372036854775807) := hid ⟨by have := hst.2.1; simp only at this; omega, by have := hst.2.2; simp only at this; omega⟩
      have hst : Hid ((right f xss && decide (0 ≤ fr ∧ fr ≤ 4611686018427387904) && standsHit f xss text fr (m1, m2)) = true) := hid (by rw [hR.out, hst.1, decide_eq_true ⟨by omega, by omega⟩]; rfl)
      have hkk : Hid ((0 : Int) ≤ (k : Int) ∧ (k : Int) < (l0.length : Int)) := hid ⟨by omega, by omega⟩
      have hGr := hid (grown_trans hG.out hr4)
      have hWr := hid (grown_trans hW.out hr4)
      replace hr4 := hid hr4
      clear hcells
      have q0 : (k : Int) < (l0.length : Int) := by omega
      go_upto_region 9 with fail
      apply wp_region_each [isv (.agg #[.bool f, .slice P xss.length c]), isv (.int .i64 fr), isv (.slice A text.length d), isv (.slice (some ⟨b1, o1, none⟩) l0.length c1), isv (.int .i64 (k : Nat)), isv (.pointer (some ⟨b1, o1 + k * 2, none⟩)), isv (.agg #[.int .i64 m1, .int .i64 m2]), isv (.bool true), isv (.bool false)]
        109 [some 56, some 57, some 58, some 59, some 60, some 61, some 62, some 63, some 64]
        [some 56, some 57, some 58, some 59, some 60, some 61, some 62, some 63, some 64]
        [[], [], [], [], [], [3, 4], [5], [0, 1, 2, 6], [7]]
        [(1, .int .i64 fr), (2, .slice A text.length d), (3, .pointer (some ⟨h, 0, none⟩)), (7, .slice (some ⟨b1, o1, none⟩) l0.length c1), (9, .int .i64 (k : Nat))] (by kernel_rfl) rfl (by kernel_rfl) rfl rfl (by kernel_rfl) (OutsOk.cons rfl rfl (OutsOk.cons rfl rfl (OutsOk.cons rfl rfl (OutsOk.cons rfl rfl (OutsOk.cons rfl rfl OutsOk.nil))))) ?st ?ob ?fin
      case ob =>
        refine Obs.consv rfl ?o0 (Obs.consv rfl ?o1 (Obs.consv rfl ?o2 (Obs.consv rfl ?o3 (Obs.consv rfl ?o4 (Obs.consv rfl ?o5 (Obs.consv rfl ?o6 (Obs.consv rfl ?o7 (Obs.consv rfl ?o8 Obs.nil))))))))
        case o0 =>
          go_light
          intro ac w' hgw
          have g2 := grown_trans (grown_drew (grown_refl wr none)) hgw
          have kz := H1.out.kept0 (grown_trans hWr.out g2)
          have c0 := (kz.cell 0).trans (show _ = some (Value.bool f) from rfl)
          have c1 := (kz.cell 1).trans (show _ = some (Value.slice P xss.length c) from rfl)
          have hPw := hid (hP.out.grown (grown_trans hGr.out g2))
          have hAw := hid (hA.out.grown (grown_trans hGr.out g2))
          have x0 := ((gcell g2).1 b1 (o1 + k * 2) hb1.out).trans hcc.out.1
          have x1 := ((gcell g2).1 b1 (o1 + k * 2 + 1) hb1.out).trans hcc.out.2
          clear kz g2
          replace hgw := hid hgw
          simp only [outThen, preThen, slotIs, factAt, isv, List.getElem?_cons_zero, List.getElem?_cons_succ, Option.getD_some, forall_eq]
          intros
          rename_i hK
          replace hK := hid hK
          simp only [wantedAt]
          go_simp
          exact hK.out _ _ rfl (grown_refl _ _)
        case o1 =>
          go_light
          intro ac w' hgw
          have g2 := grown_trans (grown_drew (grown_refl wr none)) hgw
          have kz := H1.out.kept0 (grown_trans hWr.out g2)
          have c0 := (kz.cell 0).trans (show _ = some (Value.bool f) from rfl)
          have c1 := (kz.cell 1).trans (show _ = some (Value.slice P xss.length c) from rfl)
          have hPw := hid (hP.out.grown (grown_trans hGr.out g2))
          have hAw := hid (hA.out.grown (grown_trans hGr.out g2))
          have x0 := ((gcell g2).1 b1 (o1 + k * 2) hb1.out).trans hcc.out.1
          have x1 := ((gcell g2).1 b1 (o1 + k * 2 + 1) hb1.out).trans hcc.out.2
          clear kz g2
          replace hgw := hid hgw
          simp only [outThen, preThen, slotIs, factAt, isv, List.getElem?_cons_zero, List.getElem?_cons_succ, Option.getD_some, forall_eq]
          intros
          rename_i hK
          replace hK := hid hK
          simp only [wantedAt]
          go_simp
          exact hK.out _ _ rfl (grown_refl _ _)
        case o2 =>
          go_light
          intro ac w' hgw
          have g2 := grown_trans (grown_drew (grown_refl wr none)) hgw
          have kz := H1.out.kept0 (grown_trans hWr.out g2)
          have c0 := (kz.cell 0).trans (show _ = some (Value.bool f) from rfl)
          have c1 := (kz.cell 1).trans (show _ = some (Value.slice P xss.length c) from rfl)
          have hPw := hid (hP.out.grown (grown_trans hGr.out g2))
          have hAw := hid (hA.out.grown (grown_trans hGr.out g2))
          have x0 := ((gcell g2).1 b1 (o1 + k * 2) hb1.out).trans hcc.out.1
          have x1 := ((gcell g2).1 b1 (o1 + k * 2 + 1) hb1.out).trans hcc.out.2
          clear kz g2
          replace hgw := hid hgw
          simp only [outThen, preThen, slotIs, factAt, isv, List.getElem?_cons_zero, List.getElem?_cons_succ, Option.getD_some, forall_eq]
          intros
          rename_i hK
          replace hK := hid hK
          simp only [wantedAt]
          go_simp
          exact hK.out _ _ rfl (grown_refl _ _)
        case o3 =>
          go_light
          intro ac w' hgw
          have g2 := grown_trans (grown_drew (grown_refl wr none)) hgw
          have kz := H1.out.kept0 (grown_trans hWr.out g2)
          have c0 := (kz.cell 0).trans (show _ = some (Value.bool f) from rfl)
          have c1 := (kz.cell 1).trans (show _ = some (Value.slice P xss.length c) from rfl)
          have hPw := hid (hP.out.grown (grown_trans hGr.out g2))
          have hAw := hid (hA.out.grown (grown_trans hGr.out g2))
          have x0 := ((gcell g2).1 b1 (o1 + k * 2) hb1.out).trans hcc.out.1
          have x1 := ((gcell g2).1 b1 (o1 + k * 2 + 1) hb1.out).trans hcc.out.2
          clear kz g2
          replace hgw := hid hgw
          simp only [outThen, preThen, slotIs, factAt, isv, List.getElem?_cons_zero, List.getElem?_cons_succ, Option.getD_some, forall_eq]
          intros
          rename_i hK
          replace hK := hid hK
          simp only [wantedAt]
          go_simp
          exact hK.out _ _ rfl (grown_refl _ _)
        case o4 =>
          go_light
          intro ac w' hgw
          have g2 := grown_trans (grown_drew (grown_refl wr none)) hgw
          have kz := H1.out.kept0 (grown_trans hWr.out g2)
          have c0 := (kz.cell 0).trans (show _ = some (Value.bool f) from rfl)
          have c1 := (kz.cell 1).trans (show _ = some (Value.slice P xss.length c) from rfl)
          have hPw := hid (hP.out.grown (grown_trans hGr.out g2))
          have hAw := hid (hA.out.grown (grown_trans hGr.out g2))
          have x0 := ((gcell g2).1 b1 (o1 + k * 2) hb1.out).trans hcc.out.1
          have x1 := ((gcell g2).1 b1 (o1 + k * 2 + 1) hb1.out).trans hcc.out.2
          clear kz g2
          replace hgw := hid hgw
          simp only [outThen, preThen, slotIs, factAt, isv, List.getElem?_cons_zero, List.getElem?_cons_succ, Option.getD_some, forall_eq]
          intros
          rename_i hK
          replace hK := hid hK
          simp only [wantedAt]
          go_simp
          exact hK.out _ _ rfl (grown_refl _ _)
        case o5 =>
          go_light
          intro ac w' hgw
          have g2 := grown_trans (grown_drew (grown_refl wr none)) hgw
          have kz := H1.out.kept0 (grown_trans hWr.out g2)
          have c0 := (kz.cell 0).trans (show _ = some (Value.bool f) from rfl)
          have c1 := (kz.cell 1).trans (show _ = some (Value.slice P xss.length c) from rfl)
          have hPw := hid (hP.out.grown (grown_trans hGr.out g2))
          have hAw := hid (hA.out.grown (grown_trans hGr.out g2))
          have x0 := ((gcell g2).1 b1 (o1 + k * 2) hb1.out).trans hcc.out.1
          have x1 := ((gcell g2).1 b1 (o1 + k * 2 + 1) hb1.out).trans hcc.out.2
          clear kz g2
          replace hgw := hid hgw
          simp only [outThen, preThen, slotIs, factAt, isv, List.getElem?_cons_zero, List.getElem?_cons_succ, Option.getD_some, forall_eq]
          intros
          rename_i hK9
          replace hK9 := hid hK9
          have q1 := hkk.out.1
          have q2 := hkk.out.2
          simp only [wantedAt]
          go_simp
          exact hK9.out _ _ rfl (grown_refl _ _)
        case o6 =>
          go_light
          intro ac w' hgw
          have g2 := grown_trans (grown_drew (grown_refl wr none)) hgw
          have kz := H1.out.kept0 (grown_trans hWr.out g2)
          have c0 := (kz.cell 0).trans (show _ = some (Value.bool f) from rfl)
          have c1 := (kz.cell 1).trans (show _ = some (Value.slice P xss.length c) from rfl)
          have hPw := hid (hP.out.grown (grown_trans hGr.out g2))
          have hAw := hid (hA.out.grown (grown_trans hGr.out g2))
          have x0 := ((gcell g2).1 b1 (o1 + k * 2) hb1.out).trans hcc.out.1
          have x1 := ((gcell g2).1 b1 (o1 + k * 2 + 1) hb1.out).trans hcc.out.2
          clear kz g2
          replace hgw := hid hgw
          simp only [outThen, preThen, slotIs, factAt, isv, List.getElem?_cons_zero, List.getElem?_cons_succ, Option.getD_some, forall_eq]
          intros
          rename_i hK
          replace hK := hid hK
          simp only [wantedAt]
          go_simp
          exact hK.out _ _ rfl (grown_refl _ _)
        case o7 =>
          go_light
          intro ac w' hgw
          have g2 := grown_trans (grown_drew (grown_refl wr none)) hgw
          have kz := H1.out.kept0 (grown_trans hWr.out g2)
          have c0 := (kz.cell 0).trans (show _ = some (Value.bool f) from rfl)
          have c1 := (kz.cell 1).trans (show _ = some (Value.slice P xss.length c) from rfl)
          have hPw := hid (hP.out.grown (grown_trans hGr.out g2))
          have hAw := hid (hA.out.grown (grown_trans hGr.out g2))
          have x0 := ((gcell g2).1 b1 (o1 + k * 2) hb1.out).trans hcc.out.1
          have x1 := ((gcell g2).1 b1 (o1 + k * 2 + 1) hb1.out).trans hcc.out.2
          clear kz g2
          replace hgw := hid hgw
          simp only [outThen, preThen, slotIs, factAt, isv, List.getElem?_cons_zero, List.getElem?_cons_succ, Option.getD_some, forall_eq]
          intros
          rename_i hK9
          replace hK9 := hid hK9
          simp only [wantedAt]
          go_simp
          have hq := occStands_is f P A c d fr text (m1, m2) xss w' (by omega) (by omega) hB.out hPw.out (by omega) hd hdm.out htb.out hAw.out hf0 hf1 hm1.out.1 hm1.out.2
          rw [hst.out] at hq
          refine hq.mono ?_
          rintro e w9 ⟨rfl, hg⟩
          exact hK9.out _ _ rfl hg
        case o8 =>
          go_light
          intro ac w' hgw
          have g2 := grown_trans (grown_drew (grown_refl wr none)) hgw
          have kz := H1.out.kept0 (grown_trans hWr.out g2)
          have c0 := (kz.cell 0).trans (show _ = some (Value.bool f) from rfl)
          have c1 := (kz.cell 1).trans (show _ = some (Value.slice P xss.length c) from rfl)
          have hPw := hid (hP.out.grown (grown_trans hGr.out g2))
          have hAw := hid (hA.out.grown (grown_trans hGr.out g2))
          have x0 := ((gcell g2).1 b1 (o1 + k * 2) hb1.out).trans hcc.out.1
          have x1 := ((gcell g2).1 b1 (o1 + k * 2 + 1) hb1.out).trans hcc.out.2
          clear kz g2
          replace hgw := hid hgw
          simp only [outThen, preThen, slotIs, factAt, isv, List.getElem?_cons_zero, List.getElem?_cons_succ, Option.getD_some, forall_eq]
          intros
          rename_i hK
          replace hK := hid hK
          simp only [wantedAt]
          go_simp
          exact hK.out _ _ rfl (grown_refl _ _)
      case st =>
        repeat (first | exact AllStable.nil | (refine AllStable.cons ?_ ?_; focus (first | exact stable_isv _ | exact stable_isBytes _ | exact stable_isRow1 _ | exact stable_isRowOf _ _ | exact stable_isArrOf _)))
      case fin =>
        intro w5 hgw
        simp only [finalIn, factAt, isv, List.getElem?_cons_zero, List.getElem?_cons_succ, Option.getD_some, forall_eq, slotIs, subj]
        simp only [Act.put, List.setIfInBounds_toArray, List.set_cons_zero, List.set_cons_succ]
        have hg := hid (grown_trans hr4.out (grown_trans (grown_drew (grown_refl wr none)) hgw))
        clear hgw
        go_wp2_with fail
        go_roundw
        case rel => exact ⟨k + 1, by omega, by go_num, hg.out⟩
        case measure => simp [intOf]; omega
    · obtain rfl : k = l0.length := by omega
      have hGr := hid (grown_trans hG.out hr4)
      have hWr := hid (grown_trans hW.out hr4)
      have z0 := ((H1.out.kept0 hWr.out).cell 0).trans (show _ = some (Value.bool f) from rfl)
      have z1 := ((H1.out.kept0 hWr.out).cell 1).trans (show _ = some (Value.slice P xss.length c) from rfl)
      have hZ := hid (H1.out.kept0 hWr.out)
      clear hr4
      obtain ⟨wa, rfl⟩ : ∃ x : World, x = wr := ⟨_, rfl⟩
      have hGa := hGr
      have hWa := hWr
      clear hGr hWr
      go_wp2_with fail
      clear z0 z1
      go_loopw [10, 11] (fun n v wx => ∃ k : Nat, k ≤ xss.length ∧ v = .int .i64 (k : Nat) ∧ n = .int .i64 (sumTo (fun q => sumTo (fun place => PlainOcc.one (stands f text place (xss.getD q []))) (text.length + 1)) k : Nat) ∧ wa.grownBy wx none) (fun _ v _ => xss.length - (intOf v).toNat)
      case atStart => exact ⟨0, Nat.zero_le _, rfl, rfl, grown_refl _ _⟩
      case round =>
        obtain ⟨k, hk2, rfl, rfl, hr4⟩ := hrel
        have hSb : sumTo (fun q => sumTo (fun place => PlainOcc.one (stands f text place (xss.getD q []))) (text.length + 1)) k ≤ k * 121 := sumTo_le _ 121 (fun q => by
          have := sumTo_le (fun place => PlainOcc.one (stands f text place (xss.getD q []))) 1 (fun p => by show PlainOcc.one _ ≤ 1; unfold PlainOcc.one; split <;> omega) (text.length + 1)
          omega) k
        have hSb2 : k * 121 ≤ 80 * 121 := Nat.mul_le_mul_right _ (by omega)
        obtain ⟨wb, rfl⟩ : ∃ x : World, x = wr := ⟨_, rfl⟩
        have z1 := ((hZ.out.kept0 hr4).cell 1).trans (show _ = some (Value.slice P xss.length c) from rfl)
        by_cases hlt2 : k < xss.length
        · have hSn := hid (show sumTo (fun q => sumTo (fun place => PlainOcc.one (stands f text place (xss.getD q []))) (text.length + 1)) (k + 1) = sumTo (fun q => sumTo (fun place => PlainOcc.one (stands f text place (xss.getD q []))) (text.length + 1)) k + sumTo (fun place => PlainOcc.one (stands f text place (xss.getD k []))) (text.length + 1) from rfl)
          generalize hSk1 : sumTo (fun q => sumTo (fun place => PlainOcc.one (stands f text place (xss.getD q []))) (text.length + 1)) (k + 1) = S1 at hSn
          generalize sumTo (fun q => sumTo (fun place => PlainOcc.one (stands f text place (xss.getD q []))) (text.length + 1)) k = Sk at hSn hSb ⊢
          replace hSk1 := hid hSk1
          obtain ⟨b2, o2, Ak, ck, rfl, hb2, hcell, hAk⟩ := hP.out.at_ hlt2
          have hxb := hid (hB.out k)
          have hxl : (xss.getD k []).length ≤ 3000 := by
            have h1 := flatten_take_succ xss k hlt2
            have h2 := flatten_take_le xss (k + 1)
            rw [h1, List.length_append] at h2
            omega
          have hfull := hid (fun (j : Nat) (hj : j ≤ text.length) => standsHit_at f xss text fr j k hlt2 hj (right_full hR.out k hlt2))
          generalize xss.getD k [] = x at hcell hAk hxb hxl hfull hSn
          have hcc := hid hcell
          have hxa := hid hAk
          replace hb2 := hid hb2
          clear hcell hAk
          have hkk : Hid ((0 : Int) ≤ (k : Int) ∧ (k : Int) < (xss.length : Int)) := hid ⟨by omega, by omega⟩
          have q0 : (k : Int) < (xss.length : Int) := by omega
          have hr4b := hid hr4
          clear hr4
          go_wp2_with fail
          clear z1
          go_loopw [10, 12] (fun n v wx => ∃ j : Nat, j ≤ text.length + 1 ∧ v = .int .i64 (j : Nat) ∧ n = .int .i64 ((Sk + sumTo (fun place => PlainOcc.one (stands f text place x)) j : Nat) : Int) ∧ wa.grownBy wx none) (fun _ v _ => text.length + 1 - (intOf v).toNat)
          case atStart => exact ⟨0, Nat.zero_le _, rfl, by simp [sumTo], hr4b.out⟩
          case round =>
            clear hr4b
            obtain ⟨j, hj, rfl, rfl, hr4⟩ := hrel
            have hnb : Sk + sumTo (fun place => PlainOcc.one (stands f text place x)) j ≤ 20000 := by
              have := sumTo_le (fun place => PlainOcc.one (stands f text place x)) 1 (fun p => by show PlainOcc.one _ ≤ 1; unfold PlainOcc.one; split <;> omega) j
              omega
            obtain ⟨wx, rfl⟩ : ∃ x : World, x = wr := ⟨_, rfl⟩
            by_cases hjt : j ≤ text.length
            · have hGr := hid (grown_trans hGa.out hr4)
              have hWr := hid (grown_trans hWa.out hr4)
              obtain ⟨T, hT⟩ : ∃ T, stands f text (j : Int) x = T := ⟨_, rfl⟩
              have hst2 : Hid ((right f xss && decide (0 ≤ fr ∧ fr ≤ 4611686018427387904) && standsHit f xss text fr (fr + (j : Int), (k : Int))) = T) := hid (by rw [hfull.out j hjt, hR.out, decide_eq_true ⟨by omega, by omega⟩, hT]; rfl)
              replace hT := hid hT
              replace hr4 := hid hr4
              have q1 : (j : Int) ≤ (text.length : Int) := by omega
              go_upto_region 18 with fail
              apply wp_region_each [isv _, isv (.bool f), isv (.slice A text.length d), isv (.int .i64 (j : Nat)), isv _, isv (.slice (some ⟨b2, o2, none⟩) xss.length c), isv (.int .i64 (k : Nat)), isv (.pointer (some ⟨b2, o2 + k, none⟩)), isv (.slice Ak x.length ck), isv (.bool T), isv (.bool T)]
                109 [some 78, some 79, some 80, some 81, some 82, some 83, some 84, some 85, some 86, some 87, some 13]
                [some 78, some 79, some 80, some 81, some 82, some 83, some 84, some 85, some 86, some 87, some 13]
                [[], [0], [], [], [], [4], [], [5, 6], [7], [1, 2, 3, 8], [9]]
                [(2, .slice A text.length d), (3, .pointer (some ⟨h, 0, none⟩)), (11, .int .i64 (k : Nat)), (12, .int .i64 (j : Nat))] (by kernel_rfl) rfl (by kernel_rfl) rfl rfl (by kernel_rfl) (OutsOk.cons rfl rfl (OutsOk.cons rfl rfl (OutsOk.cons rfl rfl (OutsOk.cons rfl rfl OutsOk.nil)))) ?st ?ob ?fin
              case ob =>
                refine Obs.consv rfl ?o0 (Obs.consv rfl ?o1 (Obs.consv rfl ?o2 (Obs.consv rfl ?o3 (Obs.consv rfl ?o4 (Obs.consv rfl ?o5 (Obs.consv rfl ?o6 (Obs.consv rfl ?o7 (Obs.consv rfl ?o8 (Obs.consv rfl ?o9 (Obs.consv rfl ?o10 Obs.nil))))))))))
                case o0 =>
                  go_light
                  intro ac w' hgw
                  have g2 := grown_trans (grown_drew (grown_refl wx none)) hgw
                  have kz := H1.out.kept0 (grown_trans hWr.out g2)
                  have c0 := (kz.cell 0).trans (show _ = some (Value.bool f) from rfl)
                  have c1 := (kz.cell 1).trans (show _ = some (Value.slice (some ⟨b2, o2, none⟩) xss.length c) from rfl)
                  have hPw := hid (hP.out.grown (grown_trans hGr.out g2))
                  have hAw := hid (hA.out.grown (grown_trans hGr.out g2))
                  have x0 := ((gcell (grown_trans hGr.out g2)).1 b2 (o2 + k) hb2.out).trans hcc.out
                  have hxw := hid (hxa.out.grown (grown_trans hGr.out g2))
                  clear kz g2
                  replace hgw := hid hgw
                  simp only [outThen, preThen, slotIs, factAt, isv, List.getElem?_cons_zero, List.getElem?_cons_succ, Option.getD_some, forall_eq]
                  intros
                  rename_i hK
                  replace hK := hid hK
                  simp only [wantedAt]
                  go_simp
                  exact hK.out _ _ rfl (grown_refl _ _)
                case o1 =>
                  go_light
                  intro ac w' hgw
                  have g2 := grown_trans (grown_drew (grown_refl wx none)) hgw
                  have kz := H1.out.kept0 (grown_trans hWr.out g2)
                  have c0 := (kz.cell 0).trans (show _ = some (Value.bool f) from rfl)
                  have c1 := (kz.cell 1).trans (show _ = some (Value.slice (some ⟨b2, o2, none⟩) xss.length c) from rfl)
                  have hPw := hid (hP.out.grown (grown_trans hGr.out g2))
                  have hAw := hid (hA.out.grown (grown_trans hGr.out g2))
                  have x0 := ((gcell (grown_trans hGr.out g2)).1 b2 (o2 + k) hb2.out).trans hcc.out
                  have hxw := hid (hxa.out.grown (grown_trans hGr.out g2))
                  clear kz g2
                  replace hgw := hid hgw
                  simp only [outThen, preThen, slotIs, factAt, isv, List.getElem?_cons_zero, List.getElem?_cons_succ, Option.getD_some, forall_eq]
                  intros
                  rename_i hK
                  replace hK := hid hK
                  simp only [wantedAt]
                  go_simp
                  exact hK.out _ _ rfl (grown_refl _ _)
                case o2 =>
                  go_light
                  intro ac w' hgw
                  have g2 := grown_trans (grown_drew (grown_refl wx none)) hgw
                  have kz := H1.out.kept0 (grown_trans hWr.out g2)
                  have c0 := (kz.cell 0).trans (show _ = some (Value.bool f) from rfl)
                  have c1 := (kz.cell 1).trans (show _ = some (Value.slice (some ⟨b2, o2, none⟩) xss.length c) from rfl)
                  have hPw := hid (hP.out.grown (grown_trans hGr.out g2))
                  have hAw := hid (hA.out.grown (grown_trans hGr.out g2))
                  have x0 := ((gcell (grown_trans hGr.out g2)).1 b2 (o2 + k) hb2.out).trans hcc.out
                  have hxw := hid (hxa.out.grown (grown_trans hGr.out g2))
                  clear kz g2
                  replace hgw := hid hgw
                  simp only [outThen, preThen, slotIs, factAt, isv, List.getElem?_cons_zero, List.getElem?_cons_succ, Option.getD_some, forall_eq]
                  intros
                  rename_i hK
                  replace hK := hid hK
                  simp only [wantedAt]
                  go_simp
                  exact hK.out _ _ rfl (grown_refl _ _)
                case o3 =>
                  go_light
                  intro ac w' hgw
                  have g2 := grown_trans (grown_drew (grown_refl wx none)) hgw
                  have kz := H1.out.kept0 (grown_trans hWr.out g2)
                  have c0 := (kz.cell 0).trans (show _ = some (Value.bool f) from rfl)
                  have c1 := (kz.cell 1).trans (show _ = some (Value.slice (some ⟨b2, o2, none⟩) xss.length c) from rfl)
                  have hPw := hid (hP.out.grown (grown_trans hGr.out g2))
                  have hAw := hid (hA.out.grown (grown_trans hGr.out g2))
                  have x0 := ((gcell (grown_trans hGr.out g2)).1 b2 (o2 + k) hb2.out).trans hcc.out
                  have hxw := hid (hxa.out.grown (grown_trans hGr.out g2))
                  clear kz g2
                  replace hgw := hid hgw
                  simp only [outThen, preThen, slotIs, factAt, isv, List.getElem?_cons_zero, List.getElem?_cons_succ, Option.getD_some, forall_eq]
                  intros
                  rename_i hK
                  replace hK := hid hK
                  simp only [wantedAt]
                  go_simp
                  exact hK.out _ _ rfl (grown_refl _ _)
                case o4 =>
                  go_light
                  intro ac w' hgw
                  have g2 := grown_trans (grown_drew (grown_refl wx none)) hgw
                  have kz := H1.out.kept0 (grown_trans hWr.out g2)
                  have c0 := (kz.cell 0).trans (show _ = some (Value.bool f) from rfl)
                  have c1 := (kz.cell 1).trans (show _ = some (Value.slice (some ⟨b2, o2, none⟩) xss.length c) from rfl)
                  have hPw := hid (hP.out.grown (grown_trans hGr.out g2))
                  have hAw := hid (hA.out.grown (grown_trans hGr.out g2))
                  have x0 := ((gcell (grown_trans hGr.out g2)).1 b2 (o2 + k) hb2.out).trans hcc.out
                  have hxw := hid (hxa.out.grown (grown_trans hGr.out g2))
                  clear kz g2
                  replace hgw := hid hgw
                  simp only [outThen, preThen, slotIs, factAt, isv, List.getElem?_cons_zero, List.getElem?_cons_succ, Option.getD_some, forall_eq]
                  intros
                  rename_i hK
                  replace hK := hid hK
                  simp only [wantedAt]
                  go_simp
                  exact hK.out _ _ rfl (grown_refl _ _)
                case o5 =>
                  go_light
                  intro ac w' hgw
                  have g2 := grown_trans (grown_drew (grown_refl wx none)) hgw
                  have kz := H1.out.kept0 (grown_trans hWr.out g2)
                  have c0 := (kz.cell 0).trans (show _ = some (Value.bool f) from rfl)
                  have c1 := (kz.cell 1).trans (show _ = some (Value.slice (some ⟨b2, o2, none⟩) xss.length c) from rfl)
                  have hPw := hid (hP.out.grown (grown_trans hGr.out g2))
                  have hAw := hid (hA.out.grown (grown_trans hGr.out g2))
                  have x0 := ((gcell (grown_trans hGr.out g2)).1 b2 (o2 + k) hb2.out).trans hcc.out
                  have hxw := hid (hxa.out.grown (grown_trans hGr.out g2))
                  clear kz g2
                  replace hgw := hid hgw
                  simp only [outThen, preThen, slotIs, factAt, isv, List.getElem?_cons_zero, List.getElem?_cons_succ, Option.getD_some, forall_eq]
                  intros
                  rename_i hK
                  replace hK := hid hK
                  simp only [wantedAt]
                  go_simp
                  exact hK.out _ _ rfl (grown_refl _ _)
                case o6 =>
                  go_light
                  intro ac w' hgw
                  have g2 := grown_trans (grown_drew (grown_refl wx none)) hgw
                  have kz := H1.out.kept0 (grown_trans hWr.out g2)
                  have c0 := (kz.cell 0).trans (show _ = some (Value.bool f) from rfl)
                  have c1 := (kz.cell 1).trans (show _ = some (Value.slice (some ⟨b2, o2, none⟩) xss.length c) from rfl)
                  have hPw := hid (hP.out.grown (grown_trans hGr.out g2))
                  have hAw := hid (hA.out.grown (grown_trans hGr.out g2))
                  have x0 := ((gcell (grown_trans hGr.out g2)).1 b2 (o2 + k) hb2.out).trans hcc.out
                  have hxw := hid (hxa.out.grown (grown_trans hGr.out g2))
                  clear kz g2
                  replace hgw := hid hgw
                  simp only [outThen, preThen, slotIs, factAt, isv, List.getElem?_cons_zero, List.getElem?_cons_succ, Option.getD_some, forall_eq]
                  intros
                  rename_i hK
                  replace hK := hid hK
                  simp only [wantedAt]
                  go_simp
                  exact hK.out _ _ rfl (grown_refl _ _)
                case o7 =>
                  go_light
                  intro ac w' hgw
                  have g2 := grown_trans (grown_drew (grown_refl wx none)) hgw
                  have kz := H1.out.kept0 (grown_trans hWr.out g2)
                  have c0 := (kz.cell 0).trans (show _ = some (Value.bool f) from rfl)
                  have c1 := (kz.cell 1).trans (show _ = some (Value.slice (some ⟨b2, o2, none⟩) xss.length c) from rfl)
                  have hPw := hid (hP.out.grown (grown_trans hGr.out g2))
                  have hAw := hid (hA.out.grown (grown_trans hGr.out g2))
                  have x0 := ((gcell (grown_trans hGr.out g2)).1 b2 (o2 + k) hb2.out).trans hcc.out
                  have hxw := hid (hxa.out.grown (grown_trans hGr.out g2))
                  clear kz g2
                  replace hgw := hid hgw
                  simp only [outThen, preThen, slotIs, factAt, isv, List.getElem?_cons_zero, List.getElem?_cons_succ, Option.getD_some, forall_eq]
                  intros
                  rename_i hK9
                  replace hK9 := hid hK9
                  have q1 := hkk.out.1
                  have q2 := hkk.out.2
                  simp only [wantedAt]
                  go_simp
                  exact hK9.out _ _ rfl (grown_refl _ _)
                case o8 =>
                  go_light
                  intro ac w' hgw
                  have g2 := grown_trans (grown_drew (grown_refl wx none)) hgw
                  have kz := H1.out.kept0 (grown_trans hWr.out g2)
                  have c0 := (kz.cell 0).trans (show _ = some (Value.bool f) from rfl)
                  have c1 := (kz.cell 1).trans (show _ = some (Value.slice (some ⟨b2, o2, none⟩) xss.length c) from rfl)
                  have hPw := hid (hP.out.grown (grown_trans hGr.out g2))
                  have hAw := hid (hA.out.grown (grown_trans hGr.out g2))
                  have x0 := ((gcell (grown_trans hGr.out g2)).1 b2 (o2 + k) hb2.out).trans hcc.out
                  have hxw := hid (hxa.out.grown (grown_trans hGr.out g2))
                  clear kz g2
                  replace hgw := hid hgw
                  simp only [outThen, preThen, slotIs, factAt, isv, List.getElem?_cons_zero, List.getElem?_cons_succ, Option.getD_some, forall_eq]
                  intros
                  rename_i hK
                  replace hK := hid hK
                  simp only [wantedAt]
                  go_simp
                  exact hK.out _ _ rfl (grown_refl _ _)
                case o9 =>
                  go_light
                  intro ac w' hgw
                  have g2 := grown_trans (grown_drew (grown_refl wx none)) hgw
                  have kz := H1.out.kept0 (grown_trans hWr.out g2)
                  have c0 := (kz.cell 0).trans (show _ = some (Value.bool f) from rfl)
                  have c1 := (kz.cell 1).trans (show _ = some (Value.slice (some ⟨b2, o2, none⟩) xss.length c) from rfl)
                  have hPw := hid (hP.out.grown (grown_trans hGr.out g2))
                  have hAw := hid (hA.out.grown (grown_trans hGr.out g2))
                  have x0 := ((gcell (grown_trans hGr.out g2)).1 b2 (o2 + k) hb2.out).trans hcc.out
                  have hxw := hid (hxa.out.grown (grown_trans hGr.out g2))
                  clear kz g2
                  replace hgw := hid hgw
                  simp only [outThen, preThen, slotIs, factAt, isv, List.getElem?_cons_zero, List.getElem?_cons_succ, Option.getD_some, forall_eq]
                  intros
                  rename_i hK9
                  replace hK9 := hid hK9
                  simp only [wantedAt]
                  go_simp
                  have hq := refAt_is f A Ak d ck text x j w' (by omega) (by omega) hd hdm.out htb.out hxb.out hAw.out hxw.out
                  rw [hT.out] at hq
                  refine hq.mono ?_
                  rintro e w9 ⟨rfl, hg⟩
                  exact hK9.out _ _ rfl hg
                case o10 =>
                  go_light
                  intro ac w' hgw
                  have g2 := grown_trans (grown_drew (grown_refl wx none)) hgw
                  have kz := H1.out.kept0 (grown_trans hWr.out g2)
                  have c0 := (kz.cell 0).trans (show _ = some (Value.bool f) from rfl)
                  have c1 := (kz.cell 1).trans (show _ = some (Value.slice (some ⟨b2, o2, none⟩) xss.length c) from rfl)
                  have hPw := hid (hP.out.grown (grown_trans hGr.out g2))
                  have hAw := hid (hA.out.grown (grown_trans hGr.out g2))
                  have x0 := ((gcell (grown_trans hGr.out g2)).1 b2 (o2 + k) hb2.out).trans hcc.out
                  have hxw := hid (hxa.out.grown (grown_trans hGr.out g2))
                  clear kz g2
                  replace hgw := hid hgw
                  simp only [outThen, preThen, slotIs, factAt, isv, List.getElem?_cons_zero, List.getElem?_cons_succ, Option.getD_some, forall_eq]
                  intros
                  rename_i hK
                  replace hK := hid hK
                  simp only [wantedAt]
                  go_simp
                  exact hK.out _ _ rfl (grown_refl _ _)
              case st =>
                repeat (first | exact AllStable.nil | (refine AllStable.cons ?_ ?_; focus (first | exact stable_isv _ | exact stable_isBytes _ | exact stable_isRow1 _ | exact stable_isRowOf _ _ | exact stable_isArrOf _)))
              case fin =>
                intro w5 hgw
                simp only [finalIn, factAt, isv, List.getElem?_cons_zero, List.getElem?_cons_succ, Option.getD_some, forall_eq, slotIs, subj]
                simp only [Act.put, List.setIfInBounds_toArray, List.set_cons_zero, List.set_cons_succ]
                have hg5 := grown_trans (grown_drew (grown_refl wx none)) hgw
                have hr5 := hid (grown_trans hr4.out hg5)
                have hG5 := hid (grown_trans hGr.out hg5)
                have kz := H1.out.kept0 (grown_trans hWr.out hg5)
                have c0 := (kz.cell 0).trans (show _ = some (Value.bool f) from rfl)
                have c1 := (kz.cell 1).trans (show _ = some (Value.slice (some ⟨b2, o2, none⟩) xss.length c) from rfl)
                have hP5 := hid (hP.out.grown hG5.out)
                have hA5 := hid (hA.out.grown hG5.out)
                clear hgw kz hg5
                have hfj : Hid (fr + (j : Int) ≤ 9223372036854775807) := hid (by omega)
                have hsum := hid (show sumTo (fun place => PlainOcc.one (stands f text place x)) (j + 1) = sumTo (fun place => PlainOcc.one (stands f text place x)) j + PlainOcc.one T from by show _ + PlainOcc.one (stands f text (j : Int) x) = _; rw [hT.out])
                generalize hn2 : sumTo (fun place => PlainOcc.one (stands f text place x)) (j + 1) = n2 at hsum
                replace hn2 := hid hn2
                generalize sumTo (fun place => PlainOcc.one (stands f text place x)) j = n1 at hsum hnb ⊢
                have q9 : ∀ b : Bool, (b != b) = false := fun b => by cases b <;> rfl
                cases T
                · go_wp2_with fail
                  have hq := occStands_is f (some ⟨b2, o2, none⟩) A c d fr text (fr + (j : Int), (k : Int)) xss w5 (by omega) (by omega) hB.out hP5.out (by omega) hd hdm.out htb.out hA5.out hf0 hf1 (by show _ ≤ fr + (j : Int); omega) hfj.out
                  rw [hst2.out] at hq
                  refine hq.mono ?_
                  rintro e w6 ⟨rfl, hg⟩
                  have hr6 := hid (grown_trans hr5.out hg)
                  clear hg hq
                  go_wp2_with fail
                  go_roundw
                  case rel => exact ⟨j + 1, by omega, by go_num, by rw [hn2.out, hsum.out]; simp [PlainOcc.one], hr6.out⟩
                  case measure => simp [intOf]; omega
                · go_wp2_with fail
                  have hq := occStands_is f (some ⟨b2, o2, none⟩) A c d fr text (fr + (j : Int), (k : Int)) xss w5 (by omega) (by omega) hB.out hP5.out (by omega) hd hdm.out htb.out hA5.out hf0 hf1 (by show _ ≤ fr + (j : Int); omega) hfj.out
                  rw [hst2.out] at hq
                  refine hq.mono ?_
                  rintro e w6 ⟨rfl, hg⟩
                  have hr6 := hid (grown_trans hr5.out hg)
                  clear hg hq
                  go_wp2_with fail
                  go_roundw
                  case rel => exact ⟨j + 1, by omega, by go_num, by rw [hn2.out, hsum.out]; simp [PlainOcc.one]; omega, hr6.out⟩
                  case measure => simp [intOf]; omega
            · obtain rfl : j = text.length + 1 := by omega
              have q1 : ¬ (((text.length + 1 : Nat) : Int)) ≤ (text.length : Int) := by omega
              have hr4b := hid hr4
              clear hr4
              go_wp2_with fail
              go_roundw
              case rel => exact ⟨k + 1, by omega, by go_num, by rw [hSk1.out, hSn.out], hr4b.out⟩
              case measure => simp [intOf]; omega
        · obtain rfl : k = xss.length := by omega
          have hGz := hid (grown_trans hGa.out hr4)
          have hle : Hid (sumTo (fun q => sumTo (fun place => PlainOcc.one (stands f text place (xss.getD q []))) (text.length + 1)) xss.length = l0.length) := hid hlen.out.symm
          rw [hle.out]
          clear hr4
          go_wp2_with fail
          refine (owakes_true _).mono ?_
          rintro e w9 ⟨rfl, hg⟩
          have hGf := hid (grown_trans hGz.out hg)
          clear hg
          go_wp2_with fail
          go_ret
          exact ⟨rfl, hGf.out⟩
end Go.Proofs.Ytmahiodejhakpaa
