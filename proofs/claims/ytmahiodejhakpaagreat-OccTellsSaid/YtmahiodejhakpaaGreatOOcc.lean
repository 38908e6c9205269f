/- The document's own answer: all hits of a text. -/
import Derived.Test.YtmahiodejhakpaaGreatOPut
import Derived.Test.YtmahiodejhakpaaGreatOStands
import Derived.Test.YtmahiodejhakpaaGreatK20
set_option linter.unusedVariables false
set_option linter.unusedSimpArgs false
namespace Go.Proofs.YtmahiodejhakpaaGreat
open Go.RowKit PlainLetter PlainPatset PlainOcc

set_option maxRecDepth 100000 in
set_option maxHeartbeats 4000000 in
theorem refOcc_is (f : Bool) (P A : Option Addr) (c d : Nat) (fr : Int) (text : List Int) (xss : List (List Int)) (w : World) (hn : xss.length ≤ 100000) (hl : xss.flatten.length ≤ 100000) (hB : ∀ i, Bytes (xss.getD i [])) (hP : Arrs w P xss)
    (ht : text.length ≤ 100000) (hd : text.length ≤ d) (hdm : d ≤ maxLen) (htb : Bytes text) (hA : Arr w .u8 A text) (hf0 : -9223372036854775808 ≤ fr) (hf1 : fr ≤ 9223372036854775807) :
    Calls Tryz.prog 7 #[.agg #[.bool f, .slice P xss.length c], .int .i64 fr, .slice A text.length d] w fun e w' => ∃ v, e = .returned v ∧ OccTold w.heap.size f xss text fr v w' ∧ w.grownBy w' none := by
  obtain ⟨i0, hi0, hz0, hz1, hz2⟩ := info_parts Tryz.hitInfo
  replace hdm := hid hdm
  have hgl : Hid (∀ i, (xss.getD i []).length ≤ 100000) := hid (fun k => by
    by_cases hk : k < xss.length
    · have h1 := flatten_take_succ xss k hk
      have h2 := flatten_take_le xss (k + 1)
      rw [h1, List.length_append] at h2
      omega
    · simp [List.getD, List.getElem?_eq_none (Nat.le_of_not_lt hk)])
  replace hP := hid hP
  replace hA := hid hA
  replace hB := hid hB
  replace htb := hid htb
  have H1 : Hid (Holds (w.alloc (.cells #[.bool f, .slice P xss.length c] 24)) w.heap.size 24 #[.bool f, .slice P xss.length c]) := Holds.new _ _ _
  have hG0 : Hid (w.grownBy (w.alloc (.cells #[.bool f, .slice P xss.length c] 24)) none) := grown_alloc (grown_refl w none) _
  have hRight := hid (refRight_is f P c xss (w.alloc (.cells #[.bool f, .slice P xss.length c] 24)) hn hl hB.out (hP.out.grown hG0.out))
  generalize hR : right f xss = R at hRight
  replace hR := hid hR
  cases R with
  | false =>
    have hbad : Hid (∀ w', OccTold w.heap.size f xss text fr (.tuple #[.slice none 0 0, .int .i64 2]) w') := hid (fun w' => by
      unfold OccTold; rw [if_neg (by rw [hR.out]; simp)])
    go_enter Tryz.func7, Tryz.ntmps7
    go_wp2_with (go_at_call 24; refine hRight.out.mono ?_; rintro e w1 ⟨rfl, hg⟩; have hG1 := hid (grown_trans hG0.out hg))
    go_ret2
    exact ⟨_, rfl, hbad.out _, hG1.out⟩
  | true =>
    by_cases f0 : fr < 0
    · have hbad : Hid (∀ w', OccTold w.heap.size f xss text fr (.tuple #[.slice none 0 0, .int .i64 2]) w') := hid (fun w' => by
        unfold OccTold; rw [if_neg (by omega)])
      go_enter Tryz.func7, Tryz.ntmps7
      go_wp2_with (go_at_call 24; refine hRight.out.mono ?_; rintro e w1 ⟨rfl, hg⟩; have hG1 := hid (grown_trans hG0.out hg))
      go_ret2
      exact ⟨_, rfl, hbad.out _, hG1.out⟩
    by_cases f1 : 4611686018427387904 < fr
    · have hbad : Hid (∀ w', OccTold w.heap.size f xss text fr (.tuple #[.slice none 0 0, .int .i64 2]) w') := hid (fun w' => by
        unfold OccTold; rw [if_neg (by omega)])
      go_enter Tryz.func7, Tryz.ntmps7
      go_wp2_with (go_at_call 24; refine hRight.out.mono ?_; rintro e w1 ⟨rfl, hg⟩; have hG1 := hid (grown_trans hG0.out hg))
      go_ret2
      exact ⟨_, rfl, hbad.out _, hG1.out⟩
    have hok : Hid (∀ u w', OwnHits w' w.heap.size u (occ f xss text fr) → OccTold w.heap.size f xss text fr (.tuple #[u, .int .i64 0]) w') := hid (fun u w' hu => by
      unfold OccTold; rw [if_pos ⟨hR.out, by omega, by omega⟩]; exact ⟨u, rfl, hu⟩)
    have b0 : decide (fr < 0) = false := decide_eq_false (by omega)
    have b1 : decide (4611686018427387904 < fr) = false := decide_eq_false (by omega)
    go_enter Tryz.func7, Tryz.ntmps7
    go_wp2_with (go_at_call 24; refine hRight.out.mono ?_; rintro e W0 ⟨rfl, hg⟩; have hGs := hid (grown_trans hG0.out hg); replace H1 := hid (H1.out.kept0 hg); clear hg)
    clear hRight hG0
    obtain ⟨h, hh⟩ : ∃ h, w.heap.size = h := ⟨_, rfl⟩
    rw [hh] at H1
    try rw [hh]
    replace hh := hid hh
    go_loopw [8, 9] (fun u v wr => ∃ p : Nat, p ≤ text.length + 1 ∧ v = .int .i64 p ∧ OwnHits wr W0.heap.size u (occTo f xss text fr p) ∧ Below W0.heap.size W0 wr) (fun _ v _ => text.length + 1 - (intOf v).toNat)
    case atStart => exact ⟨0, Nat.zero_le _, rfl, OwnHits.nil _ _, Below.refl _ _⟩
    case round =>
      obtain ⟨p, hp, rfl, hown, hBo⟩ := hrel
      obtain ⟨W1, hW1⟩ : ∃ W1, W1 = wr := ⟨_, rfl⟩
      subst hW1
      have hGo := hid (below_grown hBo)
      replace hBo := hid hBo
      replace hown := hid hown
      by_cases hlt : p ≤ text.length
      · have q0 : (0 : Int) ≤ (p : Int) := by omega
        have q1 : (p : Int) ≤ (text.length : Int) := by omega
        have hwf : IntKind.i64.wrap (fr + (p : Int)) = fr + p := by simp [IntKind.wrap, IntKind.bits, IntKind.signed]; omega
        have hol := hid (occTo_le f xss text fr p)
        have hsc := hid (occTo_succ f xss text fr p)
        generalize occTo f xss text fr p = outs at hown hol hsc
        go_wp2_with fail
        go_loopw [10, 11] (fun u2 v2 wr => ∃ k : Nat, k ≤ xss.length ∧ v2 = .int .i64 k ∧ OwnHits wr W0.heap.size u2 (here f xss text fr p k) ∧ W1.grownBy wr none) (fun _ v _ => xss.length - (intOf v).toNat)
        case atStart => exact ⟨0, Nat.zero_le _, rfl, OwnHits.nil _ _, grown_refl _ _⟩
        case round =>
          obtain ⟨k, hk, rfl, hown2, hGi⟩ := hrel
          have hGw := hid (grown_trans hGo.out hGi)
          have hHs := hid (here_succ f xss text fr p k)
          have hhl := hid (here_le f xss text fr p k)
          have K1 := hid (H1.out.kept0 hGw.out)
          have c0 := K1.out.cell 0
          have c1 := K1.out.cell 1
          simp at c0 c1
          replace hGi := hid hGi
          obtain ⟨A10, c10, rfl, hits10, hle10, hcm10⟩ := hown2.form
          replace hits10 := hid hits10
          replace hown2 := hid hown2
          replace hcm10 := hid hcm10
          by_cases hlk : k < xss.length
          · obtain ⟨b, off, Ai, ci, rfl, hb0, hcell, hAi⟩ := hP.out.at_ hlk
            have hxl := hgl.out k
            have hxb := hid (hB.out k)
            generalize xss.getD k [] = x at hcell hAi hHs hxl hxb
            generalize here f xss text fr p k = hs at hown2 hhl hHs hits10 hle10
            replace hcell := hid hcell
            replace hAi := hid hAi
            have hbl : Hid (b < w.heap.size) := hb0
            clear hb0
            have i0' : (0 : Int) ≤ (k : Int) := by omega
            have i1' : (k : Int) < (xss.length : Int) := by omega
            obtain ⟨S, hS⟩ : ∃ S, stands f text p x = S := ⟨_, rfl⟩
            rw [hS] at hHs
            replace hS := hid hS
            go_wp2_with fail
            apply wp_region_each [isv _, isv (.bool f), isv _, isv _, isv _, isv (.slice (some ⟨b, off, none⟩) xss.length c), isv _, isv _, isv (.slice Ai x.length ci), isv (.bool S)]
              58 [some 36, some 37, some 38, some 39, some 40, some 41, some 42, some 43, some 44, some 45]
              [some 36, some 37, some 38, some 39, some 40, some 41, some 42, some 43, some 44, some 45]
              [[], [0], [], [], [], [4], [], [5, 6], [7], [1, 2, 3, 8]]
              [(2, .slice A text.length d), (3, .pointer (some ⟨h, 0, none⟩)), (9, .int .i64 p), (11, .int .i64 k)] (by kernel_rfl) rfl (by kernel_rfl) rfl rfl (by kernel_rfl) (OutsOk.cons rfl rfl (OutsOk.cons rfl rfl (OutsOk.cons rfl rfl (OutsOk.cons rfl rfl OutsOk.nil)))) ?st ?ob ?fin
            case ob =>
              refine Obs.consv rfl ?o0 (Obs.consv rfl ?o1 (Obs.consv rfl ?o2 (Obs.consv rfl ?o3 (Obs.consv rfl ?o4 (Obs.consv rfl ?o5 (Obs.consv rfl ?o6 (Obs.consv rfl ?o7 (Obs.consv rfl ?o8 (Obs.consv rfl ?o9 Obs.nil)))))))))
              case o0 =>
                go_light
                intro ac w' hgw
                have g2 := grown_trans (grown_drew (grown_refl wr none)) hgw
                have k1 := K1.out.kept0 g2
                have hcw := ((gcell (grown_trans hGs.out (grown_trans hGw.out g2))).1 b _ hbl.out).trans hcell.out
                have c0 := k1.cell 0
                have c1 := k1.cell 1
                simp at c0 c1
                clear k1
                replace g2 := hid (grown_trans hGs.out (grown_trans hGw.out g2))
                replace hgw := hid hgw
                simp only [outThen, preThen, slotIs, factAt, isv, List.getElem?_cons_zero, List.getElem?_cons_succ, Option.getD_some, forall_eq]
                intros
                rename_i hK
                replace hK := hid hK
                simp only [wantedAt]
                go_simp
                exact hK.out _ _ rfl (grown_refl _ _)
              case o1 =>
                go_light
                intro ac w' hgw
                have g2 := grown_trans (grown_drew (grown_refl wr none)) hgw
                have k1 := K1.out.kept0 g2
                have hcw := ((gcell (grown_trans hGs.out (grown_trans hGw.out g2))).1 b _ hbl.out).trans hcell.out
                have c0 := k1.cell 0
                have c1 := k1.cell 1
                simp at c0 c1
                clear k1
                replace g2 := hid (grown_trans hGs.out (grown_trans hGw.out g2))
                replace hgw := hid hgw
                simp only [outThen, preThen, slotIs, factAt, isv, List.getElem?_cons_zero, List.getElem?_cons_succ, Option.getD_some, forall_eq]
                intros
                rename_i hK
                replace hK := hid hK
                simp only [wantedAt]
                go_simp
                exact hK.out _ _ rfl (grown_refl _ _)
              case o2 =>
                go_light
                intro ac w' hgw
                have g2 := grown_trans (grown_drew (grown_refl wr none)) hgw
                have k1 := K1.out.kept0 g2
                have hcw := ((gcell (grown_trans hGs.out (grown_trans hGw.out g2))).1 b _ hbl.out).trans hcell.out
                have c0 := k1.cell 0
                have c1 := k1.cell 1
                simp at c0 c1
                clear k1
                replace g2 := hid (grown_trans hGs.out (grown_trans hGw.out g2))
                replace hgw := hid hgw
                simp only [outThen, preThen, slotIs, factAt, isv, List.getElem?_cons_zero, List.getElem?_cons_succ, Option.getD_some, forall_eq]
                intros
                rename_i hK
                replace hK := hid hK
                simp only [wantedAt]
                go_simp
                exact hK.out _ _ rfl (grown_refl _ _)
              case o3 =>
                go_light
                intro ac w' hgw
                have g2 := grown_trans (grown_drew (grown_refl wr none)) hgw
                have k1 := K1.out.kept0 g2
                have hcw := ((gcell (grown_trans hGs.out (grown_trans hGw.out g2))).1 b _ hbl.out).trans hcell.out
                have c0 := k1.cell 0
                have c1 := k1.cell 1
                simp at c0 c1
                clear k1
                replace g2 := hid (grown_trans hGs.out (grown_trans hGw.out g2))
                replace hgw := hid hgw
                simp only [outThen, preThen, slotIs, factAt, isv, List.getElem?_cons_zero, List.getElem?_cons_succ, Option.getD_some, forall_eq]
                intros
                rename_i hK
                replace hK := hid hK
                simp only [wantedAt]
                go_simp
                exact hK.out _ _ rfl (grown_refl _ _)
              case o4 =>
                go_light
                intro ac w' hgw
                have g2 := grown_trans (grown_drew (grown_refl wr none)) hgw
                have k1 := K1.out.kept0 g2
                have hcw := ((gcell (grown_trans hGs.out (grown_trans hGw.out g2))).1 b _ hbl.out).trans hcell.out
                have c0 := k1.cell 0
                have c1 := k1.cell 1
                simp at c0 c1
                clear k1
                replace g2 := hid (grown_trans hGs.out (grown_trans hGw.out g2))
                replace hgw := hid hgw
                simp only [outThen, preThen, slotIs, factAt, isv, List.getElem?_cons_zero, List.getElem?_cons_succ, Option.getD_some, forall_eq]
                intros
                rename_i hK
                replace hK := hid hK
                simp only [wantedAt]
                go_simp
                exact hK.out _ _ rfl (grown_refl _ _)
              case o5 =>
                go_light
                intro ac w' hgw
                have g2 := grown_trans (grown_drew (grown_refl wr none)) hgw
                have k1 := K1.out.kept0 g2
                have hcw := ((gcell (grown_trans hGs.out (grown_trans hGw.out g2))).1 b _ hbl.out).trans hcell.out
                have c0 := k1.cell 0
                have c1 := k1.cell 1
                simp at c0 c1
                clear k1
                replace g2 := hid (grown_trans hGs.out (grown_trans hGw.out g2))
                replace hgw := hid hgw
                simp only [outThen, preThen, slotIs, factAt, isv, List.getElem?_cons_zero, List.getElem?_cons_succ, Option.getD_some, forall_eq]
                intros
                rename_i hK
                replace hK := hid hK
                simp only [wantedAt]
                go_simp
                exact hK.out _ _ rfl (grown_refl _ _)
              case o6 =>
                go_light
                intro ac w' hgw
                have g2 := grown_trans (grown_drew (grown_refl wr none)) hgw
                have k1 := K1.out.kept0 g2
                have hcw := ((gcell (grown_trans hGs.out (grown_trans hGw.out g2))).1 b _ hbl.out).trans hcell.out
                have c0 := k1.cell 0
                have c1 := k1.cell 1
                simp at c0 c1
                clear k1
                replace g2 := hid (grown_trans hGs.out (grown_trans hGw.out g2))
                replace hgw := hid hgw
                simp only [outThen, preThen, slotIs, factAt, isv, List.getElem?_cons_zero, List.getElem?_cons_succ, Option.getD_some, forall_eq]
                intros
                rename_i hK
                replace hK := hid hK
                simp only [wantedAt]
                go_simp
                exact hK.out _ _ rfl (grown_refl _ _)
              case o7 =>
                go_light
                intro ac w' hgw
                have g2 := grown_trans (grown_drew (grown_refl wr none)) hgw
                have k1 := K1.out.kept0 g2
                have hcw := ((gcell (grown_trans hGs.out (grown_trans hGw.out g2))).1 b _ hbl.out).trans hcell.out
                have c0 := k1.cell 0
                have c1 := k1.cell 1
                simp at c0 c1
                clear k1
                replace g2 := hid (grown_trans hGs.out (grown_trans hGw.out g2))
                replace hgw := hid hgw
                simp only [outThen, preThen, slotIs, factAt, isv, List.getElem?_cons_zero, List.getElem?_cons_succ, Option.getD_some, forall_eq]
                intros
                rename_i hK
                replace hK := hid hK
                simp only [wantedAt]
                go_simp
                exact hK.out _ _ rfl (grown_refl _ _)
              case o8 =>
                go_light
                intro ac w' hgw
                have g2 := grown_trans (grown_drew (grown_refl wr none)) hgw
                have k1 := K1.out.kept0 g2
                have hcw := ((gcell (grown_trans hGs.out (grown_trans hGw.out g2))).1 b _ hbl.out).trans hcell.out
                have c0 := k1.cell 0
                have c1 := k1.cell 1
                simp at c0 c1
                clear k1
                replace g2 := hid (grown_trans hGs.out (grown_trans hGw.out g2))
                replace hgw := hid hgw
                simp only [outThen, preThen, slotIs, factAt, isv, List.getElem?_cons_zero, List.getElem?_cons_succ, Option.getD_some, forall_eq]
                intros
                rename_i hK
                replace hK := hid hK
                simp only [wantedAt]
                go_simp
                exact hK.out _ _ rfl (grown_refl _ _)
              case o9 =>
                go_light
                intro ac w' hgw
                have g2 := grown_trans (grown_drew (grown_refl wr none)) hgw
                have k1 := K1.out.kept0 g2
                have hcw := ((gcell (grown_trans hGs.out (grown_trans hGw.out g2))).1 b _ hbl.out).trans hcell.out
                have c0 := k1.cell 0
                have c1 := k1.cell 1
                simp at c0 c1
                clear k1
                replace g2 := hid (grown_trans hGs.out (grown_trans hGw.out g2))
                replace hgw := hid hgw
                simp only [outThen, preThen, slotIs, factAt, isv, List.getElem?_cons_zero, List.getElem?_cons_succ, Option.getD_some, forall_eq]
                intros
                rename_i K hK
                replace hK := hid hK
                simp only [wantedAt]
                go_simp
                refine (refAt_is f A Ai d ci text x p w' ht hxl hd hdm.out htb.out hxb.out (hA.out.grown g2.out) (hAi.out.grown g2.out)).mono ?_
                rintro e w3 ⟨rfl, hg⟩
                rw [hS.out]
                exact hK.out _ _ rfl hg
            case st =>
              repeat (first | exact AllStable.nil | (refine AllStable.cons ?_ ?_; focus (first | exact stable_isv _ | exact stable_isBytes _ | exact stable_isRow1 _ | exact stable_isRowOf _ _ | exact stable_isArrOf _)))
            case fin =>
              intro w3 hgw
              simp only [finalIn, factAt, isv, List.getElem?_cons_zero, List.getElem?_cons_succ, Option.getD_some, forall_eq, slotIs, subj]
              simp only [Act.put, List.setIfInBounds_toArray, List.set_cons_zero, List.set_cons_succ]
              have g3 := grown_trans (grown_drew (grown_refl wr none)) hgw
              have hG3 := hid (grown_trans hGi.out g3)
              have K3 := hid (K1.out.kept0 g3)
              clear c0 c1
              have c0 := K3.out.cell 0
              have c1 := K3.out.cell 1
              simp at c0 c1
              clear hgw
              have hsz3 := hid (Nat.le_trans hGo.out.size hG3.out.size)
              have hown3 := hid (hown2.out.grown g3)
              have hits3 := hid (hits10.out.grown g3)
              have hP3 := hid (hP.out.grown (grown_trans hGs.out (grown_trans hGw.out g3)))
              clear g3
              cases S with
              | true =>
                have hHs2 := hid (hHs.out.trans (if_pos rfl))
                clear hHs
                go_wp2_with (go_at_call 26; refine (refPut_is f A10 _ c10 c xss hs (fr + p, (k : Int)) _ (by have := hhl.out; omega) hle10 hcm10.out hP3.out hits3.out).mono ?_; rintro e w6 ⟨v6, rfl, hown6, hg6⟩; replace hown6 := hid (hown6.mono hsz3.out); have hG6 := hid (grown_trans hG3.out hg6); clear hg6)
                go_roundw
                case rel => exact ⟨k + 1, by omega, by go_num, by rw [hHs2.out]; exact hown6.out, hG6.out⟩
                case measure => simp [intOf]; omega
              | false =>
                have hHs2 := hid (hHs.out.trans (if_neg (by simp)))
                clear hHs
                go_wp2_with fail
                go_roundw
                case rel => exact ⟨k + 1, by omega, by go_num, by rw [hHs2.out]; exact hown3.out, hG3.out⟩
                case measure => simp [intOf]; omega
          · obtain rfl : k = xss.length := by omega
            have hhl2 := hhl.out
            have hol2 := hol.out
            have hmul : p * xss.length ≤ 100000 * 100000 := Nat.mul_le_mul (by omega) hn
            have hzz : outs.length + (here f xss text fr p xss.length).length ≤ 1099511627776 := by omega
            have hsz : W0.heap.size ≤ wr.heap.size := hGw.out.size
            go_wp2_with (at_builtin; refine wpList_append_hits rfl _ _ 26 rfl W0.heap.size i0 Tryz.underlying26 hi0 hz0 hz1 hz2 _ outs (here f xss text fr p xss.length) _ _ _ _ (hown.out.grown hGi.out) hits10.out rfl rfl rfl hzz hsz ?_; intro v' w5 hrow1 g5 hB1; replace hrow1 := hid hrow1; replace hB1 := hid hB1; clear g5)
            go_roundw
            case rel => exact ⟨p + 1, by omega, by go_num, by rw [hsc.out]; exact hrow1.out, hBo.out.trans ((below_of_grown hGi.out hGo.out.size (by simp)).trans hB1.out)⟩
            case measure => simp [intOf]; omega
      · obtain rfl : p = text.length + 1 := by omega
        have hown3 := hid (OwnHits.mono hown.out (hGs.out.size))
        go_wp2_with fail
        go_ret2
        exact ⟨_, rfl, hok.out _ _ hown3.out, grown_trans hGs.out hGo.out⟩
end Go.Proofs.YtmahiodejhakpaaGreat
