/- The document's own answer: does this hit stand in the text?. -/
import Derived.Test.YtmahiodejhakpaaGreatK32
import Derived.Test.YtmahiodejhakpaaGreatK19
import Derived.Test.YtmahiodejhakpaaGreatK15
set_option linter.unusedVariables false
set_option linter.unusedSimpArgs false
namespace Go.Proofs.YtmahiodejhakpaaGreat
open Go.RowKit PlainLetter PlainPatset PlainOcc

theorem lenOf_pos {ws : List (List Int)} {k : Int} (h : lenOf ws k ≠ 0) : 0 ≤ k ∧ k < ws.length := by
  unfold lenOf at h
  by_cases hk : k < 0 ∨ (ws.length : Int) ≤ k
  · rw [if_pos hk] at h; exact absurd rfl h
  · omega

set_option maxRecDepth 100000 in
set_option maxHeartbeats 4000000 in
theorem refStands_is (f : Bool) (P A : Option Addr) (c d : Nat) (fr : Int) (text : List Int) (hit : Hit) (xss : List (List Int)) (w : World) (hn : xss.length ≤ 100000) (hl : xss.flatten.length ≤ 100000) (hB : ∀ i, Bytes (xss.getD i [])) (hP : Arrs w P xss)
    (ht : text.length ≤ 100000) (hd : text.length ≤ d) (hdm : d ≤ maxLen) (htb : Bytes text) (hA : Arr w .u8 A text) (hf0 : -9223372036854775808 ≤ fr) (hf1 : fr ≤ 9223372036854775807) (hh0 : -9223372036854775808 ≤ hit.1) (hh1 : hit.1 ≤ 9223372036854775807) :
    Calls Tryz.prog 10 #[.agg #[.bool f, .slice P xss.length c], .int .i64 fr, .slice A text.length d, hitV hit] w fun e w' => e = .returned (.bool (right f xss && decide (0 ≤ fr ∧ fr ≤ 4611686018427387904) && standsHit f xss text fr hit)) ∧ w.grownBy w' none := by
  obtain ⟨h1, h2⟩ := hit
  simp only at hh0 hh1
  replace hdm := hid hdm
  have hgl : Hid (∀ i, (xss.getD i []).length ≤ 100000) := hid (fun k => by
    by_cases hk : k < xss.length
    · have h1 := flatten_take_succ xss k hk
      have h2 := flatten_take_le xss (k + 1)
      rw [h1, List.length_append] at h2
      omega
    · simp [List.getD, List.getElem?_eq_none (Nat.le_of_not_lt hk)])
  have hS : Hid (standsHit f xss text fr (h1, h2) = if lenOf xss h2 = 0 ∨ h1 < fr ∨ fr + text.length < h1 then false else stands f text (h1 - fr) (xss.getD h2.toNat [])) := hid rfl
  replace hP := hid hP
  replace hA := hid hA
  replace hB := hid hB
  replace htb := hid htb
  have H1 : Hid (Holds ((w.alloc (.cells #[.bool f, .slice P xss.length c] 24)).alloc (.cells #[.int .i64 h1, .int .i64 h2] 28)) w.heap.size 24 #[.bool f, .slice P xss.length c]) := (Holds.new _ _ _).alloc _
  have H2 : Hid (Holds ((w.alloc (.cells #[.bool f, .slice P xss.length c] 24)).alloc (.cells #[.int .i64 h1, .int .i64 h2] 28)) (w.heap.size + 1) 28 #[.int .i64 h1, .int .i64 h2]) := by
    refine Holds.new_at _ _ ?_
    simp
  have hG0 : Hid (w.grownBy ((w.alloc (.cells #[.bool f, .slice P xss.length c] 24)).alloc (.cells #[.int .i64 h1, .int .i64 h2] 28)) none) := grown_alloc (grown_alloc (grown_refl w none) _) _
  have hRight := hid (refRight_is f P c xss ((w.alloc (.cells #[.bool f, .slice P xss.length c] 24)).alloc (.cells #[.int .i64 h1, .int .i64 h2] 28)) hn hl hB.out (hP.out.grown hG0.out))
  generalize hR : right f xss = R at hRight ⊢
  replace hR := hid hR
  have cl : ∀ v : Bool, (R && decide (0 ≤ fr ∧ fr ≤ 4611686018427387904) && standsHit f xss text fr (h1, h2)) = v → Ending.returned (Value.bool v) = Ending.returned (.bool (R && decide (0 ≤ fr ∧ fr ≤ 4611686018427387904) && standsHit f xss text fr (h1, h2))) := fun v hv => by rw [hv]
  replace cl := hid cl
  cases R with
  | false =>
    go_enter Tryz.func10, Tryz.ntmps10
    go_wp2_with (go_at_call 24; refine hRight.out.mono ?_; rintro e w1 ⟨rfl, hg⟩; have hG1 := hid (grown_trans hG0.out hg))
    go_ret
    exact ⟨cl.out _ (by simp), hG1.out⟩
  | true =>
    by_cases f0 : fr < 0
    · have hv : Hid ((true && decide (0 ≤ fr ∧ fr ≤ 4611686018427387904) && standsHit f xss text fr (h1, h2)) = false) := hid (by
        have : decide (0 ≤ fr ∧ fr ≤ 4611686018427387904) = false := decide_eq_false (by omega)
        rw [this]; simp)
      go_enter Tryz.func10, Tryz.ntmps10
      go_wp2_with (go_at_call 24; refine hRight.out.mono ?_; rintro e w1 ⟨rfl, hg⟩; have hG1 := hid (grown_trans hG0.out hg))
      go_ret
      exact ⟨cl.out _ hv.out, hG1.out⟩
    by_cases f1 : 4611686018427387904 < fr
    · have hv : Hid ((true && decide (0 ≤ fr ∧ fr ≤ 4611686018427387904) && standsHit f xss text fr (h1, h2)) = false) := hid (by
        have : decide (0 ≤ fr ∧ fr ≤ 4611686018427387904) = false := decide_eq_false (by omega)
        rw [this]; simp)
      go_enter Tryz.func10, Tryz.ntmps10
      go_wp2_with (go_at_call 24; refine hRight.out.mono ?_; rintro e w1 ⟨rfl, hg⟩; have hG1 := hid (grown_trans hG0.out hg))
      go_ret
      exact ⟨cl.out _ hv.out, hG1.out⟩
    have hok : Hid (decide (0 ≤ fr ∧ fr ≤ 4611686018427387904) = true) := decide_eq_true (by omega)
    go_enter Tryz.func10, Tryz.ntmps10
    go_upto_region 1 with fail
    obtain ⟨W0, hW0⟩ : ∃ W0, (w.alloc (.cells #[.bool f, .slice P xss.length c] 24)).alloc (.cells #[.int .i64 h1, .int .i64 h2] 28) = W0 := ⟨_, rfl⟩
    rw [hW0] at H1 H2 hG0 hRight ⊢
    clear hW0
    obtain ⟨h, hh⟩ : ∃ h, w.heap.size = h := ⟨_, rfl⟩
    rw [hh] at H1 H2 ⊢
    replace hh := hid hh
    have c0 := H1.out.cell 0
    have c1 := H1.out.cell 1
    simp at c0 c1
    have hwf : IntKind.i64.wrap (fr + (text.length : Int)) = fr + text.length := by simp [IntKind.wrap, IntKind.bits, IntKind.signed]; omega
    generalize hL : lenOf xss h2 = L at hS
    replace hL := hid hL
    by_cases l0 : L = 0
    · have hv : Hid ((true && decide (0 ≤ fr ∧ fr ≤ 4611686018427387904) && standsHit f xss text fr (h1, h2)) = false) := hid (by rw [hS.out.trans (if_pos (.inl l0))]; simp)
      clear hS
      go_wp2_with (first
        | (go_at_call 24; refine hRight.out.mono ?_; rintro e w1 ⟨rfl, hg⟩; have hG1 := hid (grown_trans hG0.out hg); have K1 := hid (H1.out.kept0 hg); have K2 := hid (H2.out.kept0 hg); clear c0 c1; have c0 := K1.out.cell 0; have c1 := K1.out.cell 1; have d0 := K2.out.cell 0; have d1 := K2.out.cell 1; simp at c0 c1 d0 d1; replace hg := hid hg)
        | (go_at_call 29; refine (refLength_is f P c xss h2 w1 (hP.out.grown hG1.out)).mono ?_; rintro e w2 ⟨rfl, hg2⟩; rw [hL.out]; have hG2 := hid (grown_trans hG1.out hg2); have M1 := hid (K1.out.kept0 hg2); have M2 := hid (K2.out.kept0 hg2); clear c0 c1 d0 d1; have c0 := M1.out.cell 0; have c1 := M1.out.cell 1; have d0 := M2.out.cell 0; have d1 := M2.out.cell 1; simp at c0 c1 d0 d1; replace hg2 := hid hg2))
      go_ret
      exact ⟨cl.out _ hv.out, hG2.out⟩
    by_cases l1 : h1 < fr
    · have hv : Hid ((true && decide (0 ≤ fr ∧ fr ≤ 4611686018427387904) && standsHit f xss text fr (h1, h2)) = false) := hid (by rw [hS.out.trans (if_pos (.inr (.inl l1)))]; simp)
      clear hS
      go_wp2_with (first
        | (go_at_call 24; refine hRight.out.mono ?_; rintro e w1 ⟨rfl, hg⟩; have hG1 := hid (grown_trans hG0.out hg); have K1 := hid (H1.out.kept0 hg); have K2 := hid (H2.out.kept0 hg); clear c0 c1; have c0 := K1.out.cell 0; have c1 := K1.out.cell 1; have d0 := K2.out.cell 0; have d1 := K2.out.cell 1; simp at c0 c1 d0 d1; replace hg := hid hg)
        | (go_at_call 29; refine (refLength_is f P c xss h2 w1 (hP.out.grown hG1.out)).mono ?_; rintro e w2 ⟨rfl, hg2⟩; rw [hL.out]; have hG2 := hid (grown_trans hG1.out hg2); have M1 := hid (K1.out.kept0 hg2); have M2 := hid (K2.out.kept0 hg2); clear c0 c1 d0 d1; have c0 := M1.out.cell 0; have c1 := M1.out.cell 1; have d0 := M2.out.cell 0; have d1 := M2.out.cell 1; simp at c0 c1 d0 d1; replace hg2 := hid hg2))
      go_ret
      exact ⟨cl.out _ hv.out, hG2.out⟩
    by_cases l2 : fr + text.length < h1
    · have hv : Hid ((true && decide (0 ≤ fr ∧ fr ≤ 4611686018427387904) && standsHit f xss text fr (h1, h2)) = false) := hid (by rw [hS.out.trans (if_pos (.inr (.inr l2)))]; simp)
      clear hS
      go_wp2_with (first
        | (go_at_call 24; refine hRight.out.mono ?_; rintro e w1 ⟨rfl, hg⟩; have hG1 := hid (grown_trans hG0.out hg); have K1 := hid (H1.out.kept0 hg); have K2 := hid (H2.out.kept0 hg); clear c0 c1; have c0 := K1.out.cell 0; have c1 := K1.out.cell 1; have d0 := K2.out.cell 0; have d1 := K2.out.cell 1; simp at c0 c1 d0 d1; replace hg := hid hg)
        | (go_at_call 29; refine (refLength_is f P c xss h2 w1 (hP.out.grown hG1.out)).mono ?_; rintro e w2 ⟨rfl, hg2⟩; rw [hL.out]; have hG2 := hid (grown_trans hG1.out hg2); have M1 := hid (K1.out.kept0 hg2); have M2 := hid (K2.out.kept0 hg2); clear c0 c1 d0 d1; have c0 := M1.out.cell 0; have c1 := M1.out.cell 1; have d0 := M2.out.cell 0; have d1 := M2.out.cell 1; simp at c0 c1 d0 d1; replace hg2 := hid hg2))
      go_ret
      exact ⟨cl.out _ hv.out, hG2.out⟩
    have hv : Hid ((true && decide (0 ≤ fr ∧ fr ≤ 4611686018427387904) && standsHit f xss text fr (h1, h2)) = stands f text (h1 - fr) (xss.getD h2.toNat [])) := hid (by rw [hS.out.trans (if_neg (by omega)), hok.out]; rfl)
    clear hS
    have hh2 := lenOf_pos (by rw [hL.out]; exact l0 : lenOf xss h2 ≠ 0)
    obtain ⟨i, rfl⟩ : ∃ i : Nat, h2 = i := ⟨h2.toNat, by omega⟩
    rw [Int.toNat_natCast] at hv
    have hi : i < xss.length := by omega
    obtain ⟨b, off, Ai, ci, rfl, hb0, hcell, hAi⟩ := hP.out.at_ hi
    have hxl := hgl.out i
    have hxb := hid (hB.out i)
    generalize xss.getD i [] = x at hcell hAi hv hxl hxb
    replace hcell := hid hcell
    replace hAi := hid hAi
    have hbl : Hid (b < w.heap.size) := hb0
    clear hb0
    have i0 : (0 : Int) ≤ (i : Int) := by omega
    have i1 : (i : Int) < (xss.length : Int) := by omega
    have b0 : decide (fr < 0) = false := decide_eq_false (by omega)
    have b1 : decide (4611686018427387904 < fr) = false := decide_eq_false (by omega)
    have b2 : (L == 0) = false := by rw [beq_eq_false_iff_ne]; exact l0
    have b3 : decide (h1 < fr) = false := decide_eq_false (by omega)
    have b4 : decide (fr + (text.length : Int) < h1) = false := decide_eq_false (by omega)
    have hwd : IntKind.i64.wrap (h1 - fr) = h1 - fr := by simp [IntKind.wrap, IntKind.bits, IntKind.signed]; omega
    go_wp2_with (first
      | (go_at_call 24; refine hRight.out.mono ?_; rintro e w1 ⟨rfl, hg⟩; have hG1 := hid (grown_trans hG0.out hg); have K1 := hid (H1.out.kept0 hg); have K2 := hid (H2.out.kept0 hg); clear c0 c1; have c0 := K1.out.cell 0; have c1 := K1.out.cell 1; have d0 := K2.out.cell 0; have d1 := K2.out.cell 1; simp at c0 c1 d0 d1; replace hg := hid hg)
      | (go_at_call 29; refine (refLength_is f _ c xss i w1 (hP.out.grown hG1.out)).mono ?_; rintro e w2 ⟨rfl, hg2⟩; rw [hL.out]; have hG2 := hid (grown_trans hG1.out hg2); have M1 := hid (K1.out.kept0 hg2); have M2 := hid (K2.out.kept0 hg2); clear c0 c1 d0 d1; have c0 := M1.out.cell 0; have c1 := M1.out.cell 1; have d0 := M2.out.cell 0; have d1 := M2.out.cell 1; simp at c0 c1 d0 d1; replace hg2 := hid hg2))
    apply wp_region_each [isv _, isv (.bool f), isv _, isv _, isv (.int .i64 h1), isv _, isv (.int .i64 (h1 - fr)), isv _, isv (.slice (some ⟨b, off, none⟩) xss.length c), isv _, isv (.int .i64 (i : Int)), isv _, isv (.slice Ai x.length ci), isv (.bool (stands f text (h1 - fr) x)), isv (.bool (stands f text (h1 - fr) x))]
      56 [some 42, some 43, some 44, some 45, some 46, some 47, some 48, some 49, some 50, some 51, some 52, some 53, some 54, some 55, some 8]
      [some 42, some 43, some 44, some 45, some 46, some 47, some 48, some 49, some 50, some 51, some 52, some 53, some 54, some 55, some 8]
      [[], [0], [], [], [3], [], [4, 5], [], [7], [], [9], [8, 10], [11], [1, 2, 6, 12], [13]]
      [(1, .int .i64 fr), (2, .slice A text.length d), (4, .pointer (some ⟨h, 0, none⟩)), (7, .pointer (some ⟨h + 1, 0, none⟩))] (by kernel_rfl) rfl (by kernel_rfl) rfl rfl (by kernel_rfl) (OutsOk.cons rfl rfl (OutsOk.cons rfl rfl (OutsOk.cons rfl rfl (OutsOk.cons rfl rfl OutsOk.nil)))) ?st ?ob ?fin
    case ob =>
      refine Obs.consv rfl ?o0 (Obs.consv rfl ?o1 (Obs.consv rfl ?o2 (Obs.consv rfl ?o3 (Obs.consv rfl ?o4 (Obs.consv rfl ?o5 (Obs.consv rfl ?o6 (Obs.consv rfl ?o7 (Obs.consv rfl ?o8 (Obs.consv rfl ?o9 (Obs.consv rfl ?o10 (Obs.consv rfl ?o11 (Obs.consv rfl ?o12 (Obs.consv rfl ?o13 (Obs.consv rfl ?o14 Obs.nil))))))))))))))
      case o0 =>
        go_light
        intro ac w' hgw
        have g2 := grown_trans (grown_drew (grown_refl w2 none)) hgw
        have k1 := M1.out.kept0 g2
        have k2 := M2.out.kept0 g2
        have hcw := ((gcell (grown_trans hG2.out g2)).1 b _ hbl.out).trans hcell.out
        have c0 := k1.cell 0
        have c1 := k1.cell 1
        have d0 := k2.cell 0
        have d1 := k2.cell 1
        simp at c0 c1 d0 d1
        clear k1 k2
        replace g2 := hid (grown_trans hG2.out g2)
        replace hgw := hid hgw
        simp only [outThen, preThen, slotIs, factAt, isv, List.getElem?_cons_zero, List.getElem?_cons_succ, Option.getD_some, forall_eq]
        intros
        rename_i hK
        replace hK := hid hK
        simp only [wantedAt]
        go_simp
        exact hK.out _ _ rfl (grown_refl _ _)
      case o1 =>
        go_light
        intro ac w' hgw
        have g2 := grown_trans (grown_drew (grown_refl w2 none)) hgw
        have k1 := M1.out.kept0 g2
        have k2 := M2.out.kept0 g2
        have hcw := ((gcell (grown_trans hG2.out g2)).1 b _ hbl.out).trans hcell.out
        have c0 := k1.cell 0
        have c1 := k1.cell 1
        have d0 := k2.cell 0
        have d1 := k2.cell 1
        simp at c0 c1 d0 d1
        clear k1 k2
        replace g2 := hid (grown_trans hG2.out g2)
        replace hgw := hid hgw
        simp only [outThen, preThen, slotIs, factAt, isv, List.getElem?_cons_zero, List.getElem?_cons_succ, Option.getD_some, forall_eq]
        intros
        rename_i hK
        replace hK := hid hK
        simp only [wantedAt]
        go_simp
        exact hK.out _ _ rfl (grown_refl _ _)
      case o2 =>
        go_light
        intro ac w' hgw
        have g2 := grown_trans (grown_drew (grown_refl w2 none)) hgw
        have k1 := M1.out.kept0 g2
        have k2 := M2.out.kept0 g2
        have hcw := ((gcell (grown_trans hG2.out g2)).1 b _ hbl.out).trans hcell.out
        have c0 := k1.cell 0
        have c1 := k1.cell 1
        have d0 := k2.cell 0
        have d1 := k2.cell 1
        simp at c0 c1 d0 d1
        clear k1 k2
        replace g2 := hid (grown_trans hG2.out g2)
        replace hgw := hid hgw
        simp only [outThen, preThen, slotIs, factAt, isv, List.getElem?_cons_zero, List.getElem?_cons_succ, Option.getD_some, forall_eq]
        intros
        rename_i hK
        replace hK := hid hK
        simp only [wantedAt]
        go_simp
        exact hK.out _ _ rfl (grown_refl _ _)
      case o3 =>
        go_light
        intro ac w' hgw
        have g2 := grown_trans (grown_drew (grown_refl w2 none)) hgw
        have k1 := M1.out.kept0 g2
        have k2 := M2.out.kept0 g2
        have hcw := ((gcell (grown_trans hG2.out g2)).1 b _ hbl.out).trans hcell.out
        have c0 := k1.cell 0
        have c1 := k1.cell 1
        have d0 := k2.cell 0
        have d1 := k2.cell 1
        simp at c0 c1 d0 d1
        clear k1 k2
        replace g2 := hid (grown_trans hG2.out g2)
        replace hgw := hid hgw
        simp only [outThen, preThen, slotIs, factAt, isv, List.getElem?_cons_zero, List.getElem?_cons_succ, Option.getD_some, forall_eq]
        intros
        rename_i hK
        replace hK := hid hK
        simp only [wantedAt]
        go_simp
        exact hK.out _ _ rfl (grown_refl _ _)
      case o4 =>
        go_light
        intro ac w' hgw
        have g2 := grown_trans (grown_drew (grown_refl w2 none)) hgw
        have k1 := M1.out.kept0 g2
        have k2 := M2.out.kept0 g2
        have hcw := ((gcell (grown_trans hG2.out g2)).1 b _ hbl.out).trans hcell.out
        have c0 := k1.cell 0
        have c1 := k1.cell 1
        have d0 := k2.cell 0
        have d1 := k2.cell 1
        simp at c0 c1 d0 d1
        clear k1 k2
        replace g2 := hid (grown_trans hG2.out g2)
        replace hgw := hid hgw
        simp only [outThen, preThen, slotIs, factAt, isv, List.getElem?_cons_zero, List.getElem?_cons_succ, Option.getD_some, forall_eq]
        intros
        rename_i hK
        replace hK := hid hK
        simp only [wantedAt]
        go_simp
        exact hK.out _ _ rfl (grown_refl _ _)
      case o5 =>
        go_light
        intro ac w' hgw
        have g2 := grown_trans (grown_drew (grown_refl w2 none)) hgw
        have k1 := M1.out.kept0 g2
        have k2 := M2.out.kept0 g2
        have hcw := ((gcell (grown_trans hG2.out g2)).1 b _ hbl.out).trans hcell.out
        have c0 := k1.cell 0
        have c1 := k1.cell 1
        have d0 := k2.cell 0
        have d1 := k2.cell 1
        simp at c0 c1 d0 d1
        clear k1 k2
        replace g2 := hid (grown_trans hG2.out g2)
        replace hgw := hid hgw
        simp only [outThen, preThen, slotIs, factAt, isv, List.getElem?_cons_zero, List.getElem?_cons_succ, Option.getD_some, forall_eq]
        intros
        rename_i hK
        replace hK := hid hK
        simp only [wantedAt]
        go_simp
        exact hK.out _ _ rfl (grown_refl _ _)
      case o6 =>
        go_light
        intro ac w' hgw
        have g2 := grown_trans (grown_drew (grown_refl w2 none)) hgw
        have k1 := M1.out.kept0 g2
        have k2 := M2.out.kept0 g2
        have hcw := ((gcell (grown_trans hG2.out g2)).1 b _ hbl.out).trans hcell.out
        have c0 := k1.cell 0
        have c1 := k1.cell 1
        have d0 := k2.cell 0
        have d1 := k2.cell 1
        simp at c0 c1 d0 d1
        clear k1 k2
        replace g2 := hid (grown_trans hG2.out g2)
        replace hgw := hid hgw
        simp only [outThen, preThen, slotIs, factAt, isv, List.getElem?_cons_zero, List.getElem?_cons_succ, Option.getD_some, forall_eq]
        intros
        rename_i hK
        replace hK := hid hK
        simp only [wantedAt]
        go_simp
        exact hK.out _ _ rfl (grown_refl _ _)
      case o7 =>
        go_light
        intro ac w' hgw
        have g2 := grown_trans (grown_drew (grown_refl w2 none)) hgw
        have k1 := M1.out.kept0 g2
        have k2 := M2.out.kept0 g2
        have hcw := ((gcell (grown_trans hG2.out g2)).1 b _ hbl.out).trans hcell.out
        have c0 := k1.cell 0
        have c1 := k1.cell 1
        have d0 := k2.cell 0
        have d1 := k2.cell 1
        simp at c0 c1 d0 d1
        clear k1 k2
        replace g2 := hid (grown_trans hG2.out g2)
        replace hgw := hid hgw
        simp only [outThen, preThen, slotIs, factAt, isv, List.getElem?_cons_zero, List.getElem?_cons_succ, Option.getD_some, forall_eq]
        intros
        rename_i hK
        replace hK := hid hK
        simp only [wantedAt]
        go_simp
        exact hK.out _ _ rfl (grown_refl _ _)
      case o8 =>
        go_light
        intro ac w' hgw
        have g2 := grown_trans (grown_drew (grown_refl w2 none)) hgw
        have k1 := M1.out.kept0 g2
        have k2 := M2.out.kept0 g2
        have hcw := ((gcell (grown_trans hG2.out g2)).1 b _ hbl.out).trans hcell.out
        have c0 := k1.cell 0
        have c1 := k1.cell 1
        have d0 := k2.cell 0
        have d1 := k2.cell 1
        simp at c0 c1 d0 d1
        clear k1 k2
        replace g2 := hid (grown_trans hG2.out g2)
        replace hgw := hid hgw
        simp only [outThen, preThen, slotIs, factAt, isv, List.getElem?_cons_zero, List.getElem?_cons_succ, Option.getD_some, forall_eq]
        intros
        rename_i hK
        replace hK := hid hK
        simp only [wantedAt]
        go_simp
        exact hK.out _ _ rfl (grown_refl _ _)
      case o9 =>
        go_light
        intro ac w' hgw
        have g2 := grown_trans (grown_drew (grown_refl w2 none)) hgw
        have k1 := M1.out.kept0 g2
        have k2 := M2.out.kept0 g2
        have hcw := ((gcell (grown_trans hG2.out g2)).1 b _ hbl.out).trans hcell.out
        have c0 := k1.cell 0
        have c1 := k1.cell 1
        have d0 := k2.cell 0
        have d1 := k2.cell 1
        simp at c0 c1 d0 d1
        clear k1 k2
        replace g2 := hid (grown_trans hG2.out g2)
        replace hgw := hid hgw
        simp only [outThen, preThen, slotIs, factAt, isv, List.getElem?_cons_zero, List.getElem?_cons_succ, Option.getD_some, forall_eq]
        intros
        rename_i hK
        replace hK := hid hK
        simp only [wantedAt]
        go_simp
        exact hK.out _ _ rfl (grown_refl _ _)
      case o10 =>
        go_light
        intro ac w' hgw
        have g2 := grown_trans (grown_drew (grown_refl w2 none)) hgw
        have k1 := M1.out.kept0 g2
        have k2 := M2.out.kept0 g2
        have hcw := ((gcell (grown_trans hG2.out g2)).1 b _ hbl.out).trans hcell.out
        have c0 := k1.cell 0
        have c1 := k1.cell 1
        have d0 := k2.cell 0
        have d1 := k2.cell 1
        simp at c0 c1 d0 d1
        clear k1 k2
        replace g2 := hid (grown_trans hG2.out g2)
        replace hgw := hid hgw
        simp only [outThen, preThen, slotIs, factAt, isv, List.getElem?_cons_zero, List.getElem?_cons_succ, Option.getD_some, forall_eq]
        intros
        rename_i hK
        replace hK := hid hK
        simp only [wantedAt]
        go_simp
        exact hK.out _ _ rfl (grown_refl _ _)
      case o11 =>
        go_light
        intro ac w' hgw
        have g2 := grown_trans (grown_drew (grown_refl w2 none)) hgw
        have k1 := M1.out.kept0 g2
        have k2 := M2.out.kept0 g2
        have hcw := ((gcell (grown_trans hG2.out g2)).1 b _ hbl.out).trans hcell.out
        have c0 := k1.cell 0
        have c1 := k1.cell 1
        have d0 := k2.cell 0
        have d1 := k2.cell 1
        simp at c0 c1 d0 d1
        clear k1 k2
        replace g2 := hid (grown_trans hG2.out g2)
        replace hgw := hid hgw
        simp only [outThen, preThen, slotIs, factAt, isv, List.getElem?_cons_zero, List.getElem?_cons_succ, Option.getD_some, forall_eq]
        intros
        rename_i hK
        replace hK := hid hK
        simp only [wantedAt]
        go_simp
        exact hK.out _ _ rfl (grown_refl _ _)
      case o12 =>
        go_light
        intro ac w' hgw
        have g2 := grown_trans (grown_drew (grown_refl w2 none)) hgw
        have k1 := M1.out.kept0 g2
        have k2 := M2.out.kept0 g2
        have hcw := ((gcell (grown_trans hG2.out g2)).1 b _ hbl.out).trans hcell.out
        have c0 := k1.cell 0
        have c1 := k1.cell 1
        have d0 := k2.cell 0
        have d1 := k2.cell 1
        simp at c0 c1 d0 d1
        clear k1 k2
        replace g2 := hid (grown_trans hG2.out g2)
        replace hgw := hid hgw
        simp only [outThen, preThen, slotIs, factAt, isv, List.getElem?_cons_zero, List.getElem?_cons_succ, Option.getD_some, forall_eq]
        intros
        rename_i hK
        replace hK := hid hK
        simp only [wantedAt]
        go_simp
        exact hK.out _ _ rfl (grown_refl _ _)
      case o13 =>
        go_light
        intro ac w' hgw
        have g2 := grown_trans (grown_drew (grown_refl w2 none)) hgw
        have k1 := M1.out.kept0 g2
        have k2 := M2.out.kept0 g2
        have hcw := ((gcell (grown_trans hG2.out g2)).1 b _ hbl.out).trans hcell.out
        have c0 := k1.cell 0
        have c1 := k1.cell 1
        have d0 := k2.cell 0
        have d1 := k2.cell 1
        simp at c0 c1 d0 d1
        clear k1 k2
        replace g2 := hid (grown_trans hG2.out g2)
        replace hgw := hid hgw
        simp only [outThen, preThen, slotIs, factAt, isv, List.getElem?_cons_zero, List.getElem?_cons_succ, Option.getD_some, forall_eq]
        intros
        rename_i K hK
        replace hK := hid hK
        simp only [wantedAt]
        go_simp
        refine (refAt_is f A Ai d ci text x (h1 - fr) w' ht hxl hd hdm.out htb.out hxb.out (hA.out.grown g2.out) (hAi.out.grown g2.out)).mono ?_
        rintro e w3 ⟨rfl, hg⟩
        exact hK.out _ _ rfl hg
      case o14 =>
        go_light
        intro ac w' hgw
        have g2 := grown_trans (grown_drew (grown_refl w2 none)) hgw
        have k1 := M1.out.kept0 g2
        have k2 := M2.out.kept0 g2
        have hcw := ((gcell (grown_trans hG2.out g2)).1 b _ hbl.out).trans hcell.out
        have c0 := k1.cell 0
        have c1 := k1.cell 1
        have d0 := k2.cell 0
        have d1 := k2.cell 1
        simp at c0 c1 d0 d1
        clear k1 k2
        replace g2 := hid (grown_trans hG2.out g2)
        replace hgw := hid hgw
        simp only [outThen, preThen, slotIs, factAt, isv, List.getElem?_cons_zero, List.getElem?_cons_succ, Option.getD_some, forall_eq]
        intros
        rename_i hK
        replace hK := hid hK
        simp only [wantedAt]
        go_simp
        exact hK.out _ _ rfl (grown_refl _ _)
    case st =>
      repeat (first | exact AllStable.nil | (refine AllStable.cons ?_ ?_; focus (first | exact stable_isv _ | exact stable_isBytes _ | exact stable_isRow1 _ | exact stable_isRowOf _ _ | exact stable_isArrOf _)))
    case fin =>
      intro w3 hgw
      simp only [finalIn, factAt, isv, List.getElem?_cons_zero, List.getElem?_cons_succ, Option.getD_some, forall_eq, slotIs, subj]
      simp only [Act.put, List.setIfInBounds_toArray, List.set_cons_zero, List.set_cons_succ]
      have hG3 := hid (grown_trans hG2.out (grown_trans (grown_drew (grown_refl w2 none)) hgw))
      clear hgw
      go_wp2_with fail
      go_ret
      exact ⟨cl.out _ hv.out, hG3.out⟩

end Go.Proofs.YtmahiodejhakpaaGreat
