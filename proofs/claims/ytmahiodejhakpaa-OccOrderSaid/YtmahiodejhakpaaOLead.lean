/- Package occ: which of two hits comes ahead; whether hits rise. -/
import Derived.Test.YtmahiodejhakpaaOGath
import Derived.Test.YtmahiodejhakpaaK20
set_option linter.unusedSimpArgs false
set_option linter.unusedVariables false
set_option maxRecDepth 100000
namespace Go.Proofs.Ytmahiodejhakpaa
open Go.RowKit PlainLetter PlainPatset PlainOcc

theorem occLess_is (f : Bool) (P : Option Addr) (c : Nat) (xss : List (List Int)) (a b : Hit) (w : World) (hP : Arrs w P xss) :
    Calls Try.prog 17 #[.agg #[.bool f, .slice P xss.length c], hitV a, hitV b] w fun e w' => e = .returned (.bool (less xss a b)) ∧ w.grownBy w' none := by
  obtain ⟨a1, a2⟩ := a
  obtain ⟨b1, b2⟩ := b
  replace hP := hid hP
  have hG0 : Hid (w.grownBy ((((w.alloc (.cells #[.bool f, .slice P xss.length c] 24)).alloc (.cells #[.int .i64 a1, .int .i64 a2] 35)).alloc (.cells #[.int .i64 b1, .int .i64 b2] 35)).alloc (.cells #[.bool f, .slice P xss.length c, .slice none 0 0] 52)) none) := grown_alloc (grown_alloc (grown_alloc (grown_alloc (grown_refl w none) _) _) _) _
  have H0 : Holds ((((w.alloc (.cells #[.bool f, .slice P xss.length c] 24)).alloc (.cells #[.int .i64 a1, .int .i64 a2] 35)).alloc (.cells #[.int .i64 b1, .int .i64 b2] 35)).alloc (.cells #[.bool f, .slice P xss.length c, .slice none 0 0] 52)) (w.heap.size + 3) 52 #[.bool f, .slice P xss.length c, .slice none 0 0] := Holds.new_at _ _ (by simp)
  have key := hid (G.compare_is f P c xss (.slice none 0 0) (w.heap.size + 3) (a1, a2) (b1, b2) ((((w.alloc (.cells #[.bool f, .slice P xss.length c] 24)).alloc (.cells #[.int .i64 a1, .int .i64 a2] 35)).alloc (.cells #[.int .i64 b1, .int .i64 b2] 35)).alloc (.cells #[.bool f, .slice P xss.length c, .slice none 0 0] 52)) H0 (hP.out.grown hG0.out))
  have hl := hid (cmpHit_less xss (a1, a2) (b1, b2))
  clear H0
  generalize cmpHit xss (a1, a2) (b1, b2) = r at key hl
  go_enter Try.func17, Try.ntmps17
  go_wp2_with (go_at_call 31; refine key.out.mono ?_; rintro e w2 ⟨rfl, hg⟩; have hG1 := hid (grown_trans hG0.out hg.gr); clear hg)
  go_ret
  exact ⟨by rw [← hl.out]; rfl, hG1.out⟩


set_option maxHeartbeats 4000000 in
theorem rise_is (f : Bool) (P Q : Option Addr) (c d h : Nat) (xss : List (List Int)) (l : List Hit) (w : World) (hn : l.length ≤ 1099511627776) (H : Holds w h 52 #[.bool f, .slice P xss.length c, .slice Q l.length d]) (hP : Arrs w P xss) (hQ : Hits w Q l) :
    Calls Try.prog 26 #[.pointer (some ⟨h, 0, none⟩)] w fun e w' => e = .returned (.bool (rise xss l)) ∧ w.grownBy w' none := by
  have hcell := H.cell 2
  simp at hcell
  replace H := hid H
  replace hP := hid hP
  replace hQ := hid hQ
  replace hn := hid hn
  go_enter Try.func26, Try.ntmps26
  go_wp2_with fail
  clear hcell
  go_loopw [10] (fun i wr => ∃ k : Nat, k ≤ l.length ∧ i = .int .i64 k ∧ w.grownBy wr none ∧ rise xss (l.take k) = true) (fun i _ => l.length - (intOf i).toNat)
  case atStart => exact ⟨0, Nat.zero_le _, rfl, grown_refl _ _, rise_one _ _ (by simp)⟩
  case round =>
    obtain ⟨k, hk0, rfl, hG, hrise⟩ := hrel
    replace hrise := hid hrise
    have hnn := hn.out
    by_cases hlt : k < l.length
    · obtain ⟨b, off, rfl, hb0, hcs⟩ := hQ.out.at_ hlt
      obtain ⟨hcy0, hcy1⟩ := hcs k hlt
      have hbl : Hid (b < wr.heap.size) := Nat.lt_of_lt_of_le hb0 hG.size
      replace hcy0 := ((gcell hG).1 b _ hb0).trans hcy0
      replace hcy1 := ((gcell hG).1 b _ hb0).trans hcy1
      have H1 := hid (H.out.kept0 hG)
      have hP1 := hid (hP.out.grown hG)
      replace hb0 := hid hb0
      have q0 : (0 : Int) ≤ (k : Int) := by omega
      have q1 : (k : Int) < (l.length : Int) := by omega
      have hone := hid (rise_one xss (l.take 1) (by simp; omega))
      rcases k with _ | j
      · generalize l.getD 0 (0, 0) = y at hcy0 hcy1
        obtain ⟨y1, y2⟩ := y
        clear hcs
        simp only at hcy0 hcy1
        replace hG := hid hG
        simp only [Nat.zero_mul, Nat.add_zero] at hcy0 hcy1
        go_upto_region 4 with fail
        obtain ⟨W0, hW0⟩ : ∃ W0, wr.alloc (.cells #[.int .i64 y1, .int .i64 y2] 35) = W0 := ⟨_, rfl⟩
        have hG2 : Hid (wr.grownBy W0 none) := by rw [← hW0]; exact grown_alloc (grown_refl wr none) _
        have H2 : Hid (Holds W0 wr.heap.size 35 #[.int .i64 y1, .int .i64 y2]) := by rw [← hW0]; exact Holds.new _ _ _
        rw [hW0]
        clear hW0
        obtain ⟨g, hgs⟩ : ∃ g, wr.heap.size = g := ⟨_, rfl⟩
        rw [hgs] at H2 hbl ⊢
        replace hgs := hid hgs
        clear hcy0 hcy1
        apply wp_region_each [isv (.int .i64 0), isv (.bool false), isv (.bool false), isv undef, isv undef, isv undef, isv undef, isv undef, isv undef, isv undef, isv undef, isv undef, isv undef, isv undef, isv undef, isv (.bool false)]
          32 [some 15, some 16, some 17, some 18, some 19, some 20, some 21, some 22, some 23, some 24, some 25, some 26, some 27, some 28, some 29, some 30]
          [some 15, some 16, some 17, some 18, some 19, some 20, some 21, some 22, some 23, some 24, some 25, some 26, some 27, some 28, some 29, some 30]
          [[], [0], [1], [2], [2], [4, 2], [5, 2], [6, 2], [2], [8, 2], [7, 9, 2], [10, 2], [2], [3, 11, 12, 2], [13, 2], [2, 14]]
          [(0, .pointer (some ⟨h, 0, none⟩)), (4, .pointer (some ⟨g, 0, none⟩)), (3, .int .i64 0)] (by kernel_rfl) rfl (by kernel_rfl) rfl rfl (by kernel_rfl) (OutsOk.cons rfl rfl (OutsOk.cons rfl rfl (OutsOk.cons rfl rfl OutsOk.nil))) ?st ?ob ?fin
        case ob =>
          refine Obs.consv rfl ?o0 (Obs.consv rfl ?o1 (Obs.consv rfl ?o2 (Obs.consv rfl ?o3 (Obs.consv rfl ?o4 (Obs.consv rfl ?o5 (Obs.consv rfl ?o6 (Obs.consv rfl ?o7 (Obs.consv rfl ?o8 (Obs.consv rfl ?o9 (Obs.consv rfl ?o10 (Obs.consv rfl ?o11 (Obs.consv rfl ?o12 (Obs.consv rfl ?o13 (Obs.consv rfl ?o14 (Obs.consv rfl ?o15 Obs.nil)))))))))))))))
          case o0 =>
            go_light
            intro ac w' hgw
            replace hgw := hid hgw
            simp only [outThen, preThen, slotIs, factAt, isv, List.getElem?_cons_zero, List.getElem?_cons_succ, Option.getD_some, forall_eq]
            intros
            rename_i hK
            replace hK := hid hK
            simp only [wantedAt]
            go_simp
            exact hK.out _ _ rfl (grown_refl _ _)
          case o1 =>
            go_light
            intro ac w' hgw
            replace hgw := hid hgw
            simp only [outThen, preThen, slotIs, factAt, isv, List.getElem?_cons_zero, List.getElem?_cons_succ, Option.getD_some, forall_eq]
            intros
            rename_i hK
            replace hK := hid hK
            simp only [wantedAt]
            go_simp
            exact hK.out _ _ rfl (grown_refl _ _)
          case o2 =>
            go_light
            intro ac w' hgw
            replace hgw := hid hgw
            simp only [outThen, preThen, slotIs, factAt, isv, List.getElem?_cons_zero, List.getElem?_cons_succ, Option.getD_some, forall_eq]
            intros
            rename_i hK
            replace hK := hid hK
            simp only [wantedAt]
            go_simp
            exact hK.out _ _ rfl (grown_refl _ _)
          case o3 =>
            go_light
            intro ac w' hgw
            replace hgw := hid hgw
            simp only [outThen, preThen, slotIs, factAt, isv, List.getElem?_cons_zero, List.getElem?_cons_succ, Option.getD_some, forall_eq]
            intros
            rename_i hK
            replace hK := hid hK
            simp only [wantedAt]
            go_simp
            exact hK.out _ _ rfl (grown_refl _ _)
          case o4 =>
            go_light
            intro ac w' hgw
            replace hgw := hid hgw
            simp only [outThen, preThen, slotIs, factAt, isv, List.getElem?_cons_zero, List.getElem?_cons_succ, Option.getD_some, forall_eq]
            intros
            rename_i hK
            replace hK := hid hK
            simp only [wantedAt]
            go_simp
            exact hK.out _ _ rfl (grown_refl _ _)
          case o5 =>
            go_light
            intro ac w' hgw
            replace hgw := hid hgw
            simp only [outThen, preThen, slotIs, factAt, isv, List.getElem?_cons_zero, List.getElem?_cons_succ, Option.getD_some, forall_eq]
            intros
            rename_i hK
            replace hK := hid hK
            simp only [wantedAt]
            go_simp
            exact hK.out _ _ rfl (grown_refl _ _)
          case o6 =>
            go_light
            intro ac w' hgw
            replace hgw := hid hgw
            simp only [outThen, preThen, slotIs, factAt, isv, List.getElem?_cons_zero, List.getElem?_cons_succ, Option.getD_some, forall_eq]
            intros
            rename_i hK
            replace hK := hid hK
            simp only [wantedAt]
            go_simp
            exact hK.out _ _ rfl (grown_refl _ _)
          case o7 =>
            go_light
            intro ac w' hgw
            replace hgw := hid hgw
            simp only [outThen, preThen, slotIs, factAt, isv, List.getElem?_cons_zero, List.getElem?_cons_succ, Option.getD_some, forall_eq]
            intros
            rename_i hK
            replace hK := hid hK
            simp only [wantedAt]
            go_simp
            exact hK.out _ _ rfl (grown_refl _ _)
          case o8 =>
            go_light
            intro ac w' hgw
            replace hgw := hid hgw
            simp only [outThen, preThen, slotIs, factAt, isv, List.getElem?_cons_zero, List.getElem?_cons_succ, Option.getD_some, forall_eq]
            intros
            rename_i hK
            replace hK := hid hK
            simp only [wantedAt]
            go_simp
            exact hK.out _ _ rfl (grown_refl _ _)
          case o9 =>
            go_light
            intro ac w' hgw
            replace hgw := hid hgw
            simp only [outThen, preThen, slotIs, factAt, isv, List.getElem?_cons_zero, List.getElem?_cons_succ, Option.getD_some, forall_eq]
            intros
            rename_i hK
            replace hK := hid hK
            simp only [wantedAt]
            go_simp
            exact hK.out _ _ rfl (grown_refl _ _)
          case o10 =>
            go_light
            intro ac w' hgw
            replace hgw := hid hgw
            simp only [outThen, preThen, slotIs, factAt, isv, List.getElem?_cons_zero, List.getElem?_cons_succ, Option.getD_some, forall_eq]
            intros
            rename_i hK
            replace hK := hid hK
            simp only [wantedAt]
            go_simp
            exact hK.out _ _ rfl (grown_refl _ _)
          case o11 =>
            go_light
            intro ac w' hgw
            replace hgw := hid hgw
            simp only [outThen, preThen, slotIs, factAt, isv, List.getElem?_cons_zero, List.getElem?_cons_succ, Option.getD_some, forall_eq]
            intros
            rename_i hK
            replace hK := hid hK
            simp only [wantedAt]
            go_simp
            exact hK.out _ _ rfl (grown_refl _ _)
          case o12 =>
            go_light
            intro ac w' hgw
            replace hgw := hid hgw
            simp only [outThen, preThen, slotIs, factAt, isv, List.getElem?_cons_zero, List.getElem?_cons_succ, Option.getD_some, forall_eq]
            intros
            rename_i hK
            replace hK := hid hK
            simp only [wantedAt]
            go_simp
            exact hK.out _ _ rfl (grown_refl _ _)
          case o13 =>
            go_light
            intro ac w' hgw
            replace hgw := hid hgw
            simp only [outThen, preThen, slotIs, factAt, isv, List.getElem?_cons_zero, List.getElem?_cons_succ, Option.getD_some, forall_eq]
            intros
            rename_i hK
            replace hK := hid hK
            simp only [wantedAt]
            go_simp
            exact hK.out _ _ rfl (grown_refl _ _)
          case o14 =>
            go_light
            intro ac w' hgw
            replace hgw := hid hgw
            simp only [outThen, preThen, slotIs, factAt, isv, List.getElem?_cons_zero, List.getElem?_cons_succ, Option.getD_some, forall_eq]
            intros
            rename_i hK
            replace hK := hid hK
            simp only [wantedAt]
            go_simp
            exact hK.out _ _ rfl (grown_refl _ _)
          case o15 =>
            go_light
            intro ac w' hgw
            replace hgw := hid hgw
            simp only [outThen, preThen, slotIs, factAt, isv, List.getElem?_cons_zero, List.getElem?_cons_succ, Option.getD_some, forall_eq]
            intros
            rename_i hK
            replace hK := hid hK
            simp only [wantedAt]
            go_simp
            exact hK.out _ _ rfl (grown_refl _ _)
        case st =>
          repeat (first | exact AllStable.nil | (refine AllStable.cons ?_ ?_; focus (first | exact stable_isv _ | exact stable_isBytes _ | exact stable_isRow1 _ | exact stable_isRowOf _ _ | exact stable_isVar _ | exact stable_isVarOf _ _ _)))
        case fin =>
          intro w3 hgw
          simp only [finalIn, factAt, isv, List.getElem?_cons_zero, List.getElem?_cons_succ, Option.getD_some, forall_eq, slotIs, subj]
          simp only [Act.put, List.setIfInBounds_toArray, List.set_cons_zero, List.set_cons_succ]
          have hG3 := hid (grown_trans hG.out (grown_trans hG2.out (grown_trans (grown_drew (grown_refl W0 none)) hgw)))
          clear hgw
          go_wp2_with fail
          go_roundw
          case rel => exact ⟨1, by omega, by go_num, hG3.out, hone.out⟩
          case measure => simp [intOf]; omega
      · have hrt := hid (rise_take xss l (j + 1) (by omega) hlt)
        rw [Nat.add_sub_cancel, hrise.out, Bool.true_and] at hrt
        obtain ⟨hcx0, hcx1⟩ := hcs j (by omega)
        replace hcx0 := hid (((gcell hG).1 b _ hb0.out).trans hcx0)
        replace hcx1 := hid (((gcell hG).1 b _ hb0.out).trans hcx1)
        clear hcs hone
        have hcm := hid (cmpHit_less xss (l.getD j (0, 0)) (l.getD (j + 1) (0, 0)))
        generalize l.getD j (0, 0) = x at hcx0 hcx1 hrt hcm
        generalize l.getD (j + 1) (0, 0) = y at hcy0 hcy1 hrt hcm
        obtain ⟨x1, x2⟩ := x
        obtain ⟨y1, y2⟩ := y
        simp only at hcy0 hcy1 hcx0 hcx1
        replace hG := hid hG
        have hsub : IntKind.i64.wrap (j : Int) = (j : Int) := by simp [IntKind.wrap, IntKind.bits, IntKind.signed]; omega
        go_upto_region 4 with fail
        obtain ⟨W0, hW0⟩ : ∃ W0, wr.alloc (.cells #[.int .i64 y1, .int .i64 y2] 35) = W0 := ⟨_, rfl⟩
        have hG2 : Hid (wr.grownBy W0 none) := by rw [← hW0]; exact grown_alloc (grown_refl wr none) _
        have H2 : Hid (Holds W0 wr.heap.size 35 #[.int .i64 y1, .int .i64 y2]) := by rw [← hW0]; exact Holds.new _ _ _
        rw [hW0]
        clear hW0
        obtain ⟨g, hgs⟩ : ∃ g, wr.heap.size = g := ⟨_, rfl⟩
        rw [hgs] at H2 hbl ⊢
        replace hgs := hid hgs
        clear hcy0 hcy1
        have j0 : (0 : Int) ≤ (j : Int) := by omega
        have j1 : (j : Int) < (l.length : Int) := by omega
        have j2 : decide ((0 : Int) < ((j : Int) + 1)) = true := decide_eq_true (by omega)
        obtain ⟨r, hr⟩ : ∃ r, cmpHit xss (x1, x2) (y1, y2) = r := ⟨_, rfl⟩
        rw [hr] at hcm
        apply wp_region_each [isv (.int .i64 ((j + 1 : Nat) : Int)), isv (.bool true), isv (.bool true), isv _, isv _, isv _, isv _, isv _, isv (.int .i64 ((j + 1 : Nat) : Int)), isv (.int .i64 (j : Int)), isv _, isv (hitV (x1, x2)), isv (hitV (y1, y2)), isv (.int .i64 r), isv (.bool (decide (0 ≤ r))), isv (.bool (decide (0 ≤ r)))]
          32 [some 15, some 16, some 17, some 18, some 19, some 20, some 21, some 22, some 23, some 24, some 25, some 26, some 27, some 28, some 29, some 30]
          [some 15, some 16, some 17, some 18, some 19, some 20, some 21, some 22, some 23, some 24, some 25, some 26, some 27, some 28, some 29, some 30]
          [[], [0], [1], [2], [2], [4, 2], [5, 2], [6, 2], [2], [8, 2], [7, 9, 2], [10, 2], [2], [3, 11, 12, 2], [13, 2], [2, 14]]
          [(0, .pointer (some ⟨h, 0, none⟩)), (4, .pointer (some ⟨g, 0, none⟩)), (3, .int .i64 ((j + 1 : Nat) : Int))] (by kernel_rfl) rfl (by kernel_rfl) rfl rfl (by kernel_rfl) (OutsOk.cons rfl rfl (OutsOk.cons rfl rfl (OutsOk.cons rfl rfl OutsOk.nil))) ?st ?ob ?fin
        case ob =>
          refine Obs.consv rfl ?o0 (Obs.consv rfl ?o1 (Obs.consv rfl ?o2 (Obs.consv rfl ?o3 (Obs.consv rfl ?o4 (Obs.consv rfl ?o5 (Obs.consv rfl ?o6 (Obs.consv rfl ?o7 (Obs.consv rfl ?o8 (Obs.consv rfl ?o9 (Obs.consv rfl ?o10 (Obs.consv rfl ?o11 (Obs.consv rfl ?o12 (Obs.consv rfl ?o13 (Obs.consv rfl ?o14 (Obs.consv rfl ?o15 Obs.nil)))))))))))))))
          case o0 =>
            go_light
            intro ac w' hgw
            have k1 := H1.out.kept0 (grown_trans hG2.out (grown_trans (grown_drew (grown_refl W0 none)) hgw))
            have k2 := H2.out.kept0 (grown_trans (grown_drew (grown_refl W0 none)) hgw)
            have c2 := k1.cell 2
            have d0 := k2.cell 0
            have d1 := k2.cell 1
            simp at c2 d0 d1
            have hx0 := ((gcell (grown_trans hG2.out (grown_trans (grown_drew (grown_refl W0 none)) hgw))).1 b _ (show b < wr.heap.size by rw [hgs.out]; exact hbl.out)).trans hcx0.out
            have hx1 := ((gcell (grown_trans hG2.out (grown_trans (grown_drew (grown_refl W0 none)) hgw))).1 b _ (show b < wr.heap.size by rw [hgs.out]; exact hbl.out)).trans hcx1.out
            have hPw := hid (hP1.out.grown (grown_trans hG2.out (grown_trans (grown_drew (grown_refl W0 none)) hgw)))
            replace k1 := hid k1
            clear k2
            replace hgw := hid hgw
            simp only [outThen, preThen, slotIs, factAt, isv, List.getElem?_cons_zero, List.getElem?_cons_succ, Option.getD_some, forall_eq]
            intros
            rename_i hK
            replace hK := hid hK
            simp only [wantedAt]
            go_simp
            exact hK.out _ _ rfl (grown_refl _ _)
          case o1 =>
            go_light
            intro ac w' hgw
            have k1 := H1.out.kept0 (grown_trans hG2.out (grown_trans (grown_drew (grown_refl W0 none)) hgw))
            have k2 := H2.out.kept0 (grown_trans (grown_drew (grown_refl W0 none)) hgw)
            have c2 := k1.cell 2
            have d0 := k2.cell 0
            have d1 := k2.cell 1
            simp at c2 d0 d1
            have hx0 := ((gcell (grown_trans hG2.out (grown_trans (grown_drew (grown_refl W0 none)) hgw))).1 b _ (show b < wr.heap.size by rw [hgs.out]; exact hbl.out)).trans hcx0.out
            have hx1 := ((gcell (grown_trans hG2.out (grown_trans (grown_drew (grown_refl W0 none)) hgw))).1 b _ (show b < wr.heap.size by rw [hgs.out]; exact hbl.out)).trans hcx1.out
            have hPw := hid (hP1.out.grown (grown_trans hG2.out (grown_trans (grown_drew (grown_refl W0 none)) hgw)))
            replace k1 := hid k1
            clear k2
            replace hgw := hid hgw
            simp only [outThen, preThen, slotIs, factAt, isv, List.getElem?_cons_zero, List.getElem?_cons_succ, Option.getD_some, forall_eq]
            intros
            rename_i hK
            replace hK := hid hK
            simp only [wantedAt]
            go_simp
            exact hK.out _ _ rfl (grown_refl _ _)
          case o2 =>
            go_light
            intro ac w' hgw
            have k1 := H1.out.kept0 (grown_trans hG2.out (grown_trans (grown_drew (grown_refl W0 none)) hgw))
            have k2 := H2.out.kept0 (grown_trans (grown_drew (grown_refl W0 none)) hgw)
            have c2 := k1.cell 2
            have d0 := k2.cell 0
            have d1 := k2.cell 1
            simp at c2 d0 d1
            have hx0 := ((gcell (grown_trans hG2.out (grown_trans (grown_drew (grown_refl W0 none)) hgw))).1 b _ (show b < wr.heap.size by rw [hgs.out]; exact hbl.out)).trans hcx0.out
            have hx1 := ((gcell (grown_trans hG2.out (grown_trans (grown_drew (grown_refl W0 none)) hgw))).1 b _ (show b < wr.heap.size by rw [hgs.out]; exact hbl.out)).trans hcx1.out
            have hPw := hid (hP1.out.grown (grown_trans hG2.out (grown_trans (grown_drew (grown_refl W0 none)) hgw)))
            replace k1 := hid k1
            clear k2
            replace hgw := hid hgw
            simp only [outThen, preThen, slotIs, factAt, isv, List.getElem?_cons_zero, List.getElem?_cons_succ, Option.getD_some, forall_eq]
            intros
            rename_i hK
            replace hK := hid hK
            simp only [wantedAt]
            go_simp
            exact hK.out _ _ rfl (grown_refl _ _)
          case o3 =>
            go_light
            intro ac w' hgw
            have k1 := H1.out.kept0 (grown_trans hG2.out (grown_trans (grown_drew (grown_refl W0 none)) hgw))
            have k2 := H2.out.kept0 (grown_trans (grown_drew (grown_refl W0 none)) hgw)
            have c2 := k1.cell 2
            have d0 := k2.cell 0
            have d1 := k2.cell 1
            simp at c2 d0 d1
            have hx0 := ((gcell (grown_trans hG2.out (grown_trans (grown_drew (grown_refl W0 none)) hgw))).1 b _ (show b < wr.heap.size by rw [hgs.out]; exact hbl.out)).trans hcx0.out
            have hx1 := ((gcell (grown_trans hG2.out (grown_trans (grown_drew (grown_refl W0 none)) hgw))).1 b _ (show b < wr.heap.size by rw [hgs.out]; exact hbl.out)).trans hcx1.out
            have hPw := hid (hP1.out.grown (grown_trans hG2.out (grown_trans (grown_drew (grown_refl W0 none)) hgw)))
            replace k1 := hid k1
            clear k2
            replace hgw := hid hgw
            simp only [outThen, preThen, slotIs, factAt, isv, List.getElem?_cons_zero, List.getElem?_cons_succ, Option.getD_some, forall_eq]
            intros
            rename_i hK
            replace hK := hid hK
            simp only [wantedAt]
            go_simp
            exact hK.out _ _ rfl (grown_refl _ _)
          case o4 =>
            go_light
            intro ac w' hgw
            have k1 := H1.out.kept0 (grown_trans hG2.out (grown_trans (grown_drew (grown_refl W0 none)) hgw))
            have k2 := H2.out.kept0 (grown_trans (grown_drew (grown_refl W0 none)) hgw)
            have c2 := k1.cell 2
            have d0 := k2.cell 0
            have d1 := k2.cell 1
            simp at c2 d0 d1
            have hx0 := ((gcell (grown_trans hG2.out (grown_trans (grown_drew (grown_refl W0 none)) hgw))).1 b _ (show b < wr.heap.size by rw [hgs.out]; exact hbl.out)).trans hcx0.out
            have hx1 := ((gcell (grown_trans hG2.out (grown_trans (grown_drew (grown_refl W0 none)) hgw))).1 b _ (show b < wr.heap.size by rw [hgs.out]; exact hbl.out)).trans hcx1.out
            have hPw := hid (hP1.out.grown (grown_trans hG2.out (grown_trans (grown_drew (grown_refl W0 none)) hgw)))
            replace k1 := hid k1
            clear k2
            replace hgw := hid hgw
            simp only [outThen, preThen, slotIs, factAt, isv, List.getElem?_cons_zero, List.getElem?_cons_succ, Option.getD_some, forall_eq]
            intros
            rename_i hK
            replace hK := hid hK
            simp only [wantedAt]
            go_simp
            exact hK.out _ _ rfl (grown_refl _ _)
          case o5 =>
            go_light
            intro ac w' hgw
            have k1 := H1.out.kept0 (grown_trans hG2.out (grown_trans (grown_drew (grown_refl W0 none)) hgw))
            have k2 := H2.out.kept0 (grown_trans (grown_drew (grown_refl W0 none)) hgw)
            have c2 := k1.cell 2
            have d0 := k2.cell 0
            have d1 := k2.cell 1
            simp at c2 d0 d1
            have hx0 := ((gcell (grown_trans hG2.out (grown_trans (grown_drew (grown_refl W0 none)) hgw))).1 b _ (show b < wr.heap.size by rw [hgs.out]; exact hbl.out)).trans hcx0.out
            have hx1 := ((gcell (grown_trans hG2.out (grown_trans (grown_drew (grown_refl W0 none)) hgw))).1 b _ (show b < wr.heap.size by rw [hgs.out]; exact hbl.out)).trans hcx1.out
            have hPw := hid (hP1.out.grown (grown_trans hG2.out (grown_trans (grown_drew (grown_refl W0 none)) hgw)))
            replace k1 := hid k1
            clear k2
            replace hgw := hid hgw
            simp only [outThen, preThen, slotIs, factAt, isv, List.getElem?_cons_zero, List.getElem?_cons_succ, Option.getD_some, forall_eq]
            intros
            rename_i hK
            replace hK := hid hK
            simp only [wantedAt]
            go_simp
            exact hK.out _ _ rfl (grown_refl _ _)
          case o6 =>
            go_light
            intro ac w' hgw
            have k1 := H1.out.kept0 (grown_trans hG2.out (grown_trans (grown_drew (grown_refl W0 none)) hgw))
            have k2 := H2.out.kept0 (grown_trans (grown_drew (grown_refl W0 none)) hgw)
            have c2 := k1.cell 2
            have d0 := k2.cell 0
            have d1 := k2.cell 1
            simp at c2 d0 d1
            have hx0 := ((gcell (grown_trans hG2.out (grown_trans (grown_drew (grown_refl W0 none)) hgw))).1 b _ (show b < wr.heap.size by rw [hgs.out]; exact hbl.out)).trans hcx0.out
            have hx1 := ((gcell (grown_trans hG2.out (grown_trans (grown_drew (grown_refl W0 none)) hgw))).1 b _ (show b < wr.heap.size by rw [hgs.out]; exact hbl.out)).trans hcx1.out
            have hPw := hid (hP1.out.grown (grown_trans hG2.out (grown_trans (grown_drew (grown_refl W0 none)) hgw)))
            replace k1 := hid k1
            clear k2
            replace hgw := hid hgw
            simp only [outThen, preThen, slotIs, factAt, isv, List.getElem?_cons_zero, List.getElem?_cons_succ, Option.getD_some, forall_eq]
            intros
            rename_i hK
            replace hK := hid hK
            simp only [wantedAt]
            go_simp
            exact hK.out _ _ rfl (grown_refl _ _)
          case o7 =>
            go_light
            intro ac w' hgw
            have k1 := H1.out.kept0 (grown_trans hG2.out (grown_trans (grown_drew (grown_refl W0 none)) hgw))
            have k2 := H2.out.kept0 (grown_trans (grown_drew (grown_refl W0 none)) hgw)
            have c2 := k1.cell 2
            have d0 := k2.cell 0
            have d1 := k2.cell 1
            simp at c2 d0 d1
            have hx0 := ((gcell (grown_trans hG2.out (grown_trans (grown_drew (grown_refl W0 none)) hgw))).1 b _ (show b < wr.heap.size by rw [hgs.out]; exact hbl.out)).trans hcx0.out
            have hx1 := ((gcell (grown_trans hG2.out (grown_trans (grown_drew (grown_refl W0 none)) hgw))).1 b _ (show b < wr.heap.size by rw [hgs.out]; exact hbl.out)).trans hcx1.out
            have hPw := hid (hP1.out.grown (grown_trans hG2.out (grown_trans (grown_drew (grown_refl W0 none)) hgw)))
            replace k1 := hid k1
            clear k2
            replace hgw := hid hgw
            simp only [outThen, preThen, slotIs, factAt, isv, List.getElem?_cons_zero, List.getElem?_cons_succ, Option.getD_some, forall_eq]
            intros
            rename_i hK
            replace hK := hid hK
            simp only [wantedAt]
            go_simp
            exact hK.out _ _ rfl (grown_refl _ _)
          case o8 =>
            go_light
            intro ac w' hgw
            have k1 := H1.out.kept0 (grown_trans hG2.out (grown_trans (grown_drew (grown_refl W0 none)) hgw))
            have k2 := H2.out.kept0 (grown_trans (grown_drew (grown_refl W0 none)) hgw)
            have c2 := k1.cell 2
            have d0 := k2.cell 0
            have d1 := k2.cell 1
            simp at c2 d0 d1
            have hx0 := ((gcell (grown_trans hG2.out (grown_trans (grown_drew (grown_refl W0 none)) hgw))).1 b _ (show b < wr.heap.size by rw [hgs.out]; exact hbl.out)).trans hcx0.out
            have hx1 := ((gcell (grown_trans hG2.out (grown_trans (grown_drew (grown_refl W0 none)) hgw))).1 b _ (show b < wr.heap.size by rw [hgs.out]; exact hbl.out)).trans hcx1.out
            have hPw := hid (hP1.out.grown (grown_trans hG2.out (grown_trans (grown_drew (grown_refl W0 none)) hgw)))
            replace k1 := hid k1
            clear k2
            replace hgw := hid hgw
            simp only [outThen, preThen, slotIs, factAt, isv, List.getElem?_cons_zero, List.getElem?_cons_succ, Option.getD_some, forall_eq]
            intros
            rename_i hK
            replace hK := hid hK
            simp only [wantedAt]
            go_simp
            exact hK.out _ _ rfl (grown_refl _ _)
          case o9 =>
            go_light
            intro ac w' hgw
            have k1 := H1.out.kept0 (grown_trans hG2.out (grown_trans (grown_drew (grown_refl W0 none)) hgw))
            have k2 := H2.out.kept0 (grown_trans (grown_drew (grown_refl W0 none)) hgw)
            have c2 := k1.cell 2
            have d0 := k2.cell 0
            have d1 := k2.cell 1
            simp at c2 d0 d1
            have hx0 := ((gcell (grown_trans hG2.out (grown_trans (grown_drew (grown_refl W0 none)) hgw))).1 b _ (show b < wr.heap.size by rw [hgs.out]; exact hbl.out)).trans hcx0.out
            have hx1 := ((gcell (grown_trans hG2.out (grown_trans (grown_drew (grown_refl W0 none)) hgw))).1 b _ (show b < wr.heap.size by rw [hgs.out]; exact hbl.out)).trans hcx1.out
            have hPw := hid (hP1.out.grown (grown_trans hG2.out (grown_trans (grown_drew (grown_refl W0 none)) hgw)))
            replace k1 := hid k1
            clear k2
            replace hgw := hid hgw
            simp only [outThen, preThen, slotIs, factAt, isv, List.getElem?_cons_zero, List.getElem?_cons_succ, Option.getD_some, forall_eq]
            intros
            rename_i hK
            replace hK := hid hK
            simp only [wantedAt]
            go_simp
            exact hK.out _ _ rfl (grown_refl _ _)
          case o10 =>
            go_light
            intro ac w' hgw
            have k1 := H1.out.kept0 (grown_trans hG2.out (grown_trans (grown_drew (grown_refl W0 none)) hgw))
            have k2 := H2.out.kept0 (grown_trans (grown_drew (grown_refl W0 none)) hgw)
            have c2 := k1.cell 2
            have d0 := k2.cell 0
            have d1 := k2.cell 1
            simp at c2 d0 d1
            have hx0 := ((gcell (grown_trans hG2.out (grown_trans (grown_drew (grown_refl W0 none)) hgw))).1 b _ (show b < wr.heap.size by rw [hgs.out]; exact hbl.out)).trans hcx0.out
            have hx1 := ((gcell (grown_trans hG2.out (grown_trans (grown_drew (grown_refl W0 none)) hgw))).1 b _ (show b < wr.heap.size by rw [hgs.out]; exact hbl.out)).trans hcx1.out
            have hPw := hid (hP1.out.grown (grown_trans hG2.out (grown_trans (grown_drew (grown_refl W0 none)) hgw)))
            replace k1 := hid k1
            clear k2
            replace hgw := hid hgw
            simp only [outThen, preThen, slotIs, factAt, isv, List.getElem?_cons_zero, List.getElem?_cons_succ, Option.getD_some, forall_eq]
            intros
            rename_i hK
            replace hK := hid hK
            simp only [wantedAt]
            go_simp
            exact hK.out _ _ rfl (grown_refl _ _)
          case o11 =>
            go_light
            intro ac w' hgw
            have k1 := H1.out.kept0 (grown_trans hG2.out (grown_trans (grown_drew (grown_refl W0 none)) hgw))
            have k2 := H2.out.kept0 (grown_trans (grown_drew (grown_refl W0 none)) hgw)
            have c2 := k1.cell 2
            have d0 := k2.cell 0
            have d1 := k2.cell 1
            simp at c2 d0 d1
            have hx0 := ((gcell (grown_trans hG2.out (grown_trans (grown_drew (grown_refl W0 none)) hgw))).1 b _ (show b < wr.heap.size by rw [hgs.out]; exact hbl.out)).trans hcx0.out
            have hx1 := ((gcell (grown_trans hG2.out (grown_trans (grown_drew (grown_refl W0 none)) hgw))).1 b _ (show b < wr.heap.size by rw [hgs.out]; exact hbl.out)).trans hcx1.out
            have hPw := hid (hP1.out.grown (grown_trans hG2.out (grown_trans (grown_drew (grown_refl W0 none)) hgw)))
            replace k1 := hid k1
            clear k2
            replace hgw := hid hgw
            simp only [outThen, preThen, slotIs, factAt, isv, List.getElem?_cons_zero, List.getElem?_cons_succ, Option.getD_some, forall_eq]
            intros
            rename_i hK
            replace hK := hid hK
            simp only [wantedAt]
            go_simp
            exact hK.out _ _ rfl (grown_refl _ _)
          case o12 =>
            go_light
            intro ac w' hgw
            have k1 := H1.out.kept0 (grown_trans hG2.out (grown_trans (grown_drew (grown_refl W0 none)) hgw))
            have k2 := H2.out.kept0 (grown_trans (grown_drew (grown_refl W0 none)) hgw)
            have c2 := k1.cell 2
            have d0 := k2.cell 0
            have d1 := k2.cell 1
            simp at c2 d0 d1
            have hx0 := ((gcell (grown_trans hG2.out (grown_trans (grown_drew (grown_refl W0 none)) hgw))).1 b _ (show b < wr.heap.size by rw [hgs.out]; exact hbl.out)).trans hcx0.out
            have hx1 := ((gcell (grown_trans hG2.out (grown_trans (grown_drew (grown_refl W0 none)) hgw))).1 b _ (show b < wr.heap.size by rw [hgs.out]; exact hbl.out)).trans hcx1.out
            have hPw := hid (hP1.out.grown (grown_trans hG2.out (grown_trans (grown_drew (grown_refl W0 none)) hgw)))
            replace k1 := hid k1
            clear k2
            replace hgw := hid hgw
            simp only [outThen, preThen, slotIs, factAt, isv, List.getElem?_cons_zero, List.getElem?_cons_succ, Option.getD_some, forall_eq]
            intros
            rename_i hK
            replace hK := hid hK
            simp only [wantedAt]
            go_simp
            exact hK.out _ _ rfl (grown_refl _ _)
          case o13 =>
            go_light
            intro ac w' hgw
            have k1 := H1.out.kept0 (grown_trans hG2.out (grown_trans (grown_drew (grown_refl W0 none)) hgw))
            have k2 := H2.out.kept0 (grown_trans (grown_drew (grown_refl W0 none)) hgw)
            have c2 := k1.cell 2
            have d0 := k2.cell 0
            have d1 := k2.cell 1
            simp at c2 d0 d1
            have hx0 := ((gcell (grown_trans hG2.out (grown_trans (grown_drew (grown_refl W0 none)) hgw))).1 b _ (show b < wr.heap.size by rw [hgs.out]; exact hbl.out)).trans hcx0.out
            have hx1 := ((gcell (grown_trans hG2.out (grown_trans (grown_drew (grown_refl W0 none)) hgw))).1 b _ (show b < wr.heap.size by rw [hgs.out]; exact hbl.out)).trans hcx1.out
            have hPw := hid (hP1.out.grown (grown_trans hG2.out (grown_trans (grown_drew (grown_refl W0 none)) hgw)))
            replace k1 := hid k1
            clear k2
            replace hgw := hid hgw
            simp only [outThen, preThen, slotIs, factAt, isv, List.getElem?_cons_zero, List.getElem?_cons_succ, Option.getD_some, forall_eq]
            intros
            rename_i hK
            replace hK := hid hK
            simp only [wantedAt]
            go_simp
            refine (G.compare_is f P c xss _ h (x1, x2) (y1, y2) w' k1.out hPw.out).mono ?_
            rintro e w3 ⟨rfl, hg⟩
            rw [hr]
            exact hK.out _ _ rfl hg.gr
          case o14 =>
            go_light
            intro ac w' hgw
            have k1 := H1.out.kept0 (grown_trans hG2.out (grown_trans (grown_drew (grown_refl W0 none)) hgw))
            have k2 := H2.out.kept0 (grown_trans (grown_drew (grown_refl W0 none)) hgw)
            have c2 := k1.cell 2
            have d0 := k2.cell 0
            have d1 := k2.cell 1
            simp at c2 d0 d1
            have hx0 := ((gcell (grown_trans hG2.out (grown_trans (grown_drew (grown_refl W0 none)) hgw))).1 b _ (show b < wr.heap.size by rw [hgs.out]; exact hbl.out)).trans hcx0.out
            have hx1 := ((gcell (grown_trans hG2.out (grown_trans (grown_drew (grown_refl W0 none)) hgw))).1 b _ (show b < wr.heap.size by rw [hgs.out]; exact hbl.out)).trans hcx1.out
            have hPw := hid (hP1.out.grown (grown_trans hG2.out (grown_trans (grown_drew (grown_refl W0 none)) hgw)))
            replace k1 := hid k1
            clear k2
            replace hgw := hid hgw
            simp only [outThen, preThen, slotIs, factAt, isv, List.getElem?_cons_zero, List.getElem?_cons_succ, Option.getD_some, forall_eq]
            intros
            rename_i hK
            replace hK := hid hK
            simp only [wantedAt]
            go_simp
            exact hK.out _ _ rfl (grown_refl _ _)
          case o15 =>
            go_light
            intro ac w' hgw
            have k1 := H1.out.kept0 (grown_trans hG2.out (grown_trans (grown_drew (grown_refl W0 none)) hgw))
            have k2 := H2.out.kept0 (grown_trans (grown_drew (grown_refl W0 none)) hgw)
            have c2 := k1.cell 2
            have d0 := k2.cell 0
            have d1 := k2.cell 1
            simp at c2 d0 d1
            have hx0 := ((gcell (grown_trans hG2.out (grown_trans (grown_drew (grown_refl W0 none)) hgw))).1 b _ (show b < wr.heap.size by rw [hgs.out]; exact hbl.out)).trans hcx0.out
            have hx1 := ((gcell (grown_trans hG2.out (grown_trans (grown_drew (grown_refl W0 none)) hgw))).1 b _ (show b < wr.heap.size by rw [hgs.out]; exact hbl.out)).trans hcx1.out
            have hPw := hid (hP1.out.grown (grown_trans hG2.out (grown_trans (grown_drew (grown_refl W0 none)) hgw)))
            replace k1 := hid k1
            clear k2
            replace hgw := hid hgw
            simp only [outThen, preThen, slotIs, factAt, isv, List.getElem?_cons_zero, List.getElem?_cons_succ, Option.getD_some, forall_eq]
            intros
            rename_i hK
            replace hK := hid hK
            simp only [wantedAt]
            go_simp
            exact hK.out _ _ rfl (grown_refl _ _)
        case st =>
          repeat (first | exact AllStable.nil | (refine AllStable.cons ?_ ?_; focus (first | exact stable_isv _ | exact stable_isBytes _ | exact stable_isRow1 _ | exact stable_isRowOf _ _ | exact stable_isVar _ | exact stable_isVarOf _ _ _)))
        case fin =>
          intro w3 hgw
          simp only [finalIn, factAt, isv, List.getElem?_cons_zero, List.getElem?_cons_succ, Option.getD_some, forall_eq, slotIs, subj]
          simp only [Act.put, List.setIfInBounds_toArray, List.set_cons_zero, List.set_cons_succ]
          have hG3 := hid (grown_trans hG.out (grown_trans hG2.out (grown_trans (grown_drew (grown_refl W0 none)) hgw)))
          clear hgw
          by_cases h0 : 0 ≤ r
          · have hf := hid (rise_take_false xss l (j + 1 + 1) (hrt.out.trans (by rw [← hcm.out]; simp; omega)))
            have hd : decide (0 ≤ r) = true := decide_eq_true h0
            rw [hd]
            go_wp2_with fail
            go_ret
            exact ⟨by rw [hf.out]; rfl, hG3.out⟩
          · have ht := hid (hrt.out.trans (by rw [← hcm.out]; simp; omega) : rise xss (l.take (j + 1 + 1)) = true)
            have hd : decide (0 ≤ r) = false := decide_eq_false h0
            rw [hd]
            go_wp2_with fail
            go_roundw
            case rel => exact ⟨j + 1 + 1, by omega, by go_num, hG3.out, ht.out⟩
            case measure => simp [intOf]; omega
    · obtain rfl : k = l.length := by omega
      have hV : Hid (rise xss l = true) := hid (by rw [← hrise.out, List.take_length])
      replace hG := hid hG
      go_wp2_with fail
      go_ret
      exact ⟨by rw [hV.out]; rfl, hG.out⟩

theorem occRise_is (f : Bool) (P Q : Option Addr) (c d : Nat) (xss : List (List Int)) (l : List Hit) (w : World) (hn : l.length ≤ 1000000000) (hP : Arrs w P xss) (hQ : Hits w Q l) :
    Calls Try.prog 10 #[.agg #[.bool f, .slice P xss.length c], .slice Q l.length d] w fun e w' => e = .returned (.bool (rise xss l)) ∧ w.grownBy w' none := by
  replace hP := hid hP
  replace hQ := hid hQ
  have hG0 : Hid (w.grownBy ((w.alloc (.cells #[.bool f, .slice P xss.length c] 24)).alloc (.cells #[.bool f, .slice P xss.length c, .slice Q l.length d] 52)) none) := grown_alloc (grown_alloc (grown_refl w none) _) _
  have H0 : Holds ((w.alloc (.cells #[.bool f, .slice P xss.length c] 24)).alloc (.cells #[.bool f, .slice P xss.length c, .slice Q l.length d] 52)) (w.heap.size + 1) 52 #[.bool f, .slice P xss.length c, .slice Q l.length d] := Holds.new_at _ _ (by simp)
  have key := hid (rise_is f P Q c d (w.heap.size + 1) xss l _ (by omega) H0 (hP.out.grown hG0.out) (hQ.out.grown hG0.out))
  clear H0
  generalize rise xss l = r at key ⊢
  go_enter Try.func10, Try.ntmps10
  go_wp2_with (go_at_call 26; refine key.out.mono ?_; rintro e w2 ⟨rfl, hg⟩; have hG1 := hid (grown_trans hG0.out hg); clear hg)
  go_ret
  exact ⟨rfl, hG1.out⟩
end Go.Proofs.Ytmahiodejhakpaa
