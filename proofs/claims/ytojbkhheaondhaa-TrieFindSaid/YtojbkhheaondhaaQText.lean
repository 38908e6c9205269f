/- The document's own answer: a word as it is looked at; how many first bytes two texts have in common. -/
import Derived.Test.YtojbkhheaondhaaK10
import Derived.Test.YtojbkhheaondhaaK1
set_option linter.unusedSimpArgs false
set_option linter.unusedVariables false
namespace Go.Proofs.Ytojbkhheaondhaa
open Go.RowKit PlainLetter PlainPatset

theorem common_drop (a b : List Int) (k : Nat) (h1 : k < a.length) (h2 : k < b.length) : common (a.drop k) (b.drop k) = if a.getD k 0 = b.getD k 0 then common (a.drop (k + 1)) (b.drop (k + 1)) + 1 else 0 := by
  rw [List.drop_eq_getElem_cons h1, List.drop_eq_getElem_cons h2]
  simp [common, List.getD, h1, h2]

theorem refText_is (f : Bool) (A : Option Addr) (c : Nat) (xs : List Int) (w : World) (hl : xs.length ≤ 100000) (hb : Bytes xs) (hA : Arr w .u8 A xs) :
    Calls Try.prog 36 #[.bool f, .slice A xs.length c] w (Owns (foldIf f xs) w) := by
  obtain ⟨i0, hi0, hz0, hz1, hz2⟩ := info_parts Try.info5
  cases f with
  | true =>
    replace hA := hid hA
    replace hb := hid hb
    go_enter Try.func36, Try.ntmps36
    go_wp2_with fail
    refine (refFolded_is A c xs w hl hb.out hA.out).mono ?_
    rintro e w1 ⟨v, rfl, h1, h2⟩
    have h1' := hid h1
    replace h2 := hid h2
    clear h1
    go_wp2_with fail
    go_ret
    exact ⟨v, rfl, h1'.out, h2.out⟩
  | false =>
    have hrowE : Hid ((w.alloc (.cells #[] 5)).ownsRow w.heap.size 5 1 (.slice (some ⟨w.heap.size, 0, none⟩) 0 0) ([] : List Int).length (([] : List Int).map (Value.int .u8))) :=
      World.ownsRow_made w #[] 0 (Nat.le_refl _) (by simp) (by simp)
    have hA1 := hid (hA.grown (World.grownBy_alloc w (.cells #[] 5) none))
    clear hA
    go_enter Try.func36, Try.ntmps36
    go_wp2_with (at_builtin; refine wpList_append_all rfl _ _ 28 rfl w.heap.size 5 i0 .u8 1 Try.underlying28 hi0 hz0 hz1 hz2 _ [] xs _ _ _ (w.alloc (.cells #[] 5)) hrowE.out hA1.out rfl rfl rfl (by decide) (by simp; omega) (by simp) ?_; intro v w1 h1 hB1)
    rw [List.nil_append] at h1
    go_ret
    exact ⟨v, rfl, h1, ((Below.refl _ w).alloc (Nat.le_refl _) (.cells #[] 5)).trans hB1⟩

set_option maxRecDepth 100000 in
set_option maxHeartbeats 2000000 in
theorem refCommon_is (A B : Option Addr) (c d : Nat) (a b : List Int) (w : World) (hl : a.length ≤ 100000) (hA : Arr w .u8 A a) (hB : Arr w .u8 B b) :
    Calls Try.prog 35 #[.slice A a.length c, .slice B b.length d] w fun e w' => e = .returned (.int .i64 (common a b : Nat)) ∧ w.grownBy w' none := by
  replace hA := hid hA
  replace hB := hid hB
  go_enter Try.func35, Try.ntmps35
  go_wp2_with fail
  go_loopw [5] (fun i wr => ∃ k : Nat, k ≤ a.length ∧ k ≤ b.length ∧ i = .int .i64 k ∧ Hid (common a b = k + common (a.drop k) (b.drop k)) ∧ w.grownBy wr none) (fun i _ => a.length - (intOf i).toNat)
  case atStart => exact ⟨0, by omega, by omega, rfl, hid (by simp), grown_refl _ _⟩
  case round =>
    obtain ⟨k, hk1, hk2, rfl, hc, hG⟩ := hrel
    replace hG := hid hG
    by_cases h1 : k < a.length
    · by_cases h2 : k < b.length
      · have hcd := common_drop a b k h1 h2
        obtain ⟨b1, off1, rfl, hb1, hx1⟩ := hA.out.at_ h1
        obtain ⟨b2, off2, rfl, hb2, hx2⟩ := hB.out.at_ h2
        have ck1 := hid (((gcell hG.out).1 b1 (off1 + k) hb1).trans (hx1 k h1))
        have ck2 := hid (((gcell hG.out).1 b2 (off2 + k) hb2).trans (hx2 k h2))
        have hb1' : Hid (b1 < wr.heap.size) := Nat.lt_of_lt_of_le hb1 hG.out.size
        have hb2' : Hid (b2 < wr.heap.size) := Nat.lt_of_lt_of_le hb2 hG.out.size
        clear hx1 hx2 hb1 hb2
        rename Hid (b1 < _) => hb1
        rename Hid (b2 < _) => hb2
        have q1 := hid (show (k : Int) < (a.length : Int) by omega)
        have q2 := hid (show (k : Int) < (b.length : Int) by omega)
        generalize a.getD k 0 = x at ck1 hcd
        generalize b.getD k 0 = y at ck2 hcd
        by_cases hxy : x = y
        · rw [if_pos hxy] at hcd
          have hnext := hid (show common a b = (k + 1) + common (a.drop (k + 1)) (b.drop (k + 1)) by rw [hc.out, hcd]; omega)
          have q3 := hid (show (x == y) = true by simpa using hxy)
          clear hc hcd hxy
          go_wp2_with fail
          apply wp_region_each [isv _, isv _, isv _, isv (.bool true), isv _, isv _, isv _, isv _, isv (.bool true), isv _, isv _, isv _, isv _, isv _, isv _, isv _, isv _, isv _, isv _, isv (.bool true), isv _]
            30 [some 6, some 7, some 8, some 9, some 10, some 11, some 12, some 13, some 14, some 15, some 16, some 17, some 18, some 19, some 20, some 21, some 22, some 23, some 24, some 25, some 26]
            [some 6, some 7, some 8, some 9, some 10, some 11, some 12, some 13, some 14, some 15, some 16, some 17, some 18, some 19, some 20, some 21, some 22, some 23, some 24, some 25, some 26]
            [[], [], [1], [0, 2], [3], [4], [4], [6, 4], [5, 7, 4], [4, 8], [9], [10], [10], [11, 12, 10], [13, 10], [10], [10], [15, 16, 10], [17, 10], [14, 18, 10], [10, 19]]
            [(0, .slice (some ⟨b1, off1, none⟩) a.length c), (1, .slice (some ⟨b2, off2, none⟩) b.length d), (5, .int .i64 k)] (by kernel_rfl) rfl (by kernel_rfl) rfl rfl (by kernel_rfl) (OutsOk.cons rfl rfl (OutsOk.cons rfl rfl (OutsOk.cons rfl rfl OutsOk.nil))) ?st ?ob ?fin
          case ob =>
            refine Obs.consv rfl ?o0 (Obs.consv rfl ?o1 (Obs.consv rfl ?o2 (Obs.consv rfl ?o3 (Obs.consv rfl ?o4 (Obs.consv rfl ?o5 (Obs.consv rfl ?o6 (Obs.consv rfl ?o7 (Obs.consv rfl ?o8 (Obs.consv rfl ?o9 (Obs.consv rfl ?o10 (Obs.consv rfl ?o11 (Obs.consv rfl ?o12 (Obs.consv rfl ?o13 (Obs.consv rfl ?o14 (Obs.consv rfl ?o15 (Obs.consv rfl ?o16 (Obs.consv rfl ?o17 (Obs.consv rfl ?o18 (Obs.consv rfl ?o19 (Obs.consv rfl ?o20 Obs.nil))))))))))))))))))))
            case o0 =>
              go_light
              intro ac w' hgw
              have hcx := ((gcell hgw).1 b1 (off1 + k) hb1.out).trans ck1.out
              have hcy := ((gcell hgw).1 b2 (off2 + k) hb2.out).trans ck2.out
              replace hgw := hid hgw
              simp only [outThen, preThen, slotIs, factAt, isv, List.getElem?_cons_zero, List.getElem?_cons_succ, Option.getD_some, forall_eq]
              intros
              rename_i hK
              replace hK := hid hK
              simp only [wantedAt]
              go_simp
              exact hK.out _ _ rfl (grown_refl _ _)
            case o1 =>
              go_light
              intro ac w' hgw
              have hcx := ((gcell hgw).1 b1 (off1 + k) hb1.out).trans ck1.out
              have hcy := ((gcell hgw).1 b2 (off2 + k) hb2.out).trans ck2.out
              replace hgw := hid hgw
              simp only [outThen, preThen, slotIs, factAt, isv, List.getElem?_cons_zero, List.getElem?_cons_succ, Option.getD_some, forall_eq]
              intros
              rename_i hK
              replace hK := hid hK
              simp only [wantedAt]
              go_simp
              exact hK.out _ _ rfl (grown_refl _ _)
            case o2 =>
              go_light
              intro ac w' hgw
              have hcx := ((gcell hgw).1 b1 (off1 + k) hb1.out).trans ck1.out
              have hcy := ((gcell hgw).1 b2 (off2 + k) hb2.out).trans ck2.out
              replace hgw := hid hgw
              simp only [outThen, preThen, slotIs, factAt, isv, List.getElem?_cons_zero, List.getElem?_cons_succ, Option.getD_some, forall_eq]
              intros
              rename_i hK
              replace hK := hid hK
              simp only [wantedAt]
              go_simp
              exact hK.out _ _ rfl (grown_refl _ _)
            case o3 =>
              go_light
              intro ac w' hgw
              have hcx := ((gcell hgw).1 b1 (off1 + k) hb1.out).trans ck1.out
              have hcy := ((gcell hgw).1 b2 (off2 + k) hb2.out).trans ck2.out
              replace hgw := hid hgw
              simp only [outThen, preThen, slotIs, factAt, isv, List.getElem?_cons_zero, List.getElem?_cons_succ, Option.getD_some, forall_eq]
              intros
              rename_i hK
              replace hK := hid hK
              simp only [wantedAt]
              go_simp
              exact hK.out _ _ (by first | (simp; done) | simpa using q1.out) (grown_refl _ _)
            case o4 =>
              go_light
              intro ac w' hgw
              have hcx := ((gcell hgw).1 b1 (off1 + k) hb1.out).trans ck1.out
              have hcy := ((gcell hgw).1 b2 (off2 + k) hb2.out).trans ck2.out
              replace hgw := hid hgw
              simp only [outThen, preThen, slotIs, factAt, isv, List.getElem?_cons_zero, List.getElem?_cons_succ, Option.getD_some, forall_eq]
              intros
              rename_i hK
              replace hK := hid hK
              simp only [wantedAt]
              go_simp
              exact hK.out _ _ rfl (grown_refl _ _)
            case o5 =>
              go_light
              intro ac w' hgw
              have hcx := ((gcell hgw).1 b1 (off1 + k) hb1.out).trans ck1.out
              have hcy := ((gcell hgw).1 b2 (off2 + k) hb2.out).trans ck2.out
              replace hgw := hid hgw
              simp only [outThen, preThen, slotIs, factAt, isv, List.getElem?_cons_zero, List.getElem?_cons_succ, Option.getD_some, forall_eq]
              intros
              rename_i hK
              replace hK := hid hK
              simp only [wantedAt]
              go_simp
              exact hK.out _ _ rfl (grown_refl _ _)
            case o6 =>
              go_light
              intro ac w' hgw
              have hcx := ((gcell hgw).1 b1 (off1 + k) hb1.out).trans ck1.out
              have hcy := ((gcell hgw).1 b2 (off2 + k) hb2.out).trans ck2.out
              replace hgw := hid hgw
              simp only [outThen, preThen, slotIs, factAt, isv, List.getElem?_cons_zero, List.getElem?_cons_succ, Option.getD_some, forall_eq]
              intros
              rename_i hK
              replace hK := hid hK
              simp only [wantedAt]
              go_simp
              exact hK.out _ _ rfl (grown_refl _ _)
            case o7 =>
              go_light
              intro ac w' hgw
              have hcx := ((gcell hgw).1 b1 (off1 + k) hb1.out).trans ck1.out
              have hcy := ((gcell hgw).1 b2 (off2 + k) hb2.out).trans ck2.out
              replace hgw := hid hgw
              simp only [outThen, preThen, slotIs, factAt, isv, List.getElem?_cons_zero, List.getElem?_cons_succ, Option.getD_some, forall_eq]
              intros
              rename_i hK
              replace hK := hid hK
              simp only [wantedAt]
              go_simp
              exact hK.out _ _ rfl (grown_refl _ _)
            case o8 =>
              go_light
              intro ac w' hgw
              have hcx := ((gcell hgw).1 b1 (off1 + k) hb1.out).trans ck1.out
              have hcy := ((gcell hgw).1 b2 (off2 + k) hb2.out).trans ck2.out
              replace hgw := hid hgw
              simp only [outThen, preThen, slotIs, factAt, isv, List.getElem?_cons_zero, List.getElem?_cons_succ, Option.getD_some, forall_eq]
              intros
              rename_i hK
              replace hK := hid hK
              simp only [wantedAt]
              go_simp
              exact hK.out _ _ (by first | (simp; done) | simpa using q2.out) (grown_refl _ _)
            case o9 =>
              go_light
              intro ac w' hgw
              have hcx := ((gcell hgw).1 b1 (off1 + k) hb1.out).trans ck1.out
              have hcy := ((gcell hgw).1 b2 (off2 + k) hb2.out).trans ck2.out
              replace hgw := hid hgw
              simp only [outThen, preThen, slotIs, factAt, isv, List.getElem?_cons_zero, List.getElem?_cons_succ, Option.getD_some, forall_eq]
              intros
              rename_i hK
              replace hK := hid hK
              simp only [wantedAt]
              go_simp
              exact hK.out _ _ rfl (grown_refl _ _)
            case o10 =>
              go_light
              intro ac w' hgw
              have hcx := ((gcell hgw).1 b1 (off1 + k) hb1.out).trans ck1.out
              have hcy := ((gcell hgw).1 b2 (off2 + k) hb2.out).trans ck2.out
              replace hgw := hid hgw
              simp only [outThen, preThen, slotIs, factAt, isv, List.getElem?_cons_zero, List.getElem?_cons_succ, Option.getD_some, forall_eq]
              intros
              rename_i hK
              replace hK := hid hK
              simp only [wantedAt]
              go_simp
              exact hK.out _ _ rfl (grown_refl _ _)
            case o11 =>
              go_light
              intro ac w' hgw
              have hcx := ((gcell hgw).1 b1 (off1 + k) hb1.out).trans ck1.out
              have hcy := ((gcell hgw).1 b2 (off2 + k) hb2.out).trans ck2.out
              replace hgw := hid hgw
              simp only [outThen, preThen, slotIs, factAt, isv, List.getElem?_cons_zero, List.getElem?_cons_succ, Option.getD_some, forall_eq]
              intros
              rename_i hK
              replace hK := hid hK
              simp only [wantedAt]
              go_simp
              exact hK.out _ _ rfl (grown_refl _ _)
            case o12 =>
              go_light
              intro ac w' hgw
              have hcx := ((gcell hgw).1 b1 (off1 + k) hb1.out).trans ck1.out
              have hcy := ((gcell hgw).1 b2 (off2 + k) hb2.out).trans ck2.out
              replace hgw := hid hgw
              simp only [outThen, preThen, slotIs, factAt, isv, List.getElem?_cons_zero, List.getElem?_cons_succ, Option.getD_some, forall_eq]
              intros
              rename_i hK
              replace hK := hid hK
              simp only [wantedAt]
              go_simp
              exact hK.out _ _ rfl (grown_refl _ _)
            case o13 =>
              go_light
              intro ac w' hgw
              have hcx := ((gcell hgw).1 b1 (off1 + k) hb1.out).trans ck1.out
              have hcy := ((gcell hgw).1 b2 (off2 + k) hb2.out).trans ck2.out
              replace hgw := hid hgw
              simp only [outThen, preThen, slotIs, factAt, isv, List.getElem?_cons_zero, List.getElem?_cons_succ, Option.getD_some, forall_eq]
              intros
              rename_i hK
              replace hK := hid hK
              simp only [wantedAt]
              go_simp
              exact hK.out _ _ rfl (grown_refl _ _)
            case o14 =>
              go_light
              intro ac w' hgw
              have hcx := ((gcell hgw).1 b1 (off1 + k) hb1.out).trans ck1.out
              have hcy := ((gcell hgw).1 b2 (off2 + k) hb2.out).trans ck2.out
              replace hgw := hid hgw
              simp only [outThen, preThen, slotIs, factAt, isv, List.getElem?_cons_zero, List.getElem?_cons_succ, Option.getD_some, forall_eq]
              intros
              rename_i hK
              replace hK := hid hK
              simp only [wantedAt]
              go_simp
              exact hK.out _ _ rfl (grown_refl _ _)
            case o15 =>
              go_light
              intro ac w' hgw
              have hcx := ((gcell hgw).1 b1 (off1 + k) hb1.out).trans ck1.out
              have hcy := ((gcell hgw).1 b2 (off2 + k) hb2.out).trans ck2.out
              replace hgw := hid hgw
              simp only [outThen, preThen, slotIs, factAt, isv, List.getElem?_cons_zero, List.getElem?_cons_succ, Option.getD_some, forall_eq]
              intros
              rename_i hK
              replace hK := hid hK
              simp only [wantedAt]
              go_simp
              exact hK.out _ _ rfl (grown_refl _ _)
            case o16 =>
              go_light
              intro ac w' hgw
              have hcx := ((gcell hgw).1 b1 (off1 + k) hb1.out).trans ck1.out
              have hcy := ((gcell hgw).1 b2 (off2 + k) hb2.out).trans ck2.out
              replace hgw := hid hgw
              simp only [outThen, preThen, slotIs, factAt, isv, List.getElem?_cons_zero, List.getElem?_cons_succ, Option.getD_some, forall_eq]
              intros
              rename_i hK
              replace hK := hid hK
              simp only [wantedAt]
              go_simp
              exact hK.out _ _ rfl (grown_refl _ _)
            case o17 =>
              go_light
              intro ac w' hgw
              have hcx := ((gcell hgw).1 b1 (off1 + k) hb1.out).trans ck1.out
              have hcy := ((gcell hgw).1 b2 (off2 + k) hb2.out).trans ck2.out
              replace hgw := hid hgw
              simp only [outThen, preThen, slotIs, factAt, isv, List.getElem?_cons_zero, List.getElem?_cons_succ, Option.getD_some, forall_eq]
              intros
              rename_i hK
              replace hK := hid hK
              simp only [wantedAt]
              go_simp
              exact hK.out _ _ rfl (grown_refl _ _)
            case o18 =>
              go_light
              intro ac w' hgw
              have hcx := ((gcell hgw).1 b1 (off1 + k) hb1.out).trans ck1.out
              have hcy := ((gcell hgw).1 b2 (off2 + k) hb2.out).trans ck2.out
              replace hgw := hid hgw
              simp only [outThen, preThen, slotIs, factAt, isv, List.getElem?_cons_zero, List.getElem?_cons_succ, Option.getD_some, forall_eq]
              intros
              rename_i hK
              replace hK := hid hK
              simp only [wantedAt]
              go_simp
              exact hK.out _ _ rfl (grown_refl _ _)
            case o19 =>
              go_light
              intro ac w' hgw
              have hcx := ((gcell hgw).1 b1 (off1 + k) hb1.out).trans ck1.out
              have hcy := ((gcell hgw).1 b2 (off2 + k) hb2.out).trans ck2.out
              replace hgw := hid hgw
              simp only [outThen, preThen, slotIs, factAt, isv, List.getElem?_cons_zero, List.getElem?_cons_succ, Option.getD_some, forall_eq]
              intros
              rename_i hK
              replace hK := hid hK
              simp only [wantedAt]
              go_simp
              exact hK.out _ _ (by first | (simp; done) | simpa using q3.out) (grown_refl _ _)
            case o20 =>
              go_light
              intro ac w' hgw
              have hcx := ((gcell hgw).1 b1 (off1 + k) hb1.out).trans ck1.out
              have hcy := ((gcell hgw).1 b2 (off2 + k) hb2.out).trans ck2.out
              replace hgw := hid hgw
              simp only [outThen, preThen, slotIs, factAt, isv, List.getElem?_cons_zero, List.getElem?_cons_succ, Option.getD_some, forall_eq]
              intros
              rename_i hK
              replace hK := hid hK
              simp only [wantedAt]
              go_simp
              exact hK.out _ _ rfl (grown_refl _ _)
          case st =>
            repeat (first | exact AllStable.nil | (refine AllStable.cons ?_ ?_; focus (first | exact stable_isv _ | exact stable_isBytes _ | exact stable_isRow1 _ | exact stable_isRowOf _ _ | exact stable_isArrOf _)))
          case fin =>
            intro w8 hgw
            simp only [finalIn, factAt, isv, List.getElem?_cons_zero, List.getElem?_cons_succ, Option.getD_some, forall_eq, slotIs, subj]
            simp only [Act.put, List.setIfInBounds_toArray, List.set_cons_zero, List.set_cons_succ]
            have hG8 := hid (grown_trans hG.out (grown_trans (grown_drew (grown_refl wr none)) hgw))
            clear hgw
            go_wp2_with fail
            go_roundw
            case rel => exact ⟨k + 1, by omega, by omega, by go_num, hnext.out, hG8.out⟩
            case measure => simp [intOf]; omega
        · rw [if_neg hxy] at hcd
          have hend := hid (show common a b = k by rw [hc.out, hcd]; omega)
          have q3 := hid (show (x == y) = false by simpa using hxy)
          clear hc hcd hxy
          go_wp2_with fail
          apply wp_region_each [isv _, isv _, isv _, isv (.bool true), isv _, isv _, isv _, isv _, isv (.bool true), isv _, isv _, isv _, isv _, isv _, isv _, isv _, isv _, isv _, isv _, isv (.bool false), isv _]
            30 [some 6, some 7, some 8, some 9, some 10, some 11, some 12, some 13, some 14, some 15, some 16, some 17, some 18, some 19, some 20, some 21, some 22, some 23, some 24, some 25, some 26]
            [some 6, some 7, some 8, some 9, some 10, some 11, some 12, some 13, some 14, some 15, some 16, some 17, some 18, some 19, some 20, some 21, some 22, some 23, some 24, some 25, some 26]
            [[], [], [1], [0, 2], [3], [4], [4], [6, 4], [5, 7, 4], [4, 8], [9], [10], [10], [11, 12, 10], [13, 10], [10], [10], [15, 16, 10], [17, 10], [14, 18, 10], [10, 19]]
            [(0, .slice (some ⟨b1, off1, none⟩) a.length c), (1, .slice (some ⟨b2, off2, none⟩) b.length d), (5, .int .i64 k)] (by kernel_rfl) rfl (by kernel_rfl) rfl rfl (by kernel_rfl) (OutsOk.cons rfl rfl (OutsOk.cons rfl rfl (OutsOk.cons rfl rfl OutsOk.nil))) ?st ?ob ?fin
          case ob =>
            refine Obs.consv rfl ?o0 (Obs.consv rfl ?o1 (Obs.consv rfl ?o2 (Obs.consv rfl ?o3 (Obs.consv rfl ?o4 (Obs.consv rfl ?o5 (Obs.consv rfl ?o6 (Obs.consv rfl ?o7 (Obs.consv rfl ?o8 (Obs.consv rfl ?o9 (Obs.consv rfl ?o10 (Obs.consv rfl ?o11 (Obs.consv rfl ?o12 (Obs.consv rfl ?o13 (Obs.consv rfl ?o14 (Obs.consv rfl ?o15 (Obs.consv rfl ?o16 (Obs.consv rfl ?o17 (Obs.consv rfl ?o18 (Obs.consv rfl ?o19 (Obs.consv rfl ?o20 Obs.nil))))))))))))))))))))
            case o0 =>
              go_light
              intro ac w' hgw
              have hcx := ((gcell hgw).1 b1 (off1 + k) hb1.out).trans ck1.out
              have hcy := ((gcell hgw).1 b2 (off2 + k) hb2.out).trans ck2.out
              replace hgw := hid hgw
              simp only [outThen, preThen, slotIs, factAt, isv, List.getElem?_cons_zero, List.getElem?_cons_succ, Option.getD_some, forall_eq]
              intros
              rename_i hK
              replace hK := hid hK
              simp only [wantedAt]
              go_simp
              exact hK.out _ _ rfl (grown_refl _ _)
            case o1 =>
              go_light
              intro ac w' hgw
              have hcx := ((gcell hgw).1 b1 (off1 + k) hb1.out).trans ck1.out
              have hcy := ((gcell hgw).1 b2 (off2 + k) hb2.out).trans ck2.out
              replace hgw := hid hgw
              simp only [outThen, preThen, slotIs, factAt, isv, List.getElem?_cons_zero, List.getElem?_cons_succ, Option.getD_some, forall_eq]
              intros
              rename_i hK
              replace hK := hid hK
              simp only [wantedAt]
              go_simp
              exact hK.out _ _ rfl (grown_refl _ _)
            case o2 =>
              go_light
              intro ac w' hgw
              have hcx := ((gcell hgw).1 b1 (off1 + k) hb1.out).trans ck1.out
              have hcy := ((gcell hgw).1 b2 (off2 + k) hb2.out).trans ck2.out
              replace hgw := hid hgw
              simp only [outThen, preThen, slotIs, factAt, isv, List.getElem?_cons_zero, List.getElem?_cons_succ, Option.getD_some, forall_eq]
              intros
              rename_i hK
              replace hK := hid hK
              simp only [wantedAt]
              go_simp
              exact hK.out _ _ rfl (grown_refl _ _)
            case o3 =>
              go_light
              intro ac w' hgw
              have hcx := ((gcell hgw).1 b1 (off1 + k) hb1.out).trans ck1.out
              have hcy := ((gcell hgw).1 b2 (off2 + k) hb2.out).trans ck2.out
              replace hgw := hid hgw
              simp only [outThen, preThen, slotIs, factAt, isv, List.getElem?_cons_zero, List.getElem?_cons_succ, Option.getD_some, forall_eq]
              intros
              rename_i hK
              replace hK := hid hK
              simp only [wantedAt]
              go_simp
              exact hK.out _ _ (by first | (simp; done) | simpa using q1.out) (grown_refl _ _)
            case o4 =>
              go_light
              intro ac w' hgw
              have hcx := ((gcell hgw).1 b1 (off1 + k) hb1.out).trans ck1.out
              have hcy := ((gcell hgw).1 b2 (off2 + k) hb2.out).trans ck2.out
              replace hgw := hid hgw
              simp only [outThen, preThen, slotIs, factAt, isv, List.getElem?_cons_zero, List.getElem?_cons_succ, Option.getD_some, forall_eq]
              intros
              rename_i hK
              replace hK := hid hK
              simp only [wantedAt]
              go_simp
              exact hK.out _ _ rfl (grown_refl _ _)
            case o5 =>
              go_light
              intro ac w' hgw
              have hcx := ((gcell hgw).1 b1 (off1 + k) hb1.out).trans ck1.out
              have hcy := ((gcell hgw).1 b2 (off2 + k) hb2.out).trans ck2.out
              replace hgw := hid hgw
              simp only [outThen, preThen, slotIs, factAt, isv, List.getElem?_cons_zero, List.getElem?_cons_succ, Option.getD_some, forall_eq]
              intros
              rename_i hK
              replace hK := hid hK
              simp only [wantedAt]
              go_simp
              exact hK.out _ _ rfl (grown_refl _ _)
            case o6 =>
              go_light
              intro ac w' hgw
              have hcx := ((gcell hgw).1 b1 (off1 + k) hb1.out).trans ck1.out
              have hcy := ((gcell hgw).1 b2 (off2 + k) hb2.out).trans ck2.out
              replace hgw := hid hgw
              simp only [outThen, preThen, slotIs, factAt, isv, List.getElem?_cons_zero, List.getElem?_cons_succ, Option.getD_some, forall_eq]
              intros
              rename_i hK
              replace hK := hid hK
              simp only [wantedAt]
              go_simp
              exact hK.out _ _ rfl (grown_refl _ _)
            case o7 =>
              go_light
              intro ac w' hgw
              have hcx := ((gcell hgw).1 b1 (off1 + k) hb1.out).trans ck1.out
              have hcy := ((gcell hgw).1 b2 (off2 + k) hb2.out).trans ck2.out
              replace hgw := hid hgw
              simp only [outThen, preThen, slotIs, factAt, isv, List.getElem?_cons_zero, List.getElem?_cons_succ, Option.getD_some, forall_eq]
              intros
              rename_i hK
              replace hK := hid hK
              simp only [wantedAt]
              go_simp
              exact hK.out _ _ rfl (grown_refl _ _)
            case o8 =>
              go_light
              intro ac w' hgw
              have hcx := ((gcell hgw).1 b1 (off1 + k) hb1.out).trans ck1.out
              have hcy := ((gcell hgw).1 b2 (off2 + k) hb2.out).trans ck2.out
              replace hgw := hid hgw
              simp only [outThen, preThen, slotIs, factAt, isv, List.getElem?_cons_zero, List.getElem?_cons_succ, Option.getD_some, forall_eq]
              intros
              rename_i hK
              replace hK := hid hK
              simp only [wantedAt]
              go_simp
              exact hK.out _ _ (by first | (simp; done) | simpa using q2.out) (grown_refl _ _)
            case o9 =>
              go_light
              intro ac w' hgw
              have hcx := ((gcell hgw).1 b1 (off1 + k) hb1.out).trans ck1.out
              have hcy := ((gcell hgw).1 b2 (off2 + k) hb2.out).trans ck2.out
              replace hgw := hid hgw
              simp only [outThen, preThen, slotIs, factAt, isv, List.getElem?_cons_zero, List.getElem?_cons_succ, Option.getD_some, forall_eq]
              intros
              rename_i hK
              replace hK := hid hK
              simp only [wantedAt]
              go_simp
              exact hK.out _ _ rfl (grown_refl _ _)
            case o10 =>
              go_light
              intro ac w' hgw
              have hcx := ((gcell hgw).1 b1 (off1 + k) hb1.out).trans ck1.out
              have hcy := ((gcell hgw).1 b2 (off2 + k) hb2.out).trans ck2.out
              replace hgw := hid hgw
              simp only [outThen, preThen, slotIs, factAt, isv, List.getElem?_cons_zero, List.getElem?_cons_succ, Option.getD_some, forall_eq]
              intros
              rename_i hK
              replace hK := hid hK
              simp only [wantedAt]
              go_simp
              exact hK.out _ _ rfl (grown_refl _ _)
            case o11 =>
              go_light
              intro ac w' hgw
              have hcx := ((gcell hgw).1 b1 (off1 + k) hb1.out).trans ck1.out
              have hcy := ((gcell hgw).1 b2 (off2 + k) hb2.out).trans ck2.out
              replace hgw := hid hgw
              simp only [outThen, preThen, slotIs, factAt, isv, List.getElem?_cons_zero, List.getElem?_cons_succ, Option.getD_some, forall_eq]
              intros
              rename_i hK
              replace hK := hid hK
              simp only [wantedAt]
              go_simp
              exact hK.out _ _ rfl (grown_refl _ _)
            case o12 =>
              go_light
              intro ac w' hgw
              have hcx := ((gcell hgw).1 b1 (off1 + k) hb1.out).trans ck1.out
              have hcy := ((gcell hgw).1 b2 (off2 + k) hb2.out).trans ck2.out
              replace hgw := hid hgw
              simp only [outThen, preThen, slotIs, factAt, isv, List.getElem?_cons_zero, List.getElem?_cons_succ, Option.getD_some, forall_eq]
              intros
              rename_i hK
              replace hK := hid hK
              simp only [wantedAt]
              go_simp
              exact hK.out _ _ rfl (grown_refl _ _)
            case o13 =>
              go_light
              intro ac w' hgw
              have hcx := ((gcell hgw).1 b1 (off1 + k) hb1.out).trans ck1.out
              have hcy := ((gcell hgw).1 b2 (off2 + k) hb2.out).trans ck2.out
              replace hgw := hid hgw
              simp only [outThen, preThen, slotIs, factAt, isv, List.getElem?_cons_zero, List.getElem?_cons_succ, Option.getD_some, forall_eq]
              intros
              rename_i hK
              replace hK := hid hK
              simp only [wantedAt]
              go_simp
              exact hK.out _ _ rfl (grown_refl _ _)
            case o14 =>
              go_light
              intro ac w' hgw
              have hcx := ((gcell hgw).1 b1 (off1 + k) hb1.out).trans ck1.out
              have hcy := ((gcell hgw).1 b2 (off2 + k) hb2.out).trans ck2.out
              replace hgw := hid hgw
              simp only [outThen, preThen, slotIs, factAt, isv, List.getElem?_cons_zero, List.getElem?_cons_succ, Option.getD_some, forall_eq]
              intros
              rename_i hK
              replace hK := hid hK
              simp only [wantedAt]
              go_simp
              exact hK.out _ _ rfl (grown_refl _ _)
            case o15 =>
              go_light
              intro ac w' hgw
              have hcx := ((gcell hgw).1 b1 (off1 + k) hb1.out).trans ck1.out
              have hcy := ((gcell hgw).1 b2 (off2 + k) hb2.out).trans ck2.out
              replace hgw := hid hgw
              simp only [outThen, preThen, slotIs, factAt, isv, List.getElem?_cons_zero, List.getElem?_cons_succ, Option.getD_some, forall_eq]
              intros
              rename_i hK
              replace hK := hid hK
              simp only [wantedAt]
              go_simp
              exact hK.out _ _ rfl (grown_refl _ _)
            case o16 =>
              go_light
              intro ac w' hgw
              have hcx := ((gcell hgw).1 b1 (off1 + k) hb1.out).trans ck1.out
              have hcy := ((gcell hgw).1 b2 (off2 + k) hb2.out).trans ck2.out
              replace hgw := hid hgw
              simp only [outThen, preThen, slotIs, factAt, isv, List.getElem?_cons_zero, List.getElem?_cons_succ, Option.getD_some, forall_eq]
              intros
              rename_i hK
              replace hK := hid hK
              simp only [wantedAt]
              go_simp
              exact hK.out _ _ rfl (grown_refl _ _)
            case o17 =>
              go_light
              intro ac w' hgw
              have hcx := ((gcell hgw).1 b1 (off1 + k) hb1.out).trans ck1.out
              have hcy := ((gcell hgw).1 b2 (off2 + k) hb2.out).trans ck2.out
              replace hgw := hid hgw
              simp only [outThen, preThen, slotIs, factAt, isv, List.getElem?_cons_zero, List.getElem?_cons_succ, Option.getD_some, forall_eq]
              intros
              rename_i hK
              replace hK := hid hK
              simp only [wantedAt]
              go_simp
              exact hK.out _ _ rfl (grown_refl _ _)
            case o18 =>
              go_light
              intro ac w' hgw
              have hcx := ((gcell hgw).1 b1 (off1 + k) hb1.out).trans ck1.out
              have hcy := ((gcell hgw).1 b2 (off2 + k) hb2.out).trans ck2.out
              replace hgw := hid hgw
              simp only [outThen, preThen, slotIs, factAt, isv, List.getElem?_cons_zero, List.getElem?_cons_succ, Option.getD_some, forall_eq]
              intros
              rename_i hK
              replace hK := hid hK
              simp only [wantedAt]
              go_simp
              exact hK.out _ _ rfl (grown_refl _ _)
            case o19 =>
              go_light
              intro ac w' hgw
              have hcx := ((gcell hgw).1 b1 (off1 + k) hb1.out).trans ck1.out
              have hcy := ((gcell hgw).1 b2 (off2 + k) hb2.out).trans ck2.out
              replace hgw := hid hgw
              simp only [outThen, preThen, slotIs, factAt, isv, List.getElem?_cons_zero, List.getElem?_cons_succ, Option.getD_some, forall_eq]
              intros
              rename_i hK
              replace hK := hid hK
              simp only [wantedAt]
              go_simp
              exact hK.out _ _ (by first | (simp; done) | simpa using q3.out) (grown_refl _ _)
            case o20 =>
              go_light
              intro ac w' hgw
              have hcx := ((gcell hgw).1 b1 (off1 + k) hb1.out).trans ck1.out
              have hcy := ((gcell hgw).1 b2 (off2 + k) hb2.out).trans ck2.out
              replace hgw := hid hgw
              simp only [outThen, preThen, slotIs, factAt, isv, List.getElem?_cons_zero, List.getElem?_cons_succ, Option.getD_some, forall_eq]
              intros
              rename_i hK
              replace hK := hid hK
              simp only [wantedAt]
              go_simp
              exact hK.out _ _ rfl (grown_refl _ _)
          case st =>
            repeat (first | exact AllStable.nil | (refine AllStable.cons ?_ ?_; focus (first | exact stable_isv _ | exact stable_isBytes _ | exact stable_isRow1 _ | exact stable_isRowOf _ _ | exact stable_isArrOf _)))
          case fin =>
            intro w8 hgw
            simp only [finalIn, factAt, isv, List.getElem?_cons_zero, List.getElem?_cons_succ, Option.getD_some, forall_eq, slotIs, subj]
            simp only [Act.put, List.setIfInBounds_toArray, List.set_cons_zero, List.set_cons_succ]
            have hG8 := hid (grown_trans hG.out (grown_trans (grown_drew (grown_refl wr none)) hgw))
            clear hgw
            go_wp2_with fail
            go_ret
            exact ⟨by rw [hend.out]; rfl, hG8.out⟩
      · have hend := hid (show common a b = k by
          rw [hc.out, show b.drop k = [] from List.drop_eq_nil_of_le (by omega), common_comm]; simp [common])
        have q1 := hid (show (k : Int) < (a.length : Int) by omega)
        have q2 := hid (show ¬ (k : Int) < (b.length : Int) by omega)
        clear hc
        go_wp2_with fail
        apply wp_region_each [isv _, isv _, isv _, isv (.bool true), isv _, isv _, isv _, isv _, isv (.bool false), isv _, isv _, isv _, isv _, isv _, isv _, isv _, isv _, isv _, isv _, isv _, isv _]
          30 [some 6, some 7, some 8, some 9, some 10, some 11, some 12, some 13, some 14, some 15, some 16, some 17, some 18, some 19, some 20, some 21, some 22, some 23, some 24, some 25, some 26]
          [some 6, some 7, some 8, some 9, some 10, some 11, some 12, some 13, some 14, some 15, some 16, some 17, some 18, some 19, some 20, some 21, some 22, some 23, some 24, some 25, some 26]
          [[], [], [1], [0, 2], [3], [4], [4], [6, 4], [5, 7, 4], [4, 8], [9], [10], [10], [11, 12, 10], [13, 10], [10], [10], [15, 16, 10], [17, 10], [14, 18, 10], [10, 19]]
          [(0, .slice A a.length c), (1, .slice B b.length d), (5, .int .i64 k)] (by kernel_rfl) rfl (by kernel_rfl) rfl rfl (by kernel_rfl) (OutsOk.cons rfl rfl (OutsOk.cons rfl rfl (OutsOk.cons rfl rfl OutsOk.nil))) ?st ?ob ?fin
        case ob =>
          refine Obs.consv rfl ?o0 (Obs.consv rfl ?o1 (Obs.consv rfl ?o2 (Obs.consv rfl ?o3 (Obs.consv rfl ?o4 (Obs.consv rfl ?o5 (Obs.consv rfl ?o6 (Obs.consv rfl ?o7 (Obs.consv rfl ?o8 (Obs.consv rfl ?o9 (Obs.consv rfl ?o10 (Obs.consv rfl ?o11 (Obs.consv rfl ?o12 (Obs.consv rfl ?o13 (Obs.consv rfl ?o14 (Obs.consv rfl ?o15 (Obs.consv rfl ?o16 (Obs.consv rfl ?o17 (Obs.consv rfl ?o18 (Obs.consv rfl ?o19 (Obs.consv rfl ?o20 Obs.nil))))))))))))))))))))
          case o0 =>
            go_light
            intro ac w' hgw
            replace hgw := hid hgw
            simp only [outThen, preThen, slotIs, factAt, isv, List.getElem?_cons_zero, List.getElem?_cons_succ, Option.getD_some, forall_eq]
            intros
            rename_i hK
            replace hK := hid hK
            simp only [wantedAt]
            go_simp
            exact hK.out _ _ rfl (grown_refl _ _)
          case o1 =>
            go_light
            intro ac w' hgw
            replace hgw := hid hgw
            simp only [outThen, preThen, slotIs, factAt, isv, List.getElem?_cons_zero, List.getElem?_cons_succ, Option.getD_some, forall_eq]
            intros
            rename_i hK
            replace hK := hid hK
            simp only [wantedAt]
            go_simp
            exact hK.out _ _ rfl (grown_refl _ _)
          case o2 =>
            go_light
            intro ac w' hgw
            replace hgw := hid hgw
            simp only [outThen, preThen, slotIs, factAt, isv, List.getElem?_cons_zero, List.getElem?_cons_succ, Option.getD_some, forall_eq]
            intros
            rename_i hK
            replace hK := hid hK
            simp only [wantedAt]
            go_simp
            exact hK.out _ _ rfl (grown_refl _ _)
          case o3 =>
            go_light
            intro ac w' hgw
            replace hgw := hid hgw
            simp only [outThen, preThen, slotIs, factAt, isv, List.getElem?_cons_zero, List.getElem?_cons_succ, Option.getD_some, forall_eq]
            intros
            rename_i hK
            replace hK := hid hK
            simp only [wantedAt]
            go_simp
            exact hK.out _ _ (by first | (simp; done) | simpa using q1.out) (grown_refl _ _)
          case o4 =>
            go_light
            intro ac w' hgw
            replace hgw := hid hgw
            simp only [outThen, preThen, slotIs, factAt, isv, List.getElem?_cons_zero, List.getElem?_cons_succ, Option.getD_some, forall_eq]
            intros
            rename_i hK
            replace hK := hid hK
            simp only [wantedAt]
            go_simp
            exact hK.out _ _ rfl (grown_refl _ _)
          case o5 =>
            go_light
            intro ac w' hgw
            replace hgw := hid hgw
            simp only [outThen, preThen, slotIs, factAt, isv, List.getElem?_cons_zero, List.getElem?_cons_succ, Option.getD_some, forall_eq]
            intros
            rename_i hK
            replace hK := hid hK
            simp only [wantedAt]
            go_simp
            exact hK.out _ _ rfl (grown_refl _ _)
          case o6 =>
            go_light
            intro ac w' hgw
            replace hgw := hid hgw
            simp only [outThen, preThen, slotIs, factAt, isv, List.getElem?_cons_zero, List.getElem?_cons_succ, Option.getD_some, forall_eq]
            intros
            rename_i hK
            replace hK := hid hK
            simp only [wantedAt]
            go_simp
            exact hK.out _ _ rfl (grown_refl _ _)
          case o7 =>
            go_light
            intro ac w' hgw
            replace hgw := hid hgw
            simp only [outThen, preThen, slotIs, factAt, isv, List.getElem?_cons_zero, List.getElem?_cons_succ, Option.getD_some, forall_eq]
            intros
            rename_i hK
            replace hK := hid hK
            simp only [wantedAt]
            go_simp
            exact hK.out _ _ rfl (grown_refl _ _)
          case o8 =>
            go_light
            intro ac w' hgw
            replace hgw := hid hgw
            simp only [outThen, preThen, slotIs, factAt, isv, List.getElem?_cons_zero, List.getElem?_cons_succ, Option.getD_some, forall_eq]
            intros
            rename_i hK
            replace hK := hid hK
            simp only [wantedAt]
            go_simp
            exact hK.out _ _ (by first | (simp; done) | simpa using q2.out) (grown_refl _ _)
          case o9 =>
            go_light
            intro ac w' hgw
            replace hgw := hid hgw
            simp only [outThen, preThen, slotIs, factAt, isv, List.getElem?_cons_zero, List.getElem?_cons_succ, Option.getD_some, forall_eq]
            intros
            rename_i hK
            replace hK := hid hK
            simp only [wantedAt]
            go_simp
            exact hK.out _ _ rfl (grown_refl _ _)
          case o10 =>
            go_light
            intro ac w' hgw
            replace hgw := hid hgw
            simp only [outThen, preThen, slotIs, factAt, isv, List.getElem?_cons_zero, List.getElem?_cons_succ, Option.getD_some, forall_eq]
            intros
            rename_i hK
            replace hK := hid hK
            simp only [wantedAt]
            go_simp
            exact hK.out _ _ rfl (grown_refl _ _)
          case o11 =>
            go_light
            intro ac w' hgw
            replace hgw := hid hgw
            simp only [outThen, preThen, slotIs, factAt, isv, List.getElem?_cons_zero, List.getElem?_cons_succ, Option.getD_some, forall_eq]
            intros
            rename_i hK
            replace hK := hid hK
            simp only [wantedAt]
            go_simp
            exact hK.out _ _ rfl (grown_refl _ _)
          case o12 =>
            go_light
            intro ac w' hgw
            replace hgw := hid hgw
            simp only [outThen, preThen, slotIs, factAt, isv, List.getElem?_cons_zero, List.getElem?_cons_succ, Option.getD_some, forall_eq]
            intros
            rename_i hK
            replace hK := hid hK
            simp only [wantedAt]
            go_simp
            exact hK.out _ _ rfl (grown_refl _ _)
          case o13 =>
            go_light
            intro ac w' hgw
            replace hgw := hid hgw
            simp only [outThen, preThen, slotIs, factAt, isv, List.getElem?_cons_zero, List.getElem?_cons_succ, Option.getD_some, forall_eq]
            intros
            rename_i hK
            replace hK := hid hK
            simp only [wantedAt]
            go_simp
            exact hK.out _ _ rfl (grown_refl _ _)
          case o14 =>
            go_light
            intro ac w' hgw
            replace hgw := hid hgw
            simp only [outThen, preThen, slotIs, factAt, isv, List.getElem?_cons_zero, List.getElem?_cons_succ, Option.getD_some, forall_eq]
            intros
            rename_i hK
            replace hK := hid hK
            simp only [wantedAt]
            go_simp
            exact hK.out _ _ rfl (grown_refl _ _)
          case o15 =>
            go_light
            intro ac w' hgw
            replace hgw := hid hgw
            simp only [outThen, preThen, slotIs, factAt, isv, List.getElem?_cons_zero, List.getElem?_cons_succ, Option.getD_some, forall_eq]
            intros
            rename_i hK
            replace hK := hid hK
            simp only [wantedAt]
            go_simp
            exact hK.out _ _ rfl (grown_refl _ _)
          case o16 =>
            go_light
            intro ac w' hgw
            replace hgw := hid hgw
            simp only [outThen, preThen, slotIs, factAt, isv, List.getElem?_cons_zero, List.getElem?_cons_succ, Option.getD_some, forall_eq]
            intros
            rename_i hK
            replace hK := hid hK
            simp only [wantedAt]
            go_simp
            exact hK.out _ _ rfl (grown_refl _ _)
          case o17 =>
            go_light
            intro ac w' hgw
            replace hgw := hid hgw
            simp only [outThen, preThen, slotIs, factAt, isv, List.getElem?_cons_zero, List.getElem?_cons_succ, Option.getD_some, forall_eq]
            intros
            rename_i hK
            replace hK := hid hK
            simp only [wantedAt]
            go_simp
            exact hK.out _ _ rfl (grown_refl _ _)
          case o18 =>
            go_light
            intro ac w' hgw
            replace hgw := hid hgw
            simp only [outThen, preThen, slotIs, factAt, isv, List.getElem?_cons_zero, List.getElem?_cons_succ, Option.getD_some, forall_eq]
            intros
            rename_i hK
            replace hK := hid hK
            simp only [wantedAt]
            go_simp
            exact hK.out _ _ rfl (grown_refl _ _)
          case o19 =>
            go_light
            intro ac w' hgw
            replace hgw := hid hgw
            simp only [outThen, preThen, slotIs, factAt, isv, List.getElem?_cons_zero, List.getElem?_cons_succ, Option.getD_some, forall_eq]
            intros
            rename_i hK
            replace hK := hid hK
            simp only [wantedAt]
            go_simp
            exact hK.out _ _ rfl (grown_refl _ _)
          case o20 =>
            go_light
            intro ac w' hgw
            replace hgw := hid hgw
            simp only [outThen, preThen, slotIs, factAt, isv, List.getElem?_cons_zero, List.getElem?_cons_succ, Option.getD_some, forall_eq]
            intros
            rename_i hK
            replace hK := hid hK
            simp only [wantedAt]
            go_simp
            exact hK.out _ _ rfl (grown_refl _ _)
        case st =>
          repeat (first | exact AllStable.nil | (refine AllStable.cons ?_ ?_; focus (first | exact stable_isv _ | exact stable_isBytes _ | exact stable_isRow1 _ | exact stable_isRowOf _ _ | exact stable_isArrOf _)))
        case fin =>
          intro w8 hgw
          simp only [finalIn, factAt, isv, List.getElem?_cons_zero, List.getElem?_cons_succ, Option.getD_some, forall_eq, slotIs, subj]
          simp only [Act.put, List.setIfInBounds_toArray, List.set_cons_zero, List.set_cons_succ]
          have hG8 := hid (grown_trans hG.out (grown_trans (grown_drew (grown_refl wr none)) hgw))
          clear hgw
          go_wp2_with fail
          go_ret
          exact ⟨by rw [hend.out]; rfl, hG8.out⟩
    · have hend := hid (show common a b = k by
        rw [hc.out, show a.drop k = [] from List.drop_eq_nil_of_le (by omega)]; simp [common])
      have q1 := hid (show ¬ (k : Int) < (a.length : Int) by omega)
      clear hc
      go_wp2_with fail
      apply wp_region_each [isv _, isv _, isv _, isv (.bool false), isv _, isv _, isv _, isv _, isv _, isv _, isv _, isv _, isv _, isv _, isv _, isv _, isv _, isv _, isv _, isv _, isv _]
        30 [some 6, some 7, some 8, some 9, some 10, some 11, some 12, some 13, some 14, some 15, some 16, some 17, some 18, some 19, some 20, some 21, some 22, some 23, some 24, some 25, some 26]
        [some 6, some 7, some 8, some 9, some 10, some 11, some 12, some 13, some 14, some 15, some 16, some 17, some 18, some 19, some 20, some 21, some 22, some 23, some 24, some 25, some 26]
        [[], [], [1], [0, 2], [3], [4], [4], [6, 4], [5, 7, 4], [4, 8], [9], [10], [10], [11, 12, 10], [13, 10], [10], [10], [15, 16, 10], [17, 10], [14, 18, 10], [10, 19]]
        [(0, .slice A a.length c), (1, .slice B b.length d), (5, .int .i64 k)] (by kernel_rfl) rfl (by kernel_rfl) rfl rfl (by kernel_rfl) (OutsOk.cons rfl rfl (OutsOk.cons rfl rfl (OutsOk.cons rfl rfl OutsOk.nil))) ?st ?ob ?fin
      case ob =>
        refine Obs.consv rfl ?o0 (Obs.consv rfl ?o1 (Obs.consv rfl ?o2 (Obs.consv rfl ?o3 (Obs.consv rfl ?o4 (Obs.consv rfl ?o5 (Obs.consv rfl ?o6 (Obs.consv rfl ?o7 (Obs.consv rfl ?o8 (Obs.consv rfl ?o9 (Obs.consv rfl ?o10 (Obs.consv rfl ?o11 (Obs.consv rfl ?o12 (Obs.consv rfl ?o13 (Obs.consv rfl ?o14 (Obs.consv rfl ?o15 (Obs.consv rfl ?o16 (Obs.consv rfl ?o17 (Obs.consv rfl ?o18 (Obs.consv rfl ?o19 (Obs.consv rfl ?o20 Obs.nil))))))))))))))))))))
        case o0 =>
          go_light
          intro ac w' hgw
          replace hgw := hid hgw
          simp only [outThen, preThen, slotIs, factAt, isv, List.getElem?_cons_zero, List.getElem?_cons_succ, Option.getD_some, forall_eq]
          intros
          rename_i hK
          replace hK := hid hK
          simp only [wantedAt]
          go_simp
          exact hK.out _ _ rfl (grown_refl _ _)
        case o1 =>
          go_light
          intro ac w' hgw
          replace hgw := hid hgw
          simp only [outThen, preThen, slotIs, factAt, isv, List.getElem?_cons_zero, List.getElem?_cons_succ, Option.getD_some, forall_eq]
          intros
          rename_i hK
          replace hK := hid hK
          simp only [wantedAt]
          go_simp
          exact hK.out _ _ rfl (grown_refl _ _)
        case o2 =>
          go_light
          intro ac w' hgw
          replace hgw := hid hgw
          simp only [outThen, preThen, slotIs, factAt, isv, List.getElem?_cons_zero, List.getElem?_cons_succ, Option.getD_some, forall_eq]
          intros
          rename_i hK
          replace hK := hid hK
          simp only [wantedAt]
          go_simp
          exact hK.out _ _ rfl (grown_refl _ _)
        case o3 =>
          go_light
          intro ac w' hgw
          replace hgw := hid hgw
          simp only [outThen, preThen, slotIs, factAt, isv, List.getElem?_cons_zero, List.getElem?_cons_succ, Option.getD_some, forall_eq]
          intros
          rename_i hK
          replace hK := hid hK
          simp only [wantedAt]
          go_simp
          exact hK.out _ _ (by first | (simp; done) | simpa using q1.out) (grown_refl _ _)
        case o4 =>
          go_light
          intro ac w' hgw
          replace hgw := hid hgw
          simp only [outThen, preThen, slotIs, factAt, isv, List.getElem?_cons_zero, List.getElem?_cons_succ, Option.getD_some, forall_eq]
          intros
          rename_i hK
          replace hK := hid hK
          simp only [wantedAt]
          go_simp
          exact hK.out _ _ rfl (grown_refl _ _)
        case o5 =>
          go_light
          intro ac w' hgw
          replace hgw := hid hgw
          simp only [outThen, preThen, slotIs, factAt, isv, List.getElem?_cons_zero, List.getElem?_cons_succ, Option.getD_some, forall_eq]
          intros
          rename_i hK
          replace hK := hid hK
          simp only [wantedAt]
          go_simp
          exact hK.out _ _ rfl (grown_refl _ _)
        case o6 =>
          go_light
          intro ac w' hgw
          replace hgw := hid hgw
          simp only [outThen, preThen, slotIs, factAt, isv, List.getElem?_cons_zero, List.getElem?_cons_succ, Option.getD_some, forall_eq]
          intros
          rename_i hK
          replace hK := hid hK
          simp only [wantedAt]
          go_simp
          exact hK.out _ _ rfl (grown_refl _ _)
        case o7 =>
          go_light
          intro ac w' hgw
          replace hgw := hid hgw
          simp only [outThen, preThen, slotIs, factAt, isv, List.getElem?_cons_zero, List.getElem?_cons_succ, Option.getD_some, forall_eq]
          intros
          rename_i hK
          replace hK := hid hK
          simp only [wantedAt]
          go_simp
          exact hK.out _ _ rfl (grown_refl _ _)
        case o8 =>
          go_light
          intro ac w' hgw
          replace hgw := hid hgw
          simp only [outThen, preThen, slotIs, factAt, isv, List.getElem?_cons_zero, List.getElem?_cons_succ, Option.getD_some, forall_eq]
          intros
          rename_i hK
          replace hK := hid hK
          simp only [wantedAt]
          go_simp
          exact hK.out _ _ rfl (grown_refl _ _)
        case o9 =>
          go_light
          intro ac w' hgw
          replace hgw := hid hgw
          simp only [outThen, preThen, slotIs, factAt, isv, List.getElem?_cons_zero, List.getElem?_cons_succ, Option.getD_some, forall_eq]
          intros
          rename_i hK
          replace hK := hid hK
          simp only [wantedAt]
          go_simp
          exact hK.out _ _ rfl (grown_refl _ _)
        case o10 =>
          go_light
          intro ac w' hgw
          replace hgw := hid hgw
          simp only [outThen, preThen, slotIs, factAt, isv, List.getElem?_cons_zero, List.getElem?_cons_succ, Option.getD_some, forall_eq]
          intros
          rename_i hK
          replace hK := hid hK
          simp only [wantedAt]
          go_simp
          exact hK.out _ _ rfl (grown_refl _ _)
        case o11 =>
          go_light
          intro ac w' hgw
          replace hgw := hid hgw
          simp only [outThen, preThen, slotIs, factAt, isv, List.getElem?_cons_zero, List.getElem?_cons_succ, Option.getD_some, forall_eq]
          intros
          rename_i hK
          replace hK := hid hK
          simp only [wantedAt]
          go_simp
          exact hK.out _ _ rfl (grown_refl _ _)
        case o12 =>
          go_light
          intro ac w' hgw
          replace hgw := hid hgw
          simp only [outThen, preThen, slotIs, factAt, isv, List.getElem?_cons_zero, List.getElem?_cons_succ, Option.getD_some, forall_eq]
          intros
          rename_i hK
          replace hK := hid hK
          simp only [wantedAt]
          go_simp
          exact hK.out _ _ rfl (grown_refl _ _)
        case o13 =>
          go_light
          intro ac w' hgw
          replace hgw := hid hgw
          simp only [outThen, preThen, slotIs, factAt, isv, List.getElem?_cons_zero, List.getElem?_cons_succ, Option.getD_some, forall_eq]
          intros
          rename_i hK
          replace hK := hid hK
          simp only [wantedAt]
          go_simp
          exact hK.out _ _ rfl (grown_refl _ _)
        case o14 =>
          go_light
          intro ac w' hgw
          replace hgw := hid hgw
          simp only [outThen, preThen, slotIs, factAt, isv, List.getElem?_cons_zero, List.getElem?_cons_succ, Option.getD_some, forall_eq]
          intros
          rename_i hK
          replace hK := hid hK
          simp only [wantedAt]
          go_simp
          exact hK.out _ _ rfl (grown_refl _ _)
        case o15 =>
          go_light
          intro ac w' hgw
          replace hgw := hid hgw
          simp only [outThen, preThen, slotIs, factAt, isv, List.getElem?_cons_zero, List.getElem?_cons_succ, Option.getD_some, forall_eq]
          intros
          rename_i hK
          replace hK := hid hK
          simp only [wantedAt]
          go_simp
          exact hK.out _ _ rfl (grown_refl _ _)
        case o16 =>
          go_light
          intro ac w' hgw
          replace hgw := hid hgw
          simp only [outThen, preThen, slotIs, factAt, isv, List.getElem?_cons_zero, List.getElem?_cons_succ, Option.getD_some, forall_eq]
          intros
          rename_i hK
          replace hK := hid hK
          simp only [wantedAt]
          go_simp
          exact hK.out _ _ rfl (grown_refl _ _)
        case o17 =>
          go_light
          intro ac w' hgw
          replace hgw := hid hgw
          simp only [outThen, preThen, slotIs, factAt, isv, List.getElem?_cons_zero, List.getElem?_cons_succ, Option.getD_some, forall_eq]
          intros
          rename_i hK
          replace hK := hid hK
          simp only [wantedAt]
          go_simp
          exact hK.out _ _ rfl (grown_refl _ _)
        case o18 =>
          go_light
          intro ac w' hgw
          replace hgw := hid hgw
          simp only [outThen, preThen, slotIs, factAt, isv, List.getElem?_cons_zero, List.getElem?_cons_succ, Option.getD_some, forall_eq]
          intros
          rename_i hK
          replace hK := hid hK
          simp only [wantedAt]
          go_simp
          exact hK.out _ _ rfl (grown_refl _ _)
        case o19 =>
          go_light
          intro ac w' hgw
          replace hgw := hid hgw
          simp only [outThen, preThen, slotIs, factAt, isv, List.getElem?_cons_zero, List.getElem?_cons_succ, Option.getD_some, forall_eq]
          intros
          rename_i hK
          replace hK := hid hK
          simp only [wantedAt]
          go_simp
          exact hK.out _ _ rfl (grown_refl _ _)
        case o20 =>
          go_light
          intro ac w' hgw
          replace hgw := hid hgw
          simp only [outThen, preThen, slotIs, factAt, isv, List.getElem?_cons_zero, List.getElem?_cons_succ, Option.getD_some, forall_eq]
          intros
          rename_i hK
          replace hK := hid hK
          simp only [wantedAt]
          go_simp
          exact hK.out _ _ rfl (grown_refl _ _)
      case st =>
        repeat (first | exact AllStable.nil | (refine AllStable.cons ?_ ?_; focus (first | exact stable_isv _ | exact stable_isBytes _ | exact stable_isRow1 _ | exact stable_isRowOf _ _ | exact stable_isArrOf _)))
      case fin =>
        intro w8 hgw
        simp only [finalIn, factAt, isv, List.getElem?_cons_zero, List.getElem?_cons_succ, Option.getD_some, forall_eq, slotIs, subj]
        simp only [Act.put, List.setIfInBounds_toArray, List.set_cons_zero, List.set_cons_succ]
        have hG8 := hid (grown_trans hG.out (grown_trans (grown_drew (grown_refl wr none)) hgw))
        clear hgw
        go_wp2_with fail
        go_ret
        exact ⟨by rw [hend.out]; rfl, hG8.out⟩
end Go.Proofs.Ytojbkhheaondhaa
