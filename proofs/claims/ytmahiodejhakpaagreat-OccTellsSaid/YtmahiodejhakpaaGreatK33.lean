/- The document's own answer: do hits rise?. The document's own answer: hits between two places. -/
import Derived.Test.YtmahiodejhakpaaGreatK32
import Derived.Test.YtmahiodejhakpaaGreatK20
import Derived.StillTailTactics
set_option linter.unusedSimpArgs false
set_option linter.unusedVariables false
namespace Go.Proofs.YtmahiodejhakpaaGreat
open Go.RowKit PlainLetter PlainPatset PlainOcc

set_option maxRecDepth 100000 in
set_option maxHeartbeats 2000000 in
theorem refRise_is (f : Bool) (P Q : Option Addr) (c d : Nat) (xss : List (List Int)) (l : List Hit) (w : World) (hn : l.length ≤ 1099511627776) (hP : Arrs w P xss) (hQ : Hits w Q l) :
    Calls Tryz.prog 14 #[.agg #[.bool f, .slice P xss.length c], .slice Q l.length d] w fun e w' => e = .returned (.bool (rise xss l)) ∧ w.grownBy w' none := by
  replace hP := hid hP
  replace hQ := hid hQ
  have H1 : Hid (Holds (w.alloc (.cells #[.bool f, .slice P xss.length c] 24)) w.heap.size 24 #[.bool f, .slice P xss.length c]) := Holds.new _ _ _
  have hG0 : Hid (w.grownBy (w.alloc (.cells #[.bool f, .slice P xss.length c] 24)) none) := grown_alloc (grown_refl w none) _
  go_enter Tryz.func14, Tryz.ntmps14
  go_wp2_with fail
  obtain ⟨W0, hW0⟩ : ∃ W0, w.alloc (.cells #[.bool f, .slice P xss.length c] 24) = W0 := ⟨_, rfl⟩
  rw [hW0] at H1 hG0 ⊢
  clear hW0
  obtain ⟨h, hh⟩ : ∃ h, w.heap.size = h := ⟨_, rfl⟩
  rw [hh] at H1 ⊢
  replace hh := hid hh
  go_loopw [5] (fun i wr => ∃ k : Nat, 1 ≤ k ∧ (k ≤ l.length ∨ k = 1) ∧ i = .int .i64 k ∧ W0.grownBy wr none ∧ rise xss (l.take k) = true) (fun i _ => l.length + 1 - (intOf i).toNat)
  case atStart => exact ⟨1, by omega, .inr rfl, rfl, grown_refl _ _, rise_one _ _ (by simp; omega)⟩
  case round =>
    obtain ⟨k, hk1, hk0, rfl, hG, hrise⟩ := hrel
    replace hrise := hid hrise
    by_cases hlt : k < l.length
    · obtain ⟨j, rfl⟩ : ∃ j, k = j + 1 := ⟨k - 1, by omega⟩
      have hrt := hid (rise_take xss l (j + 1) hk1 hlt)
      rw [Nat.add_sub_cancel] at hrt
      obtain ⟨b, off, rfl, hb0, hcell⟩ := hQ.out.at_ hlt
      obtain ⟨hcx0, hcx1⟩ := hcell j (by omega)
      obtain ⟨hcy0, hcy1⟩ := hcell (j + 1) hlt
      clear hcell
      have hbl : Hid (b < W0.heap.size) := Nat.lt_of_lt_of_le hb0 hG0.out.size
      replace hcx0 := hid (((gcell hG0.out).1 b _ hb0).trans hcx0)
      replace hcx1 := hid (((gcell hG0.out).1 b _ hb0).trans hcx1)
      replace hcy0 := hid (((gcell hG0.out).1 b _ hb0).trans hcy0)
      replace hcy1 := hid (((gcell hG0.out).1 b _ hb0).trans hcy1)
      replace hG := hid hG
      clear hb0
      generalize l.getD j (0, 0) = x at hcx0 hcx1 hrt
      generalize l.getD (j + 1) (0, 0) = y at hcy0 hcy1 hrt
      obtain ⟨x1, x2⟩ := x
      obtain ⟨y1, y2⟩ := y
      simp only at hcx0 hcx1 hcy0 hcy1
      have q0 : (0 : Int) ≤ (j : Int) := by omega
      have q1 : (j : Int) + 1 < (l.length : Int) := by omega
      have hwj : IntKind.i64.wrap (j : Int) = (j : Int) := by simp [IntKind.wrap, IntKind.bits, IntKind.signed]; omega
      have q2 : (j : Int) < (l.length : Int) := by omega
      go_wp2_with fail
      apply wp_region_each [isv (.agg #[.bool f, .slice P xss.length c]), isv _, isv _, isv _, isv _, isv (.agg #[.int .i64 x1, .int .i64 x2]), isv _, isv _, isv _, isv (.agg #[.int .i64 y1, .int .i64 y2]), isv (.bool (less xss (x1, x2) (y1, y2))), isv (.bool (!less xss (x1, x2) (y1, y2)))]
        24 [some 12, some 13, some 14, some 15, some 16, some 17, some 18, some 19, some 20, some 21, some 22, some 23]
        [some 12, some 13, some 14, some 15, some 16, some 17, some 18, some 19, some 20, some 21, some 22, some 23]
        [[], [], [], [2], [1, 3], [4], [], [], [6, 7], [8], [0, 5, 9], [10]]
        [(1, .slice (some ⟨b, off, none⟩) l.length d), (2, .pointer (some ⟨h, 0, none⟩)), (5, .int .i64 ((j + 1 : Nat) : Int))] (by kernel_rfl) rfl (by kernel_rfl) rfl rfl (by kernel_rfl) (OutsOk.cons rfl rfl (OutsOk.cons rfl rfl (OutsOk.cons rfl rfl OutsOk.nil))) ?st ?ob ?fin
      case ob =>
        refine Obs.consv rfl ?o0 (Obs.consv rfl ?o1 (Obs.consv rfl ?o2 (Obs.consv rfl ?o3 (Obs.consv rfl ?o4 (Obs.consv rfl ?o5 (Obs.consv rfl ?o6 (Obs.consv rfl ?o7 (Obs.consv rfl ?o8 (Obs.consv rfl ?o9 (Obs.consv rfl ?o10 (Obs.consv rfl ?o11 Obs.nil)))))))))))
        case o0 =>
          go_light
          intro ac w' hgw
          have g2 := grown_trans hG.out (grown_trans (grown_drew (grown_refl wr none)) hgw)
          have hcx0w := ((gcell g2).1 b (off + j * 2) hbl.out).trans hcx0.out
          have hcx1w := ((gcell g2).1 b (off + j * 2 + 1) hbl.out).trans hcx1.out
          have hcy0w := ((gcell g2).1 b (off + (j + 1) * 2) hbl.out).trans hcy0.out
          have hcy1w := ((gcell g2).1 b (off + (j + 1) * 2 + 1) hbl.out).trans hcy1.out
          have k1 := H1.out.kept0 g2
          have c0 := k1.cell 0
          have c1 := k1.cell 1
          simp at c0 c1
          have hPw := hid (hP.out.grown (grown_trans hG0.out g2))
          clear g2 k1
          replace hgw := hid hgw
          simp only [outThen, preThen, slotIs, factAt, isv, List.getElem?_cons_zero, List.getElem?_cons_succ, Option.getD_some, forall_eq]
          intros
          rename_i hK
          replace hK := hid hK
          simp only [wantedAt]
          go_simp
          exact hK.out _ _ rfl (grown_refl _ _)
        case o1 =>
          go_light
          intro ac w' hgw
          have g2 := grown_trans hG.out (grown_trans (grown_drew (grown_refl wr none)) hgw)
          have hcx0w := ((gcell g2).1 b (off + j * 2) hbl.out).trans hcx0.out
          have hcx1w := ((gcell g2).1 b (off + j * 2 + 1) hbl.out).trans hcx1.out
          have hcy0w := ((gcell g2).1 b (off + (j + 1) * 2) hbl.out).trans hcy0.out
          have hcy1w := ((gcell g2).1 b (off + (j + 1) * 2 + 1) hbl.out).trans hcy1.out
          have k1 := H1.out.kept0 g2
          have c0 := k1.cell 0
          have c1 := k1.cell 1
          simp at c0 c1
          have hPw := hid (hP.out.grown (grown_trans hG0.out g2))
          clear g2 k1
          replace hgw := hid hgw
          simp only [outThen, preThen, slotIs, factAt, isv, List.getElem?_cons_zero, List.getElem?_cons_succ, Option.getD_some, forall_eq]
          intros
          rename_i hK
          replace hK := hid hK
          simp only [wantedAt]
          go_simp
          exact hK.out _ _ rfl (grown_refl _ _)
        case o2 =>
          go_light
          intro ac w' hgw
          have g2 := grown_trans hG.out (grown_trans (grown_drew (grown_refl wr none)) hgw)
          have hcx0w := ((gcell g2).1 b (off + j * 2) hbl.out).trans hcx0.out
          have hcx1w := ((gcell g2).1 b (off + j * 2 + 1) hbl.out).trans hcx1.out
          have hcy0w := ((gcell g2).1 b (off + (j + 1) * 2) hbl.out).trans hcy0.out
          have hcy1w := ((gcell g2).1 b (off + (j + 1) * 2 + 1) hbl.out).trans hcy1.out
          have k1 := H1.out.kept0 g2
          have c0 := k1.cell 0
          have c1 := k1.cell 1
          simp at c0 c1
          have hPw := hid (hP.out.grown (grown_trans hG0.out g2))
          clear g2 k1
          replace hgw := hid hgw
          simp only [outThen, preThen, slotIs, factAt, isv, List.getElem?_cons_zero, List.getElem?_cons_succ, Option.getD_some, forall_eq]
          intros
          rename_i hK
          replace hK := hid hK
          simp only [wantedAt]
          go_simp
          exact hK.out _ _ rfl (grown_refl _ _)
        case o3 =>
          go_light
          intro ac w' hgw
          have g2 := grown_trans hG.out (grown_trans (grown_drew (grown_refl wr none)) hgw)
          have hcx0w := ((gcell g2).1 b (off + j * 2) hbl.out).trans hcx0.out
          have hcx1w := ((gcell g2).1 b (off + j * 2 + 1) hbl.out).trans hcx1.out
          have hcy0w := ((gcell g2).1 b (off + (j + 1) * 2) hbl.out).trans hcy0.out
          have hcy1w := ((gcell g2).1 b (off + (j + 1) * 2 + 1) hbl.out).trans hcy1.out
          have k1 := H1.out.kept0 g2
          have c0 := k1.cell 0
          have c1 := k1.cell 1
          simp at c0 c1
          have hPw := hid (hP.out.grown (grown_trans hG0.out g2))
          clear g2 k1
          replace hgw := hid hgw
          simp only [outThen, preThen, slotIs, factAt, isv, List.getElem?_cons_zero, List.getElem?_cons_succ, Option.getD_some, forall_eq]
          intros
          rename_i hK
          replace hK := hid hK
          simp only [wantedAt]
          go_simp
          exact hK.out _ _ rfl (grown_refl _ _)
        case o4 =>
          go_light
          intro ac w' hgw
          have g2 := grown_trans hG.out (grown_trans (grown_drew (grown_refl wr none)) hgw)
          have hcx0w := ((gcell g2).1 b (off + j * 2) hbl.out).trans hcx0.out
          have hcx1w := ((gcell g2).1 b (off + j * 2 + 1) hbl.out).trans hcx1.out
          have hcy0w := ((gcell g2).1 b (off + (j + 1) * 2) hbl.out).trans hcy0.out
          have hcy1w := ((gcell g2).1 b (off + (j + 1) * 2 + 1) hbl.out).trans hcy1.out
          have k1 := H1.out.kept0 g2
          have c0 := k1.cell 0
          have c1 := k1.cell 1
          simp at c0 c1
          have hPw := hid (hP.out.grown (grown_trans hG0.out g2))
          clear g2 k1
          replace hgw := hid hgw
          simp only [outThen, preThen, slotIs, factAt, isv, List.getElem?_cons_zero, List.getElem?_cons_succ, Option.getD_some, forall_eq]
          intros
          rename_i hK
          replace hK := hid hK
          simp only [wantedAt]
          go_simp
          exact hK.out _ _ rfl (grown_refl _ _)
        case o5 =>
          go_light
          intro ac w' hgw
          have g2 := grown_trans hG.out (grown_trans (grown_drew (grown_refl wr none)) hgw)
          have hcx0w := ((gcell g2).1 b (off + j * 2) hbl.out).trans hcx0.out
          have hcx1w := ((gcell g2).1 b (off + j * 2 + 1) hbl.out).trans hcx1.out
          have hcy0w := ((gcell g2).1 b (off + (j + 1) * 2) hbl.out).trans hcy0.out
          have hcy1w := ((gcell g2).1 b (off + (j + 1) * 2 + 1) hbl.out).trans hcy1.out
          have k1 := H1.out.kept0 g2
          have c0 := k1.cell 0
          have c1 := k1.cell 1
          simp at c0 c1
          have hPw := hid (hP.out.grown (grown_trans hG0.out g2))
          clear g2 k1
          replace hgw := hid hgw
          simp only [outThen, preThen, slotIs, factAt, isv, List.getElem?_cons_zero, List.getElem?_cons_succ, Option.getD_some, forall_eq]
          intros
          rename_i hK
          replace hK := hid hK
          simp only [wantedAt]
          go_simp
          exact hK.out _ _ rfl (grown_refl _ _)
        case o6 =>
          go_light
          intro ac w' hgw
          have g2 := grown_trans hG.out (grown_trans (grown_drew (grown_refl wr none)) hgw)
          have hcx0w := ((gcell g2).1 b (off + j * 2) hbl.out).trans hcx0.out
          have hcx1w := ((gcell g2).1 b (off + j * 2 + 1) hbl.out).trans hcx1.out
          have hcy0w := ((gcell g2).1 b (off + (j + 1) * 2) hbl.out).trans hcy0.out
          have hcy1w := ((gcell g2).1 b (off + (j + 1) * 2 + 1) hbl.out).trans hcy1.out
          have k1 := H1.out.kept0 g2
          have c0 := k1.cell 0
          have c1 := k1.cell 1
          simp at c0 c1
          have hPw := hid (hP.out.grown (grown_trans hG0.out g2))
          clear g2 k1
          replace hgw := hid hgw
          simp only [outThen, preThen, slotIs, factAt, isv, List.getElem?_cons_zero, List.getElem?_cons_succ, Option.getD_some, forall_eq]
          intros
          rename_i hK
          replace hK := hid hK
          simp only [wantedAt]
          go_simp
          exact hK.out _ _ rfl (grown_refl _ _)
        case o7 =>
          go_light
          intro ac w' hgw
          have g2 := grown_trans hG.out (grown_trans (grown_drew (grown_refl wr none)) hgw)
          have hcx0w := ((gcell g2).1 b (off + j * 2) hbl.out).trans hcx0.out
          have hcx1w := ((gcell g2).1 b (off + j * 2 + 1) hbl.out).trans hcx1.out
          have hcy0w := ((gcell g2).1 b (off + (j + 1) * 2) hbl.out).trans hcy0.out
          have hcy1w := ((gcell g2).1 b (off + (j + 1) * 2 + 1) hbl.out).trans hcy1.out
          have k1 := H1.out.kept0 g2
          have c0 := k1.cell 0
          have c1 := k1.cell 1
          simp at c0 c1
          have hPw := hid (hP.out.grown (grown_trans hG0.out g2))
          clear g2 k1
          replace hgw := hid hgw
          simp only [outThen, preThen, slotIs, factAt, isv, List.getElem?_cons_zero, List.getElem?_cons_succ, Option.getD_some, forall_eq]
          intros
          rename_i hK
          replace hK := hid hK
          simp only [wantedAt]
          go_simp
          exact hK.out _ _ rfl (grown_refl _ _)
        case o8 =>
          go_light
          intro ac w' hgw
          have g2 := grown_trans hG.out (grown_trans (grown_drew (grown_refl wr none)) hgw)
          have hcx0w := ((gcell g2).1 b (off + j * 2) hbl.out).trans hcx0.out
          have hcx1w := ((gcell g2).1 b (off + j * 2 + 1) hbl.out).trans hcx1.out
          have hcy0w := ((gcell g2).1 b (off + (j + 1) * 2) hbl.out).trans hcy0.out
          have hcy1w := ((gcell g2).1 b (off + (j + 1) * 2 + 1) hbl.out).trans hcy1.out
          have k1 := H1.out.kept0 g2
          have c0 := k1.cell 0
          have c1 := k1.cell 1
          simp at c0 c1
          have hPw := hid (hP.out.grown (grown_trans hG0.out g2))
          clear g2 k1
          replace hgw := hid hgw
          simp only [outThen, preThen, slotIs, factAt, isv, List.getElem?_cons_zero, List.getElem?_cons_succ, Option.getD_some, forall_eq]
          intros
          rename_i hK
          replace hK := hid hK
          simp only [wantedAt]
          go_simp
          exact hK.out _ _ rfl (grown_refl _ _)
        case o9 =>
          go_light
          intro ac w' hgw
          have g2 := grown_trans hG.out (grown_trans (grown_drew (grown_refl wr none)) hgw)
          have hcx0w := ((gcell g2).1 b (off + j * 2) hbl.out).trans hcx0.out
          have hcx1w := ((gcell g2).1 b (off + j * 2 + 1) hbl.out).trans hcx1.out
          have hcy0w := ((gcell g2).1 b (off + (j + 1) * 2) hbl.out).trans hcy0.out
          have hcy1w := ((gcell g2).1 b (off + (j + 1) * 2 + 1) hbl.out).trans hcy1.out
          have k1 := H1.out.kept0 g2
          have c0 := k1.cell 0
          have c1 := k1.cell 1
          simp at c0 c1
          have hPw := hid (hP.out.grown (grown_trans hG0.out g2))
          clear g2 k1
          replace hgw := hid hgw
          simp only [outThen, preThen, slotIs, factAt, isv, List.getElem?_cons_zero, List.getElem?_cons_succ, Option.getD_some, forall_eq]
          intros
          rename_i hK
          replace hK := hid hK
          simp only [wantedAt]
          go_simp
          exact hK.out _ _ rfl (grown_refl _ _)
        case o10 =>
          go_light
          intro ac w' hgw
          have g2 := grown_trans hG.out (grown_trans (grown_drew (grown_refl wr none)) hgw)
          have hcx0w := ((gcell g2).1 b (off + j * 2) hbl.out).trans hcx0.out
          have hcx1w := ((gcell g2).1 b (off + j * 2 + 1) hbl.out).trans hcx1.out
          have hcy0w := ((gcell g2).1 b (off + (j + 1) * 2) hbl.out).trans hcy0.out
          have hcy1w := ((gcell g2).1 b (off + (j + 1) * 2 + 1) hbl.out).trans hcy1.out
          have k1 := H1.out.kept0 g2
          have c0 := k1.cell 0
          have c1 := k1.cell 1
          simp at c0 c1
          have hPw := hid (hP.out.grown (grown_trans hG0.out g2))
          clear g2 k1
          replace hgw := hid hgw
          simp only [outThen, preThen, slotIs, factAt, isv, List.getElem?_cons_zero, List.getElem?_cons_succ, Option.getD_some, forall_eq]
          intros
          rename_i K hK
          replace hK := hid hK
          simp only [wantedAt]
          go_simp
          refine (refLess_is f P c xss (x1, x2) (y1, y2) w' hPw.out).mono ?_
          rintro e w3 ⟨rfl, hg⟩
          exact hK.out _ _ rfl hg
        case o11 =>
          go_light
          intro ac w' hgw
          have g2 := grown_trans hG.out (grown_trans (grown_drew (grown_refl wr none)) hgw)
          have hcx0w := ((gcell g2).1 b (off + j * 2) hbl.out).trans hcx0.out
          have hcx1w := ((gcell g2).1 b (off + j * 2 + 1) hbl.out).trans hcx1.out
          have hcy0w := ((gcell g2).1 b (off + (j + 1) * 2) hbl.out).trans hcy0.out
          have hcy1w := ((gcell g2).1 b (off + (j + 1) * 2 + 1) hbl.out).trans hcy1.out
          have k1 := H1.out.kept0 g2
          have c0 := k1.cell 0
          have c1 := k1.cell 1
          simp at c0 c1
          have hPw := hid (hP.out.grown (grown_trans hG0.out g2))
          clear g2 k1
          replace hgw := hid hgw
          simp only [outThen, preThen, slotIs, factAt, isv, List.getElem?_cons_zero, List.getElem?_cons_succ, Option.getD_some, forall_eq]
          intros
          rename_i hK
          replace hK := hid hK
          simp only [wantedAt]
          go_simp
          exact hK.out _ _ rfl (grown_refl _ _)
      case st =>
        repeat (first | exact AllStable.nil | (refine AllStable.cons ?_ ?_; focus (first | exact stable_isv _ | exact stable_isBytes _ | exact stable_isRow1 _ | exact stable_isRowOf _ _ | exact stable_isArrOf _)))
      case fin =>
        intro w3 hgw
        simp only [finalIn, factAt, isv, List.getElem?_cons_zero, List.getElem?_cons_succ, Option.getD_some, forall_eq, slotIs, subj]
        simp only [Act.put, List.setIfInBounds_toArray, List.set_cons_zero, List.set_cons_succ]
        have hG3 := hid (grown_trans hG.out (grown_trans (grown_drew (grown_refl wr none)) hgw))
        clear hgw hcx0 hcx1 hcy0 hcy1
        cases hb : less xss (x1, x2) (y1, y2) with
        | true =>
          rw [hb] at hrt
          have hr2 := hid (hrt.out.trans (by rw [hrise.out]))
          clear hrt hb
          simp only [Bool.not_true]
          go_wp2_with fail
          go_roundw
          case rel => exact ⟨j + 2, by omega, .inl (by omega), by go_num, hG3.out, hr2.out⟩
          case measure => simp [intOf]; omega
        | false =>
          rw [hb] at hrt
          have hr2 := hid (rise_take_false _ _ _ (hrt.out.trans (Bool.and_false _)))
          clear hrt hb
          simp only [Bool.not_false]
          go_wp2_with fail
          go_ret
          exact ⟨by rw [hr2.out]; rfl, grown_trans hG0.out hG3.out⟩
    · have hr2 : Hid (rise xss l = true) := by
        rw [← List.take_of_length_le (Nat.le_of_not_lt hlt)]; exact hrise.out
      replace hG := hid hG
      have q1 : (l.length : Int) ≤ (k : Int) := by omega
      go_wp2_with fail
      go_ret
      exact ⟨by rw [hr2.out]; rfl, grown_trans hG0.out hG.out⟩
end Go.Proofs.YtmahiodejhakpaaGreat

namespace Go.Proofs.YtmahiodejhakpaaGreat
open Go.RowKit PlainLetter PlainPatset PlainOcc

theorem refBetween_is (low high : Int) (P : Option Addr) (c : Nat) (l : List Hit) (w : World) (hn : l.length ≤ 1099511627776) (hP : Hits w P l) :
    Calls Tryz.prog 16 #[.int .i64 low, .int .i64 high, .slice P l.length c] w fun e w' => ∃ v, e = .returned v ∧ OwnHits w' w.heap.size v (between low high l) ∧ w.grownBy w' none := by
  obtain ⟨i0, hi0, hz0, hz1, hz2⟩ := info_parts Tryz.hitInfo
  replace hP := hid hP
  go_enter Tryz.func16, Tryz.ntmps16
  go_wp2_with fail
  go_loopw [7, 8] (fun v i wr => ∃ k : Nat, k ≤ l.length ∧ i = .int .i64 k ∧ OwnHits wr w.heap.size v (between low high (l.take k)) ∧ Below w.heap.size w wr) (fun _ i _ => l.length - (intOf i).toNat)
  case atStart => exact ⟨0, Nat.zero_le _, rfl, by simpa [between] using OwnHits.nil _ _, Below.refl _ _⟩
  case round =>
    obtain ⟨k, hk, rfl, hown, hB⟩ := hrel
    replace hown := hid hown
    have hG := hid (below_grown hB)
    by_cases hlt : k < l.length
    · have hT := hid (between_succ low high l k hlt)
      have hlen : (between low high (l.take k)).length ≤ k := Nat.le_trans (between_len _ _ _) (by simp; omega)
      obtain ⟨b, off, rfl, hb0, hc⟩ := (hP.out.grown hG.out).at_ hlt
      obtain ⟨hx0, hx1⟩ := hc k hlt
      clear hc
      generalize l.getD k (0, 0) = x at hx0 hx1 hT
      obtain ⟨x1, x2⟩ := x
      simp only at hx0 hx1
      generalize between low high (l.take k) = zs at hown hT hlen
      have hz : zs.length ≤ 1099511627776 := by omega
      have hsz := hB.size
      replace hB := hid hB
      replace hlen := hid hlen
      have q0 : (0 : Int) ≤ (k : Int) := by omega
      have q1 : (k : Int) < (l.length : Int) := by omega
      by_cases h1 : low < x1
      · by_cases h2 : x1 ≤ high
        · have hT2 := hid (hT.out.trans (by rw [if_pos ⟨h1, h2⟩]))
          clear hT
          go_wp2_with (at_builtin; refine wpList_push_hit rfl _ _ 26 rfl w.heap.size i0 Tryz.underlying26 hi0 hz0 hz1 hz2 _ zs (x1, x2) _ hown.out rfl rfl hz hsz ?_; intro v' w1 hrow1 _ hB1)
          go_roundw
          case rel => exact ⟨k + 1, by omega, by go_num, by rw [hT2.out]; exact hrow1, hB.out.trans hB1⟩
          case measure => simp [intOf]; omega
        · have hT2 := hid (hT.out.trans ((by rw [if_neg (fun h => h2 h.2)]) : _ = zs ++ []))
          clear hT
          go_wp2_with fail
          go_roundw
          case rel => exact ⟨k + 1, by omega, by go_num, by rw [hT2.out, List.append_nil]; exact hown.out, hB.out⟩
          case measure => simp [intOf]; omega
      · have hT2 := hid (hT.out.trans ((by rw [if_neg (fun h => h1 h.1)]) : _ = zs ++ []))
        clear hT
        go_wp2_with fail
        go_roundw
        case rel => exact ⟨k + 1, by omega, by go_num, by rw [hT2.out, List.append_nil]; exact hown.out, hB.out⟩
        case measure => simp [intOf]; omega
    · obtain rfl : k = l.length := by omega
      have hown2 := hid (by simpa using hown.out : OwnHits wr w.heap.size _ (between low high l))
      clear hown
      replace hB := hid hB
      go_wp2_with fail
      go_ret
      exact ⟨_, rfl, hown2.out, hG.out⟩

end Go.Proofs.YtmahiodejhakpaaGreat
