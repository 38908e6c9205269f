/- The document's own answer: hits that rise, with one more. -/
import Derived.Test.YtmahiodejhakpaaGreatK32
import Derived.Test.YtmahiodejhakpaaGreatK20
set_option linter.unusedVariables false
set_option linter.unusedSimpArgs false
namespace Go.Proofs.YtmahiodejhakpaaGreat
open Go.RowKit PlainLetter PlainPatset PlainOcc

theorem insRev_front (ws : List (List Int)) (h : Hit) : ∀ (A B : List Hit), (∀ x ∈ A, less ws h x = true) → insRev ws h (A ++ B) = A ++ insRev ws h B
  | [], B, _ => rfl
  | a :: A, B, hA => by
    rw [List.cons_append, insRev, if_pos (hA a (by simp)), insRev_front ws h A B (fun x hx => hA x (by simp [hx])), List.cons_append]
theorem put_split (ws : List (List Int)) (l : List Hit) (h : Hit) (k : Nat) (hk : k ≤ l.length) (h1 : ∀ j, k ≤ j → j < l.length → less ws h (l.getD j (0, 0)) = true) (h2 : k = 0 ∨ less ws h (l.getD (k - 1) (0, 0)) = false) :
    putHit ws l h = l.take k ++ [h] ++ l.drop k := by
  have e : l.reverse = (l.drop k).reverse ++ (l.take k).reverse := by rw [← List.reverse_append, List.take_append_drop]
  have hA : ∀ x ∈ (l.drop k).reverse, less ws h x = true := fun x hx => by
    obtain ⟨j, hj⟩ := List.mem_iff_getElem?.1 (List.mem_reverse.1 hx)
    rw [List.getElem?_drop] at hj
    have hl := (List.getElem?_eq_some_iff.1 hj).1
    have := h1 (k + j) (by omega) hl
    simpa [List.getD, hj] using this
  have hB : insRev ws h (l.take k).reverse = h :: (l.take k).reverse := by
    rcases h2 with rfl | h2
    · simp [insRev]
    · by_cases hk0 : k = 0
      · subst hk0; simp [insRev]
      · obtain ⟨j, rfl⟩ : ∃ j, k = j + 1 := ⟨k - 1, by omega⟩
        rw [take_getD l j (0, 0) (by omega), List.reverse_append, List.reverse_singleton, List.singleton_append, insRev]
        rw [Nat.add_sub_cancel] at h2
        rw [if_neg (by rw [h2]; simp)]
  unfold putHit
  rw [e, insRev_front ws h _ _ hA, hB]
  simp

set_option maxRecDepth 100000 in
set_option maxHeartbeats 4000000 in
theorem refPut_is (f : Bool) (P Q : Option Addr) (c d : Nat) (xss : List (List Int)) (l : List Hit) (hh1 : Hit) (w : World) (hn : l.length ≤ 1000000000) (hc : l.length ≤ c) (hcm : c ≤ maxLen) (hQ : Arrs w Q xss) (hP : Hits w P l) :
    Calls Tryz.prog 26 #[.agg #[.bool f, .slice Q xss.length d], .slice P l.length c, hitV hh1] w fun e w' => ∃ v, e = .returned v ∧ OwnHits w' w.heap.size v (putHit xss l hh1) ∧ w.grownBy w' none := by
  obtain ⟨i0, hi0, hz0, hz1, hz2⟩ := info_parts Tryz.hitInfo
  obtain ⟨h1, h2⟩ := hh1
  have hcm2 : c ≤ 9223372036854775807 := by unfold maxLen at hcm; omega
  replace hP := hid hP
  replace hQ := hid hQ
  have H1 : Hid (Holds ((w.alloc (.cells #[.bool f, .slice Q xss.length d] 24)).alloc (.cells #[.int .i64 h1, .int .i64 h2] 28)) w.heap.size 24 #[.bool f, .slice Q xss.length d]) := (Holds.new _ _ _).alloc _
  have H2 : Hid (Holds ((w.alloc (.cells #[.bool f, .slice Q xss.length d] 24)).alloc (.cells #[.int .i64 h1, .int .i64 h2] 28)) (w.heap.size + 1) 28 #[.int .i64 h1, .int .i64 h2]) := by
    refine Holds.new_at _ _ ?_
    simp
  have hG0 : Hid (w.grownBy ((w.alloc (.cells #[.bool f, .slice Q xss.length d] 24)).alloc (.cells #[.int .i64 h1, .int .i64 h2] 28)) none) := grown_alloc (grown_alloc (grown_refl w none) _) _
  go_enter Tryz.func26, Tryz.ntmps26
  go_wp2_with fail
  obtain ⟨W0, hW0⟩ : ∃ W0, (w.alloc (.cells #[.bool f, .slice Q xss.length d] 24)).alloc (.cells #[.int .i64 h1, .int .i64 h2] 28) = W0 := ⟨_, rfl⟩
  rw [hW0] at H1 H2 hG0 ⊢
  clear hW0
  obtain ⟨h, hh⟩ : ∃ h, w.heap.size = h := ⟨_, rfl⟩
  rw [hh] at H1 H2 ⊢
  have hle : Hid (h ≤ W0.heap.size) := by rw [← hh]; exact hG0.out.size
  replace hh := hid hh
  go_loopw [7] (fun i wr => ∃ k : Nat, k ≤ l.length ∧ i = .int .i64 k ∧ W0.grownBy wr none ∧ ∀ j, k ≤ j → j < l.length → less xss (h1, h2) (l.getD j (0, 0)) = true) (fun i _ => (intOf i).toNat)
  case atStart => exact ⟨l.length, Nat.le_refl _, rfl, grown_refl _ _, fun j a b => absurd b (by omega)⟩
  case round =>
    obtain ⟨k, hk, rfl, hG, hall⟩ := hrel
    replace hG := hid hG
    replace hall := hid hall
    by_cases hk0 : k = 0
    · replace hk0 := hid hk0
      go_wp2_with fail
      apply wp_region_each [isv _, isv (.bool false), isv (.bool false), isv _, isv _, isv _, isv _, isv _, isv _, isv _, isv _, isv (.bool false)]
        39 [some 11, some 12, some 13, some 14, some 15, some 16, some 17, some 18, some 19, some 20, some 21, some 22]
        [some 11, some 12, some 13, some 14, some 15, some 16, some 17, some 18, some 19, some 20, some 21, some 22]
        [[], [0], [1], [2], [2], [2], [2], [6, 2], [5, 7, 2], [8, 2], [3, 4, 9, 2], [2, 10]]
        [(1, .slice P l.length c), (3, .pointer (some ⟨h, 0, none⟩)), (5, .pointer (some ⟨h + 1, 0, none⟩)), (7, .int .i64 (k : Int))] (by kernel_rfl) rfl (by kernel_rfl) rfl rfl (by kernel_rfl) (OutsOk.cons rfl rfl (OutsOk.cons rfl rfl (OutsOk.cons rfl rfl (OutsOk.cons rfl rfl OutsOk.nil)))) ?st ?ob ?fin
      case ob =>
        refine Obs.consv rfl ?o0 (Obs.consv rfl ?o1 (Obs.consv rfl ?o2 (Obs.consv rfl ?o3 (Obs.consv rfl ?o4 (Obs.consv rfl ?o5 (Obs.consv rfl ?o6 (Obs.consv rfl ?o7 (Obs.consv rfl ?o8 (Obs.consv rfl ?o9 (Obs.consv rfl ?o10 (Obs.consv rfl ?o11 Obs.nil)))))))))))
        case o0 =>
          go_light
          intro ac w' hgw
          replace hgw := hid hgw
          simp only [outThen, preThen, slotIs, factAt, isv, List.getElem?_cons_zero, List.getElem?_cons_succ, Option.getD_some, forall_eq]
          intros
          rename_i hK
          replace hK := hid hK
          simp only [wantedAt]
          go_simp
          exact hK.out _ _ rfl (grown_refl _ _)
        case o1 =>
          go_light
          intro ac w' hgw
          replace hgw := hid hgw
          simp only [outThen, preThen, slotIs, factAt, isv, List.getElem?_cons_zero, List.getElem?_cons_succ, Option.getD_some, forall_eq]
          intros
          rename_i hK
          replace hK := hid hK
          simp only [wantedAt]
          go_simp
          exact hK.out _ _ (by simp; have := hk0.out; omega) (grown_refl _ _)
        case o2 =>
          go_light
          intro ac w' hgw
          replace hgw := hid hgw
          simp only [outThen, preThen, slotIs, factAt, isv, List.getElem?_cons_zero, List.getElem?_cons_succ, Option.getD_some, forall_eq]
          intros
          rename_i hK
          replace hK := hid hK
          simp only [wantedAt]
          go_simp
          exact hK.out _ _ rfl (grown_refl _ _)
        case o3 =>
          go_light
          intro ac w' hgw
          replace hgw := hid hgw
          simp only [outThen, preThen, slotIs, factAt, isv, List.getElem?_cons_zero, List.getElem?_cons_succ, Option.getD_some, forall_eq]
          intros
          rename_i hK
          replace hK := hid hK
          simp only [wantedAt]
          go_simp
          exact hK.out _ _ rfl (grown_refl _ _)
        case o4 =>
          go_light
          intro ac w' hgw
          replace hgw := hid hgw
          simp only [outThen, preThen, slotIs, factAt, isv, List.getElem?_cons_zero, List.getElem?_cons_succ, Option.getD_some, forall_eq]
          intros
          rename_i hK
          replace hK := hid hK
          simp only [wantedAt]
          go_simp
          exact hK.out _ _ rfl (grown_refl _ _)
        case o5 =>
          go_light
          intro ac w' hgw
          replace hgw := hid hgw
          simp only [outThen, preThen, slotIs, factAt, isv, List.getElem?_cons_zero, List.getElem?_cons_succ, Option.getD_some, forall_eq]
          intros
          rename_i hK
          replace hK := hid hK
          simp only [wantedAt]
          go_simp
          exact hK.out _ _ rfl (grown_refl _ _)
        case o6 =>
          go_light
          intro ac w' hgw
          replace hgw := hid hgw
          simp only [outThen, preThen, slotIs, factAt, isv, List.getElem?_cons_zero, List.getElem?_cons_succ, Option.getD_some, forall_eq]
          intros
          rename_i hK
          replace hK := hid hK
          simp only [wantedAt]
          go_simp
          exact hK.out _ _ rfl (grown_refl _ _)
        case o7 =>
          go_light
          intro ac w' hgw
          replace hgw := hid hgw
          simp only [outThen, preThen, slotIs, factAt, isv, List.getElem?_cons_zero, List.getElem?_cons_succ, Option.getD_some, forall_eq]
          intros
          rename_i hK
          replace hK := hid hK
          simp only [wantedAt]
          go_simp
          exact hK.out _ _ rfl (grown_refl _ _)
        case o8 =>
          go_light
          intro ac w' hgw
          replace hgw := hid hgw
          simp only [outThen, preThen, slotIs, factAt, isv, List.getElem?_cons_zero, List.getElem?_cons_succ, Option.getD_some, forall_eq]
          intros
          rename_i hK
          replace hK := hid hK
          simp only [wantedAt]
          go_simp
          exact hK.out _ _ rfl (grown_refl _ _)
        case o9 =>
          go_light
          intro ac w' hgw
          replace hgw := hid hgw
          simp only [outThen, preThen, slotIs, factAt, isv, List.getElem?_cons_zero, List.getElem?_cons_succ, Option.getD_some, forall_eq]
          intros
          rename_i hK
          replace hK := hid hK
          simp only [wantedAt]
          go_simp
          exact hK.out _ _ rfl (grown_refl _ _)
        case o10 =>
          go_light
          intro ac w' hgw
          replace hgw := hid hgw
          simp only [outThen, preThen, slotIs, factAt, isv, List.getElem?_cons_zero, List.getElem?_cons_succ, Option.getD_some, forall_eq]
          intros
          rename_i hK
          replace hK := hid hK
          simp only [wantedAt]
          go_simp
          exact hK.out _ _ rfl (grown_refl _ _)
        case o11 =>
          go_light
          intro ac w' hgw
          replace hgw := hid hgw
          simp only [outThen, preThen, slotIs, factAt, isv, List.getElem?_cons_zero, List.getElem?_cons_succ, Option.getD_some, forall_eq]
          intros
          rename_i hK
          replace hK := hid hK
          simp only [wantedAt]
          go_simp
          exact hK.out _ _ rfl (grown_refl _ _)
      case st =>
        repeat (first | exact AllStable.nil | (refine AllStable.cons ?_ ?_; focus (first | exact stable_isv _ | exact stable_isBytes _ | exact stable_isRow1 _ | exact stable_isRowOf _ _ | exact stable_isArrOf _)))
      case fin =>
        intro w3 hgw
        simp only [finalIn, factAt, isv, List.getElem?_cons_zero, List.getElem?_cons_succ, Option.getD_some, forall_eq, slotIs, subj]
        simp only [Act.put, List.setIfInBounds_toArray, List.set_cons_zero, List.set_cons_succ]
        have hG3 := hid (grown_trans hG.out (grown_trans (grown_drew (grown_refl wr none)) hgw))
        clear hgw
        have hps := hid (put_split xss l (h1, h2) k hk hall.out (.inl hk0.out))
        have q0 : (0 : Int) ≤ (k : Int) := by omega
        have q1 : (k : Int) ≤ (l.length : Int) := by omega
        have q2 : (k : Int) ≤ (c : Int) := by omega
        have k2 := hid (H2.out.kept0 hG3.out)
        have hgB := hid (grown_trans hG0.out hG3.out)
        have hsz : h ≤ w3.heap.size := Nat.le_trans hle.out hG3.out.size
        have hPk := hid ((hP.out.grown hgB.out).take k)
        have hlt := hid (show (l.take k).length = k by rw [List.length_take]; omega)
        have hld := hid (show (l.drop k).length = l.length - k from List.length_drop)
        go_wp2_with (first
          | (at_builtin; refine wpList_append_hits rfl _ _ 26 rfl h i0 Tryz.underlying26 hi0 hz0 hz1 hz2 _ [] (l.take k) _ _ _ _ (OwnHits.nil _ _) hPk.out rfl rfl hlt.out (by have := hlt.out; simp; omega) hsz ?_; intro v1 w1 r1 g1 B1; replace r1 := hid r1; have hsz1 := Nat.le_trans hsz g1.size; have k3 := k2.out.kept0 g1; have d0 := k3.cell 0; have d1 := k3.cell 1; simp at d0 d1; clear k3; replace g1 := hid g1; replace B1 := hid B1)
          | (at_builtin; refine wpList_push_hit rfl _ _ 26 rfl h i0 Tryz.underlying26 hi0 hz0 hz1 hz2 _ ([] ++ l.take k) (h1, h2) _ r1.out rfl rfl (by have := hlt.out; simp; omega) hsz1 ?_; intro v2 w2 r2 g2 B2; replace r2 := hid r2; have hsz2 := Nat.le_trans hsz1 B2.size; have hPd2 := hid ((hP.out.grown (below_grown ((grown_below hgB.out).trans ((B1.out.trans B2).mono (Nat.le_of_eq hh.out))))).drop (k := k) hc); have hPd3 := hPd2.out; (try simp only [Option.map_some, add_lit] at hPd3); replace hPd2 := hid hPd3; replace g2 := hid g2; replace B2 := hid B2)
          | (at_builtin; (refine wpList_append_hits rfl _ _ 26 rfl h i0 Tryz.underlying26 hi0 hz0 hz1 hz2 _ (([] ++ l.take k) ++ [(h1, h2)]) (l.drop k) _ _ _ _ r2.out hPd2.out rfl rfl hld.out (by have := hlt.out; have := hld.out; simp; omega) hsz2 ?_; intro v3 w4 r3 g3 B3; replace r3 := hid r3; have hBz := hid (below_grown ((grown_below hgB.out).trans (((B1.out.trans B2.out).trans B3).mono (Nat.le_of_eq hh.out)))))))
        all_goals
          go_ret
          exact ⟨_, rfl, by rw [hps.out, hh.out]; exact r3.out, hBz.out⟩
    · obtain ⟨j, rfl⟩ : ∃ j, k = j + 1 := ⟨k - 1, by omega⟩
      clear hk0
      have hlt : j < l.length := by omega
      obtain ⟨b, off, rfl, hb0, hcell⟩ := hP.out.at_ hlt
      obtain ⟨hcx0, hcx1⟩ := hcell j hlt
      clear hcell
      have hbl : Hid (b < W0.heap.size) := Nat.lt_of_lt_of_le hb0 hG0.out.size
      replace hcx0 := hid (((gcell hG0.out).1 b _ hb0).trans hcx0)
      replace hcx1 := hid (((gcell hG0.out).1 b _ hb0).trans hcx1)
      clear hb0
      generalize hxs : l.getD j (0, 0) = x at hcx0 hcx1
      replace hxs := hid hxs
      obtain ⟨x1, x2⟩ := x
      simp only at hcx0 hcx1
      obtain ⟨B, hBd⟩ : ∃ B, less xss (h1, h2) (x1, x2) = B := ⟨_, rfl⟩
      replace hBd := hid hBd
      have q0 : (0 : Int) ≤ (j : Int) := by omega
      have q1 : (j : Int) < (l.length : Int) := by omega
      have hwj : IntKind.i64.wrap (j : Int) = (j : Int) := by simp [IntKind.wrap, IntKind.bits, IntKind.signed]; omega
      go_wp2_with fail
      apply wp_region_each [isv _, isv (.bool true), isv (.bool true), isv (.agg #[.bool f, .slice Q xss.length d]), isv (.agg #[.int .i64 h1, .int .i64 h2]), isv _, isv _, isv (.int .i64 (j : Int)), isv _, isv (.agg #[.int .i64 x1, .int .i64 x2]), isv (.bool B), isv (.bool B)]
        39 [some 11, some 12, some 13, some 14, some 15, some 16, some 17, some 18, some 19, some 20, some 21, some 22]
        [some 11, some 12, some 13, some 14, some 15, some 16, some 17, some 18, some 19, some 20, some 21, some 22]
        [[], [0], [1], [2], [2], [2], [2], [6, 2], [5, 7, 2], [8, 2], [3, 4, 9, 2], [2, 10]]
        [(1, .slice (some ⟨b, off, none⟩) l.length c), (3, .pointer (some ⟨h, 0, none⟩)), (5, .pointer (some ⟨h + 1, 0, none⟩)), (7, .int .i64 ((j + 1 : Nat) : Int))] (by kernel_rfl) rfl (by kernel_rfl) rfl rfl (by kernel_rfl) (OutsOk.cons rfl rfl (OutsOk.cons rfl rfl (OutsOk.cons rfl rfl (OutsOk.cons rfl rfl OutsOk.nil)))) ?st ?ob ?fin
      case ob =>
        refine Obs.consv rfl ?o0 (Obs.consv rfl ?o1 (Obs.consv rfl ?o2 (Obs.consv rfl ?o3 (Obs.consv rfl ?o4 (Obs.consv rfl ?o5 (Obs.consv rfl ?o6 (Obs.consv rfl ?o7 (Obs.consv rfl ?o8 (Obs.consv rfl ?o9 (Obs.consv rfl ?o10 (Obs.consv rfl ?o11 Obs.nil)))))))))))
        case o0 =>
          go_light
          intro ac w' hgw
          have g2 := grown_trans hG.out (grown_trans (grown_drew (grown_refl wr none)) hgw)
          have hcx0w := ((gcell g2).1 b (off + j * 2) hbl.out).trans hcx0.out
          have hcx1w := ((gcell g2).1 b (off + j * 2 + 1) hbl.out).trans hcx1.out
          have k1 := H1.out.kept0 g2
          have k2 := H2.out.kept0 g2
          have c0 := k1.cell 0
          have c1 := k1.cell 1
          have d0 := k2.cell 0
          have d1 := k2.cell 1
          simp at c0 c1 d0 d1
          have hQw := hid (hQ.out.grown (grown_trans hG0.out g2))
          clear g2 k1 k2
          replace hgw := hid hgw
          simp only [outThen, preThen, slotIs, factAt, isv, List.getElem?_cons_zero, List.getElem?_cons_succ, Option.getD_some, forall_eq]
          intros
          rename_i hK
          replace hK := hid hK
          simp only [wantedAt]
          go_simp
          exact hK.out _ _ rfl (grown_refl _ _)
        case o1 =>
          go_light
          intro ac w' hgw
          have g2 := grown_trans hG.out (grown_trans (grown_drew (grown_refl wr none)) hgw)
          have hcx0w := ((gcell g2).1 b (off + j * 2) hbl.out).trans hcx0.out
          have hcx1w := ((gcell g2).1 b (off + j * 2 + 1) hbl.out).trans hcx1.out
          have k1 := H1.out.kept0 g2
          have k2 := H2.out.kept0 g2
          have c0 := k1.cell 0
          have c1 := k1.cell 1
          have d0 := k2.cell 0
          have d1 := k2.cell 1
          simp at c0 c1 d0 d1
          have hQw := hid (hQ.out.grown (grown_trans hG0.out g2))
          clear g2 k1 k2
          replace hgw := hid hgw
          simp only [outThen, preThen, slotIs, factAt, isv, List.getElem?_cons_zero, List.getElem?_cons_succ, Option.getD_some, forall_eq]
          intros
          rename_i hK
          replace hK := hid hK
          simp only [wantedAt]
          go_simp
          exact hK.out _ _ (by simp) (grown_refl _ _)
        case o2 =>
          go_light
          intro ac w' hgw
          have g2 := grown_trans hG.out (grown_trans (grown_drew (grown_refl wr none)) hgw)
          have hcx0w := ((gcell g2).1 b (off + j * 2) hbl.out).trans hcx0.out
          have hcx1w := ((gcell g2).1 b (off + j * 2 + 1) hbl.out).trans hcx1.out
          have k1 := H1.out.kept0 g2
          have k2 := H2.out.kept0 g2
          have c0 := k1.cell 0
          have c1 := k1.cell 1
          have d0 := k2.cell 0
          have d1 := k2.cell 1
          simp at c0 c1 d0 d1
          have hQw := hid (hQ.out.grown (grown_trans hG0.out g2))
          clear g2 k1 k2
          replace hgw := hid hgw
          simp only [outThen, preThen, slotIs, factAt, isv, List.getElem?_cons_zero, List.getElem?_cons_succ, Option.getD_some, forall_eq]
          intros
          rename_i hK
          replace hK := hid hK
          simp only [wantedAt]
          go_simp
          exact hK.out _ _ rfl (grown_refl _ _)
        case o3 =>
          go_light
          intro ac w' hgw
          have g2 := grown_trans hG.out (grown_trans (grown_drew (grown_refl wr none)) hgw)
          have hcx0w := ((gcell g2).1 b (off + j * 2) hbl.out).trans hcx0.out
          have hcx1w := ((gcell g2).1 b (off + j * 2 + 1) hbl.out).trans hcx1.out
          have k1 := H1.out.kept0 g2
          have k2 := H2.out.kept0 g2
          have c0 := k1.cell 0
          have c1 := k1.cell 1
          have d0 := k2.cell 0
          have d1 := k2.cell 1
          simp at c0 c1 d0 d1
          have hQw := hid (hQ.out.grown (grown_trans hG0.out g2))
          clear g2 k1 k2
          replace hgw := hid hgw
          simp only [outThen, preThen, slotIs, factAt, isv, List.getElem?_cons_zero, List.getElem?_cons_succ, Option.getD_some, forall_eq]
          intros
          rename_i hK
          replace hK := hid hK
          simp only [wantedAt]
          go_simp
          exact hK.out _ _ rfl (grown_refl _ _)
        case o4 =>
          go_light
          intro ac w' hgw
          have g2 := grown_trans hG.out (grown_trans (grown_drew (grown_refl wr none)) hgw)
          have hcx0w := ((gcell g2).1 b (off + j * 2) hbl.out).trans hcx0.out
          have hcx1w := ((gcell g2).1 b (off + j * 2 + 1) hbl.out).trans hcx1.out
          have k1 := H1.out.kept0 g2
          have k2 := H2.out.kept0 g2
          have c0 := k1.cell 0
          have c1 := k1.cell 1
          have d0 := k2.cell 0
          have d1 := k2.cell 1
          simp at c0 c1 d0 d1
          have hQw := hid (hQ.out.grown (grown_trans hG0.out g2))
          clear g2 k1 k2
          replace hgw := hid hgw
          simp only [outThen, preThen, slotIs, factAt, isv, List.getElem?_cons_zero, List.getElem?_cons_succ, Option.getD_some, forall_eq]
          intros
          rename_i hK
          replace hK := hid hK
          simp only [wantedAt]
          go_simp
          exact hK.out _ _ rfl (grown_refl _ _)
        case o5 =>
          go_light
          intro ac w' hgw
          have g2 := grown_trans hG.out (grown_trans (grown_drew (grown_refl wr none)) hgw)
          have hcx0w := ((gcell g2).1 b (off + j * 2) hbl.out).trans hcx0.out
          have hcx1w := ((gcell g2).1 b (off + j * 2 + 1) hbl.out).trans hcx1.out
          have k1 := H1.out.kept0 g2
          have k2 := H2.out.kept0 g2
          have c0 := k1.cell 0
          have c1 := k1.cell 1
          have d0 := k2.cell 0
          have d1 := k2.cell 1
          simp at c0 c1 d0 d1
          have hQw := hid (hQ.out.grown (grown_trans hG0.out g2))
          clear g2 k1 k2
          replace hgw := hid hgw
          simp only [outThen, preThen, slotIs, factAt, isv, List.getElem?_cons_zero, List.getElem?_cons_succ, Option.getD_some, forall_eq]
          intros
          rename_i hK
          replace hK := hid hK
          simp only [wantedAt]
          go_simp
          exact hK.out _ _ rfl (grown_refl _ _)
        case o6 =>
          go_light
          intro ac w' hgw
          have g2 := grown_trans hG.out (grown_trans (grown_drew (grown_refl wr none)) hgw)
          have hcx0w := ((gcell g2).1 b (off + j * 2) hbl.out).trans hcx0.out
          have hcx1w := ((gcell g2).1 b (off + j * 2 + 1) hbl.out).trans hcx1.out
          have k1 := H1.out.kept0 g2
          have k2 := H2.out.kept0 g2
          have c0 := k1.cell 0
          have c1 := k1.cell 1
          have d0 := k2.cell 0
          have d1 := k2.cell 1
          simp at c0 c1 d0 d1
          have hQw := hid (hQ.out.grown (grown_trans hG0.out g2))
          clear g2 k1 k2
          replace hgw := hid hgw
          simp only [outThen, preThen, slotIs, factAt, isv, List.getElem?_cons_zero, List.getElem?_cons_succ, Option.getD_some, forall_eq]
          intros
          rename_i hK
          replace hK := hid hK
          simp only [wantedAt]
          go_simp
          exact hK.out _ _ rfl (grown_refl _ _)
        case o7 =>
          go_light
          intro ac w' hgw
          have g2 := grown_trans hG.out (grown_trans (grown_drew (grown_refl wr none)) hgw)
          have hcx0w := ((gcell g2).1 b (off + j * 2) hbl.out).trans hcx0.out
          have hcx1w := ((gcell g2).1 b (off + j * 2 + 1) hbl.out).trans hcx1.out
          have k1 := H1.out.kept0 g2
          have k2 := H2.out.kept0 g2
          have c0 := k1.cell 0
          have c1 := k1.cell 1
          have d0 := k2.cell 0
          have d1 := k2.cell 1
          simp at c0 c1 d0 d1
          have hQw := hid (hQ.out.grown (grown_trans hG0.out g2))
          clear g2 k1 k2
          replace hgw := hid hgw
          simp only [outThen, preThen, slotIs, factAt, isv, List.getElem?_cons_zero, List.getElem?_cons_succ, Option.getD_some, forall_eq]
          intros
          rename_i hK
          replace hK := hid hK
          simp only [wantedAt]
          go_simp
          exact hK.out _ _ rfl (grown_refl _ _)
        case o8 =>
          go_light
          intro ac w' hgw
          have g2 := grown_trans hG.out (grown_trans (grown_drew (grown_refl wr none)) hgw)
          have hcx0w := ((gcell g2).1 b (off + j * 2) hbl.out).trans hcx0.out
          have hcx1w := ((gcell g2).1 b (off + j * 2 + 1) hbl.out).trans hcx1.out
          have k1 := H1.out.kept0 g2
          have k2 := H2.out.kept0 g2
          have c0 := k1.cell 0
          have c1 := k1.cell 1
          have d0 := k2.cell 0
          have d1 := k2.cell 1
          simp at c0 c1 d0 d1
          have hQw := hid (hQ.out.grown (grown_trans hG0.out g2))
          clear g2 k1 k2
          replace hgw := hid hgw
          simp only [outThen, preThen, slotIs, factAt, isv, List.getElem?_cons_zero, List.getElem?_cons_succ, Option.getD_some, forall_eq]
          intros
          rename_i hK
          replace hK := hid hK
          simp only [wantedAt]
          go_simp
          exact hK.out _ _ rfl (grown_refl _ _)
        case o9 =>
          go_light
          intro ac w' hgw
          have g2 := grown_trans hG.out (grown_trans (grown_drew (grown_refl wr none)) hgw)
          have hcx0w := ((gcell g2).1 b (off + j * 2) hbl.out).trans hcx0.out
          have hcx1w := ((gcell g2).1 b (off + j * 2 + 1) hbl.out).trans hcx1.out
          have k1 := H1.out.kept0 g2
          have k2 := H2.out.kept0 g2
          have c0 := k1.cell 0
          have c1 := k1.cell 1
          have d0 := k2.cell 0
          have d1 := k2.cell 1
          simp at c0 c1 d0 d1
          have hQw := hid (hQ.out.grown (grown_trans hG0.out g2))
          clear g2 k1 k2
          replace hgw := hid hgw
          simp only [outThen, preThen, slotIs, factAt, isv, List.getElem?_cons_zero, List.getElem?_cons_succ, Option.getD_some, forall_eq]
          intros
          rename_i hK
          replace hK := hid hK
          simp only [wantedAt]
          go_simp
          exact hK.out _ _ rfl (grown_refl _ _)
        case o10 =>
          go_light
          intro ac w' hgw
          have g2 := grown_trans hG.out (grown_trans (grown_drew (grown_refl wr none)) hgw)
          have hcx0w := ((gcell g2).1 b (off + j * 2) hbl.out).trans hcx0.out
          have hcx1w := ((gcell g2).1 b (off + j * 2 + 1) hbl.out).trans hcx1.out
          have k1 := H1.out.kept0 g2
          have k2 := H2.out.kept0 g2
          have c0 := k1.cell 0
          have c1 := k1.cell 1
          have d0 := k2.cell 0
          have d1 := k2.cell 1
          simp at c0 c1 d0 d1
          have hQw := hid (hQ.out.grown (grown_trans hG0.out g2))
          clear g2 k1 k2
          replace hgw := hid hgw
          simp only [outThen, preThen, slotIs, factAt, isv, List.getElem?_cons_zero, List.getElem?_cons_succ, Option.getD_some, forall_eq]
          intros
          rename_i K hK
          replace hK := hid hK
          simp only [wantedAt]
          go_simp
          refine (refLess_is f Q d xss (h1, h2) (x1, x2) w' hQw.out).mono ?_
          rintro e w3 ⟨rfl, hg⟩
          rw [hBd.out]
          exact hK.out _ _ rfl hg
        case o11 =>
          go_light
          intro ac w' hgw
          have g2 := grown_trans hG.out (grown_trans (grown_drew (grown_refl wr none)) hgw)
          have hcx0w := ((gcell g2).1 b (off + j * 2) hbl.out).trans hcx0.out
          have hcx1w := ((gcell g2).1 b (off + j * 2 + 1) hbl.out).trans hcx1.out
          have k1 := H1.out.kept0 g2
          have k2 := H2.out.kept0 g2
          have c0 := k1.cell 0
          have c1 := k1.cell 1
          have d0 := k2.cell 0
          have d1 := k2.cell 1
          simp at c0 c1 d0 d1
          have hQw := hid (hQ.out.grown (grown_trans hG0.out g2))
          clear g2 k1 k2
          replace hgw := hid hgw
          simp only [outThen, preThen, slotIs, factAt, isv, List.getElem?_cons_zero, List.getElem?_cons_succ, Option.getD_some, forall_eq]
          intros
          rename_i hK
          replace hK := hid hK
          simp only [wantedAt]
          go_simp
          exact hK.out _ _ rfl (grown_refl _ _)
      case st =>
        repeat (first | exact AllStable.nil | (refine AllStable.cons ?_ ?_; focus (first | exact stable_isv _ | exact stable_isBytes _ | exact stable_isRow1 _ | exact stable_isRowOf _ _ | exact stable_isArrOf _)))
      case fin =>
        intro w3 hgw
        simp only [finalIn, factAt, isv, List.getElem?_cons_zero, List.getElem?_cons_succ, Option.getD_some, forall_eq, slotIs, subj]
        simp only [Act.put, List.setIfInBounds_toArray, List.set_cons_zero, List.set_cons_succ]
        have hG3 := hid (grown_trans hG.out (grown_trans (grown_drew (grown_refl wr none)) hgw))
        clear hgw
        clear hcx0 hcx1
        cases B with
        | true =>
          go_wp2_with fail
          go_roundw
          case rel => exact ⟨j, by omega, by go_num, hG3.out, fun m hm1 hm2 => by
            by_cases hmj : m = j
            · subst hmj; rw [hxs.out]; exact hBd.out
            · exact hall.out m (by omega) hm2⟩
          case measure => simp [intOf]
        | false =>
          have hps := hid (put_split xss l (h1, h2) (j + 1) hk hall.out (.inr (by rw [Nat.add_sub_cancel, hxs.out]; exact hBd.out)))
          clear hall hxs
          generalize j + 1 = k at hps hk ⊢
          have q0 : (0 : Int) ≤ (k : Int) := by omega
          have q1 : (k : Int) ≤ (l.length : Int) := by omega
          have q2 : (k : Int) ≤ (c : Int) := by omega
          have k2 := hid (H2.out.kept0 hG3.out)
          have hgB := hid (grown_trans hG0.out hG3.out)
          have hsz : h ≤ w3.heap.size := Nat.le_trans hle.out hG3.out.size
          have hPk := hid ((hP.out.grown hgB.out).take k)
          have hlt := hid (show (l.take k).length = k by rw [List.length_take]; omega)
          have hld := hid (show (l.drop k).length = l.length - k from List.length_drop)
          go_wp2_with (first
            | (at_builtin; refine wpList_append_hits rfl _ _ 26 rfl h i0 Tryz.underlying26 hi0 hz0 hz1 hz2 _ [] (l.take k) _ _ _ _ (OwnHits.nil _ _) hPk.out rfl rfl hlt.out (by have := hlt.out; simp; omega) hsz ?_; intro v1 w1 r1 g1 B1; replace r1 := hid r1; have hsz1 := Nat.le_trans hsz g1.size; have k3 := k2.out.kept0 g1; have d0 := k3.cell 0; have d1 := k3.cell 1; simp at d0 d1; clear k3; replace g1 := hid g1; replace B1 := hid B1)
            | (at_builtin; refine wpList_push_hit rfl _ _ 26 rfl h i0 Tryz.underlying26 hi0 hz0 hz1 hz2 _ ([] ++ l.take k) (h1, h2) _ r1.out rfl rfl (by have := hlt.out; simp; omega) hsz1 ?_; intro v2 w2 r2 g2 B2; replace r2 := hid r2; have hsz2 := Nat.le_trans hsz1 B2.size; have hPd2 := hid ((hP.out.grown (below_grown ((grown_below hgB.out).trans ((B1.out.trans B2).mono (Nat.le_of_eq hh.out))))).drop (k := k) hc); have hPd3 := hPd2.out; (try simp only [Option.map_some, add_lit] at hPd3); replace hPd2 := hid hPd3; replace g2 := hid g2; replace B2 := hid B2)
            | (at_builtin; (refine wpList_append_hits rfl _ _ 26 rfl h i0 Tryz.underlying26 hi0 hz0 hz1 hz2 _ (([] ++ l.take k) ++ [(h1, h2)]) (l.drop k) _ _ _ _ r2.out hPd2.out rfl rfl hld.out (by have := hlt.out; have := hld.out; simp; omega) hsz2 ?_; intro v3 w4 r3 g3 B3; replace r3 := hid r3; have hBz := hid (below_grown ((grown_below hgB.out).trans (((B1.out.trans B2.out).trans B3).mono (Nat.le_of_eq hh.out)))))))
          all_goals
            go_ret
            exact ⟨_, rfl, by rw [hps.out, hh.out]; exact r3.out, hBz.out⟩

end Go.Proofs.YtmahiodejhakpaaGreat
