/- Package letter: all bytes folded. Package letter: two texts that are the same. -/
import Derived.Test.YtojbkhheaondhaaK11
set_option linter.unusedSimpArgs false
set_option linter.unusedVariables false
set_option maxRecDepth 100000
namespace Go.Proofs.Ytojbkhheaondhaa
open Go.RowKit PlainLetter Go.Shelf
attribute [local go_sem] Oper.semAt_some

/-- The return, the result in slot 2, the loop's mark taken up. -/
theorem folded_leaves {W : World} {d : Nat} {v : Value} {T : Array Value} {R : Ending → World → Prop} (hT : T.getD 2 undef = v)
    (hD : W.heap[d]? = some (.deferred (some []))) (hR : R (.returned v) (W.putObj d (.deferred none))) :
    bodyPostM Fence.wide 0 Try.prog Try.f78 R Exit.ret { tmps := T, defers := [{ target := .collected d, args := #[] }] } W := by
  refine ⟨by simp, .inl ⟨_, _, rfl, run_takeDeferred hD, ?_⟩⟩
  rw [Array.getD_eq_getD_getElem?] at hT
  refine ⟨_, ?_, hR⟩
  simp [results, Try.results78, hT]

set_option maxRecDepth 100000 in
set_option maxHeartbeats 2000000 in
theorem letFolded_is (A : Option Addr) (c : Nat) (xs : List Int) (w : World) (hl : xs.length ≤ 100000) (hb : Bytes xs) (hA : Arr w .u8 A xs) :
    Calls Try.prog 78 #[.slice A xs.length c] w (Owns (xs.map fold) w) := by
  obtain ⟨i0, hi0, hz0, hz1, hz2⟩ := info_parts Try.info5
  obtain ⟨h, hh⟩ : ∃ h, w.heap.size = h := ⟨_, rfl⟩
  refine (callsIn_wide (n := 0)).1 ?_
  refine callsIn_of_wp_marks Try.func78 rfl trivial ?_ rfl
  simp only [Try.ntmps78, List.size_toArray, List.length_cons, List.length_nil, Nat.reduceAdd, Nat.reduceSub, Array.replicate_succ, Array.replicate_zero, List.push_toArray, List.append_toArray, List.nil_append, List.cons_append]
  have hht := hid hh
  replace hA := hid hA
  replace hb := hid hb
  clear hh
  gi_wp2_with (gi_at_make; refine wpListIn_make_own w rfl _ _ 28 rfl w.heap.size 5 i0 (.int .u8 0) 1 Try.underlying28 hi0 hz0 hz1 _ _ _ xs.length rfl rfl rfl (by rw [hz2]; omega) (by unfold maxLen; omega) (Nat.le_refl _) ?_; intro w1 hrow0 hg0)
  obtain ⟨g, hg⟩ : ∃ g, w1.heap.size = g := ⟨_, rfl⟩
  have hhg : h ≤ g := by have := hg0.size; have := hht.out; omega
  replace hg := hid hg
  replace hg0 := hid hg0
  replace hrow0 := hid hrow0
  refine ⟨trivial, rfl, ?_⟩
  refine (callsIn_wide.2 (letAll_is _ 1 1 _)).mono ?_
  rintro e w2 ⟨rfl, rfl⟩
  gi_wp2
  refine range_wide (gf := 93) rfl (enters_of Try.func93 (by kernel_rfl) rfl) (fun fn rc hrc => ?_)
  replace hrc := hid hrc
  simp only [World.size_alloc, hg.out, hht.out, Nat.add_assoc, Nat.reduceAdd] at hrc ⊢
  obtain ⟨W1, hW1⟩ : ∃ W1, (((((w1.alloc (.cells #[.slice (some ⟨h, 0, none⟩) 0 xs.length] 28)).alloc (.cells #[.slice A xs.length c] 28)).alloc (.cells #[.slice (some ⟨g + 1, 0, none⟩) 1 1] 22)).alloc (Obj.deferred (some []))).alloc (Obj.loop (rc .ready none))) = W1 := ⟨_, rfl⟩
  rw [hW1]
  have hN : CollAt w g (g + 3) (g + 4) [(g + 1, 28, #[.slice A xs.length c]), (g + 2, 22, #[.slice (some ⟨g + 1, 0, none⟩) 1 1])] rc (([] : List Int).map fold) W1 := by
    subst hW1
    exact {
      var := ⟨some ⟨h, 0, none⟩, xs.length, ((((Holds.new_at 28 _ hg.out).alloc _).alloc _).alloc _).alloc _, by have := hrow0.out; rw [hht.out] at this ⊢; exact ((((this.alloc _).alloc _).alloc _).alloc _).alloc _⟩
      held := fun x hx => by
        obtain rfl | rfl : x = (g + 1, 28, #[.slice A xs.length c]) ∨ x = (g + 2, 22, #[.slice (some ⟨g + 1, 0, none⟩) 1 1]) := by simpa using hx
        · exact (((Holds.new_at 28 _ (by simp [hg.out])).alloc _).alloc _).alloc _
        · exact ((Holds.new_at 22 _ (by simp [hg.out])).alloc _).alloc _
      dfr := other_alloc (alloc_at _ (by simp [hg.out]))
      record := alloc_at _ (by simp [hg.out])
      gr := grown_alloc (grown_alloc (grown_alloc (grown_alloc (grown_alloc hg0.out _) _) _) _) _ }
  clear hW1
  refine CallsIn.mono (letAll_in (g + 4) (g + 2) (some ⟨g + 1, 0, none⟩) 1 (fun _ => A) (fun _ => c) [xs] (by simp) (fun k => by cases k <;> simp [hl])
    (fun pre => CollAt w g (g + 3) (g + 4) [(g + 1, 28, #[.slice A xs.length c]), (g + 2, 22, #[.slice (some ⟨g + 1, 0, none⟩) 1 1])] rc (pre.map fold)) W1 ?at_ ?round hN) ?behind
  case at_ =>
    intro pre W s
    refine ⟨fun k hk => ?_, s.held (g + 2, 22, #[.slice (some ⟨g + 1, 0, none⟩) 1 1]) (by simp)⟩
    obtain rfl : k = 0 := by simpa using hk
    have hH := s.held (g + 1, 28, #[.slice A xs.length c]) (by simp)
    exact ⟨g + 1, 0, rfl, hH.lt, by simpa using hH.cell 0, by simpa using hA.out.grown s.gr⟩
  case round =>
    rintro pre y W s hpl ⟨k, m, hym⟩
    have hyb : 0 ≤ y ∧ y ≤ 255 := by
      cases k with
      | zero => rw [hym]; exact hb.out m
      | succ k => rw [hym]; simp
    obtain ⟨hy0, hy1⟩ := hyb
    clear hym
    simp only [List.map_append, List.map_cons, List.map_nil]
    have hzl : (pre.map fold).length < 100000 := by simp at hpl ⊢; omega
    generalize pre.map fold = zs at s hzl ⊢
    obtain ⟨A1, cp, hH, hown⟩ := s.var
    have Hs := hid s
    refine round_wide hrc.out Hs.out.record rfl fun K hK => ?_
    replace hK := hid hK
    gi_wp2
    refine hK.out _ ?_
    clear hK
    clear K
    have hown' := hid hown
    have hHb : Holds (W.putObj (g + 4) (.loop (rc .busy none))) g 28 #[.slice A1 zs.length cp] := hH.put (by omega) _
    have hownb := ownsRow_putObj hown (.loop (rc .busy none)) s.record rfl
    rw [hht.out] at hownb
    have hH' := hid hH
    clear hH hown s
    obtain ⟨Wb, hWb⟩ : ∃ Wb, W.putObj (g + 4) (.loop (rc .busy none)) = Wb := ⟨_, rfl⟩
    rw [hWb] at hHb hownb
    rw [hWb]
    have hsz : Hid (h ≤ Wb.heap.size) := hid (by have := hHb.lt; omega)
    have c0 := hHb.cell 0
    simp at c0
    replace c0 := hid c0
    replace hHb := hid hHb
    replace hownb := hid hownb
    have hstep := hid (fun (A' : Option Addr) (n cp' : Nat) (wx w1 : World) (hx : Wb.grownBy wx none) (hown1 : w1.ownsRow h 5 1 (.slice A' n cp') (zs ++ [fold y]).length ((zs ++ [fold y]).map (Value.int .u8))) (hn1 : n = (zs ++ [fold y]).length)
        (hg1 : wx.grownBy w1 (Value.slice A1 zs.length cp).ownBlock) =>
      Hs.out.step (wx := wx) (by have := hht.out; omega) (by have := hht.out; omega) (by omega) (by
        intro x hx
        obtain rfl | rfl : x = (g + 1, 28, #[.slice A xs.length c]) ∨ x = (g + 2, 22, #[.slice (some ⟨g + 1, 0, none⟩) 1 1]) := by simpa using hx
        · exact ⟨by simp, by simp⟩
        · exact ⟨by simp, by simp⟩) hH'.out hown'.out (by rw [hWb]; exact hx) hg1 (by rw [hht.out]; exact hown1) hn1)
    replace hWb := hid hWb
    gi_wp2
    apply head_round 4 [isv (.slice A1 zs.length cp), isv _, isv (.int .u8 (fold y)), isBytes [fold y]]
      18 [some 12, some 13, some 14, some 15]
      [some 12, some 13, some 14, some 15]
      [[], [], [1], [2]]
      [(3, .pointer (some ⟨g, 0, none⟩)), (4, .int .u8 y)] (by kernel_rfl) rfl (by kernel_rfl) (by kernel_rfl) rfl rfl (by kernel_rfl) (OutsOk.cons rfl rfl (OutsOk.cons rfl rfl OutsOk.nil)) ?st ?ob ?fin
    case ob =>
      refine Obs.consv rfl ?o0 (Obs.consv rfl ?o1 (Obs.consv rfl ?o2 (Obs.consv rfl ?o3 Obs.nil)))
      case o0 =>
        go_light
        intro ac w' hgw
        have hc := ((gcell hgw).1 g 0 hHb.out.lt).trans c0.out
        replace hgw := hid hgw
        simp only [outThen, preThen, slotIs, factAt, isv, List.getElem?_cons_zero, List.getElem?_cons_succ, Option.getD_some, forall_eq]
        intros
        rename_i hK
        replace hK := hid hK
        simp only [wantedAt]
        go_simp
        exact hK.out _ _ rfl (grown_refl _ _)
      case o1 =>
        go_light
        intro ac w' hgw
        have hc := ((gcell hgw).1 g 0 hHb.out.lt).trans c0.out
        replace hgw := hid hgw
        simp only [outThen, preThen, slotIs, factAt, isv, List.getElem?_cons_zero, List.getElem?_cons_succ, Option.getD_some, forall_eq]
        intros
        rename_i hK
        replace hK := hid hK
        simp only [wantedAt]
        go_simp
        exact hK.out _ _ rfl (grown_refl _ _)
      case o2 =>
        go_light
        intro ac w' hgw
        have hc := ((gcell hgw).1 g 0 hHb.out.lt).trans c0.out
        replace hgw := hid hgw
        simp only [outThen, preThen, slotIs, factAt, isv, List.getElem?_cons_zero, List.getElem?_cons_succ, Option.getD_some, forall_eq]
        intros
        rename_i hK
        replace hK := hid hK
        simp only [wantedAt]
        go_simp
        refine (letFold_is y _ hy0 hy1).mono ?_
        rintro e w3 ⟨rfl, rfl⟩
        exact hK.out _ _ rfl (grown_refl _ _)
      case o3 =>
        go_light
        intro ac w' hgw
        have hc := ((gcell hgw).1 g 0 hHb.out.lt).trans c0.out
        replace hgw := hid hgw
        simp only [outThen, preThen, slotIs, factAt, isv, List.getElem?_cons_zero, List.getElem?_cons_succ, Option.getD_some, forall_eq]
        intros
        rename_i hK
        replace hK := hid hK
        simp only [wantedAt]
        go_simp
        exact hK.out _ _ ⟨_, rfl, Holds.new _ _ _⟩ (grown_alloc (grown_refl _ _) _)
    case st =>
      repeat (first | exact AllStable.nil | (refine AllStable.cons ?_ ?_; focus (first | exact stable_isv _ | exact stable_isBytes _ | exact stable_isRow1 _ | exact stable_isRowOf _ _ | exact stable_isArrOf _)))
    case fin =>
      intro w8 hgw
      simp only [finalIn, factAt, isv, isBytes, List.getElem?_cons_zero, List.getElem?_cons_succ, Option.getD_some, forall_eq, slotIs, subj, List.take_succ_cons, List.take_zero]
      rintro v9 ⟨b9, rfl, hb9⟩
      simp only [Act.put, List.setIfInBounds_toArray, List.set_cons_zero, List.set_cons_succ, List.drop_succ_cons, List.drop_zero]
      have hgx : Hid (Wb.grownBy w8 none) := grown_trans (grown_drew (grown_refl Wb none)) hgw
      have hown8 : Hid (w8.ownsRow h 5 1 (.slice A1 zs.length cp) zs.length (zs.map (Value.int .u8))) := hownb.out.kept hgx.out (by cases A1 <;> simp [Value.ownBlock])
      have hsz8 : Hid (h ≤ w8.heap.size) := Nat.le_trans hsz.out hgx.out.size
      have hb1 : Hid (Arr w8 .u8 (some ⟨b9, 0, none⟩) [fold y]) := Arr.of_holds (k := .u8) hb9
      clear hgw hb9
      gi_wp2_with (gi_at_builtin; refine wpListIn_append_arr rfl _ _ 28 rfl h 5 i0 .u8 1 Try.underlying28 hi0 hz0 hz1 hz2 _ zs [fold y] _ _ _ _ hown8.out hb1.out rfl rfl rfl (by decide) (by simp; omega) hsz8.out ?_; intro v' w1 hown1 hg1; obtain ⟨A', cp', rfl, _, _⟩ := own_form hown1; have hst := hid (hstep.out A' _ cp' w8 w1 hgx.out hown1 rfl hg1); obtain ⟨c1, f1, l1, _, _⟩ := hst.out; clear hown1 hg1)
      exact ⟨by simpa using hst.out.2.2.2.1, by simpa using hst.out.2.2.2.2⟩
  case behind =>
    rintro e W2 ⟨hv, s⟩
    refine ⟨hv, .inl ⟨s.record, fun o => ?_⟩⟩
    obtain ⟨A1, cp, hH, hown⟩ := s.var
    have hH2 := hH.put (l := g + 4) (by omega) o
    have hD := (World.putObj_heap_other (o := o) (r := g + 4) (k := g + 3) (by omega)).trans s.dfr
    have hG := grown_put (l := g + 4) s.gr (by have := hht.out; omega) o
    have hO := ownsRow_putObj hown o s.record rfl
    obtain ⟨W3, hW3⟩ : ∃ W3, W2.putObj (g + 4) o = W3 := ⟨_, rfl⟩
    rw [hW3] at hH2 hD hG hO ⊢
    clear hW3 s hH hown
    have hzs : [xs].flatten.map fold = xs.map fold := by simp
    rw [hzs] at hH2 hO
    clear hzs
    obtain ⟨zs, hzs⟩ : ∃ zs, xs.map fold = zs := ⟨_, rfl⟩
    rw [hzs] at hH2 hO
    replace hzs := hid hzs
    have c0 := hH2.cell 0
    simp at c0
    replace hG := hid hG
    replace hO := hid hO
    replace hD := hid hD
    clear hH2
    gi_wp2
    refine folded_leaves (v := .slice A1 zs.length cp) rfl hD.out ?_
    rw [hzs.out]
    exact ⟨_, rfl, ownsRow_putObj hO.out _ hD.out rfl, Below.of_grown (grown_put hG.out (by have := hht.out; omega) _)⟩
end Go.Proofs.Ytojbkhheaondhaa

namespace Go.Proofs.Ytojbkhheaondhaa
open Go.RowKit PlainLetter

theorem judge_is (f : Bool) (u : Value) (w : World) :
    Calls Try.prog 95 #[.agg #[u], .bool f] w fun e w' => e = .returned (.func (.func (if f = true then 97 else 98)) #[.agg #[u]] #[]) ∧ w.grownBy w' none := by
  cases f with
  | true => exact judge_yes u w
  | false => exact judge_no u w

set_option maxRecDepth 100000 in
set_option maxHeartbeats 1000000 in
theorem letSame_is (f : Bool) (A B : Option Addr) (c d : Nat) (a b : List Int) (w : World) (hla : a.length ≤ 100000) (hlb : b.length ≤ 100000) (ha : Bytes a) (hb : Bytes b) (hA : Arr w .u8 A a) (hB : Arr w .u8 B b) :
    Calls Try.prog 89 #[.bool f, .slice A a.length c, .slice B b.length d] w fun e w' => e = .returned (.bool (same f a b)) ∧ w.grownBy w' none := by
  replace ha := hid ha
  replace hb := hid hb
  replace hA := hid hA
  replace hB := hid hB
  go_enter Try.func89, Try.ntmps89
  go_upto_region 2 with fail
  have hc0 : Hid ((w.alloc (.cells #[.slice A a.length c] 119)).drew.cell? ⟨w.heap.size, 0, none⟩ = some (.slice A a.length c)) := by
    exact hid (by simp)
  apply wp_region_each [isv _, isv (.agg #[.slice A a.length c]), isv _, isv (.agg #[.slice A a.length c]), isv _, isv (.func (.func (if f = true then 97 else 98)) #[.agg #[.slice A a.length c]] #[]), isv (.bool (same f a b)), isv _]
    18 [some 11, some 12, some 13, some 14, some 15, some 16, some 17, some 6]
    [some 11, some 12, some 13, some 14, some 15, some 16, some 17, some 6]
    [[], [0], [], [], [], [3, 4], [1, 2, 5], [6]]
    [(0, .bool f), (2, .slice B b.length d), (7, .pointer (some ⟨w.heap.size, 0, none⟩))] (by kernel_rfl) rfl (by kernel_rfl) rfl rfl (by kernel_rfl) (OutsOk.cons rfl rfl (OutsOk.cons rfl rfl (OutsOk.cons rfl rfl OutsOk.nil))) ?st ?ob ?fin
  case ob =>
    refine Obs.consv rfl ?o0 (Obs.consv rfl ?o1 (Obs.consv rfl ?o2 (Obs.consv rfl ?o3 (Obs.consv rfl ?o4 (Obs.consv rfl ?o5 (Obs.consv rfl ?o6 (Obs.consv rfl ?o7 Obs.nil)))))))
    case o0 =>
      go_light
      intro ac w' hgw
      have hc := ((gcell hgw).1 w.heap.size 0 (by simp)).trans hc0.out
      replace hgw := hid hgw
      simp only [outThen, preThen, slotIs, factAt, isv, List.getElem?_cons_zero, List.getElem?_cons_succ, Option.getD_some, forall_eq]
      intros
      rename_i hK
      replace hK := hid hK
      simp only [wantedAt]
      go_simp
      exact hK.out _ _ rfl (grown_refl _ _)
    case o1 =>
      go_light
      intro ac w' hgw
      have hc := ((gcell hgw).1 w.heap.size 0 (by simp)).trans hc0.out
      replace hgw := hid hgw
      simp only [outThen, preThen, slotIs, factAt, isv, List.getElem?_cons_zero, List.getElem?_cons_succ, Option.getD_some, forall_eq]
      intros
      rename_i hK
      replace hK := hid hK
      simp only [wantedAt]
      go_simp
      exact hK.out _ _ rfl (grown_refl _ _)
    case o2 =>
      go_light
      intro ac w' hgw
      have hc := ((gcell hgw).1 w.heap.size 0 (by simp)).trans hc0.out
      replace hgw := hid hgw
      simp only [outThen, preThen, slotIs, factAt, isv, List.getElem?_cons_zero, List.getElem?_cons_succ, Option.getD_some, forall_eq]
      intros
      rename_i hK
      replace hK := hid hK
      simp only [wantedAt]
      go_simp
      exact hK.out _ _ rfl (grown_refl _ _)
    case o3 =>
      go_light
      intro ac w' hgw
      have hc := ((gcell hgw).1 w.heap.size 0 (by simp)).trans hc0.out
      replace hgw := hid hgw
      simp only [outThen, preThen, slotIs, factAt, isv, List.getElem?_cons_zero, List.getElem?_cons_succ, Option.getD_some, forall_eq]
      intros
      rename_i hK
      replace hK := hid hK
      simp only [wantedAt]
      go_simp
      exact hK.out _ _ rfl (grown_refl _ _)
    case o4 =>
      go_light
      intro ac w' hgw
      have hc := ((gcell hgw).1 w.heap.size 0 (by simp)).trans hc0.out
      replace hgw := hid hgw
      simp only [outThen, preThen, slotIs, factAt, isv, List.getElem?_cons_zero, List.getElem?_cons_succ, Option.getD_some, forall_eq]
      intros
      rename_i hK
      replace hK := hid hK
      simp only [wantedAt]
      go_simp
      exact hK.out _ _ rfl (grown_refl _ _)
    case o5 =>
      go_light
      intro ac w' hgw
      have hc := ((gcell hgw).1 w.heap.size 0 (by simp)).trans hc0.out
      replace hgw := hid hgw
      simp only [outThen, preThen, slotIs, factAt, isv, List.getElem?_cons_zero, List.getElem?_cons_succ, Option.getD_some, forall_eq]
      intros
      rename_i hK
      replace hK := hid hK
      simp only [wantedAt]
      go_simp
      refine (judge_is f _ _).mono ?_
      rintro e w3 ⟨rfl, hg⟩
      exact hK.out _ _ rfl hg
    case o6 =>
      go_light
      intro ac w' hgw
      have hc := ((gcell hgw).1 w.heap.size 0 (by simp)).trans hc0.out
      replace hgw := hid hgw
      simp only [outThen, preThen, slotIs, factAt, isv, List.getElem?_cons_zero, List.getElem?_cons_succ, Option.getD_some, forall_eq]
      intros
      rename_i hK
      replace hK := hid hK
      simp only [wantedAt]
      go_simp
      refine (held_is f A B c d a b _ hla ha.out hb.out (hA.out.grown (grown_trans (grown_drew (grown_alloc (grown_refl w none) _)) hgw.out)) (hB.out.grown (grown_trans (grown_drew (grown_alloc (grown_refl w none) _)) hgw.out)) _).mono ?_
      rintro e w3 ⟨rfl, hg⟩
      exact hK.out _ _ rfl hg
    case o7 =>
      go_light
      intro ac w' hgw
      have hc := ((gcell hgw).1 w.heap.size 0 (by simp)).trans hc0.out
      replace hgw := hid hgw
      simp only [outThen, preThen, slotIs, factAt, isv, List.getElem?_cons_zero, List.getElem?_cons_succ, Option.getD_some, forall_eq]
      intros
      rename_i hK
      replace hK := hid hK
      simp only [wantedAt]
      go_simp
      exact hK.out _ _ rfl (grown_refl _ _)
  case st =>
    repeat (first | exact AllStable.nil | (refine AllStable.cons ?_ ?_; focus (first | exact stable_isv _ | exact stable_isBytes _ | exact stable_isRow1 _ | exact stable_isRowOf _ _ | exact stable_isArrOf _)))
  case fin =>
    intro w3 hgw
    simp only [finalIn, factAt, isv, List.getElem?_cons_zero, List.getElem?_cons_succ, Option.getD_some, forall_eq, slotIs, subj]
    simp only [Act.put, List.setIfInBounds_toArray, List.set_cons_zero, List.set_cons_succ]
    have hG := hid (grown_trans (grown_drew (grown_alloc (grown_refl w none) _)) hgw)
    generalize (if f = true then 97 else 98) = ff
    go_wp2_with fail
    go_ret
    exact ⟨rfl, hG.out⟩

end Go.Proofs.Ytojbkhheaondhaa

/- Package letter: the first word that is the same. -/
namespace Go.Proofs.Ytojbkhheaondhaa
open Go.RowKit PlainLetter

set_option maxHeartbeats 800000 in
theorem letWhich_is (f : Bool) (A P : Option Addr) (c d : Nat) (text : List Int) (xss : List (List Int)) (w : World) (hla : text.length ≤ 100000) (ha : Bytes text) (hA : Arr w .u8 A text) (hP : Arrs w P xss) (hS : Small xss) :
    Calls Try.prog 80 #[.bool f, .slice A text.length c, .slice P xss.length d] w fun e w' => e = .returned (.int .i64 (which f text xss)) ∧ w.grownBy w' none := by
  obtain ⟨hS1, hS2⟩ := hS
  replace hS2 := hid hS2
  replace ha := hid ha
  replace hA := hid hA
  replace hP := hid hP
  go_enter Try.func80, Try.ntmps80
  go_wp2
  go_loopw [11] (fun i wr => ∃ k : Nat, k ≤ xss.length ∧ i = .int .i64 k ∧ (∀ j, j < k → same f text (xss.getD j []) = false) ∧ w.grownBy wr none) (fun i _ => xss.length - (intOf i).toNat)
  case atStart => exact ⟨0, Nat.zero_le _, rfl, fun j hj => absurd hj (Nat.not_lt_zero j), grown_refl _ _⟩
  case round =>
    obtain ⟨k, hk, rfl, hall, hG⟩ := hrel
    replace hall := hid hall
    by_cases hlt : k < xss.length
    · obtain ⟨b, off, Ai, ci, rfl, hb, hcell0, hAi⟩ := hP.out.at_ hlt
      have hcell := ((gcell hG).1 b (off + k) hb).trans hcell0
      have hAi' := hid (hAi.grown hG)
      have hA' := hid (hA.out.grown hG)
      obtain ⟨hxl, hxb⟩ := hS2.out k
      replace hxb := hid hxb
      replace hG := hid hG
      clear hcell0 hAi
      have hhit := hid (fun h => which_hit f text xss k hlt hall.out h)
      have hmiss : Hid (same f text (xss.getD k []) = false → ∀ j, j < k + 1 → same f text (xss.getD j []) = false) := fun h j hj => by
        by_cases hjk : j = k
        · subst hjk; exact h
        · exact hall.out j (by omega)
      generalize xss.getD k [] = xs at hcell hAi' hxl hxb hhit hmiss
      cases hsame : same f text xs with
      | true =>
        have hw := hid (hhit.out hsame)
        replace hsame := hid hsame
        go_wp2_with fail
        refine (letSame_is f A Ai c ci text xs wr hla hxl ha.out hxb.out hA'.out hAi'.out).mono ?_
        rintro e w1 ⟨rfl, hg⟩
        rw [hsame.out]
        go_wp2_with fail
        go_ret
        exact ⟨by rw [hw.out]; rfl, grown_trans hG.out hg⟩
      | false =>
        have hw := hid (hmiss.out hsame)
        replace hsame := hid hsame
        go_wp2_with fail
        refine (letSame_is f A Ai c ci text xs wr hla hxl ha.out hxb.out hA'.out hAi'.out).mono ?_
        rintro e w1 ⟨rfl, hg⟩
        rw [hsame.out]
        go_wp2_with fail
        go_roundw
        case rel => exact ⟨k + 1, by omega, by go_num, hw.out, grown_trans hG.out hg⟩
        case measure => simp [intOf]; omega
    · obtain rfl : k = xss.length := by omega
      have hw := hid (which_none f text xss hall.out)
      go_wp2
      go_ret
      exact ⟨by rw [hw.out]; rfl, hG⟩
end Go.Proofs.Ytojbkhheaondhaa
