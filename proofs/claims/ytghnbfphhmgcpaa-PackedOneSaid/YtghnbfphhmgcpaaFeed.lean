/- Package sum: sums behind bytes. -/
import Derived.Test.YtghnbfphhmgcpaaAll
set_option linter.unusedSimpArgs false
set_option linter.unusedVariables false
set_option maxRecDepth 100000
namespace Go.Proofs.Ytghnbfphhmgcpaa
open Go.RowKit PlainSum Go.Shelf
attribute [local go_sem] Oper.semAt_some

set_option maxHeartbeats 400000 in
theorem feed_wrong (A B : Int) (P : Option Addr) (n c : Nat) (w : World) (hr : right (A, B) = false) :
    Calls Try.prog 40 #[.agg #[.int .i64 A, .int .i64 B], .slice P n c] w fun e w' => e = .returned (.agg #[.int .i64 A, .int .i64 B]) ∧ w.grownBy w' none := by
  go_enter Try.func40, Try.ntmps40
  go_wp2_with fail
  refine (sumRight_no A B _ hr).mono ?_
  rintro e w1 ⟨rfl, hg1⟩
  have hH0 : Holds w1 w.heap.size 64 #[.int .i64 A, .int .i64 B] := ((Holds.new w 64 _).alloc _).kept hg1 (by simp)
  have hH1 : Holds w1 (w.heap.size + 1) 64 #[.int .i64 0, .int .i64 0] := (Holds.new_at (w := w.alloc _) 64 _ (by simp)).kept hg1 (by simp)
  have hG1 := hid (grown_trans (grown_alloc (grown_alloc (grown_refl w none) _) _) hg1)
  clear hg1
  have c0 := hH0.cell 0
  have c1 := hH0.cell 1
  have d0 := hH1.cell 0
  have d1 := hH1.cell 1
  have f0 := hH1.free 0
  have f1 := hH1.free 1
  have l1 := hH1.lt
  simp at c0 c1 d0 d1
  clear hH0 hH1
  go_wp2
  refine bodyPost_ret (v := .agg #[.int .i64 A, .int .i64 B]) (by simp [results, Try.results40, go_sem, d0, d1]) rfl ⟨rfl, ?_⟩
  exact grown_set (grown_set hG1.out (.inr (by simp)) _) (.inr (by simp)) _

structure FeedAt (w : World) (h g : Nat) (A B : Int) (P : Option Addr) (n c : Nat) (rc : LoopState → Option Code → Loop) (pre : List Int) (W : World) : Prop where
  res : Holds W (h + 1) 64 #[.int .i64 0, .int .i64 0]
  tally : Holds W g 85 #[.int .i64 (feed (A, B) pre).1, .int .i64 (feed (A, B) pre).2]
  box : Holds W (g + 1) 22 #[.slice P n c]
  dfr : W.heap[g + 2]? = some (.deferred (some []))
  record : W.heap[g + 3]? = some (.loop (rc .ready none))
  gr : w.grownBy W none

/-- The return, the result in a block of two cells, the loop's mark taken up. -/
theorem feed_leaves {W : World} {h d : Nat} {x y : Int} {T : Array Value} {R : Ending → World → Prop} (hT : T.getD 4 undef = .pointer (some ⟨h, 0, none⟩)) (hr : Holds W h 64 #[.int .i64 x, .int .i64 y])
    (hne : h ≠ d) (hD : W.heap[d]? = some (.deferred (some []))) (hR : R (.returned (.agg #[.int .i64 x, .int .i64 y])) (W.putObj d (.deferred none))) :
    bodyPostM Fence.wide 0 Try.prog Try.f40 R Exit.ret { tmps := T, defers := [{ target := .collected d, args := #[] }] } W := by
  refine ⟨by simp, .inl ⟨_, _, rfl, run_takeDeferred hD, ?_⟩⟩
  have c0 := (hr.put (l := d) hne (.deferred none)).cell 0
  have c1 := (hr.put (l := d) hne (.deferred none)).cell 1
  simp at c0 c1
  rw [Array.getD_eq_getD_getElem?] at hT
  refine ⟨_, ?_, hR⟩
  simp [results, Try.results40, hT, go_sem, c0, c1]

set_option maxHeartbeats 1000000 in
theorem feed_right (A B : Int) (P : Option Addr) (c : Nat) (xss : List (List Int)) (w : World) (hr : right (A, B) = true) (hP : Arrs w P xss) (hS : Small xss) :
    Calls Try.prog 40 #[.agg #[.int .i64 A, .int .i64 B], .slice P xss.length c] w fun e w' =>
      e = .returned (.agg #[.int .i64 (feed (A, B) xss.flatten).1, .int .i64 (feed (A, B) xss.flatten).2]) ∧ w.grownBy w' none := by
  obtain ⟨h, hh⟩ : ∃ h, w.heap.size = h := ⟨_, rfl⟩
  refine (callsIn_wide (n := 0)).1 ?_
  refine callsIn_of_wp_marks Try.func40 rfl trivial ?_ rfl
  simp only [Try.ntmps40, List.size_toArray, List.length_cons, List.length_nil, Nat.reduceAdd, Nat.reduceSub, Array.replicate_succ, Array.replicate_zero, List.push_toArray, List.append_toArray, List.nil_append, List.cons_append]
  have hht := hid hh
  have hP' := hid hP
  have hS' := hid hS
  clear hh hP hS
  gi_wp2_with fail
  refine ⟨trivial, rfl, ?_⟩
  refine (callsIn_wide.2 (sumRight_yes A B _ hr)).mono ?_
  rintro e w1 ⟨rfl, hg1⟩
  have hH0 : Holds w1 h 64 #[.int .i64 A, .int .i64 B] := ((Holds.new_at 64 _ hht.out).alloc _).kept hg1 (by simp)
  have hH1 : Holds w1 (h + 1) 64 #[.int .i64 0, .int .i64 0] := (Holds.new_at (w := w.alloc _) 64 _ (by simp [hht.out])).kept hg1 (by simp)
  have hG1 := hid (grown_trans (grown_alloc (grown_alloc (grown_refl w none) _) _) hg1)
  clear hg1
  simp only [hht.out]
  have c0 := hH0.cell 0
  have c1 := hH0.cell 1
  simp at c0 c1
  have l1 := hid hH1.lt
  obtain ⟨g, hg⟩ : ∃ g, w1.heap.size = g := ⟨_, rfl⟩
  have l1' := l1.out
  rw [hg] at l1'
  replace hg := hid hg
  gi_wp2_with fail
  refine ⟨trivial, rfl, ?_⟩
  refine (callsIn_wide.2 (all_is P xss.length c _)).mono ?_
  rintro e w2 ⟨rfl, rfl⟩
  gi_wp2
  refine range_wide (gf := 60) rfl (enters_of Try.func60 (by kernel_rfl) rfl) (fun fn rc hrc => ?_)
  replace hrc := hid hrc
  simp only [World.size_alloc, hg.out, Nat.add_assoc, Nat.reduceAdd] at hrc ⊢
  obtain ⟨W1, hW1⟩ : ∃ W1, ((((w1.alloc (.cells #[.int .i64 A, .int .i64 B] 85)).alloc (.cells #[.slice P xss.length c] 22)).alloc (Obj.deferred (some []))).alloc (Obj.loop (rc .ready none))) = W1 := ⟨_, rfl⟩
  rw [hW1]
  have hN : FeedAt w h g A B P xss.length c rc [] W1 := by
    subst hW1
    exact {
      res := (((hH1.alloc _).alloc _).alloc _).alloc _
      tally := (((Holds.new_at 85 _ hg.out).alloc _).alloc _).alloc _
      box := ((Holds.new_at 22 _ (by simp [hg.out])).alloc _).alloc _
      dfr := other_alloc (alloc_at _ (by simp [hg.out]))
      record := alloc_at _ (by simp [hg.out])
      gr := grown_alloc (grown_alloc (grown_alloc (grown_alloc hG1.out _) _) _) _ }
  clear hW1
  have hwg : w.heap.size ≤ g := by have := hG1.out.size; have := hg.out; omega
  refine CallsIn.mono (all_in (g + 3) (g + 1) P c xss hS'.out w hP'.out (FeedAt w h g A B P xss.length c rc) W1 (fun pre W s => ⟨s.gr, s.box⟩) ?round hN) ?behind
  case round =>
    rintro pre y W s hy0 hy1
    have Hs := hid s
    refine round_wide hrc.out Hs.out.record rfl fun K hK => ?_
    replace hK := hid hK
    gi_wp2
    refine hK.out _ ?_
    clear hK
    clear K
    obtain ⟨Wb, hWb⟩ : ∃ Wb, W.putObj (g + 3) (.loop (rc .busy none)) = Wb := ⟨_, rfl⟩
    rw [hWb]
    have hT : Holds Wb g 85 #[.int .i64 (feed (A, B) pre).1, .int .i64 (feed (A, B) pre).2] := hWb ▸ Hs.out.tally.put (by omega) _
    have hR := (right_iff _).1 (right_feed (A, B) pre hr)
    obtain ⟨r1, r2, r3, r4⟩ := hR
    gi_wp2_with fail
    refine ⟨trivial, rfl, ?_⟩
    refine (wideAt_calls (r := some (g + 3)) (add_is g _ _ y Wb hT r1 r2 r3 r4 hy0 hy1)).mono ?_
    rintro e w3 ⟨⟨v, rfl⟩, hH3, hg3⟩
    have hrec : w3.heap[g + 3]? = some (.loop (rc .busy none)) := by
      have : Wb.heap[g + 3]? = some (.loop (rc .busy none)) := hWb ▸ World.putObj_heap_same (Array.getElem?_eq_some_iff.1 Hs.out.record).1
      exact (hg3.block (g + 3) (Array.getElem?_eq_some_iff.1 this).1 (by simp)).trans this
    have hN : FeedAt w h g A B P xss.length c rc (pre ++ [y]) (w3.putObj (g + 3) (.loop (rc .ready none))) := by
      subst hWb
      have lg := l1'
      exact {
        res := ((Hs.out.res.put (by omega) _).kept hg3 (by simp; omega)).put (by omega) _
        tally := by rw [feed_snoc]; exact hH3.put (by omega) _
        box := ((Hs.out.box.put (by omega) _).kept hg3 (by simp)).put (by omega) _
        dfr := by
          have h1 : (W.putObj (g + 3) (.loop (rc .busy none))).heap[g + 2]? = some (.deferred (some [])) := (World.putObj_heap_other (by omega)).trans Hs.out.dfr
          exact (World.putObj_heap_other (by omega)).trans ((hg3.block (g + 2) (Array.getElem?_eq_some_iff.1 h1).1 (by simp)).trans h1)
        record := World.putObj_heap_same (Array.getElem?_eq_some_iff.1 hrec).1
        gr := by
          have g1 := grown_put (l := g + 3) Hs.out.gr (by omega) (.loop (rc .busy none))
          exact grown_put (grown_trans_row g1 hwg hg3) (by omega) _ }
    clear hT hH3 hg3 hWb r1 r2 r3 r4
    replace hN := hid hN
    gi_wp2
    exact hN.out
  case behind =>
    rintro e W2 ⟨hv, s⟩
    refine ⟨hv, .inl ⟨s.record, fun o => ?_⟩⟩
    have res := s.res.put (l := g + 3) (by omega) o
    have tally := s.tally.put (l := g + 3) (by omega) o
    have hD := (World.putObj_heap_other (o := o) (r := g + 3) (k := g + 2) (by omega)).trans s.dfr
    have hG := grown_put (l := g + 3) s.gr (by omega) o
    obtain ⟨W3, hW3⟩ : ∃ W3, W2.putObj (g + 3) o = W3 := ⟨_, rfl⟩
    rw [hW3] at res tally hD hG ⊢
    clear hW3 s
    have c_0 := res.cell 0
    have c_1 := res.cell 1
    have f_0 := res.free 0
    have f_1 := res.free 1
    have t_0 := tally.cell 0
    have t_1 := tally.cell 1
    have l_0 := res.lt
    simp at c_0 c_1 t_0 t_1
    clear tally
    generalize hsf : feed (A, B) xss.flatten = sf at t_0 t_1 ⊢
    replace hG := hid hG
    replace hsf := hid hsf
    gi_wp2
    refine feed_leaves (h := h + 1) rfl (by have := (res.set 0 (.int .i64 sf.1)).set 1 (.int .i64 sf.2); simpa using this) (by omega) (other_set (other_set hD (by simp; omega) _) (by simp; omega) _) ?_
    refine ⟨by rw [hsf.out], ?_⟩
    exact grown_put (grown_set (grown_set hG.out (.inr (by have := hht.out; simp; omega)) _) (.inr (by have := hht.out; simp; omega)) _) (by omega) _

/-- Sums behind bytes, whatever the sum. -/
theorem sumFeed_is (A B : Int) (P : Option Addr) (c : Nat) (xss : List (List Int)) (w : World) (hP : Arrs w P xss) (hS : Small xss) :
    Calls Try.prog 40 #[.agg #[.int .i64 A, .int .i64 B], .slice P xss.length c] w fun e w' =>
      e = .returned (.agg #[.int .i64 (fed (A, B) xss.flatten).1, .int .i64 (fed (A, B) xss.flatten).2]) ∧ w.grownBy w' none := by
  cases hr : right (A, B) with
  | true => rw [fed_right _ _ hr]; exact feed_right A B P c xss w hr hP hS
  | false => rw [fed_wrong _ _ hr]; exact feed_wrong A B P xss.length c w hr

theorem sumOf_is (P : Option Addr) (c : Nat) (xss : List (List Int)) (w : World) (hP : Arrs w P xss) (hS : Small xss) :
    Calls Try.prog 25 #[.slice P xss.length c] w fun e w' => e = .returned (.int .u32 (value (feed first xss.flatten))) ∧ w.grownBy w' none := by
  have hP' := hid hP
  have hS' := hid hS
  clear hP hS
  go_enter Try.func25, Try.ntmps25
  go_wp2_with fail
  refine (sumNew_is _).mono ?_
  rintro e w1 ⟨rfl, hg1⟩
  have hP1 := hP'.out.grown hg1
  go_wp2_with fail
  refine (sumFeed_is 1 0 P c xss _ hP1 hS'.out).mono ?_
  rintro e w2 ⟨rfl, hg2⟩
  have hG := hid (grown_trans hg1 hg2)
  clear hg1 hg2 hP1
  go_wp2_with fail
  refine (sumValue_is _ _ _).mono ?_
  rintro e w3 ⟨rfl, hg3⟩
  go_wp2_with fail
  go_ret
  exact ⟨by rw [show ((fed (1, 0) xss.flatten).1, (fed (1, 0) xss.flatten).2) = feed first xss.flatten from fed_right first _ right_start]; rfl, grown_trans hG.out hg3⟩
end Go.Proofs.Ytghnbfphhmgcpaa
