/- The document's own answer: sums behind bytes. -/
import Derived.Test.YtghnbfphhmgcpaaRefSum
import Derived.StillTailTactics
set_option linter.unusedSimpArgs false
set_option linter.unusedVariables false
set_option maxRecDepth 100000
namespace Go.Proofs.Ytghnbfphhmgcpaa
open Go.RowKit PlainSum

set_option maxHeartbeats 800000 in
theorem refFeed_yes (A B : Int) (P : Option Addr) (c : Nat) (xss : List (List Int)) (w : World) (hr : right (A, B) = true) (hP : Arrs w P xss) (hS : Small xss) :
    Calls Try.prog 34 #[.agg #[.int .i64 A, .int .i64 B], .slice P xss.length c] w fun e w' =>
      e = .returned (.agg #[.int .i64 (feed (A, B) xss.flatten).1, .int .i64 (feed (A, B) xss.flatten).2]) ∧ w.grownBy w' none := by
  obtain ⟨hS1, hS2⟩ := hS
  replace hS2 := hid hS2
  go_enter Try.func34, Try.ntmps34
  go_wp2_with fail
  refine (refRight_yes A B _ hr).mono ?_
  rintro e w1 ⟨rfl, hg1⟩
  have hH0 : Holds w1 w.heap.size 64 #[.int .i64 A, .int .i64 B] := ((Holds.new w 64 _).alloc _).kept hg1 (by simp)
  have hH1 : Holds w1 (w.heap.size + 1) 64 #[.int .i64 0, .int .i64 0] := by
    have := Holds.new (w.alloc (.cells #[.int .i64 A, .int .i64 B] 64)) 64 #[.int .i64 0, .int .i64 0]
    rw [show (w.alloc (.cells #[.int .i64 A, .int .i64 B] 64)).heap.size = w.heap.size + 1 by simp] at this
    exact this.kept hg1 (by simp)
  have hG1 : w.grownBy w1 none := grown_trans (grown_alloc (grown_alloc (grown_refl _ _) _) _) hg1
  clear hg1
  go_wp2
  go_loopw [5, 6] (fun i _ wr => ∃ k : Nat, k ≤ xss.length ∧ i = .int .i64 k ∧ Holds wr w.heap.size 64 #[.int .i64 (feed (A, B) (xss.take k).flatten).1, .int .i64 (feed (A, B) (xss.take k).flatten).2] ∧ Holds wr (w.heap.size + 1) 64 #[.int .i64 0, .int .i64 0] ∧ w.grownBy wr none)
    (fun i _ _ => xss.length - (intOf i).toNat)
  case atStart => exact ⟨0, by omega, rfl, hH0, hH1, hG1⟩
  case round =>
    clear hH0 hH1 hG1
    obtain ⟨k, hk, rfl, hH0, hH1, hG1⟩ := hrel
    by_cases hlt : k < xss.length
    · obtain ⟨b, off, Ai, ci, rfl, hb, hcell0, hA0⟩ := hP.at_ hlt
      have hT := hid (congrArg List.flatten (take_getD xss k [] hlt))
      obtain ⟨hxl, hxb⟩ := hS2.out k
      replace hxb := hid hxb
      have hP' := hid hP
      have hR := hid (right_feed (A, B) (xss.take k).flatten hr)
      clear hP hr
      generalize hxs : xss.getD k [] = xs at hcell0 hA0 hT hxl hxb
      generalize hs0 : feed (A, B) (xss.take k).flatten = s0 at hH0 hR
      replace hs0 := hid hs0
      clear hxs
      replace hcell0 := hid hcell0
      replace hA0 := hid hA0
      go_wp2
      go_loopw [6] (fun j wr => ∃ m : Nat, m ≤ xs.length ∧ j = .int .i64 m ∧ Holds wr w.heap.size 64 #[.int .i64 (feed s0 (xs.take m)).1, .int .i64 (feed s0 (xs.take m)).2] ∧ Holds wr (w.heap.size + 1) 64 #[.int .i64 0, .int .i64 0] ∧ w.grownBy wr none)
        (fun j _ => xs.length - (intOf j).toNat)
      case atStart => exact ⟨0, by omega, rfl, hH0, hH1, hG1⟩
      case round =>
        clear hH0 hH1 hG1
        obtain ⟨m, hm, rfl, hH0, hH1, hG1⟩ := hrel
        have hcell := ((gcell hG1).1 b _ hb).trans hcell0.out
        have hA := hA0.out.grown hG1
        have hb' : b < wr.heap.size := Nat.lt_of_lt_of_le hb hG1.size
        by_cases hmt : m < xs.length
        · obtain ⟨b1, off1, rfl, hb1, hc⟩ := hA.at_ hmt
          have hck := hc m hmt
          obtain ⟨hy0, hy1⟩ := hxb.out m
          have hF := hid (show feed s0 (xs.take (m + 1)) = _ by rw [take_getD xs m 0 hmt, feed_snoc])
          have hR1 := (right_iff _).1 (right_feed s0 (xs.take m) hR.out)
          generalize xs.getD m 0 = y at hck hy0 hy1 hF
          generalize feed s0 (xs.take m) = s1 at hH0 hF hR1
          obtain ⟨h1, h2, h3, h4⟩ := hR1
          have c0 := hH0.cell 0
          have c1 := hH0.cell 1
          have f0 := hH0.free 0
          have f1 := hH0.free 1
          simp at c0 c1
          clear hA hc
          replace hH0 := hid hH0
          replace hH1 := hid hH1
          replace hG1 := hid hG1
          have e0 : IntKind.i64.wrap y = y := IntWalk.i64_in _ (by omega)
          have e1 : IntKind.i64.wrap (s1.1 + y) = s1.1 + y := IntWalk.i64_in _ (by omega)
          have e2 : (s1.1 + y).tmod 65521 = (s1.1 + y) % 65521 := Int.tmod_eq_emod_of_nonneg (by omega)
          go_wp2
          go_still_tail 13, (by kernel_rfl)
          change wpList _ _ _ _ _ wr.drew
          clear e0 e1
          go_wp2
          go_roundw
          case rel =>
            refine ⟨m + 1, by omega, by go_num, ?_, ?_, ?_⟩
            · have hh := ((hH0.out.set 0 (.int .i64 ((s1.1 + y) % 65521))).set 1 (.int .i64 ((s1.2 + (s1.1 + y)) % 65521))).drew
              rw [hF.out]
              simpa [feed1] using hh
            · exact ((hH1.out.far (by simp) _).far (by simp) _).drew
            · exact grown_drew (grown_set (grown_set hG1.out (.inr (by simp)) _) (.inr (by simp)) _)
          case measure => simp [intOf]; omega
        · obtain rfl : m = xs.length := by omega
          rw [List.take_length] at hH0
          have hN := hid (show feed (A, B) (xss.take (k + 1)).flatten = feed s0 xs by rw [hT.out, List.flatten_append, feed_append, hs0.out]; simp)
          replace hH0 := hid hH0
          replace hH1 := hid hH1
          replace hG1 := hid hG1
          clear hA
          go_wp2
          go_roundw
          case rel => exact ⟨k + 1, by omega, by go_num, by rw [hN.out]; exact hH0.out, hH1.out, hG1.out⟩
          case measure => simp [intOf]; omega
    · obtain rfl : k = xss.length := by omega
      rw [List.take_length] at hH0
      have c0 := hH0.cell 0
      have c1 := hH0.cell 1
      have d0 := hH1.cell 0
      have d1 := hH1.cell 1
      have f0 := hH1.free 0
      have f1 := hH1.free 1
      simp at c0 c1 d0 d1
      have hlb := hH1.lt
      clear hH0 hH1 hS2 hP
      go_wp2
      refine bodyPost_ret (v := .agg #[.int .i64 (feed (A, B) xss.flatten).1, .int .i64 (feed (A, B) xss.flatten).2]) (by simp [results, Try.results34, go_sem, d0, d1]) rfl ⟨rfl, ?_⟩
      exact grown_set (grown_set hG1 (.inr (by simp)) _) (.inr (by simp)) _

theorem refFeed_no (A B : Int) (P : Option Addr) (c n : Nat) (w : World) (hr : right (A, B) = false) :
    Calls Try.prog 34 #[.agg #[.int .i64 A, .int .i64 B], .slice P n c] w fun e w' =>
      e = .returned (.agg #[.int .i64 A, .int .i64 B]) ∧ w.grownBy w' none := by
  go_enter Try.func34, Try.ntmps34
  go_wp2_with fail
  refine (refRight_no A B _ hr).mono ?_
  rintro e w1 ⟨rfl, hg1⟩
  have hH0 : Holds w1 w.heap.size 64 #[.int .i64 A, .int .i64 B] := ((Holds.new w 64 _).alloc _).kept hg1 (by simp)
  have hH1 : Holds w1 (w.heap.size + 1) 64 #[.int .i64 0, .int .i64 0] := by
    have := Holds.new (w.alloc (.cells #[.int .i64 A, .int .i64 B] 64)) 64 #[.int .i64 0, .int .i64 0]
    rw [show (w.alloc (.cells #[.int .i64 A, .int .i64 B] 64)).heap.size = w.heap.size + 1 by simp] at this
    exact this.kept hg1 (by simp)
  have hG1 : w.grownBy w1 none := grown_trans (grown_alloc (grown_alloc (grown_refl _ _) _) _) hg1
  clear hg1
  have c0 := hH0.cell 0
  have c1 := hH0.cell 1
  have d0 := hH1.cell 0
  have d1 := hH1.cell 1
  have f0 := hH1.free 0
  have f1 := hH1.free 1
  simp at c0 c1 d0 d1
  have hlb := hH1.lt
  clear hH0 hH1
  go_wp2
  refine bodyPost_ret (v := .agg #[.int .i64 A, .int .i64 B]) (by simp [results, Try.results34, go_sem, d0, d1]) rfl ⟨rfl, ?_⟩
  exact grown_set (grown_set hG1 (.inr (by simp)) _) (.inr (by simp)) _

theorem fed_eq (A B : Int) (bs : List Int) (h : right (A, B) = true) : fed (A, B) bs = feed (A, B) bs := fed_right _ _ h

/-- Sums behind bytes, whatever the sum. -/
theorem refFeed_is (A B : Int) (P : Option Addr) (c : Nat) (xss : List (List Int)) (w : World) (hP : Arrs w P xss) (hS : Small xss) :
    Calls Try.prog 34 #[.agg #[.int .i64 A, .int .i64 B], .slice P xss.length c] w fun e w' =>
      e = .returned (.agg #[.int .i64 (fed (A, B) xss.flatten).1, .int .i64 (fed (A, B) xss.flatten).2]) ∧ w.grownBy w' none := by
  cases hr : right (A, B) with
  | true => rw [fed_right _ _ hr]; exact refFeed_yes A B P c xss w hr hP hS
  | false => rw [fed_wrong _ _ hr]; exact refFeed_no A B P c _ w hr

theorem refOf_is (P : Option Addr) (c : Nat) (xss : List (List Int)) (w : World) (hP : Arrs w P xss) (hS : Small xss) :
    Calls Try.prog 20 #[.slice P xss.length c] w fun e w' => e = .returned (.int .u32 (value (feed first xss.flatten))) ∧ w.grownBy w' none := by
  replace hS := hid hS
  go_enter Try.func20, Try.ntmps20
  go_wp2_with fail
  refine (refNew_is _).mono ?_
  rintro e w1 ⟨rfl, hg1⟩
  replace hP := hP.grown hg1
  go_wp2_with fail
  refine (refFeed_yes 1 0 P c xss _ right_start hP hS.out).mono ?_
  rintro e w2 ⟨rfl, hg2⟩
  go_wp2_with fail
  refine (refValue_is _ _ _).mono ?_
  rintro e w3 ⟨rfl, hg3⟩
  go_wp2
  go_ret
  exact ⟨rfl, grown_trans (grown_trans hg1 hg2) hg3⟩

end Go.Proofs.Ytghnbfphhmgcpaa
