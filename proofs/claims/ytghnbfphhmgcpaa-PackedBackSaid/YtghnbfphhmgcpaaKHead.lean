/- Package packed: the head. -/
import Derived.Test.YtghnbfphhmgcpaaPHead
import Derived.Test.YtghnbfphhmgcpaaSumFour
import Derived.Test.YtghnbfphhmgcpaaFeed
set_option linter.unusedSimpArgs false
set_option linter.unusedVariables false
set_option maxRecDepth 100000
namespace Go.Proofs.Ytghnbfphhmgcpaa
open Go.RowKit Plain PlainSum PlainPacked

set_option maxRecDepth 100000 in
set_option maxHeartbeats 1000000 in
theorem packHead_is (A : Option Addr) (c : Nat) (bs : List Int) (w : World) (hl : bs.length ≤ 100000) (hc : bs.length ≤ c) (hc2 : c ≤ maxLen) (hb : Bytes bs) (hA : Arr w .u8 A bs) :
    Calls Try.prog 12 #[.slice A bs.length c] w fun e w' => e = .returned (.tuple #[.bool (headFold bs), .int .i64 (headErr bs)]) ∧ w.grownBy w' none := by
  unfold maxLen at hc2
  have hE := hid (rfl : headErr bs = headErr bs)
  have hF := hid (rfl : headFold bs = headFold bs)
  unfold headErr at hE
  by_cases h10 : bs.length < 10
  · have e1 : headErr bs = 10 := by unfold headErr; rw [if_pos h10]
    have e2 : headFold bs = false := by unfold headFold; rw [e1]; rfl
    rw [e1, e2]
    clear hE hF e1 e2 hA hb
    go_enter Try.func12, Try.ntmps12
    go_wp2_with fail
    go_ret2
    exact ⟨rfl, grown_refl _ _⟩
  · clear hE hF
    obtain ⟨b, off, rfl, hb0, hx⟩ := hA.at_ (i := 4) (by omega)
    have x4 := hx 4 (by omega)
    have ht4 : (bs.take 4).length = 4 := by rw [List.length_take]; omega
    have cv := conv_arr w (some ⟨b, off, none⟩) c (bs.take 4) (hA.take 4)
    rw [ht4] at cv
    have hy := hb 4
    by_cases hm : bs.take 4 = magic
    · rw [hm, lit_magic] at cv
      have e0 : headErr bs = if 1 < bs.getD 4 0 then 41 else if number (bs.drop (bs.length - 4)) = value (feed first (bs.take (bs.length - 4))) then 0 else 42 := by unfold headErr; rw [if_neg h10, if_pos hm]
      have f0 : headFold bs = (decide (headErr bs = 0) && (bs.getD 4 0 == 1)) := rfl
      rw [f0, e0]
      have hA1 : Hid (Arr w .u8 (some ⟨b, off + (bs.length - 4), none⟩) (bs.drop (bs.length - 4))) := fun _ =>
        ⟨b, off + (bs.length - 4), rfl, hb0, fun i hi => by
          have hi' : i < bs.length - (bs.length - 4) := by rw [List.length_drop] at hi; exact hi
          have := hx (bs.length - 4 + i) (by omega)
          rw [Nat.add_assoc, this, getD_drop]⟩
      have hA2 := hid (hA.take (bs.length - 4))
      have hB1 := hid (hb.drop (bs.length - 4))
      have hB2 := hid (hb.take (bs.length - 4))
      have hl1 := hid (List.length_drop (i := bs.length - 4) (l := bs))
      have hl2 := hid (show (bs.take (bs.length - 4)).length = bs.length - 4 by rw [List.length_take]; omega)
      clear hx hA hb hm e0 f0
      generalize bs.getD 4 0 = y at x4 hy ⊢
      obtain ⟨y0, y1⟩ := hy
      by_cases h1 : 1 < y
      · rw [if_pos h1]
        go_enter Try.func12, Try.ntmps12
        go_wp2_with fail
        go_ret2
        exact ⟨rfl, grown_refl _ _⟩
      · rw [if_neg h1]
        by_cases hv : number (bs.drop (bs.length - 4)) = value (feed first (bs.take (bs.length - 4)))
        all_goals
          first | rw [if_pos hv] | rw [if_neg hv]
          replace hv := hid hv
          go_enter Try.func12, Try.ntmps12
          go_wp2_with fail
          have key := sumTakeFour_yes (some ⟨b, off + (bs.length - 4), none⟩) (c - (bs.length - 4)) (bs.drop (bs.length - 4)) w (by rw [hl1.out]; omega) (by rw [hl1.out]; omega) (by rw [hl1.out]; omega) (by unfold maxLen; omega) hB1.out hA1.out
          rw [hl1.out] at key
          refine key.mono ?_
          clear key
          rintro e w1 ⟨A1, c1, rfl, _, _, _, hg1⟩
          have hA3 := hid (hA2.out.grown hg1)
          have hG1 := hid hg1
          clear hg1
          generalize number (bs.drop (bs.length - 4)) = N at hv ⊢
          go_wp2_with fail
          have hP := one_new (c := c) hA3.out
          rw [hl2.out] at hP
          have hS : Small [bs.take (bs.length - 4)] := ⟨by simp, fun i => by
            rcases i with _ | i
            · exact ⟨by simp; omega, hB2.out⟩
            · exact ⟨by simp, fun k => by simp⟩⟩
          refine (sumOf_is _ 1 [bs.take (bs.length - 4)] _ hP hS).mono ?_
          rintro e w2 ⟨rfl, hg⟩
          have hG2 := hid (grown_trans hG1.out (grown_trans (grown_alloc (grown_refl w1 none) _) hg))
          clear hg hP hS
          have hfl : Hid ([bs.take (bs.length - 4)].flatten = bs.take (bs.length - 4)) := by simp [Hid]
          rw [hfl.out]
          generalize value (feed first (bs.take (bs.length - 4))) = V at hv ⊢
        · have n1 : (N == V) = true := by rw [beq_iff_eq]; exact hv.out
          have n2 : (N != V) = false := by rw [bne_eq_false_iff_eq]; exact hv.out
          have x5 := ((gcell hG2.out).1 b (off + 4) hb0).trans x4
          clear x4
          go_wp2_with fail
          go_ret2
          exact ⟨by simp, hG2.out⟩
        · have n1 : (N == V) = false := by rw [beq_eq_false_iff_ne]; exact hv.out
          have n2 : (N != V) = true := by rw [bne_iff_ne]; exact hv.out
          go_wp2_with fail
          go_ret2
          exact ⟨rfl, hG2.out⟩
    · have e1 : headErr bs = 40 := by unfold headErr; rw [if_neg h10, if_neg hm]
      have e2 : headFold bs = false := by unfold headFold; rw [e1]; rfl
      rw [e1, e2]
      have hse := str_eq (bs.take 4) magic (hb.take 4) magic_bytes
      rw [decide_eq_false hm, lit_magic] at hse
      generalize strOfNums (bs.take 4) = sa at cv hse
      have hn : Hid ((!sa.toList == [84, 83, 76, 49]) = true) := by
        have : (⟨#[84, 83, 76, 49]⟩ : ByteArray).toList = [84, 83, 76, 49] := by decide +kernel
        rw [this] at hse
        rw [Hid, hse]; rfl
      replace hse := hid hse
      generalize bs.getD 4 0 = y at x4 hy
      clear hA hb hx e1 e2
      go_enter Try.func12, Try.ntmps12
      go_wp2_with fail
      · go_ret2
        exact ⟨rfl, grown_refl _ _⟩
      all_goals
        exact Bool.noConfusion (hn.out.symm.trans ‹(!sa.toList == [84, 83, 76, 49]) = false›)

end Go.Proofs.Ytghnbfphhmgcpaa
