/- The walk of the law PackedOne: it returns true at every input. -/
import Derived.Test.YtghnbfphhmgcpaaPBack
import Derived.Test.YtghnbfphhmgcpaaCame
set_option linter.unusedSimpArgs false
set_option linter.unusedVariables false
namespace Go.Proofs.Ytghnbfphhmgcpaa
open Go.RowKit Plain PlainSum PlainPacked

set_option maxRecDepth 100000 in
set_option maxHeartbeats 4000000 in
theorem pone_walk (f : Bool) (P : Option Addr) (c1 : Nat) (at_ y : Int) (xss : List (List Int)) (w : World) (hB : AllBytes xss) (hP : Arrs w P xss) (hl : xss.length ≤ 9223372036854775807) (hy : 0 ≤ y ∧ y ≤ 255) (hat : -9223372036854775808 ≤ at_ ∧ at_ ≤ 9223372036854775807) :
    Calls Try.prog 5 #[.bool f, .slice P xss.length c1, .int .i64 at_, .int .u8 y] w fun e w' => e = .returned (.bool true) ∧ w.grownBy w' none := by
  replace hP := hid hP
  replace hB := hid hB
  obtain ⟨hy0, hy1⟩ := hy
  obtain ⟨hat0, hat1⟩ := hat
  go_enter Try.func5, Try.ntmps5
  go_wp2_with fail
  refine (greatTexts_is P c1 xss w hP.out hl).mono ?_
  rintro e w1 ⟨rfl, rfl | ⟨rfl, h80, h3000⟩⟩
  · go_wp2_with fail
    refine (pwakes_true _).mono ?_
    rintro e w' ⟨rfl, hg⟩
    go_wp2_with fail
    go_ret
    exact ⟨rfl, hg⟩
  by_cases hz : y = 0
  · subst hz
    go_wp2_with fail
    refine (pwakes_true _).mono ?_
    rintro e w' ⟨rfl, hg⟩
    go_wp2_with fail
    go_ret
    exact ⟨rfl, hg⟩
  have e1 : (y == 0) = false := by simpa using hz
  go_wp2_with fail
  refine (packPut_is f P c1 xss w (by omega) h3000 hB.out hP.out).mono ?_
  rintro e w1 ⟨v, rfl, hrow, hBl⟩
  have hone := hid (one_err f xss)
  have hbytes := hid (put_bytes f xss hB.out)
  have hmem := hid hB.out.mem
  have hten := len_put10 f xss
  have hzl := put_len_le f xss (by omega) h3000
  have hG1 := hid (below_grown hBl)
  clear hBl
  generalize put f xss = zs at hrow hone hbytes hten hzl ⊢
  obtain ⟨g, cap, cur, rfl, hbg, hnc, hm, hH, _, hcur⟩ := own_holds hrow (by omega)
  unfold maxLen at hm
  clear hrow
  replace hcur := hid hcur
  replace hH := hid hH
  have t10 : ¬ ((zs.length : Int) < 10) := by omega
  go_upto_region 6 with fail
  go_cut [2] from 29 to 34 (fun u wx => ∃ k : Nat, k < zs.length ∧ u = .int .i64 k ∧ wx = w1)
  case first =>
    by_cases g0 : at_ < 0
    · go_wp2_with fail
      all_goals (go_meet; go_light; exact ⟨0, by omega, by first | rfl | (simp; omega), rfl⟩)
    · by_cases g1 : at_ ≤ zs.length - 1
      · obtain ⟨k, rfl⟩ := Int.eq_ofNat_of_zero_le (show 0 ≤ at_ by omega)
        go_wp2_with fail
        all_goals (go_meet; go_light; exact ⟨k, by omega, by first | rfl | (simp; omega), rfl⟩)
      · go_wp2_with fail
        all_goals (go_meet; go_light; exact ⟨zs.length - 1, by omega, by first | rfl | (simp; omega), rfl⟩)
  case rest =>
    obtain ⟨k, hk, rfl, rfl⟩ := hcut
    have hyk := hbytes.out k
    have ck := (hH.out.cell k).trans (hcur.out k hk)
    have fk := hH.out.free k
    have hl := hH.out.lt
    obtain ⟨x0, x1, x2⟩ := xor_u8 (zs.getD k 0) y hyk ⟨by omega, hy1⟩ hz
    have hErr := hone.out k (bits BinOp.xor .u8 (zs.getD k 0) y) hmem.out hk ⟨x0, x1⟩ x2
    have hSet : Hid (Bytes (zs.set k (bits BinOp.xor .u8 (zs.getD k 0) y))) := fun i => by
      by_cases hi : k = i
      · subst hi; simp [List.getD, hk]; simp [List.getD, hk] at x0 x1; exact ⟨x0, x1⟩
      · simp only [List.getD, List.getElem?_set_ne hi]; exact hbytes.out i
    have hArr : Hid (Arr (wc.setCell ⟨g, k, none⟩ (.int .u8 (bits BinOp.xor .u8 (zs.getD k 0) y))) .u8 (some ⟨g, 0, none⟩) (zs.set k (bits BinOp.xor .u8 (zs.getD k 0) y))) := fun _ => by
      have hs := hH.out.set k (.int .u8 (bits BinOp.xor .u8 (zs.getD k 0) y))
      refine ⟨g, 0, rfl, hs.lt, fun i hi => ?_⟩
      rw [List.length_set] at hi
      rw [hs.cell, Nat.zero_add]
      have hki : k < cur.size := (Array.getElem?_eq_some_iff.1 (hcur.out k hk)).1
      by_cases hik : k = i
      · subst hik; simp [hki, List.getD, hk]
      · rw [Array.getElem?_setIfInBounds_ne hik, hcur.out i hi]; simp [List.getD, List.getElem?_set_ne hik]
    have cW : (wc.setCell ⟨g, k, none⟩ (.int .u8 (bits BinOp.xor .u8 (zs.getD k 0) y))).cell? ⟨g, k, none⟩ = some (.int .u8 (bits BinOp.xor .u8 (zs.getD k 0) y)) := by
      have hki : k < cur.size := (Array.getElem?_eq_some_iff.1 (hcur.out k hk)).1
      rw [(hH.out.set k _).cell]
      simp [hki]
    generalize zs.getD k 0 = z at ck hSet hArr hErr cW x0 x1 x2 ⊢
    have k0 : (0 : Int) ≤ (k : Int) := by omega
    have k1 : (k : Int) < (zs.length : Int) := by omega
    have hlen := hid (show (zs.set k (bits BinOp.xor .u8 z y)).length = zs.length from List.length_set)
    generalize hcc : bits BinOp.xor .u8 z y = cc at hSet hArr hErr cW hlen x0 x1
    obtain ⟨W2, hW2⟩ : ∃ W2, wc.setCell ⟨g, k, none⟩ (.int .u8 cc) = W2 := ⟨_, rfl⟩
    have hG2 : Hid (w.grownBy W2 none) := hW2 ▸ grown_set hG1.out (.inr hbg) _
    rw [hW2] at hArr cW
    replace hW2 := hid hW2
    generalize zs.set k cc = ys at hErr hSet hArr hlen
    clear hyk x2 hbytes hone hmem
    by_cases hk4 : k < 4
    · have q1 : (k : Int) < 4 := by omega
      have q2 : ((k : Int) == 4) = false := by rw [beq_eq_false_iff_ne]; omega
      have hE : headErr ys = 40 := by rw [hErr, if_pos hk4]
      clear hErr
      have hgot : Hid (got ys = (false, [], 40)) := by
        have := got_err ys (by rw [hE]; decide)
        rw [hE] at this
        exact this
      replace hE := hid hE
      go_wp2_with fail
      rw [hW2.out]
      have tk := packTake_is (some ⟨g, 0, none⟩) cap ys W2 (by rw [hlen.out]; omega) (by rw [hlen.out]; exact hnc) (by unfold maxLen; exact hm) hSet.out hArr.out
      rw [hlen.out, hgot.out] at tk
      refine tk.mono ?_
      clear tk
      rintro e w3 ⟨A3, c3, l, rfl, hlm, _, hg3⟩
      simp only at hlm ⊢
      obtain rfl : l = [] := by simpa using hlm
      have hG3 := hid (grown_trans hG2.out hg3)
      have hArr3 := hid (hArr.out.grown hg3)
      clear hlm hg3 hgot ck fk hl cW
      go_wp2_with fail
      have hd := packHead_is (some ⟨g, 0, none⟩) cap ys w3 (by rw [hlen.out]; omega) (by rw [hlen.out]; exact hnc) (by unfold maxLen; exact hm) hSet.out hArr3.out
      rw [hlen.out, hE.out] at hd
      refine hd.mono ?_
      clear hd
      rintro e w4 ⟨rfl, hg4⟩
      have hG4 := hid (grown_trans hG3.out hg4)
      clear hg4
      generalize headFold ys = F
      go_wp2_with fail
      refine (pwakes_true _).mono ?_
      rintro e w5 ⟨rfl, hg5⟩
      have hG5 := hid (grown_trans hG4.out hg5)
      clear hg5
      go_wp2_with fail
      go_ret
      exact ⟨rfl, hG5.out⟩
    · have q1 : ¬ (k : Int) < 4 := by omega
      by_cases hk5 : k = 4
      · subst hk5
        by_cases hc1 : 1 < cc
        · have hE : headErr ys = 41 := by rw [hErr, if_neg hk4, if_pos ⟨rfl, hc1⟩]
          clear hErr
          have hgot : Hid (got ys = (false, [], 41)) := by
            have := got_err ys (by rw [hE]; decide)
            rw [hE] at this
            exact this
          replace hE := hid hE
          go_wp2_with fail
          rw [hW2.out]
          have tk := packTake_is (some ⟨g, 0, none⟩) cap ys W2 (by rw [hlen.out]; omega) (by rw [hlen.out]; exact hnc) (by unfold maxLen; exact hm) hSet.out hArr.out
          rw [hlen.out, hgot.out] at tk
          refine tk.mono ?_
          clear tk
          rintro e w3 ⟨A3, c3, l, rfl, hlm, _, hg3⟩
          simp only at hlm ⊢
          obtain rfl : l = [] := by simpa using hlm
          have hG3 := hid (grown_trans hG2.out hg3)
          have hArr3 := hid (hArr.out.grown hg3)
          clear hlm hg3 hgot ck fk hl cW
          go_wp2_with fail
          have hd := packHead_is (some ⟨g, 0, none⟩) cap ys w3 (by rw [hlen.out]; omega) (by rw [hlen.out]; exact hnc) (by unfold maxLen; exact hm) hSet.out hArr3.out
          rw [hlen.out, hE.out] at hd
          refine hd.mono ?_
          clear hd
          rintro e w4 ⟨rfl, hg4⟩
          have hG4 := hid (grown_trans hG3.out hg4)
          clear hg4
          generalize headFold ys = F
          go_wp2_with fail
          refine (pwakes_true _).mono ?_
          rintro e w5 ⟨rfl, hg5⟩
          have hG5 := hid (grown_trans hG4.out hg5)
          clear hg5
          go_wp2_with fail
          go_ret
          exact ⟨rfl, hG5.out⟩
        · have hE : headErr ys = 42 := by rw [hErr, if_neg hk4, if_neg (by omega)]
          clear hErr
          have hgot : Hid (got ys = (false, [], 42)) := by
            have := got_err ys (by rw [hE]; decide)
            rw [hE] at this
            exact this
          replace hE := hid hE
          go_wp2_with fail
          rw [hW2.out]
          have tk := packTake_is (some ⟨g, 0, none⟩) cap ys W2 (by rw [hlen.out]; omega) (by rw [hlen.out]; exact hnc) (by unfold maxLen; exact hm) hSet.out hArr.out
          rw [hlen.out, hgot.out] at tk
          refine tk.mono ?_
          clear tk
          rintro e w3 ⟨A3, c3, l, rfl, hlm, _, hg3⟩
          simp only at hlm ⊢
          obtain rfl : l = [] := by simpa using hlm
          have hG3 := hid (grown_trans hG2.out hg3)
          have hArr3 := hid (hArr.out.grown hg3)
          clear hlm hg3 hgot ck fk hl cW
          go_wp2_with fail
          have hd := packHead_is (some ⟨g, 0, none⟩) cap ys w3 (by rw [hlen.out]; omega) (by rw [hlen.out]; exact hnc) (by unfold maxLen; exact hm) hSet.out hArr3.out
          rw [hlen.out, hE.out] at hd
          refine hd.mono ?_
          clear hd
          rintro e w4 ⟨rfl, hg4⟩
          have hG4 := hid (grown_trans hG3.out hg4)
          clear hg4
          generalize headFold ys = F
          go_wp2_with fail
          refine (pwakes_true _).mono ?_
          rintro e w5 ⟨rfl, hg5⟩
          have hG5 := hid (grown_trans hG4.out hg5)
          clear hg5
          go_wp2_with fail
          go_ret
          exact ⟨rfl, hG5.out⟩
      · have q2 : ((k : Int) == 4) = false := by rw [beq_eq_false_iff_ne]; omega
        have hE : headErr ys = 42 := by rw [hErr, if_neg hk4, if_neg (by omega)]
        clear hErr
        have hgot : Hid (got ys = (false, [], 42)) := by
          have := got_err ys (by rw [hE]; decide)
          rw [hE] at this
          exact this
        replace hE := hid hE
        go_wp2_with fail
        rw [hW2.out]
        have tk := packTake_is (some ⟨g, 0, none⟩) cap ys W2 (by rw [hlen.out]; omega) (by rw [hlen.out]; exact hnc) (by unfold maxLen; exact hm) hSet.out hArr.out
        rw [hlen.out, hgot.out] at tk
        refine tk.mono ?_
        clear tk
        rintro e w3 ⟨A3, c3, l, rfl, hlm, _, hg3⟩
        simp only at hlm ⊢
        obtain rfl : l = [] := by simpa using hlm
        have hG3 := hid (grown_trans hG2.out hg3)
        have hArr3 := hid (hArr.out.grown hg3)
        clear hlm hg3 hgot ck fk hl cW
        go_wp2_with fail
        have hd := packHead_is (some ⟨g, 0, none⟩) cap ys w3 (by rw [hlen.out]; omega) (by rw [hlen.out]; exact hnc) (by unfold maxLen; exact hm) hSet.out hArr3.out
        rw [hlen.out, hE.out] at hd
        refine hd.mono ?_
        clear hd
        rintro e w4 ⟨rfl, hg4⟩
        have hG4 := hid (grown_trans hG3.out hg4)
        clear hg4
        generalize headFold ys = F
        go_wp2_with fail
        refine (pwakes_true _).mono ?_
        rintro e w5 ⟨rfl, hg5⟩
        have hG5 := hid (grown_trans hG4.out hg5)
        clear hg5
        go_wp2_with fail
        go_ret
        exact ⟨rfl, hG5.out⟩
end Go.Proofs.Ytghnbfphhmgcpaa
