/- The walk of the law SumOne: it returns true at every input. -/
import Derived.Test.YtdlfphdgjonbdaaWakes
import Derived.Test.YtdlfphdgjonbdaaCame
set_option linter.unusedVariables false
namespace Go.Proofs.Ytdlfphdgjonbdaa
open Go.RowKit PlainSum

theorem one_out (A : Option Addr) (n c : Nat) (at_ y : Int) (w : World) (h : n = 0 ∨ 3000 < n ∨ y = 0) :
    Calls Try.prog 5 #[.slice A n c, .int .i64 at_, .int .u8 y] w fun e w' => e = .returned (.bool true) ∧ w.grownBy w' none := by
  by_cases h0 : n = 0
  · subst h0
    clear h
    go_enter Try.func5, Try.ntmps5
    go_wp2_with fail
    refine (wakes_true _).mono ?_
    rintro e w' ⟨rfl, hg⟩
    go_wp2_with fail
    go_ret
    exact ⟨rfl, hg⟩
  · have h0' : ((n : Int) == 0) = false := by simpa using h0
    by_cases h1 : 3000 < n
    · clear h
      go_enter Try.func5, Try.ntmps5
      go_wp2_with fail
      refine (wakes_true _).mono ?_
      rintro e w' ⟨rfl, hg⟩
      go_wp2_with fail
      go_ret
      exact ⟨rfl, hg⟩
    · obtain rfl : y = 0 := by omega
      clear h
      go_enter Try.func5, Try.ntmps5
      go_wp2_with fail
      refine (wakes_true _).mono ?_
      rintro e w' ⟨rfl, hg⟩
      go_wp2_with fail
      go_ret
      exact ⟨rfl, hg⟩

theorem small_of {bs : List Int} (h : bs.length ≤ 3000) (hb : Bytes bs) : Small [bs] := ⟨by simp, fun i => by
  rcases i with _ | i
  · exact ⟨by simp; omega, hb⟩
  · exact ⟨by simp, fun k => by simp⟩⟩

theorem fed_one (bs : List Int) : fed (1, 0) [bs].flatten = feed first bs := by rw [show [bs].flatten = bs by simp]; exact fed_right first bs right_start

theorem xor_u8 (a b : Int) (ha : 0 ≤ a ∧ a ≤ 255) (hb : 0 ≤ b ∧ b ≤ 255) (h : b ≠ 0) : 0 ≤ bits BinOp.xor .u8 a b ∧ bits BinOp.xor .u8 a b ≤ 255 ∧ bits BinOp.xor .u8 a b ≠ a := by
  obtain ⟨m, rfl⟩ := Int.eq_ofNat_of_zero_le ha.1
  obtain ⟨n, rfl⟩ := Int.eq_ofNat_of_zero_le hb.1
  have hab : m ^^^ n < 256 := Nat.xor_lt_two_pow (n := 8) (by omega) (by omega)
  have e : bits BinOp.xor .u8 (m : Int) (n : Int) = ((m ^^^ n : Nat) : Int) := by
    unfold bits
    have ea : BitVec.ofInt IntKind.u8.bits (m : Int) = BitVec.ofNat 8 m := BitVec.ofInt_natCast 8 m
    have eb : BitVec.ofInt IntKind.u8.bits (n : Int) = BitVec.ofNat 8 n := BitVec.ofInt_natCast 8 n
    simp only [ea, eb]
    show IntKind.u8.wrap (((BitVec.ofNat 8 m ^^^ BitVec.ofNat 8 n).toNat : Nat) : Int) = _
    rw [BitVec.toNat_xor, BitVec.toNat_ofNat, BitVec.toNat_ofNat, Nat.mod_eq_of_lt (by omega), Nat.mod_eq_of_lt (by omega)]
    simp [IntKind.wrap, IntKind.bits, IntKind.signed]
    omega
  rw [e]
  refine ⟨by omega, by omega, fun hh => ?_⟩
  have hh' : m ^^^ n = m := by omega
  have : m ^^^ (m ^^^ n) = 0 := by rw [hh', Nat.xor_self]
  rw [← Nat.xor_assoc, Nat.xor_self, Nat.zero_xor] at this
  exact h (by omega)

theorem field_first (x y : Value) (w : World) : (Instr.field 23 (.agg #[x, y]) 0).run Try.prog w = .ok x w := by kernel_rfl

/-- What the call owns lies whole in a block of its own. -/
theorem own_holds {w : World} {base n : Nat} {v : Value} {zs : List Int} (h : w.ownsRow base 5 1 v n (zs.map (Value.int .u8))) (hn : 0 < n) :
    ∃ g cap cur, v = .slice (some ⟨g, 0, none⟩) n cap ∧ base ≤ g ∧ n ≤ cap ∧ cap ≤ maxLen ∧ Holds w g 5 cur ∧ zs.length = n ∧ ∀ i, i < n → cur[i]? = some (.int .u8 (zs.getD i 0)) := by
  obtain ⟨hl, h⟩ := h
  have hnl : zs.length = n := by simpa using hl
  rcases h with ⟨hv, rfl⟩ | ⟨g, cap, cur, hv, hb, hg, hnc, hm, hs, ht⟩
  · omega
  · refine ⟨g, cap, cur, hv, hb, hnc, hm, hg, hnl, fun i hi => ?_⟩
    have : (cur.toList.take (n * 1))[i]? = some (Value.int .u8 (zs.getD i 0)) := by rw [ht]; simp [List.getD, hnl, hi]
    rw [List.getElem?_take] at this
    split at this
    · simpa using this
    · cases this

set_option maxRecDepth 100000 in
set_option maxHeartbeats 1000000 in
theorem one_in (A : Option Addr) (c : Nat) (at_ y : Int) (bs : List Int) (w : World) (h0 : 0 < bs.length) (h : bs.length ≤ 3000) (hy : 0 < y ∧ y ≤ 255) (hc : bs.length ≤ c) (hc2 : c ≤ maxLen) (hb : Bytes bs) (hA : Arr w .u8 A bs) :
    Calls Try.prog 5 #[.slice A bs.length c, .int .i64 at_, .int .u8 y] w fun e w' => e = .returned (.bool true) ∧ w.grownBy w' none := by
  replace hb := hid hb
  replace hA := hid hA
  obtain ⟨hy0, hy1⟩ := hy
  obtain ⟨i0, hi0, hz0, hz1, hz2⟩ := info_parts Try.info5
  unfold maxLen at hc2
  have e0 : ((bs.length : Int) == 0) = false := by rw [beq_eq_false_iff_ne]; omega
  have e1 : (y == 0) = false := by simp; omega
  go_enter Try.func5, Try.ntmps5
  go_upto_region 3 with fail
  go_cut [1] from 21 to 26 (fun u wx => ∃ k : Nat, k < bs.length ∧ u = .int .i64 k ∧ wx = w)
  case first =>
    by_cases g0 : at_ < 0
    · go_wp2_with fail
      all_goals (go_meet; go_light; exact ⟨0, by omega, by first | rfl | (simp; omega), rfl⟩)
    · by_cases g1 : at_ ≤ bs.length - 1
      · obtain ⟨k, rfl⟩ := Int.eq_ofNat_of_zero_le (show 0 ≤ at_ by omega)
        go_wp2_with fail
        all_goals (go_meet; go_light; exact ⟨k, by omega, by first | rfl | (simp; omega), rfl⟩)
      · go_wp2_with fail
        all_goals (go_meet; go_light; exact ⟨bs.length - 1, by omega, by first | rfl | (simp; omega), rfl⟩)
  case rest =>
    obtain ⟨k, hk, rfl, rfl⟩ := hcut
    have hrowE : (wc.alloc (.cells #[] 5)).ownsRow wc.heap.size 5 1 (.slice (some ⟨wc.heap.size, 0, none⟩) 0 0) ([] : List Int).length (([] : List Int).map (Value.int .u8)) :=
      World.ownsRow_made wc #[] 0 (Nat.le_refl _) (by simp) (by simp)
    have hA1 := hid (hA.out.grown (World.grownBy_alloc wc (.cells #[] 5) none))
    replace hrowE := hid hrowE
    go_upto_region 5 with (at_builtin; refine wpList_append_all rfl _ _ 26 rfl wc.heap.size 5 i0 .u8 1 Try.underlying26 hi0 hz0 hz1 hz2 _ [] bs _ _ _ (wc.alloc (.cells #[] 5)) hrowE.out hA1.out rfl rfl rfl (by decide) (by simp; omega) (by simp) ?_; intro v' w1 hrow1 hB1)
    rw [List.nil_append] at hrow1
    obtain ⟨g, cap, cur, rfl, hbg, hnc, hm, hH, _, hcur⟩ := own_holds hrow1 h0
    have hG1 := hid (below_grown (((Below.refl _ wc).alloc (Nat.le_refl _) (.cells #[] 5)).trans hB1))
    have hA2 := hid (hA.out.grown hG1.out)
    have hyk := hb.out k
    have ck := (hH.cell k).trans (hcur k hk)
    have fk := hH.free k
    have hl := hH.lt
    unfold maxLen at hm
    obtain ⟨x0, x1, x2⟩ := xor_u8 (bs.getD k 0) y hyk ⟨by omega, hy1⟩ (by omega)
    have hOther := hid (one_other bs k (bits BinOp.xor .u8 (bs.getD k 0) y) hk ⟨x0, x1⟩ hyk x2)
    have hSet : Hid (Bytes (bs.set k (bits BinOp.xor .u8 (bs.getD k 0) y))) := fun i => by
      by_cases hi : k = i
      · subst hi; simp [List.getD, hk]; simp [List.getD, hk] at x0 x1; exact ⟨x0, x1⟩
      · simp only [List.getD, List.getElem?_set_ne hi]; exact hb.out i
    have hArr : Hid (Arr (w1.setCell ⟨g, k, none⟩ (.int .u8 (bits BinOp.xor .u8 (bs.getD k 0) y))) .u8 (some ⟨g, 0, none⟩) (bs.set k (bits BinOp.xor .u8 (bs.getD k 0) y))) := fun _ => by
      have hs := hH.set k (.int .u8 (bits BinOp.xor .u8 (bs.getD k 0) y))
      refine ⟨g, 0, rfl, hs.lt, fun i hi => ?_⟩
      rw [List.length_set] at hi
      rw [hs.cell, Nat.zero_add]
      have hki : k < cur.size := (Array.getElem?_eq_some_iff.1 (hcur k hk)).1
      by_cases hik : k = i
      · subst hik; simp [hki, List.getD, hk]
      · rw [Array.getElem?_setIfInBounds_ne hik, hcur i hi]; simp [List.getD, List.getElem?_set_ne hik]
    generalize bs.getD k 0 = z at ck hOther hSet hArr ⊢
    clear x0 x1 x2 hyk
    replace hrow1 := hid hrow1
    replace hcur := hid hcur
    replace hH := hid hH
    have k0 : (0 : Int) ≤ (k : Int) := by omega
    have k1 : (k : Int) < (bs.length : Int) := by omega
    have hlen := hid (show (bs.set k (bits BinOp.xor .u8 z y)).length = bs.length from List.length_set)
    obtain ⟨W2, hW2⟩ : ∃ W2, w1.setCell ⟨g, k, none⟩ (.int .u8 (bits BinOp.xor .u8 z y)) = W2 := ⟨_, rfl⟩
    have hG2 : Hid (wc.grownBy W2 none) := hW2 ▸ grown_set hG1.out (.inr hbg) _
    rw [hW2] at hArr
    replace hW2 := hid hW2
    generalize bs.set k (bits BinOp.xor .u8 z y) = ys at hOther hSet hArr hlen
    go_wp2_with fail
    rw [hW2.out]
    have hz : (w1.setCell ⟨g, k, none⟩ (.int .u8 (bits BinOp.xor .u8 z y))).heap.size = w1.heap.size := by simp
    rw [hW2.out] at hz
    clear ck fk hl hA2 hA1 hrowE hrow1 hcur hH hG1 hB1 hW2
    rw [← hz]
    clear hz
    have hS1 : Hid (Small [ys]) := small_of (by rw [hlen.out]; exact h) hSet.out
    have hS2 : Hid (Small [bs]) := small_of h hb.out
    have hP := one_new (c := cap) hArr.out
    rw [hlen.out] at hP
    refine (sumOf_is _ 1 [ys] _ hP hS1.out).mono ?_
    rintro e w3 ⟨rfl, hg⟩
    replace hg := grown_trans (grown_alloc (grown_refl W2 none) _) hg
    have hArr3 := hid (hArr.out.grown hg)
    have hG3 := hid (grown_trans hG2.out hg)
    clear hg hP hG2 hArr
    go_wp2_with fail
    refine (sumOf_is _ 1 [bs] _ (one_new (c := c) (hA.out.grown hG3.out)) hS2.out).mono ?_
    rintro e w4 ⟨rfl, hg⟩
    replace hg := grown_trans (grown_alloc (grown_refl w3 none) _) hg
    have hArr4 := hid (hArr3.out.grown hg)
    have hG4 := hid (grown_trans hG3.out hg)
    clear hg hG3 hArr3
    have hF2 := hid (show feed first [bs].flatten = feed first bs by simp)
    rw [hF2.out]
    have hV := value_ne (feed first ys) (feed first bs) (right_feed _ _ right_start) (right_feed _ _ right_start) hOther.out
    have hO := hOther.out
    generalize hsy : feed first ys = sy at hV hO ⊢
    generalize hsb : feed first bs = sb at hV hO ⊢
    replace hsy := hid hsy
    replace hsb := hid hsb
    obtain ⟨p, p'⟩ := sy
    obtain ⟨q, q'⟩ := sb
    simp only at hO
    generalize value (p, p') = U at hV ⊢
    generalize value (q, q') = V at hV ⊢
    have n1 : (U != V) = true := by simpa using hV
    have n2 : (U == V) = false := by simpa using hV
    have n3 : (p != q) = true := by simpa using hO
    have n4 : (p == q) = false := by simpa using hO
    replace hV := hid hV
    replace hO := hid hO
    clear hOther
    go_wp2_with fail
    refine (sumNew_is _).mono ?_
    rintro e w5 ⟨rfl, hg⟩
    have hArr5 := hid (hArr4.out.grown hg)
    have hG5 := hid (grown_trans hG4.out hg)
    clear hg hG4 hArr4
    have hfield := field_first
    go_wp2_with fail
    have hP := one_new (c := cap) hArr5.out
    rw [hlen.out] at hP
    refine (sumFeed_is 1 0 _ 1 [ys] _ hP hS1.out).mono ?_
    rintro e w6 ⟨rfl, hg⟩
    rw [fed_one, hsy.out]
    replace hg := grown_trans (grown_alloc (grown_refl w5 none) _) hg
    have hG6 := hid (grown_trans hG5.out hg)
    clear hg hP hG5 hArr5
    go_wp2_with fail
    refine (sumNew_is _).mono ?_
    rintro e w7 ⟨rfl, hg⟩
    have hG7 := hid (grown_trans hG6.out hg)
    clear hg hG6
    go_wp2_with fail
    refine (sumFeed_is 1 0 _ 1 [bs] _ (one_new (c := c) (hA.out.grown hG7.out)) hS2.out).mono ?_
    rintro e w8 ⟨rfl, hg⟩
    rw [fed_one, hsb.out]
    replace hg := grown_trans (grown_alloc (grown_refl w7 none) _) hg
    have hG8 := hid (grown_trans hG7.out hg)
    clear hg hG7
    go_wp2_with fail
    refine (wakes_true _).mono ?_
    rintro e w9 ⟨rfl, hg⟩
    go_wp2_with fail
    go_ret
    exact ⟨rfl, grown_trans hG8.out hg⟩

/-- **The law SumOne, walked.** -/
theorem one_walk (A : Option Addr) (c : Nat) (at_ y : Int) (bs : List Int) (w : World) (hy : 0 ≤ y ∧ y ≤ 255) (hc : bs.length ≤ c) (hc2 : c ≤ maxLen) (hb : Bytes bs) (hA : Arr w .u8 A bs) :
    Calls Try.prog 5 #[.slice A bs.length c, .int .i64 at_, .int .u8 y] w fun e w' => e = .returned (.bool true) ∧ w.grownBy w' none := by
  by_cases h : bs.length = 0 ∨ 3000 < bs.length ∨ y = 0
  · exact one_out A bs.length c at_ y w h
  · exact one_in A c at_ y bs w (by omega) (by omega) (by omega) hc hc2 hb hA

end Go.Proofs.Ytdlfphdgjonbdaa
