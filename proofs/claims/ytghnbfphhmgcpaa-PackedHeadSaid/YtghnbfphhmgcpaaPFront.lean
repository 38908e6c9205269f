/- The walk of the law PackedHead: it returns true at every input. -/
import Derived.Test.YtghnbfphhmgcpaaPBack
set_option linter.unusedSimpArgs false
set_option linter.unusedVariables false
namespace Go.Proofs.Ytghnbfphhmgcpaa
open Go.RowKit Plain PlainSum PlainPacked

theorem bytes_app {xs ys : List Int} (hx : Bytes xs) (hy : Bytes ys) : Bytes (xs ++ ys) := bytes_of fun c hc => by
  rcases List.mem_append.1 hc with h | h
  · exact of_bytes hx c h
  · exact of_bytes hy c h
theorem bytes_one {x : Int} (hx : 0 ≤ x ∧ x ≤ 255) : Bytes [x] := bytes_of fun c hc => by
  obtain rfl : c = x := by simpa using hc
  exact hx

set_option maxRecDepth 100000 in
set_option maxHeartbeats 4000000 in
theorem phead_in (a b c d x v : Int) (A : Option Addr) (c2 : Nat) (z : List Int) (w : World) (hm : Bytes [a, b, c, d]) (hx : 0 ≤ x ∧ x ≤ 255) (hv : 0 ≤ v ∧ v ≤ 4294967295) (hb : Bytes z) (hA : Arr w .u8 A z) (hl : z.length ≤ 300) :
    Calls Try.prog 7 #[.agg #[.int .u8 a, .int .u8 b, .int .u8 c, .int .u8 d], .int .u8 x, .slice A z.length c2, .int .u32 v] w fun e w' => e = .returned (.bool true) ∧ w.grownBy w' none := by
  obtain ⟨i0, hi0, hz0, hz1, hz2⟩ := info_parts Try.info5
  obtain ⟨hx0, hx1⟩ := hx
  obtain ⟨hv0, hv1⟩ := hv
  replace hA := hid hA
  replace hb := hid hb
  replace hm := hid hm
  go_enter Try.func7, Try.ntmps7
  go_upto_region 3 with fail
  have hH : Holds (w.alloc (.cells #[.int .u8 a, .int .u8 b, .int .u8 c, .int .u8 d] 40)) w.heap.size 40 #[.int .u8 a, .int .u8 b, .int .u8 c, .int .u8 d] := Holds.new _ _ _
  have hG0 : Hid (w.grownBy (w.alloc (.cells #[.int .u8 a, .int .u8 b, .int .u8 c, .int .u8 d] 40)) none) := grown_alloc (grown_refl w none) _
  obtain ⟨W0, hW0⟩ : ∃ W0, w.alloc (.cells #[.int .u8 a, .int .u8 b, .int .u8 c, .int .u8 d] 40) = W0 := ⟨_, rfl⟩
  rw [hW0] at hH hG0 ⊢
  clear hW0
  obtain ⟨h, hh⟩ : ∃ h, w.heap.size = h := ⟨_, rfl⟩
  rw [hh] at hH ⊢
  have hM : Hid (Arr W0 .u8 (some ⟨h, 0, none⟩) [a, b, c, d]) := Arr.of_holds (k := .u8) hH
  replace hh := hid hh
  clear hH
  have hm4 : Hid ([a, b, c, d].length = 4) := rfl
  generalize [a, b, c, d] = m at hm hM hm4
  have hrowE : Hid ((W0.alloc (.cells #[] 5)).ownsRow W0.heap.size 5 1 (.slice (some ⟨W0.heap.size, 0, none⟩) 0 0) ([] : List Int).length (([] : List Int).map (Value.int .u8))) :=
    World.ownsRow_made W0 #[] 0 (Nat.le_refl _) (by simp) (by simp)
  have hM1 := hid (hM.out.grown (World.grownBy_alloc W0 (.cells #[] 5) none))
  go_upto_region 4 with (at_builtin; refine wpList_append_all rfl _ _ 23 rfl W0.heap.size 5 i0 .u8 1 Try.underlying23 hi0 hz0 hz1 hz2 _ [] m _ _ _ (W0.alloc (.cells #[] 5)) hrowE.out hM1.out rfl rfl hm4.out (by decide) (by rw [hm4.out]; simp) (by simp) ?_; intro v1 w1 hrow1 hB1)
  rw [List.nil_append] at hrow1
  have hB1' := ((Below.refl _ W0).alloc (Nat.le_refl _) (.cells #[] 5)).trans hB1
  have hg1 := below_grown hB1'
  have hG1 := hid (grown_trans hG0.out hg1)
  have hMw := hid (hM.out.grown hg1)
  replace hrow1 := hid hrow1
  have hs1 : Hid (W0.heap.size ≤ w1.heap.size) := hg1.size
  have hA1 := hid (hA.out.grown hG1.out)
  have hs00 := hid hG0.out.size
  clear hB1 hg1 hM1 hrowE hMw
  have hlm : m.length = 4 := hm4.out
  obtain ⟨b3, hb3⟩ : ∃ b3, m ++ [x] ++ z = b3 := ⟨_, rfl⟩
  have hb3l : b3.length ≤ 305 := by rw [← hb3]; simp; omega
  have hb3b : Hid (Bytes b3) := hid (by rw [← hb3]; exact bytes_app (bytes_app hm.out (bytes_one ⟨hx0, hx1⟩)) hb.out)
  replace hb3 := hid hb3
  have hs0 : Hid (w.heap.size ≤ W0.heap.size) := hs00.out
  go_upto_region 5 with (first
    | (at_builtin; refine wpList_push rfl _ _ 23 rfl W0.heap.size 5 i0 .u8 1 Try.underlying23 hi0 hz0 hz1 hz2 _ m x w1 hrow1.out rfl rfl (by decide) (by omega) hs1.out ?_; intro v2 w2 hrow2 hB2; have hsz2 := hid (Nat.le_trans hs1.out hB2.size))
    | (at_builtin; refine wpList_append_all rfl _ _ 23 rfl W0.heap.size 5 i0 .u8 1 Try.underlying23 hi0 hz0 hz1 hz2 _ (m ++ [x]) z _ _ _ w2 hrow2 (hA.out.grown (below_grown ((Below.of_grown' hG1.out).trans (hB2.mono hs0.out)))) rfl rfl rfl (by decide) (by simp; omega) hsz2.out ?_; intro v3 w3 hrow3 hB3; rw [hb3.out] at hrow3; obtain ⟨A3, c3, rfl, hc3, hd3⟩ := own_form hrow3))
  have hB03 := hid (hB1'.trans (hB2.trans hB3))
  have hG3 := hid (grown_trans hG0.out (below_grown hB03.out))
  have hM3 := hid (hM.out.grown (below_grown hB03.out))
  have hb3a := hid (Arr.of_own (k := .u8) hrow3)
  replace hrow3 := hid hrow3
  clear hrow2 hB2 hB3 hB1' hsz2 hrow1 hs1 hA1 hc3 hd3
  have hS : Hid (Small [b3]) := hid (small_of (by omega) hb3b.out)
  go_wp2_with fail
  refine (refOf_is _ 1 [b3] _ (one_new (c := c3) hb3a.out) hS.out).mono ?_
  rintro e w4 ⟨rfl, hg4⟩
  have hfl : [b3].flatten = b3 := by simp
  rw [hfl]
  clear hfl
  have hg34 := grown_trans (grown_alloc (grown_refl w3 none) _) hg4
  have hG4 := hid (grown_trans hG3.out hg34)
  have hM4 := hid (hM3.out.grown hg34)
  have hrow4 := hid (own_grown hrow3.out hg34)
  have hs4 := hid (Nat.le_trans hB03.out.size hg34.size)
  have hW34 := hid hg34
  clear hg4 hg34 hb3a hS hrow3 hM3
  obtain ⟨V, hV⟩ : ∃ V, value (feed first b3) = V := ⟨_, rfl⟩
  rw [hV]
  replace hV := hid hV
  go_wp2_with fail
  refine (refFour_is v _ hv0 hv1).mono ?_
  rintro e w5 ⟨X, cx, rfl, hcx, hmx, hX, hg5⟩
  have hG5 := hid (grown_trans hG4.out hg5)
  have hM5 := hid (hM4.out.grown hg5)
  have hrow5 := hid (own_grown hrow4.out hg5)
  have hs5 := hid (Nat.le_trans hs4.out hg5.size)
  have hf4 : Hid ((four v).length = 4) := rfl
  have hb6b := hid (bytes_app hb3b.out (bytes_of (four_byte v ⟨hv0, hv1⟩)))
  have hb6l : (b3 ++ four v).length ≤ 400 := by rw [List.length_append, hf4.out]; omega
  have hE := headErr_of m x v z hlm
  rw [hb3.out, hV.out] at hE
  have hF : headFold (b3 ++ four v) = (decide (headErr (b3 ++ four v) = 0) && (x == 1)) := by
    have h5 : (b3 ++ four v).getD 4 0 = x := by
      rw [← hb3.out]
      simp only [List.getD]
      rw [List.append_assoc, List.append_assoc, List.getElem?_append_right (by omega), hlm]
      simp
    unfold headFold
    rw [h5]
  have hX' := hid hX
  have hW35 := hid (grown_trans hW34.out hg5)
  clear hg5 hX hrow4 hM4 hG4
  generalize four v = fv at hb6b hb6l hE hF hX' hf4 ⊢
  obtain ⟨b6, hb6⟩ : ∃ b6, b3 ++ fv = b6 := ⟨_, rfl⟩
  rw [hb6] at hb6b hb6l hE hF
  replace hb6 := hid hb6
  go_upto_region 7 with (at_builtin; refine wpList_append_all rfl _ _ 23 rfl W0.heap.size 5 i0 .u8 1 Try.underlying23 hi0 hz0 hz1 hz2 _ b3 fv _ _ _ _ hrow5.out hX'.out rfl rfl rfl (by decide) (by rw [hf4.out]; omega) hs5.out ?_; intro v6 w6 hrow6 hB6; rw [hb6.out] at hrow6; obtain ⟨A6, c6, rfl, hc6, hd6⟩ := own_form hrow6)
  have hG6 := hid (below_grown ((Below.of_grown' hG5.out).trans (hB6.mono hs0.out)))
  have hM6 := hid (hM.out.grown (below_grown ((Below.of_grown' (below_grown hB03.out)).trans ((below_of_grown (hW35.out) hB03.out.size (by simp)).trans hB6))))
  have hA6 := hid (Arr.of_own (k := .u8) hrow6)
  clear hrow6 hB6 hrow5 hX' hM hM5 hW34 hW35 hB03
  by_cases hz : z = []
  · have z0 : ((z.length : Int) == 0) = true := by rw [hz]; rfl
    rw [if_pos hz] at hE
    have hF' : headFold b6 = false := by rw [hF, hE]; rfl
    replace hF := hF'
    clear hF' hz
    go_wp2_with fail
    refine (packHead_is A6 c6 b6 w6 (by omega) hc6 hd6 hb6b.out hA6.out).mono ?_
    rintro e w7 ⟨rfl, hg7⟩
    rw [hE, hF]
    have hG7 := hid (grown_trans hG6.out hg7)
    have hM7 := hid (hM6.out.grown hg7)
    clear hg7 hE hF
    go_wp2_with fail
    refine (pwakes_true _).mono ?_
    rintro e w8 ⟨rfl, hg8⟩
    have hG8 := hid (grown_trans hG7.out hg8)
    clear hg8
    go_wp2_with fail
    go_ret
    exact ⟨rfl, hG8.out⟩
  · have z0 : ((z.length : Int) == 0) = false := by rw [beq_eq_false_iff_ne]; have := List.length_pos_iff.2 hz; omega
    rw [if_neg hz] at hE
    clear hz
    by_cases hmm : m = magic
    · rw [if_pos hmm] at hE
      by_cases h1 : 1 < x
      · rw [if_pos h1] at hE
        have hF' : headFold b6 = false := by rw [hF, hE]; rfl
        replace hF := hF'
        clear hF'
        go_wp2_with fail
        refine (packHead_is A6 c6 b6 w6 (by omega) hc6 hd6 hb6b.out hA6.out).mono ?_
        rintro e w7 ⟨rfl, hg7⟩
        rw [hE, hF]
        have hG7 := hid (grown_trans hG6.out hg7)
        have hM7 := hid (hM6.out.grown hg7)
        clear hg7 hE hF
        have cv := conv_arr w7 (some ⟨h, 0, none⟩) 4 m hM7.out
        rw [hmm, lit_magic, show magic.length = 4 from rfl] at cv
        go_wp2_with fail
        refine (pwakes_true _).mono ?_
        rintro e w8 ⟨rfl, hg8⟩
        have hG8 := hid (grown_trans hG7.out hg8)
        clear hg8
        go_wp2_with fail
        go_ret
        exact ⟨rfl, hG8.out⟩
      · rw [if_neg h1] at hE
        by_cases hvV : v = V
        · rw [if_pos hvV] at hE
          have hF' : headFold b6 = (x == 1) := by rw [hF, hE]; rfl
          replace hF := hF'
          have n1 : (V == v) = true := by rw [hvV]; simp
          clear hF' hvV
          go_wp2_with fail
          refine (packHead_is A6 c6 b6 w6 (by omega) hc6 hd6 hb6b.out hA6.out).mono ?_
          rintro e w7 ⟨rfl, hg7⟩
          rw [hE, hF]
          have hG7 := hid (grown_trans hG6.out hg7)
          have hM7 := hid (hM6.out.grown hg7)
          clear hg7 hE hF
          have cv := conv_arr w7 (some ⟨h, 0, none⟩) 4 m hM7.out
          rw [hmm, lit_magic, show magic.length = 4 from rfl] at cv
          go_wp2_with fail
          refine (pwakes_true _).mono ?_
          rintro e w8 ⟨rfl, hg8⟩
          have hG8 := hid (grown_trans hG7.out hg8)
          clear hg8
          go_wp2_with fail
          go_ret
          exact ⟨rfl, hG8.out⟩
        · rw [if_neg hvV] at hE
          have hF' : headFold b6 = false := by rw [hF, hE]; rfl
          replace hF := hF'
          have n1 : (V == v) = false := by rw [beq_eq_false_iff_ne]; exact fun h => hvV h.symm
          clear hF' hvV
          go_wp2_with fail
          refine (packHead_is A6 c6 b6 w6 (by omega) hc6 hd6 hb6b.out hA6.out).mono ?_
          rintro e w7 ⟨rfl, hg7⟩
          rw [hE, hF]
          have hG7 := hid (grown_trans hG6.out hg7)
          have hM7 := hid (hM6.out.grown hg7)
          clear hg7 hE hF
          have cv := conv_arr w7 (some ⟨h, 0, none⟩) 4 m hM7.out
          rw [hmm, lit_magic, show magic.length = 4 from rfl] at cv
          go_wp2_with fail
          refine (pwakes_true _).mono ?_
          rintro e w8 ⟨rfl, hg8⟩
          have hG8 := hid (grown_trans hG7.out hg8)
          clear hg8
          go_wp2_with fail
          go_ret
          exact ⟨rfl, hG8.out⟩
    · rw [if_neg hmm] at hE
      have hF' : headFold b6 = false := by rw [hF, hE]; rfl
      replace hF := hF'
      have hse := str_eq m magic hm.out magic_bytes
      rw [decide_eq_false hmm, lit_magic] at hse
      clear hF' hmm
      go_wp2_with fail
      refine (packHead_is A6 c6 b6 w6 (by omega) hc6 hd6 hb6b.out hA6.out).mono ?_
      rintro e w7 ⟨rfl, hg7⟩
      rw [hE, hF]
      have hG7 := hid (grown_trans hG6.out hg7)
      have hM7 := hid (hM6.out.grown hg7)
      clear hg7 hE hF
      have cv := conv_arr w7 (some ⟨h, 0, none⟩) 4 m hM7.out
      rw [hlm] at cv
      generalize strOfNums m = sa at cv hse
      have hn : Hid ((!sa.toList == [84, 83, 76, 49]) = true) := by
        have : (⟨#[84, 83, 76, 49]⟩ : ByteArray).toList = [84, 83, 76, 49] := by decide +kernel
        rw [this] at hse
        rw [Hid, hse]; rfl
      replace hse := hid hse
      go_wp2_with fail
      · refine (pwakes_true _).mono ?_
        rintro e w8 ⟨rfl, hg8⟩
        have hG8 := hid (grown_trans hG7.out hg8)
        clear hg8
        go_wp2_with fail
        go_ret
        exact ⟨rfl, hG8.out⟩
      all_goals
        exact Bool.noConfusion (hn.out.symm.trans ‹(!sa.toList == [84, 83, 76, 49]) = false›)

theorem phead_walk (a b c d x v : Int) (A : Option Addr) (c2 : Nat) (z : List Int) (w : World) (hm : Bytes [a, b, c, d]) (hx : 0 ≤ x ∧ x ≤ 255) (hv : 0 ≤ v ∧ v ≤ 4294967295) (hb : Bytes z) (hA : Arr w .u8 A z) :
    Calls Try.prog 7 #[.agg #[.int .u8 a, .int .u8 b, .int .u8 c, .int .u8 d], .int .u8 x, .slice A z.length c2, .int .u32 v] w fun e w' => e = .returned (.bool true) ∧ w.grownBy w' none := by
  by_cases hl : z.length ≤ 300
  · exact phead_in a b c d x v A c2 z w hm hx hv hb hA hl
  · have d3 : (300 : Int) < (z.length : Int) := by omega
    clear hb hA hm hx hv
    go_enter Try.func7, Try.ntmps7
    go_wp2_with fail
    refine (pwakes_true _).mono ?_
    rintro e w' ⟨rfl, hg⟩
    go_wp2_with fail
    go_ret
    exact ⟨rfl, grown_trans (grown_alloc (grown_refl w none) _) hg⟩
end Go.Proofs.Ytghnbfphhmgcpaa
