/- What the document's own examples of packed words come to. -/
import Derived.Test.YtghnbfphhmgcpaaKWrite
import Derived.Test.YtghnbfphhmgcpaaKRead
import Derived.Test.YtghnbfphhmgcpaaKSame
import Derived.Deep.CutRange
set_option linter.unusedSimpArgs false
set_option linter.unusedVariables false
namespace Go.Proofs.Ytghnbfphhmgcpaa
open Go.RowKit Plain PlainSum PlainPacked

theorem put_none : put false [] = [84, 83, 76, 49, 0, 0, 5, 96, 1, 37] := by
  unfold put aheadOf
  simp only [words, List.length_nil, enc_small 0 (by decide)]
  decide +kernel
theorem put_two : put true [[104, 101], [97]] = [84, 83, 76, 49, 1, 2, 2, 104, 101, 1, 97, 14, 104, 2, 89] := by
  unfold put aheadOf
  simp only [words, List.length_nil, List.length_cons, Nat.zero_add, Nat.reduceAdd, enc_small 1 (by decide), enc_small 2 (by decide)]
  decide +kernel
theorem got_two : got [84, 83, 76, 49, 1, 2, 2, 104, 101, 1, 97, 14, 104, 2, 89] = (true, [[104, 101], [97]], 0) := by
  rw [← put_two]; exact got_put true _ ⟨by decide, by decide⟩
theorem got_no : got [84, 83, 76, 49, 0, 0, 5, 96, 1, 37] = (false, [], 0) := by
  rw [← put_none]; exact got_put false _ ⟨by decide, by decide⟩
theorem got_few : got [84, 83, 76, 49] = (false, [], 10) := by decide
theorem size_two : (put false [[104, 101], [97]]).length = 15 := by
  rw [len_put]
  simp only [words, List.length_nil, List.length_cons, Nat.zero_add, Nat.reduceAdd, enc_small 1 (by decide), enc_small 2 (by decide)]
  decide
theorem head_magic : headErr [84, 83, 76, 50, 48, 48, 48, 48, 48, 48] = 40 ∧ headFold [84, 83, 76, 50, 48, 48, 48, 48, 48, 48] = false := by decide +kernel
theorem head_flags : headErr [84, 83, 76, 49, 50, 48, 48, 48, 48, 48] = 41 ∧ headFold [84, 83, 76, 49, 50, 48, 48, 48, 48, 48] = false := by decide +kernel
theorem head_sum : headErr [84, 83, 76, 49, 0, 48, 48, 48, 48, 48] = 42 ∧ headFold [84, 83, 76, 49, 0, 48, 48, 48, 48, 48] = false := by decide +kernel

theorem str_none : strOfNums [84, 83, 76, 49, 0, 0] = ⟨#[84, 83, 76, 49, 0, 0]⟩ := by decide +kernel
theorem str_two : strOfNums [84, 83, 76, 49, 1, 2, 2, 104, 101, 1, 97] = ⟨#[84, 83, 76, 49, 1, 2, 2, 104, 101, 1, 97]⟩ := by decide +kernel
theorem str_he : strOfNums [104, 101] = ⟨#[104, 101]⟩ := by decide +kernel
theorem str_a : strOfNums [97] = ⟨#[97]⟩ := by decide +kernel

theorem bytes_all (l : List Int) (h : l.all (fun x => decide (0 ≤ x ∧ x ≤ 255)) = true) : Bytes l := fun k => by
  by_cases hk : k < l.length
  · have := List.all_eq_true.1 h (l.getD k 0) (by simp [List.getD, hk])
    simpa using this
  · simp [List.getD, List.getElem?_eq_none (Nat.le_of_not_lt hk)]
theorem allBytes_all (l : List (List Int)) (h : l.all (fun b => b.all (fun x => decide (0 ≤ x ∧ x ≤ 255))) = true) : AllBytes l := fun k => by
  by_cases hk : k < l.length
  · exact bytes_all _ (List.all_eq_true.1 h (l.getD k []) (by simp [List.getD, hk]))
  · simp only [List.getD, List.getElem?_eq_none (Nat.le_of_not_lt hk), Option.getD_none]
    exact fun i => by simp

theorem put_lit (f : Bool) (P : Option Addr) (d : Nat) (xss : List (List Int)) (zs : List Int) (w : World) (hr : put f xss = zs) (hb : xss.all (fun b => b.all (fun x => decide (0 ≤ x ∧ x ≤ 255))) = true) (hl : xss.length ≤ 3000 ∧ xss.flatten.length ≤ 3000) (hP : Arrs w P xss) :
    Calls Try.prog 15 #[.bool f, .slice P xss.length d] w fun e w' => ∃ A c, e = .returned (.slice A zs.length c) ∧ zs.length ≤ c ∧ c ≤ maxLen ∧ Arr w' .u8 A zs ∧ w.grownBy w' none := by
  subst hr
  exact (packPut_is f P d xss w hl.1 hl.2 (allBytes_all _ hb) hP).mono fun e w' h => h.arr

theorem take_lit (A : Option Addr) (c : Nat) (bs : List Int) (r : Bool × List (List Int) × Int) (w : World) (hr : got bs = r) (hb : bs.all (fun x => decide (0 ≤ x ∧ x ≤ 255)) = true) (hl : bs.length ≤ 100000) (hc : bs.length ≤ c) (hc2 : c ≤ maxLen) (hA : Arr w .u8 A bs) :
    Calls Try.prog 10 #[.slice A bs.length c] w fun e w' => ∃ A c, e = .returned (.tuple #[.bool r.1, .slice A r.2.1.length c, .int .i64 r.2.2]) ∧ Arrs w' A r.2.1 ∧ w.grownBy w' none := by
  subst hr
  refine (packTake_is A c bs w hl hc hc2 (bytes_all _ hb) hA).mono ?_
  rintro e w' ⟨A2, c2, l, rfl, hm, hr, hg⟩
  obtain ⟨_, hR⟩ := hr.arrs
  rw [hm] at hR
  exact ⟨A2, c2, by rw [← hm, List.length_map], hR, hg⟩

theorem head_lit (A : Option Addr) (c : Nat) (bs : List Int) (f : Bool) (er : Int) (w : World) (hr : headErr bs = er ∧ headFold bs = f) (hb : bs.all (fun x => decide (0 ≤ x ∧ x ≤ 255)) = true) (hl : bs.length ≤ 100000) (hc : bs.length ≤ c) (hc2 : c ≤ maxLen) (hA : Arr w .u8 A bs) :
    Calls Try.prog 12 #[.slice A bs.length c] w fun e w' => e = .returned (.tuple #[.bool f, .int .i64 er]) ∧ w.grownBy w' none := by
  obtain ⟨rfl, rfl⟩ := hr
  exact packHead_is A c bs w hl hc hc2 (bytes_all _ hb) hA

theorem size_lit (P : Option Addr) (d : Nat) (xss : List (List Int)) (n : Nat) (w : World) (hr : (put false xss).length = n) (hb : xss.all (fun b => b.all (fun x => decide (0 ≤ x ∧ x ≤ 255))) = true) (hl : xss.length ≤ 3000 ∧ xss.flatten.length ≤ 3000) (hP : Arrs w P xss) :
    Calls Try.prog 17 #[.slice P xss.length d] w fun e w' => e = .returned (.int .i64 n) ∧ w.grownBy w' none := by
  subst hr
  exact packSize_is P d xss w hl.1 hl.2 (allBytes_all _ hb) hP

theorem same_lit (A B : Option Addr) (c d : Nat) (xss yss : List (List Int)) (r : Bool) (w : World) (hr : decide (xss = yss) = r) (hx : xss.all (fun b => b.all (fun x => decide (0 ≤ x ∧ x ≤ 255))) = true) (hy : yss.all (fun b => b.all (fun x => decide (0 ≤ x ∧ x ≤ 255))) = true)
    (hl : xss.length ≤ 80) (hA : Arrs w A xss) (hB : Arrs w B yss) :
    Calls Try.prog 18 #[.slice A xss.length c, .slice B yss.length d] w fun e w' => e = .returned (.bool r) ∧ w.grownBy w' none := by
  subst hr
  exact packSame_is A B c d xss yss w (by omega) hA hB (allBytes_all _ hx) (allBytes_all _ hy)

theorem two_at (W : World) : Arrs (((W.alloc (.cells #[.int .u8 104, .int .u8 101] 5 (2, 3))).alloc (.cells #[.int .u8 97] 5 (1, 2))).alloc (.cells #[.slice (some ⟨W.heap.size, 0, none⟩) 2 2, .slice (some ⟨W.heap.size + 1, 0, none⟩) 1 1] 23))
    (some ⟨W.heap.size + 1 + 1, 0, none⟩) [[104, 101], [97]] := by
  have h := row_at (w := (W.alloc (.cells #[.int .u8 104, .int .u8 101] 5 (2, 3))).alloc (.cells #[.int .u8 97] 5 (1, 2))) 2 [(some ⟨W.heap.size, 0, none⟩, [104, 101], 2), (some ⟨W.heap.size + 1, 0, none⟩, [97], 1)] (by
    intro x hx
    simp only [List.mem_cons, List.not_mem_nil, or_false] at hx
    rcases hx with rfl | rfl
    · exact (const_at [104, 101] (2, 3) rfl).grown (grown_alloc (grown_refl _ _) _)
    · exact const_at [97] (1, 2) (by simp))
  simpa using h

theorem grown3 {W : World} (a b c : Obj) : W.grownBy (((W.alloc a).alloc b).alloc c) none := grown_alloc (grown_alloc (grown_alloc (grown_refl W none) _) _) _

set_option maxRecDepth 100000 in
set_option maxHeartbeats 3000000 in
theorem pwakes_true (w : World) : Calls Try.prog 9 #[] w fun e w' => e = .returned (.bool true) ∧ w.grownBy w' none := by
  have kc := conv_const
  go_enter Try.func9, Try.ntmps9
  go_wp2_with fail
  refine (put_lit false none 0 [] _ _ put_none (by decide) (by decide) (Arrs.nil _ _)).mono ?_
  rintro e W1 ⟨A1, c1, rfl, hc1, hm1, h1, hg1⟩
  simp only [List.length_cons, List.length_nil, Nat.zero_add, Nat.reduceAdd] at hc1 ⊢
  have hG := hid hg1
  have H1 := hid h1
  replace hm1 := hid hm1
  clear hg1 h1
  go_wp2_with fail
  refine (put_lit true _ 2 [[104, 101], [97]] _ _ put_two (by decide) (by decide) (two_at W1)).mono ?_
  rintro e W2 ⟨A2, c2, rfl, hc2, hm2, h2, hg2⟩
  simp only [List.length_cons, List.length_nil, Nat.zero_add, Nat.reduceAdd] at hc2 ⊢
  replace hg2 := grown_trans (grown3 _ _ _) hg2
  replace hG := hid (grown_trans hG.out hg2)
  replace H1 := hid (H1.out.grown hg2)
  have H2 := hid h2
  replace hm2 := hid hm2
  clear hg2 h2
  go_wp2_with fail
  refine (take_lit A2 c2 [84, 83, 76, 49, 1, 2, 2, 104, 101, 1, 97, 14, 104, 2, 89] _ _ got_two (by decide) (by decide) hc2 hm2.out H2.out).mono ?_
  rintro e W3 ⟨A3, c3, rfl, h3, hg3⟩
  simp only [List.length_cons, List.length_nil, Nat.zero_add, Nat.reduceAdd]
  replace hG := hid (grown_trans hG.out hg3)
  replace H1 := hid (H1.out.grown hg3)
  replace H2 := hid (H2.out.grown hg3)
  have H3 := hid h3
  clear hg3 h3
  go_wp2_with fail
  refine (take_lit A1 c1 [84, 83, 76, 49, 0, 0, 5, 96, 1, 37] _ _ got_no (by decide) (by decide) hc1 hm1.out H1.out).mono ?_
  rintro e W4 ⟨A4, c4, rfl, _, hg3⟩
  simp only [List.length_cons, List.length_nil, Nat.zero_add, Nat.reduceAdd]
  replace hG := hid (grown_trans hG.out hg3)
  replace H1 := hid (H1.out.grown hg3)
  replace H2 := hid (H2.out.grown hg3)
  replace H3 := hid (H3.out.grown hg3)
  clear hg3
  go_wp2_with fail
  refine (take_lit _ 4 [84, 83, 76, 49] _ _ got_few (by decide) (by decide) (by decide) (by decide) (const_at [84, 83, 76, 49] (4, 5) rfl)).mono ?_
  rintro e W5 ⟨A5, c5, rfl, _, hg3⟩
  simp only [List.length_cons, List.length_nil, Nat.zero_add, Nat.reduceAdd]
  replace hg3 := grown_trans (grown_alloc (grown_refl W4 none) _) hg3
  replace hG := hid (grown_trans hG.out hg3)
  replace H1 := hid (H1.out.grown hg3)
  replace H2 := hid (H2.out.grown hg3)
  replace H3 := hid (H3.out.grown hg3)
  clear hg3
  go_wp2_with fail
  refine (head_lit _ 10 [84, 83, 76, 50, 48, 48, 48, 48, 48, 48] _ _ _ head_magic (by decide) (by decide) (by decide) (by decide) (const_at [84, 83, 76, 50, 48, 48, 48, 48, 48, 48] (10, 11) rfl)).mono ?_
  rintro e W6 ⟨rfl, hg3⟩
  replace hg3 := grown_trans (grown_alloc (grown_refl W5 none) _) hg3
  replace hG := hid (grown_trans hG.out hg3)
  replace H1 := hid (H1.out.grown hg3)
  replace H2 := hid (H2.out.grown hg3)
  replace H3 := hid (H3.out.grown hg3)
  clear hg3
  go_wp2_with fail
  refine (head_lit _ 10 [84, 83, 76, 49, 50, 48, 48, 48, 48, 48] _ _ _ head_flags (by decide) (by decide) (by decide) (by decide) (const_at [84, 83, 76, 49, 50, 48, 48, 48, 48, 48] (10, 11) rfl)).mono ?_
  rintro e W7 ⟨rfl, hg3⟩
  replace hg3 := grown_trans (grown_alloc (grown_refl W6 none) _) hg3
  replace hG := hid (grown_trans hG.out hg3)
  replace H1 := hid (H1.out.grown hg3)
  replace H2 := hid (H2.out.grown hg3)
  replace H3 := hid (H3.out.grown hg3)
  clear hg3
  go_wp2_with fail
  refine (head_lit _ 10 [84, 83, 76, 49, 0, 48, 48, 48, 48, 48] _ _ _ head_sum (by decide) (by decide) (by decide) (by decide) (const_at [84, 83, 76, 49, 0, 48, 48, 48, 48, 48] (10, 11) rfl)).mono ?_
  rintro e W8 ⟨rfl, hg3⟩
  replace hg3 := grown_trans (grown_alloc (grown_refl W7 none) _) hg3
  replace hG := hid (grown_trans hG.out hg3)
  replace H1 := hid (H1.out.grown hg3)
  replace H2 := hid (H2.out.grown hg3)
  replace H3 := hid (H3.out.grown hg3)
  clear hg3
  have cv1 := conv_arr W8 A1 c1 [84, 83, 76, 49, 0, 0] (by have := H1.out.take 6; simpa using this)
  have cv2 := conv_arr W8 A2 c2 [84, 83, 76, 49, 1, 2, 2, 104, 101, 1, 97] (by have := H2.out.take 11; simpa using this)
  rw [str_none] at cv1
  rw [str_two] at cv2
  simp only [List.length_cons, List.length_nil, Nat.zero_add, Nat.reduceAdd] at cv1 cv2
  obtain ⟨b3, off3, rfl, hb3, hx3⟩ := H3.out (by simp)
  obtain ⟨X0, d0, hl0, hA0⟩ := hx3 0 (by simp)
  obtain ⟨X1, d1, hl1, hA1⟩ := hx3 1 (by simp)
  simp only [List.getD_cons_zero, List.getD_cons_succ] at hl0 hl1 hA0 hA1
  have cv3 := conv_arr W8 X0 d0 [104, 101] hA0
  have cv4 := conv_arr W8 X1 d1 [97] hA1
  rw [str_he] at cv3
  rw [str_a] at cv4
  simp only [List.length_cons, List.length_nil, Nat.zero_add, Nat.reduceAdd, Nat.add_zero] at cv3 cv4 hl0 hl1
  unfold maxLen at hm1 hm2
  have m1 := hm1.out
  have m2 := hm2.out
  clear hx3 hA0 hA1
  go_wp2_with fail
  clear cv1 cv2 cv3 cv4 hl0 hl1
  refine (size_lit _ 2 [[104, 101], [97]] _ _ size_two (by decide) (by decide) (two_at W8)).mono ?_
  rintro e W9 ⟨rfl, hg3⟩
  replace hg3 := grown_trans (grown3 _ _ _) hg3
  replace hG := hid (grown_trans hG.out hg3)
  replace H3 := hid (H3.out.grown hg3)
  clear hg3
  go_wp2_with fail
  refine (same_lit _ _ c3 c3 [[104, 101], [97]] [[104, 101], [97]] true _ (by decide) (by decide) (by decide) (by decide) H3.out H3.out).mono ?_
  rintro e W10 ⟨rfl, hg3⟩
  replace hG := hid (grown_trans hG.out hg3)
  replace H3 := hid (H3.out.grown hg3)
  clear hg3
  go_wp2_with fail
  refine (same_lit _ none c3 0 [[104, 101], [97]] [] false _ (by decide) (by decide) (by decide) (by decide) H3.out (Arrs.nil _ _)).mono ?_
  rintro e W11 ⟨rfl, hg3⟩
  replace hG := hid (grown_trans hG.out hg3)
  clear hg3 H3
  go_wp2_with fail
  go_ret
  exact ⟨rfl, hG.out⟩
end Go.Proofs.Ytghnbfphhmgcpaa
