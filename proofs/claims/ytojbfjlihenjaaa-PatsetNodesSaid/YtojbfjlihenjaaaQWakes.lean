/- What the document's own examples of sets come to. -/
import Derived.Test.YtojbfjlihenjaaaPatset
import Derived.Test.YtojbfjlihenjaaaQWords
import Derived.Test.YtojbfjlihenjaaaConst
import Derived.Deep.CutRange
set_option linter.unusedSimpArgs false
set_option linter.unusedVariables false
namespace Go.Proofs.Ytojbfjlihenjaaa
open Go.RowKit PlainLetter PlainPatset

theorem qb_all (l : List Int) (h : l.all (fun x => decide (0 ≤ x ∧ x ≤ 255)) = true) : Bytes l := fun k => by
  by_cases hk : k < l.length
  · have := List.all_eq_true.1 h (l.getD k 0) (by simp [List.getD, hk])
    simpa using this
  · simp [List.getD, List.getElem?_eq_none (Nat.le_of_not_lt hk)]
theorem qbs_all (l : List (List Int)) (h : l.all (fun b => b.all (fun x => decide (0 ≤ x ∧ x ≤ 255))) = true) : ∀ k, Bytes (l.getD k []) := fun k => by
  by_cases hk : k < l.length
  · exact qb_all _ (List.all_eq_true.1 h (l.getD k []) (by simp [List.getD, hk]))
  · simp only [List.getD, List.getElem?_eq_none (Nat.le_of_not_lt hk), Option.getD_none]
    exact fun i => by simp

def many (n : Nat) : List (List Int) := (List.range n).map fun (k : Nat) => [(k : Int)]
theorem many_succ (n : Nat) : many (n + 1) = many n ++ [[(n : Int)]] := by simp [many, List.range_succ]
theorem many_len (n : Nat) : (many n).length = n := by simp [many]
theorem arrs_take {w : World} {A : Option Addr} {xss : List (List Int)} (h : Arrs w A xss) (n : Nat) : Arrs w A (xss.take n) := fun hz => by
  obtain ⟨b, off, h1, h2, h3⟩ := h (fun e => hz (by rw [e]; simp))
  refine ⟨b, off, h1, h2, fun i hi => ?_⟩
  have hi' : i < n ∧ i < xss.length := by have := hi; simp only [List.length_take] at this; omega
  have := h3 i hi'.2
  simpa [List.getD, List.getElem?_take, hi'.1] using this
theorem many_take : (many 65).take 64 = many 64 := by decide +kernel

def four : List (List Int) := [[104, 101], [115, 104, 101], [72, 101], [104, 101, 114]]
def three : List (List Int) := [[104, 101], [115, 104, 101], [104, 101, 114]]
def two : List (List Int) := [[104, 101], [72, 101]]
def long34 : List Int := [48, 49, 50, 51, 52, 53, 54, 55, 56, 57, 48, 49, 50, 51, 52, 53, 54, 55, 56, 57, 48, 49, 50, 51, 52, 53, 54, 55, 56, 57, 48, 49, 50, 51]
theorem len_four : four.length = 4 := rfl
theorem len_three : three.length = 3 := rfl
theorem len_two : two.length = 2 := rfl
theorem p_check_four : check true four = 0 := by decide +kernel
theorem p_make_four : makeWords true four = three := by decide +kernel
theorem p_nodes_four : nodes true four = 7 := by decide +kernel
theorem p_number_she : number true three [83, 72, 69] = (1, true) := by decide +kernel
theorem p_number_sh : number true three [115, 104] = (0, false) := by decide +kernel
theorem p_check_no : check false [] = 50 := by decide +kernel
theorem p_check_two : check false two = 0 := by decide +kernel
theorem p_make_two : makeWords false two = two := by decide +kernel
theorem p_nodes_no : nodes false [] = 1 := by decide +kernel
theorem p_check_long : check false [long34] = 53 := by decide +kernel
theorem p_check_long2 : check false [long34, []] = 52 := by decide +kernel
theorem p_check_many : check false (many 65) = 51 := by decide +kernel
theorem p_check_most : check false (many 64) = 0 := by decide +kernel
theorem p_right : right true three = true := by decide +kernel
theorem p_right_no : right false [] = false := by decide +kernel
theorem p_right_he : right true [[72, 101]] = false := by decide +kernel
theorem p_longest : longest three = 3 := by decide +kernel

theorem q_he : strOfNums [104, 101] = ⟨#[104, 101]⟩ := by decide +kernel
theorem q_she : strOfNums [115, 104, 101] = ⟨#[115, 104, 101]⟩ := by decide +kernel
theorem q_He : strOfNums [72, 101] = ⟨#[72, 101]⟩ := by decide +kernel
theorem q_her : strOfNums [104, 101, 114] = ⟨#[104, 101, 114]⟩ := by decide +kernel
theorem q_long : strOfNums long34 = ⟨#[48, 49, 50, 51, 52, 53, 54, 55, 56, 57, 48, 49, 50, 51, 52, 53, 54, 55, 56, 57, 48, 49, 50, 51, 52, 53, 54, 55, 56, 57, 48, 49, 50, 51]⟩ := by decide +kernel
theorem q_none : strOfNums [] = ⟨#[]⟩ := by decide +kernel

theorem words_at (xss : List (List Int)) (ss : Array Value) (c : Nat) (w : World) (hs : (xss.map fun x => Value.string (strOfNums x)).toArray = ss) (hb : xss.all (fun b => b.all (fun x => decide (0 ≤ x ∧ x ≤ 255))) = true) (hl : xss.length ≤ 1000) :
    Calls Try.prog 28 #[.slice (some ⟨w.heap.size, 0, none⟩) xss.length c] (w.alloc (.cells ss 9)) fun e w' => ∃ A cA, e = .returned (.slice A xss.length cA) ∧ Arrs w' A xss ∧ w.grownBy w' none := by
  subst hs
  refine (words_is w.heap.size c xss _ (by omega) (qbs_all _ hb) (Holds.new _ _ _)).mono ?_
  rintro e w' ⟨A, cA, rfl, h1, h2⟩
  exact ⟨A, cA, rfl, h1, grown_trans (grown_alloc (grown_refl w none) _) h2⟩

theorem words_lit (g c : Nat) (xss : List (List Int)) (ss : Array Value) (w : World) (hs : (xss.map fun x => Value.string (strOfNums x)).toArray = ss) (hb : xss.all (fun b => b.all (fun x => decide (0 ≤ x ∧ x ≤ 255))) = true) (hl : xss.length ≤ 1000) (hH : Holds w g 9 ss) :
    Calls Try.prog 28 #[.slice (some ⟨g, 0, none⟩) xss.length c] w fun e w' => ∃ A cA, e = .returned (.slice A xss.length cA) ∧ Arrs w' A xss ∧ w.grownBy w' none := by
  subst hs
  exact words_is g c xss _ (by omega) (qbs_all _ hb) hH

def isBlk (t : TypeId) (n : Nat) (xs : Array Value) : Fact := fun v w => ∃ g, v = .slice (some ⟨g, 0, none⟩) n n ∧ Holds w g t xs
def isRows (n : Nat) (xss : List (List Int)) : Fact := fun v w => ∃ P d, v = .slice P n d ∧ Arrs w P xss
def isSetV (f : Bool) (n : Nat) (xss : List (List Int)) : Fact := fun v w => ∃ P d, v = .agg #[.bool f, .slice P n d] ∧ Arrs w P xss
theorem stable_isBlk (t : TypeId) (n : Nat) (xs : Array Value) : Stable (isBlk t n xs) := fun _ _ _ ⟨g, h1, h2⟩ hg => ⟨g, h1, h2.kept0 hg⟩
theorem stable_isRows (n : Nat) (xss : List (List Int)) : Stable (isRows n xss) := fun _ _ _ ⟨P, d, h1, h2⟩ hg => ⟨P, d, h1, h2.grown hg⟩
theorem stable_isSetV (f : Bool) (n : Nat) (xss : List (List Int)) : Stable (isSetV f n xss) := fun _ _ _ ⟨P, d, h1, h2⟩ hg => ⟨P, d, h1, h2.grown hg⟩

theorem make_lit (f : Bool) (P : Option Addr) (c : Nat) (xss zs : List (List Int)) (w : World) (hc : check f xss = 0) (hm : makeWords f xss = zs) (hb : xss.all (fun b => b.all (fun x => decide (0 ≤ x ∧ x ≤ 255))) = true) (hl : xss.length ≤ 1000 ∧ xss.flatten.length ≤ 10000) (hP : Arrs w P xss) :
    Calls Try.prog 11 #[.bool f, .slice P xss.length c] w fun e w' => ∃ A cA, e = .returned (.tuple #[.agg #[.bool f, .slice A zs.length cA], .int .i64 0]) ∧ Arrs w' A zs ∧ w.grownBy w' none := by
  subst hm
  refine (patMake_is f P c xss w hl.1 hl.2 (qbs_all _ hb) hP).mono ?_
  rintro e w' ⟨v, rfl, hv, hg⟩
  rw [if_pos hc] at hv
  obtain ⟨A, cA, l, rfl, hm, hr⟩ := hv
  have h2 := hr.arrs.2
  rw [hm] at h2
  exact ⟨A, cA, by rw [hc, ← hm, List.length_map], h2, hg⟩

theorem make_err (f : Bool) (P : Option Addr) (c : Nat) (xss : List (List Int)) (er : Int) (w : World) (hc : check f xss = er) (h0 : er ≠ 0) (hb : xss.all (fun b => b.all (fun x => decide (0 ≤ x ∧ x ≤ 255))) = true) (hl : xss.length ≤ 1000 ∧ xss.flatten.length ≤ 10000) (hP : Arrs w P xss) :
    Calls Try.prog 11 #[.bool f, .slice P xss.length c] w fun e w' => e = .returned (.tuple #[.agg #[.bool false, .slice none 0 0], .int .i64 er]) ∧ w.grownBy w' none := by
  subst hc
  refine (patMake_is f P c xss w hl.1 hl.2 (qbs_all _ hb) hP).mono ?_
  rintro e w' ⟨v, rfl, hv, hg⟩
  rw [if_neg h0] at hv
  subst hv
  exact ⟨rfl, hg⟩

theorem check_lit (f : Bool) (P : Option Addr) (c : Nat) (xss : List (List Int)) (er : Int) (w : World) (hc : check f xss = er) (hb : xss.all (fun b => b.all (fun x => decide (0 ≤ x ∧ x ≤ 255))) = true) (hl : xss.length ≤ 1000 ∧ xss.flatten.length ≤ 10000) (hP : Arrs w P xss) :
    Calls Try.prog 16 #[.bool f, .slice P xss.length c] w fun e w' => e = .returned (.int .i64 er) ∧ w.grownBy w' none := by
  subst hc
  exact patCheck_is f P c xss w hl.1 hl.2 (qbs_all _ hb) hP

theorem nodes_lit (f : Bool) (P : Option Addr) (c : Nat) (xss : List (List Int)) (n : Nat) (w : World) (hc : nodes f xss = n) (hb : xss.all (fun b => b.all (fun x => decide (0 ≤ x ∧ x ≤ 255))) = true) (hl : xss.length ≤ 1000 ∧ xss.flatten.length ≤ 10000) (hP : Arrs w P xss) :
    Calls Try.prog 18 #[.bool f, .slice P xss.length c] w fun e w' => e = .returned (.int .i64 (n : Nat)) ∧ w.grownBy w' none := by
  subst hc
  exact patNodes_is f P c xss w hl.1 hl.2 (qbs_all _ hb) hP

theorem number_lit (f : Bool) (P A : Option Addr) (c d : Nat) (xss : List (List Int)) (x : List Int) (n : Int) (ok : Bool) (w : World) (hr : number f xss x = (n, ok)) (hb : xss.all (fun b => b.all (fun x => decide (0 ≤ x ∧ x ≤ 255))) = true) (hl : xss.length ≤ 1000 ∧ xss.flatten.length ≤ 10000)
    (hx : x.all (fun x => decide (0 ≤ x ∧ x ≤ 255)) = true) (hxl : x.length ≤ 10000) (hA : Arr w .u8 A x) (hP : Arrs w P xss) :
    Calls Try.prog 13 #[.agg #[.bool f, .slice P xss.length c], .slice A x.length d] w fun e w' => e = .returned (.tuple #[.int .i64 n, .bool ok]) ∧ w.grownBy w' none := by
  have h := patNumber_is f P A c d xss x w hxl (qb_all _ hx) hA hP hl.1 hl.2 (qbs_all _ hb)
  rw [hr] at h
  exact h

theorem right_lit (f : Bool) (P : Option Addr) (c : Nat) (xss : List (List Int)) (r : Bool) (w : World) (hc : right f xss = r) (hb : xss.all (fun b => b.all (fun x => decide (0 ≤ x ∧ x ≤ 255))) = true) (hl : xss.length ≤ 1000 ∧ xss.flatten.length ≤ 10000) (hP : Arrs w P xss) :
    Calls Try.prog 20 #[.agg #[.bool f, .slice P xss.length c]] w fun e w' => e = .returned (.bool r) ∧ w.grownBy w' none := by
  subst hc
  exact patRight_is f P c xss w hl.1 hl.2 (qbs_all _ hb) hP

theorem longest_lit (f : Bool) (P : Option Addr) (c : Nat) (xss : List (List Int)) (n : Nat) (w : World) (hc : longest xss = n) (hl : xss.length ≤ 1000 ∧ xss.flatten.length ≤ 10000) (hP : Arrs w P xss) :
    Calls Try.prog 22 #[.agg #[.bool f, .slice P xss.length c]] w fun e w' => e = .returned (.int .i64 (n : Nat)) ∧ w.grownBy w' none := by
  subst hc
  exact patLongest_is f P c xss w hl.1 hl.2 hP

theorem own_lit (f : Bool) (P : Option Addr) (c : Nat) (xss : List (List Int)) (w : World) (hl : xss.length ≤ 1000 ∧ xss.flatten.length ≤ 10000) (hP : Arrs w P xss) :
    Calls Try.prog 25 #[.agg #[.bool f, .slice P xss.length c]] w fun e w' => ∃ A cA, e = .returned (.agg #[.bool f, .slice A xss.length cA]) ∧ Arrs w' A xss ∧ w.grownBy w' none := by
  refine (patOwn_is f P c xss w hl.1 hl.2 hP).mono ?_
  rintro e w' ⟨v, rfl, ⟨A, cA, l, rfl, hm, hr⟩, hg⟩
  have h2 := hr.arrs.2
  rw [hm] at h2
  exact ⟨A, cA, by rw [← hm, List.length_map], h2, hg⟩

theorem set_lit (f g : Bool) (P Q : Option Addr) (c d : Nat) (xss yss : List (List Int)) (r : Bool) (w : World) (hr : decide (f = g ∧ xss = yss) = r) (hl : xss.length ≤ 1000) (hx : xss.all (fun b => b.all (fun x => decide (0 ≤ x ∧ x ≤ 255))) = true) (hy : yss.all (fun b => b.all (fun x => decide (0 ≤ x ∧ x ≤ 255))) = true) (hP : Arrs w P xss) (hQ : Arrs w Q yss) :
    Calls Try.prog 24 #[.agg #[.bool f, .slice P xss.length c], .agg #[.bool g, .slice Q yss.length d]] w fun e w' => e = .returned (.bool r) ∧ w.grownBy w' none := by
  subst hr
  exact patSame_is f g P Q c d xss yss w hl hP hQ (qbs_all _ hx) (qbs_all _ hy)

set_option maxRecDepth 100000 in
set_option maxHeartbeats 8000000 in
theorem qwakes_true (w : World) : Calls Try.prog 10 #[] w fun e w' => e = .returned (.bool true) ∧ w.grownBy w' none := by
  have kc := conv_const
  obtain ⟨i3, hi3, hy0, hy1, hy2⟩ := info_parts Try.rowInfo
  go_enter Try.func10, Try.ntmps10
  go_wp2_with fail
  refine (words_at four _ 4 w (by simp only [List.map, four, q_he, q_she, q_He, q_her]) (by decide) (by decide)).mono ?_
  rintro e W1 ⟨P1, d1, rfl, ha, hg⟩
  try simp only [len_four, len_three, len_two, List.length_cons, List.length_nil, Nat.zero_add, Nat.reduceAdd]
  have hG := hid hg
  clear hg
  have F4 := hid ha
  clear ha
  go_wp2_with fail
  refine (make_lit true P1 d1 four three _ p_check_four p_make_four (by decide) (by decide) F4.out).mono ?_
  rintro e W2 ⟨A1, c1, rfl, ha, hg⟩
  try simp only [len_four, len_three, len_two, List.length_cons, List.length_nil, Nat.zero_add, Nat.reduceAdd]
  replace hG := hid (grown_trans hG.out hg)
  replace F4 := hid (F4.out.grown hg)
  clear hg
  have A3 := hid ha
  clear ha
  clear F4
  go_upto_region 2 with fail
  have H1 := hid (Holds.new W2 24 #[.bool true, .slice A1 3 c1])
  have hg := grown_alloc (grown_refl W2 none) (.cells #[.bool true, .slice A1 3 c1] 24)
  obtain ⟨W3, hW⟩ : ∃ W, W2.alloc (.cells #[.bool true, .slice A1 3 c1] 24) = W := ⟨_, rfl⟩
  rw [hW] at H1 hg ⊢
  clear hW
  obtain ⟨bH1, hbH1⟩ : ∃ b, W2.heap.size = b := ⟨_, rfl⟩
  rw [hbH1] at H1 ⊢
  replace hbH1 := hid hbH1
  replace hG := hid (grown_trans hG.out hg)
  replace A3 := hid (A3.out.grown hg)
  clear hg
  have c0H1 := H1.out.cell 0
  have c1H1 := H1.out.cell 1
  simp at c0H1 c1H1
  go_wp2_with fail
  refine (number_lit true A1 _ c1 3 three [83, 72, 69] _ _ _ p_number_she (by decide) (by decide) (by decide) (by decide) (const_at [83, 72, 69] (3, 4) rfl) (A3.out.grown (grown_alloc (grown_refl _ _) _))).mono ?_
  rintro e W4 ⟨rfl, hg⟩
  try simp only [len_four, len_three, len_two, List.length_cons, List.length_nil, Nat.zero_add, Nat.reduceAdd]
  clear c0H1 c1H1
  replace hg := grown_trans (grown_alloc (grown_refl W3 none) _) hg
  replace hG := hid (grown_trans hG.out hg)
  replace A3 := hid (A3.out.grown hg)
  replace H1 := hid (H1.out.kept0 hg)
  clear hg
  have c0H1 := H1.out.cell 0
  have c1H1 := H1.out.cell 1
  simp at c0H1 c1H1
  go_wp2_with fail
  refine (number_lit true A1 _ c1 2 three [115, 104] _ _ _ p_number_sh (by decide) (by decide) (by decide) (by decide) (const_at [115, 104] (2, 3) rfl) (A3.out.grown (grown_alloc (grown_refl _ _) _))).mono ?_
  rintro e W5 ⟨rfl, hg⟩
  try simp only [len_four, len_three, len_two, List.length_cons, List.length_nil, Nat.zero_add, Nat.reduceAdd]
  clear c0H1 c1H1
  replace hg := grown_trans (grown_alloc (grown_refl W4 none) _) hg
  replace hG := hid (grown_trans hG.out hg)
  replace A3 := hid (A3.out.grown hg)
  replace H1 := hid (H1.out.kept0 hg)
  clear hg
  have c0H1 := H1.out.cell 0
  have c1H1 := H1.out.cell 1
  simp at c0H1 c1H1
  go_wp2_with fail
  refine (make_err false none 0 [] _ _ p_check_no (by decide) (by decide) (by decide) (Arrs.nil _ _)).mono ?_
  rintro e W6 ⟨rfl, hg⟩
  try simp only [len_four, len_three, len_two, List.length_cons, List.length_nil, Nat.zero_add, Nat.reduceAdd]
  clear c0H1 c1H1
  replace hG := hid (grown_trans hG.out hg)
  replace A3 := hid (A3.out.grown hg)
  replace H1 := hid (H1.out.kept0 hg)
  clear hg
  go_upto_region 6 with fail
  have hg := grown_alloc (grown_refl W6 none) (.cells #[.bool false, .slice none 0 0] 24)
  obtain ⟨W7, hW⟩ : ∃ W, W6.alloc (.cells #[.bool false, .slice none 0 0] 24) = W := ⟨_, rfl⟩
  rw [hW] at hg ⊢
  clear hW
  replace hG := hid (grown_trans hG.out hg)
  replace A3 := hid (A3.out.grown hg)
  replace H1 := hid (H1.out.kept0 hg)
  clear hg
  have c0H1 := H1.out.cell 0
  have c1H1 := H1.out.cell 1
  simp at c0H1 c1H1
  go_wp2_with fail
  refine (words_at two _ 2 _ (by simp only [List.map, two, q_he, q_He]) (by decide) (by decide)).mono ?_
  rintro e W8 ⟨P2, d2, rfl, ha, hg⟩
  try simp only [len_four, len_three, len_two, List.length_cons, List.length_nil, Nat.zero_add, Nat.reduceAdd]
  clear c0H1 c1H1
  replace hG := hid (grown_trans hG.out hg)
  replace A3 := hid (A3.out.grown hg)
  replace H1 := hid (H1.out.kept0 hg)
  clear hg
  have F2 := hid ha
  clear ha
  have c0H1 := H1.out.cell 0
  have c1H1 := H1.out.cell 1
  simp at c0H1 c1H1
  go_wp2_with fail
  refine (make_lit false P2 d2 two two _ p_check_two p_make_two (by decide) (by decide) F2.out).mono ?_
  rintro e W9 ⟨A2, c2, rfl, ha, hg⟩
  try simp only [len_four, len_three, len_two, List.length_cons, List.length_nil, Nat.zero_add, Nat.reduceAdd]
  clear c0H1 c1H1
  replace hG := hid (grown_trans hG.out hg)
  replace A3 := hid (A3.out.grown hg)
  replace H1 := hid (H1.out.kept0 hg)
  replace F2 := hid (F2.out.grown hg)
  clear hg
  have A2w := hid ha
  clear ha
  clear F2
  go_upto_region 7 with fail
  have H2 := hid (Holds.new W9 24 #[.bool false, .slice A2 2 c2])
  have hg := grown_alloc (grown_refl W9 none) (.cells #[.bool false, .slice A2 2 c2] 24)
  obtain ⟨W10, hW⟩ : ∃ W, W9.alloc (.cells #[.bool false, .slice A2 2 c2] 24) = W := ⟨_, rfl⟩
  rw [hW] at H2 hg ⊢
  clear hW
  obtain ⟨bH2, hbH2⟩ : ∃ b, W9.heap.size = b := ⟨_, rfl⟩
  rw [hbH2] at H2 ⊢
  replace hbH2 := hid hbH2
  replace hG := hid (grown_trans hG.out hg)
  replace A3 := hid (A3.out.grown hg)
  replace H1 := hid (H1.out.kept0 hg)
  replace A2w := hid (A2w.out.grown hg)
  clear hg
  have c0H1 := H1.out.cell 0
  have c1H1 := H1.out.cell 1
  simp at c0H1 c1H1
  have c0H2 := H2.out.cell 0
  have c1H2 := H2.out.cell 1
  simp at c0H2 c1H2
  go_upto_region 10 with fail
  clear c0H1 c1H1
  clear c0H2 c1H2
  obtain ⟨B, hB⟩ : ∃ B, W10.heap.size = B := ⟨_, rfl⟩
  replace hB := hid hB
  go_wp2_with fail
  go_loopw [12, 13] (fun u v wr => ∃ (i : Nat) (l : List Sl), i ≤ 65 ∧ v = .int .i64 i ∧ Hid (l.map (·.2.1) = many i) ∧ wr.ownsRow B 25 1 u l.length (l.map slV) ∧ Hid (∀ x ∈ l, Strung wr x) ∧ W10.grownBy wr none) (fun _ v _ => 65 - (intOf v).toNat)
  case atStart => exact ⟨0, [], by omega, rfl, hid rfl, World.ownsRow_nil _ _ _ _, hid (fun x hx => by cases hx), grown_refl _ _⟩
  case round =>
    obtain ⟨i, l, hi1, rfl, hlm, hrow, hst, hg⟩ := hrel
    have hll : Hid (l.length = i) := hid (by have := congrArg List.length hlm.out; simpa [many_len] using this)
    by_cases hil : i < 65
    · have hil2 : (i : Int) < 65 := by omega
      have hs1 : Strung (wr.alloc (.cells #[.int .u8 i] 5)) (some ⟨wr.heap.size, 0, none⟩, [(i : Int)], 1) := ⟨wr.heap.size, _, _, rfl, World.alloc_heap_new wr _, fun j hj => by
        obtain rfl : j = 0 := by simpa using hj
        rfl⟩
      have hg1 := grown_alloc (grown_refl wr none) (.cells #[.int .u8 i] 5)
      have hrow1 := hid (own_kept0 hrow hg1)
      have hst1 : Hid (∀ z ∈ l, Strung (wr.alloc (.cells #[.int .u8 i] 5)) z) := hid (fun z hz => (hst.out z hz).grown hg1)
      have hS1 := hid hs1
      have hG1 := hid (grown_trans hg hg1)
      have hsz : Hid (B ≤ (wr.alloc (.cells #[.int .u8 i] 5)).heap.size) := hid (by rw [← hB.out]; exact hG1.out.size)
      clear hs1 hg1 hg hst hrow
      have i0' : (0 : Int) ≤ (i : Int) := by omega
      go_wp2_with (at_builtin; refine wpList_push_str rfl _ _ 22 rfl B i3 Try.underlying22 hi3 hy0 hy1 hy2 _ l (some ⟨wr.heap.size, 0, none⟩, [(i : Int)], 1) _ hrow1.out hst1.out hS1.out rfl (by show Value.slice (some ⟨wr.heap.size + 1, 0, none⟩) 1 1 = _; simp) (by rw [hll.out]; omega) hsz.out ?_; intro v8 w8 hrows8 hst8 hB8)
      have hg8 := hid (below_grown (Below.trans (below_of_grown hG1.out (Nat.le_refl _) (by simp)) (by rw [hB.out]; exact hB8)))
      clear hB8
      replace hrows8 := hid hrows8
      go_wp2_with fail
      go_roundw
      case rel => exact ⟨i + 1, l ++ [(some ⟨wr.heap.size, 0, none⟩, [(i : Int)], 1)], by omega, by go_num, hid (by rw [many_succ, ← hlm.out]; simp), hrows8.out, hid hst8, hg8.out⟩
      case measure => simp [intOf]; omega
    · obtain rfl : i = 65 := by omega
      obtain ⟨AM, cM, rfl, hcM, hmM⟩ := own_form hrow
      have ha := (rows_arrs hrow (fun z hz => (hst.out z hz).arr)).2
      rw [hlm.out] at ha
      rw [hll.out] at hcM ⊢
      clear hrow hst hlm hll hi1 hil
      obtain ⟨W11, hWr⟩ : ∃ W : World, W = wr := ⟨_, rfl⟩
      subst hWr
      have AM1 := hid ha
      clear ha
      replace A3 := hid (A3.out.grown hg)
      replace H1 := hid (H1.out.kept0 hg)
      replace A2w := hid (A2w.out.grown hg)
      replace H2 := hid (H2.out.kept0 hg)
      replace hG := hid (grown_trans hG.out hg)
      clear hg
      obtain ⟨ba, oa, Ah, ch, rfl, hbl, hch, hAh⟩ := A3.out.at_ (i := 2) (by decide)
      rw [show (three.getD 2 []).length = 3 from rfl] at hch
      replace hAh := hid hAh
      have e0 := hid (H1.out.cell 0)
      have e1 := hid (H1.out.cell 1)
      have e2 := hid (H2.out.cell 0)
      have e3 := hid (H2.out.cell 1)
      have e4 := hid hch
      simp at e0 e1 e2 e3
      have hl1 := hid H1.out.lt
      have hl2 := hid H2.out.lt
      have hl3 := hid hbl
      clear hch hbl
      go_upto_region 14 with fail
      apply wp_region_each [isv (.int .i64 0), isv (.bool true), isv (.bool true), isv (.pointer (some ⟨bH1, 1, none⟩)), isv (.slice (some ⟨ba, oa, none⟩) 3 c1), isv (.pointer (some ⟨ba, oa + 2, none⟩)), isv (.slice Ah 3 ch), isv (.string ⟨#[104, 101, 114]⟩), isv (.bool true), isv (.bool true), isv (.bool true), isv (.int .i64 1), isv (.bool true), isv (.bool true), isv (.bool true), isv (.bool true), isv (.bool true), isv (.bool true), isv (.bool false), isv (.bool true), isv (.bool true), isv (.bool true), isv (.int .i64 50), isv (.bool true), isv (.bool true), isv (.bool true), isv (.int .i64 0), isv (.bool true), isv (.bool true), isv (.bool true), isBlk 9 4 #[.string ⟨#[104, 101]⟩, .string ⟨#[115, 104, 101]⟩, .string ⟨#[72, 101]⟩, .string ⟨#[104, 101, 114]⟩], isRows 4 four, isv (.int .i64 7), isv (.bool true), isv (.bool true), isv (.bool true), isv (.int .i64 1), isv (.bool true), isv (.bool true), isv (.bool true), isv (.string ⟨#[48, 49, 50, 51, 52, 53, 54, 55, 56, 57, 48, 49, 50, 51, 52, 53, 54, 55, 56, 57, 48, 49, 50, 51, 52, 53, 54, 55, 56, 57, 48, 49, 50, 51]⟩), isBlk 9 1 #[.string ⟨#[48, 49, 50, 51, 52, 53, 54, 55, 56, 57, 48, 49, 50, 51, 52, 53, 54, 55, 56, 57, 48, 49, 50, 51, 52, 53, 54, 55, 56, 57, 48, 49, 50, 51]⟩], isRows 1 [long34], isv (.int .i64 53), isv (.bool true), isv (.bool true), isv (.bool true), isv (.string ⟨#[48, 49, 50, 51, 52, 53, 54, 55, 56, 57, 48, 49, 50, 51, 52, 53, 54, 55, 56, 57, 48, 49, 50, 51, 52, 53, 54, 55, 56, 57, 48, 49, 50, 51]⟩), isBlk 9 2 #[.string ⟨#[48, 49, 50, 51, 52, 53, 54, 55, 56, 57, 48, 49, 50, 51, 52, 53, 54, 55, 56, 57, 48, 49, 50, 51, 52, 53, 54, 55, 56, 57, 48, 49, 50, 51]⟩, .string ⟨#[]⟩], isRows 2 [long34, []], isv (.int .i64 52), isv (.bool true), isv (.bool true), isv (.bool true), isv (.slice AM 65 cM), isv (.int .i64 51), isv (.bool true), isv (.bool true), isv (.bool true), isv (.slice AM 65 cM), isv (.slice AM 64 cM), isv (.int .i64 0), isv (.bool true), isv (.bool true), isv (.bool true), isv (.agg #[.bool true, .slice (some ⟨ba, oa, none⟩) 3 c1]), isv (.bool true), isv (.bool true), isv (.bool true), isv (.agg #[.bool false, .slice none 0 0]), isv (.bool false), isv (.bool true), isv (.bool true), isv (.bool true), isBlk 9 1 #[.string ⟨#[72, 101]⟩], isRows 1 [[72, 101]], isSetV true 1 [[72, 101]], isv (.bool false), isv (.bool true), isv (.bool true), isv (.bool true), isv (.agg #[.bool true, .slice (some ⟨ba, oa, none⟩) 3 c1]), isv (.int .i64 3), isv (.bool true), isv (.bool true), isv (.bool true), isv (.agg #[.bool true, .slice (some ⟨ba, oa, none⟩) 3 c1]), isSetV true 3 three, isv (.agg #[.bool true, .slice (some ⟨ba, oa, none⟩) 3 c1]), isv (.bool true), isv (.bool true), isv (.bool true), isv (.agg #[.bool true, .slice (some ⟨ba, oa, none⟩) 3 c1]), isv (.agg #[.bool false, .slice A2 2 c2]), isv (.bool false), isv (.bool true), isv (.bool true), isv (.bool true)]
        161 [some 64, some 65, some 66, some 67, some 68, some 69, some 70, some 71, some 72, some 73, some 74, some 75, some 76, some 77, some 78, some 79, some 80, some 81, some 82, some 83, some 84, some 85, some 86, some 87, some 88, some 89, some 90, some 91, some 92, some 93, some 94, some 95, some 96, some 97, some 98, some 99, some 100, some 101, some 102, some 103, some 104, some 105, some 106, some 107, some 108, some 109, some 110, some 111, some 112, some 113, some 114, some 115, some 116, some 117, some 118, some 119, some 120, some 121, some 122, some 123, some 124, some 125, some 126, some 127, some 128, some 129, some 130, some 131, some 132, some 133, some 134, some 135, some 136, some 137, some 138, some 139, some 140, some 141, some 142, some 143, some 144, some 145, some 146, some 147, some 148, some 149, some 150, some 151, some 152, some 153, some 154, some 155, some 156, some 157, some 158, some 159, some 160, some 0]
        [some 64, some 65, some 66, some 67, some 68, some 69, some 70, some 71, some 72, some 73, some 74, some 75, some 76, some 77, some 78, some 79, some 80, some 81, some 82, some 83, some 84, some 85, some 86, some 87, some 88, some 89, some 90, some 91, some 92, some 93, some 94, some 95, some 96, some 97, some 98, some 99, some 100, some 101, some 102, some 103, some 104, some 105, some 106, some 107, some 108, some 109, some 110, some 111, some 112, some 113, some 114, some 115, some 116, some 117, some 118, some 119, some 120, some 121, some 122, some 123, some 124, some 125, some 126, some 127, some 128, some 129, some 130, some 131, some 132, some 133, some 134, some 135, some 136, some 137, some 138, some 139, some 140, some 141, some 142, some 143, some 144, some 145, some 146, some 147, some 148, some 149, some 150, some 151, some 152, some 153, some 154, some 155, some 156, some 157, some 158, some 159, some 160, some 0]
        [[], [0], [1], [2], [3, 2], [4, 2], [5, 2], [6, 2], [7, 2], [2, 8], [9], [10], [11, 10], [10, 12], [13], [14], [14, 15], [16], [17], [18, 17], [17, 19], [20], [21], [22, 21], [21, 23], [24], [25], [26, 25], [25, 27], [28], [29], [30, 29], [31, 29], [32, 29], [29, 33], [34], [35], [36, 35], [35, 37], [38], [39], [40, 39], [41, 39], [42, 39], [43, 39], [39, 44], [45], [46], [47, 46], [48, 46], [49, 46], [50, 46], [46, 51], [52], [53], [54, 53], [55, 53], [53, 56], [57], [58], [59, 58], [60, 58], [61, 58], [58, 62], [63], [64], [65, 64], [64, 66], [67], [68], [69, 68], [70, 68], [68, 71], [72], [73], [74, 73], [75, 73], [76, 73], [77, 73], [73, 78], [79], [80], [81, 80], [82, 80], [80, 83], [84], [85], [86, 85], [85], [87, 88, 85], [85, 89], [90], [91], [91], [92, 93, 91], [94, 91], [91, 95], [96]]
        [(1, .pointer (some ⟨bH1, 0, none⟩)), (2, .int .i64 0), (3, .string ⟨#[48, 49, 50, 51, 52, 53, 54, 55, 56, 57, 48, 49, 50, 51, 52, 53, 54, 55, 56, 57, 48, 49, 50, 51, 52, 53, 54, 55, 56, 57, 48, 49, 50, 51]⟩), (4, .int .i64 1), (5, .bool true), (7, .bool false), (9, .int .i64 50), (10, .pointer (some ⟨bH2, 0, none⟩)), (11, .int .i64 0), (12, .slice AM 65 cM)] (by kernel_rfl) rfl (by kernel_rfl) rfl rfl (by kernel_rfl) (OutsOk.cons rfl rfl (OutsOk.cons rfl rfl (OutsOk.cons rfl rfl (OutsOk.cons rfl rfl (OutsOk.cons rfl rfl (OutsOk.cons rfl rfl (OutsOk.cons rfl rfl (OutsOk.cons rfl rfl (OutsOk.cons rfl rfl (OutsOk.cons rfl rfl OutsOk.nil)))))))))) ?st ?ob ?fin
      case ob =>
        refine Obs.consv rfl ?o0 (Obs.consv rfl ?o1 (Obs.consv rfl ?o2 (Obs.consv rfl ?o3 (Obs.consv rfl ?o4 (Obs.consv rfl ?o5 (Obs.consv rfl ?o6 (Obs.consv rfl ?o7 (Obs.consv rfl ?o8 (Obs.consv rfl ?o9 (Obs.consv rfl ?o10 (Obs.consv rfl ?o11 (Obs.consv rfl ?o12 (Obs.consv rfl ?o13 (Obs.consv rfl ?o14 (Obs.consv rfl ?o15 (Obs.consv rfl ?o16 (Obs.consv rfl ?o17 (Obs.consv rfl ?o18 (Obs.consv rfl ?o19 (Obs.consv rfl ?o20 (Obs.consv rfl ?o21 (Obs.consv rfl ?o22 (Obs.consv rfl ?o23 (Obs.consv rfl ?o24 (Obs.consv rfl ?o25 (Obs.consv rfl ?o26 (Obs.consv rfl ?o27 (Obs.consv rfl ?o28 (Obs.consv rfl ?o29 (Obs.consv rfl ?o30 (Obs.consv rfl ?o31 (Obs.consv rfl ?o32 (Obs.consv rfl ?o33 (Obs.consv rfl ?o34 (Obs.consv rfl ?o35 (Obs.consv rfl ?o36 (Obs.consv rfl ?o37 (Obs.consv rfl ?o38 (Obs.consv rfl ?o39 (Obs.consv rfl ?o40 (Obs.consv rfl ?o41 (Obs.consv rfl ?o42 (Obs.consv rfl ?o43 (Obs.consv rfl ?o44 (Obs.consv rfl ?o45 (Obs.consv rfl ?o46 (Obs.consv rfl ?o47 (Obs.consv rfl ?o48 (Obs.consv rfl ?o49 (Obs.consv rfl ?o50 (Obs.consv rfl ?o51 (Obs.consv rfl ?o52 (Obs.consv rfl ?o53 (Obs.consv rfl ?o54 (Obs.consv rfl ?o55 (Obs.consv rfl ?o56 (Obs.consv rfl ?o57 (Obs.consv rfl ?o58 (Obs.consv rfl ?o59 (Obs.consv rfl ?o60 (Obs.consv rfl ?o61 (Obs.consv rfl ?o62 (Obs.consv rfl ?o63 (Obs.consv rfl ?o64 (Obs.consv rfl ?o65 (Obs.consv rfl ?o66 (Obs.consv rfl ?o67 (Obs.consv rfl ?o68 (Obs.consv rfl ?o69 (Obs.consv rfl ?o70 (Obs.consv rfl ?o71 (Obs.consv rfl ?o72 (Obs.consv rfl ?o73 (Obs.consv rfl ?o74 (Obs.consv rfl ?o75 (Obs.consv rfl ?o76 (Obs.consv rfl ?o77 (Obs.consv rfl ?o78 (Obs.consv rfl ?o79 (Obs.consv rfl ?o80 (Obs.consv rfl ?o81 (Obs.consv rfl ?o82 (Obs.consv rfl ?o83 (Obs.consv rfl ?o84 (Obs.consv rfl ?o85 (Obs.consv rfl ?o86 (Obs.consv rfl ?o87 (Obs.consv rfl ?o88 (Obs.consv rfl ?o89 (Obs.consv rfl ?o90 (Obs.consv rfl ?o91 (Obs.consv rfl ?o92 (Obs.consv rfl ?o93 (Obs.consv rfl ?o94 (Obs.consv rfl ?o95 (Obs.consv rfl ?o96 (Obs.consv rfl ?o97 Obs.nil)))))))))))))))))))))))))))))))))))))))))))))))))))))))))))))))))))))))))))))))))))))))))))))))))
        case o0 =>
          go_light
          intro ac w' hgw
          replace hgw := hid (grown_trans (grown_drew (grown_refl W11 none)) hgw)
          simp only [outThen, preThen, slotIs, factAt, isv, List.getElem?_cons_zero, List.getElem?_cons_succ, Option.getD_some, forall_eq]
          intros
          rename_i hK
          replace hK := hid hK
          simp only [wantedAt]
          go_simp
          exact hK.out _ _ rfl (grown_refl _ _)
        case o1 =>
          go_light
          intro ac w' hgw
          replace hgw := hid (grown_trans (grown_drew (grown_refl W11 none)) hgw)
          simp only [outThen, preThen, slotIs, factAt, isv, List.getElem?_cons_zero, List.getElem?_cons_succ, Option.getD_some, forall_eq]
          intros
          rename_i hK
          replace hK := hid hK
          simp only [wantedAt]
          go_simp
          exact hK.out _ _ rfl (grown_refl _ _)
        case o2 =>
          go_light
          intro ac w' hgw
          replace hgw := hid (grown_trans (grown_drew (grown_refl W11 none)) hgw)
          simp only [outThen, preThen, slotIs, factAt, isv, List.getElem?_cons_zero, List.getElem?_cons_succ, Option.getD_some, forall_eq]
          intros
          rename_i hK
          replace hK := hid hK
          simp only [wantedAt]
          go_simp
          exact hK.out _ _ rfl (grown_refl _ _)
        case o3 =>
          go_light
          intro ac w' hgw
          replace hgw := hid (grown_trans (grown_drew (grown_refl W11 none)) hgw)
          simp only [outThen, preThen, slotIs, factAt, isv, List.getElem?_cons_zero, List.getElem?_cons_succ, Option.getD_some, forall_eq]
          intros
          rename_i hK
          replace hK := hid hK
          simp only [wantedAt]
          go_simp
          exact hK.out _ _ rfl (grown_refl _ _)
        case o4 =>
          go_light
          intro ac w' hgw
          replace hgw := hid (grown_trans (grown_drew (grown_refl W11 none)) hgw)
          simp only [outThen, preThen, slotIs, factAt, isv, List.getElem?_cons_zero, List.getElem?_cons_succ, Option.getD_some, forall_eq]
          have k1 := ((gcell hgw.out).1 bH1 1 hl1.out).trans e1.out
          intros
          rename_i hK
          replace hK := hid hK
          simp only [wantedAt]
          go_simp
          exact hK.out _ _ rfl (grown_refl _ _)
        case o5 =>
          go_light
          intro ac w' hgw
          replace hgw := hid (grown_trans (grown_drew (grown_refl W11 none)) hgw)
          simp only [outThen, preThen, slotIs, factAt, isv, List.getElem?_cons_zero, List.getElem?_cons_succ, Option.getD_some, forall_eq]
          intros
          rename_i hK
          replace hK := hid hK
          simp only [wantedAt]
          go_simp
          exact hK.out _ _ rfl (grown_refl _ _)
        case o6 =>
          go_light
          intro ac w' hgw
          replace hgw := hid (grown_trans (grown_drew (grown_refl W11 none)) hgw)
          simp only [outThen, preThen, slotIs, factAt, isv, List.getElem?_cons_zero, List.getElem?_cons_succ, Option.getD_some, forall_eq]
          have k4 := ((gcell hgw.out).1 ba (oa + 2) hl3.out).trans e4.out
          intros
          rename_i hK
          replace hK := hid hK
          simp only [wantedAt]
          go_simp
          exact hK.out _ _ rfl (grown_refl _ _)
        case o7 =>
          go_light
          intro ac w' hgw
          replace hgw := hid (grown_trans (grown_drew (grown_refl W11 none)) hgw)
          simp only [outThen, preThen, slotIs, factAt, isv, List.getElem?_cons_zero, List.getElem?_cons_succ, Option.getD_some, forall_eq]
          have cv := conv_arr w' Ah ch _ (hAh.out.grown hgw.out)
          rw [show three.getD 2 [] = [104, 101, 114] from rfl, q_her] at cv
          simp only [List.length_cons, List.length_nil, Nat.zero_add, Nat.reduceAdd] at cv
          intros
          rename_i hK
          replace hK := hid hK
          simp only [wantedAt]
          go_simp
          exact hK.out _ _ rfl (grown_refl _ _)
        case o8 =>
          go_light
          intro ac w' hgw
          replace hgw := hid (grown_trans (grown_drew (grown_refl W11 none)) hgw)
          simp only [outThen, preThen, slotIs, factAt, isv, List.getElem?_cons_zero, List.getElem?_cons_succ, Option.getD_some, forall_eq]
          intros
          rename_i hK
          replace hK := hid hK
          simp only [wantedAt]
          go_simp
          exact hK.out _ _ rfl (grown_refl _ _)
        case o9 =>
          go_light
          intro ac w' hgw
          replace hgw := hid (grown_trans (grown_drew (grown_refl W11 none)) hgw)
          simp only [outThen, preThen, slotIs, factAt, isv, List.getElem?_cons_zero, List.getElem?_cons_succ, Option.getD_some, forall_eq]
          intros
          rename_i hK
          replace hK := hid hK
          simp only [wantedAt]
          go_simp
          exact hK.out _ _ rfl (grown_refl _ _)
        case o10 =>
          go_light
          intro ac w' hgw
          replace hgw := hid (grown_trans (grown_drew (grown_refl W11 none)) hgw)
          simp only [outThen, preThen, slotIs, factAt, isv, List.getElem?_cons_zero, List.getElem?_cons_succ, Option.getD_some, forall_eq]
          intros
          rename_i hK
          replace hK := hid hK
          simp only [wantedAt]
          go_simp
          exact hK.out _ _ rfl (grown_refl _ _)
        case o11 =>
          go_light
          intro ac w' hgw
          replace hgw := hid (grown_trans (grown_drew (grown_refl W11 none)) hgw)
          simp only [outThen, preThen, slotIs, factAt, isv, List.getElem?_cons_zero, List.getElem?_cons_succ, Option.getD_some, forall_eq]
          intros
          rename_i hK
          replace hK := hid hK
          simp only [wantedAt]
          go_simp
          exact hK.out _ _ rfl (grown_refl _ _)
        case o12 =>
          go_light
          intro ac w' hgw
          replace hgw := hid (grown_trans (grown_drew (grown_refl W11 none)) hgw)
          simp only [outThen, preThen, slotIs, factAt, isv, List.getElem?_cons_zero, List.getElem?_cons_succ, Option.getD_some, forall_eq]
          intros
          rename_i hK
          replace hK := hid hK
          simp only [wantedAt]
          go_simp
          exact hK.out _ _ rfl (grown_refl _ _)
        case o13 =>
          go_light
          intro ac w' hgw
          replace hgw := hid (grown_trans (grown_drew (grown_refl W11 none)) hgw)
          simp only [outThen, preThen, slotIs, factAt, isv, List.getElem?_cons_zero, List.getElem?_cons_succ, Option.getD_some, forall_eq]
          intros
          rename_i hK
          replace hK := hid hK
          simp only [wantedAt]
          go_simp
          exact hK.out _ _ rfl (grown_refl _ _)
        case o14 =>
          go_light
          intro ac w' hgw
          replace hgw := hid (grown_trans (grown_drew (grown_refl W11 none)) hgw)
          simp only [outThen, preThen, slotIs, factAt, isv, List.getElem?_cons_zero, List.getElem?_cons_succ, Option.getD_some, forall_eq]
          intros
          rename_i hK
          replace hK := hid hK
          simp only [wantedAt]
          go_simp
          exact hK.out _ _ rfl (grown_refl _ _)
        case o15 =>
          go_light
          intro ac w' hgw
          replace hgw := hid (grown_trans (grown_drew (grown_refl W11 none)) hgw)
          simp only [outThen, preThen, slotIs, factAt, isv, List.getElem?_cons_zero, List.getElem?_cons_succ, Option.getD_some, forall_eq]
          intros
          rename_i hK
          replace hK := hid hK
          simp only [wantedAt]
          go_simp
          exact hK.out _ _ rfl (grown_refl _ _)
        case o16 =>
          go_light
          intro ac w' hgw
          replace hgw := hid (grown_trans (grown_drew (grown_refl W11 none)) hgw)
          simp only [outThen, preThen, slotIs, factAt, isv, List.getElem?_cons_zero, List.getElem?_cons_succ, Option.getD_some, forall_eq]
          intros
          rename_i hK
          replace hK := hid hK
          simp only [wantedAt]
          go_simp
          exact hK.out _ _ rfl (grown_refl _ _)
        case o17 =>
          go_light
          intro ac w' hgw
          replace hgw := hid (grown_trans (grown_drew (grown_refl W11 none)) hgw)
          simp only [outThen, preThen, slotIs, factAt, isv, List.getElem?_cons_zero, List.getElem?_cons_succ, Option.getD_some, forall_eq]
          intros
          rename_i hK
          replace hK := hid hK
          simp only [wantedAt]
          go_simp
          exact hK.out _ _ rfl (grown_refl _ _)
        case o18 =>
          go_light
          intro ac w' hgw
          replace hgw := hid (grown_trans (grown_drew (grown_refl W11 none)) hgw)
          simp only [outThen, preThen, slotIs, factAt, isv, List.getElem?_cons_zero, List.getElem?_cons_succ, Option.getD_some, forall_eq]
          intros
          rename_i hK
          replace hK := hid hK
          simp only [wantedAt]
          go_simp
          exact hK.out _ _ rfl (grown_refl _ _)
        case o19 =>
          go_light
          intro ac w' hgw
          replace hgw := hid (grown_trans (grown_drew (grown_refl W11 none)) hgw)
          simp only [outThen, preThen, slotIs, factAt, isv, List.getElem?_cons_zero, List.getElem?_cons_succ, Option.getD_some, forall_eq]
          intros
          rename_i hK
          replace hK := hid hK
          simp only [wantedAt]
          go_simp
          exact hK.out _ _ rfl (grown_refl _ _)
        case o20 =>
          go_light
          intro ac w' hgw
          replace hgw := hid (grown_trans (grown_drew (grown_refl W11 none)) hgw)
          simp only [outThen, preThen, slotIs, factAt, isv, List.getElem?_cons_zero, List.getElem?_cons_succ, Option.getD_some, forall_eq]
          intros
          rename_i hK
          replace hK := hid hK
          simp only [wantedAt]
          go_simp
          exact hK.out _ _ rfl (grown_refl _ _)
        case o21 =>
          go_light
          intro ac w' hgw
          replace hgw := hid (grown_trans (grown_drew (grown_refl W11 none)) hgw)
          simp only [outThen, preThen, slotIs, factAt, isv, List.getElem?_cons_zero, List.getElem?_cons_succ, Option.getD_some, forall_eq]
          intros
          rename_i hK
          replace hK := hid hK
          simp only [wantedAt]
          go_simp
          exact hK.out _ _ rfl (grown_refl _ _)
        case o22 =>
          go_light
          intro ac w' hgw
          replace hgw := hid (grown_trans (grown_drew (grown_refl W11 none)) hgw)
          simp only [outThen, preThen, slotIs, factAt, isv, List.getElem?_cons_zero, List.getElem?_cons_succ, Option.getD_some, forall_eq]
          intros
          rename_i hK
          replace hK := hid hK
          simp only [wantedAt]
          go_simp
          exact hK.out _ _ rfl (grown_refl _ _)
        case o23 =>
          go_light
          intro ac w' hgw
          replace hgw := hid (grown_trans (grown_drew (grown_refl W11 none)) hgw)
          simp only [outThen, preThen, slotIs, factAt, isv, List.getElem?_cons_zero, List.getElem?_cons_succ, Option.getD_some, forall_eq]
          intros
          rename_i hK
          replace hK := hid hK
          simp only [wantedAt]
          go_simp
          exact hK.out _ _ rfl (grown_refl _ _)
        case o24 =>
          go_light
          intro ac w' hgw
          replace hgw := hid (grown_trans (grown_drew (grown_refl W11 none)) hgw)
          simp only [outThen, preThen, slotIs, factAt, isv, List.getElem?_cons_zero, List.getElem?_cons_succ, Option.getD_some, forall_eq]
          intros
          rename_i hK
          replace hK := hid hK
          simp only [wantedAt]
          go_simp
          exact hK.out _ _ rfl (grown_refl _ _)
        case o25 =>
          go_light
          intro ac w' hgw
          replace hgw := hid (grown_trans (grown_drew (grown_refl W11 none)) hgw)
          simp only [outThen, preThen, slotIs, factAt, isv, List.getElem?_cons_zero, List.getElem?_cons_succ, Option.getD_some, forall_eq]
          intros
          rename_i hK
          replace hK := hid hK
          simp only [wantedAt]
          go_simp
          exact hK.out _ _ rfl (grown_refl _ _)
        case o26 =>
          go_light
          intro ac w' hgw
          replace hgw := hid (grown_trans (grown_drew (grown_refl W11 none)) hgw)
          simp only [outThen, preThen, slotIs, factAt, isv, List.getElem?_cons_zero, List.getElem?_cons_succ, Option.getD_some, forall_eq]
          intros
          rename_i hK
          replace hK := hid hK
          simp only [wantedAt]
          go_simp
          exact hK.out _ _ rfl (grown_refl _ _)
        case o27 =>
          go_light
          intro ac w' hgw
          replace hgw := hid (grown_trans (grown_drew (grown_refl W11 none)) hgw)
          simp only [outThen, preThen, slotIs, factAt, isv, List.getElem?_cons_zero, List.getElem?_cons_succ, Option.getD_some, forall_eq]
          intros
          rename_i hK
          replace hK := hid hK
          simp only [wantedAt]
          go_simp
          exact hK.out _ _ rfl (grown_refl _ _)
        case o28 =>
          go_light
          intro ac w' hgw
          replace hgw := hid (grown_trans (grown_drew (grown_refl W11 none)) hgw)
          simp only [outThen, preThen, slotIs, factAt, isv, List.getElem?_cons_zero, List.getElem?_cons_succ, Option.getD_some, forall_eq]
          intros
          rename_i hK
          replace hK := hid hK
          simp only [wantedAt]
          go_simp
          exact hK.out _ _ rfl (grown_refl _ _)
        case o29 =>
          go_light
          intro ac w' hgw
          replace hgw := hid (grown_trans (grown_drew (grown_refl W11 none)) hgw)
          simp only [outThen, preThen, slotIs, factAt, isv, List.getElem?_cons_zero, List.getElem?_cons_succ, Option.getD_some, forall_eq]
          intros
          rename_i hK
          replace hK := hid hK
          simp only [wantedAt]
          go_simp
          exact hK.out _ _ rfl (grown_refl _ _)
        case o30 =>
          go_light
          intro ac w' hgw
          replace hgw := hid (grown_trans (grown_drew (grown_refl W11 none)) hgw)
          simp only [outThen, preThen, slotIs, factAt, isv, List.getElem?_cons_zero, List.getElem?_cons_succ, Option.getD_some, forall_eq]
          intros
          rename_i hK
          replace hK := hid hK
          simp only [wantedAt]
          go_simp
          exact hK.out _ _ ⟨_, rfl, Holds.new _ _ _⟩ (grown_alloc (grown_refl _ _) _)
        case o31 =>
          go_light
          intro ac w' hgw
          replace hgw := hid (grown_trans (grown_drew (grown_refl W11 none)) hgw)
          simp only [outThen, preThen, slotIs, factAt, isv, List.getElem?_cons_zero, List.getElem?_cons_succ, Option.getD_some, forall_eq]
          intros
          rename_i v1 h1 hv1 _ K hK
          replace hK := hid hK
          obtain ⟨g1, rfl, h1⟩ := h1
          have h1' := hid h1
          clear h1
          simp only [wantedAt]
          go_simp
          refine (words_lit g1 4 four _ _ (by simp only [List.map, four, q_he, q_she, q_He, q_her]) (by decide) (by decide) h1'.out).mono ?_
          rintro e w9 ⟨P, d, rfl, ha, hg⟩
          exact hK.out _ _ ⟨P, d, rfl, ha⟩ hg
        case o32 =>
          go_light
          intro ac w' hgw
          replace hgw := hid (grown_trans (grown_drew (grown_refl W11 none)) hgw)
          simp only [outThen, preThen, slotIs, factAt, isv, List.getElem?_cons_zero, List.getElem?_cons_succ, Option.getD_some, forall_eq]
          intros
          rename_i v1 h1 hv1 _ K hK
          replace hK := hid hK
          obtain ⟨P, d, rfl, ha⟩ := h1
          have ha' := hid ha
          clear ha
          simp only [wantedAt]
          go_simp
          refine (nodes_lit true P d four 7 _ p_nodes_four (by decide) (by decide) ha'.out).mono ?_
          rintro e w9 ⟨rfl, hg⟩
          exact hK.out _ _ rfl hg
        case o33 =>
          go_light
          intro ac w' hgw
          replace hgw := hid (grown_trans (grown_drew (grown_refl W11 none)) hgw)
          simp only [outThen, preThen, slotIs, factAt, isv, List.getElem?_cons_zero, List.getElem?_cons_succ, Option.getD_some, forall_eq]
          intros
          rename_i hK
          replace hK := hid hK
          simp only [wantedAt]
          go_simp
          exact hK.out _ _ rfl (grown_refl _ _)
        case o34 =>
          go_light
          intro ac w' hgw
          replace hgw := hid (grown_trans (grown_drew (grown_refl W11 none)) hgw)
          simp only [outThen, preThen, slotIs, factAt, isv, List.getElem?_cons_zero, List.getElem?_cons_succ, Option.getD_some, forall_eq]
          intros
          rename_i hK
          replace hK := hid hK
          simp only [wantedAt]
          go_simp
          exact hK.out _ _ rfl (grown_refl _ _)
        case o35 =>
          go_light
          intro ac w' hgw
          replace hgw := hid (grown_trans (grown_drew (grown_refl W11 none)) hgw)
          simp only [outThen, preThen, slotIs, factAt, isv, List.getElem?_cons_zero, List.getElem?_cons_succ, Option.getD_some, forall_eq]
          intros
          rename_i hK
          replace hK := hid hK
          simp only [wantedAt]
          go_simp
          exact hK.out _ _ rfl (grown_refl _ _)
        case o36 =>
          go_light
          intro ac w' hgw
          replace hgw := hid (grown_trans (grown_drew (grown_refl W11 none)) hgw)
          simp only [outThen, preThen, slotIs, factAt, isv, List.getElem?_cons_zero, List.getElem?_cons_succ, Option.getD_some, forall_eq]
          intros
          rename_i hK
          replace hK := hid hK
          simp only [wantedAt]
          go_simp
          refine (nodes_lit false none 0 [] 1 _ p_nodes_no (by decide) (by decide) (Arrs.nil _ _)).mono ?_
          rintro e w9 ⟨rfl, hg⟩
          exact hK.out _ _ rfl hg
        case o37 =>
          go_light
          intro ac w' hgw
          replace hgw := hid (grown_trans (grown_drew (grown_refl W11 none)) hgw)
          simp only [outThen, preThen, slotIs, factAt, isv, List.getElem?_cons_zero, List.getElem?_cons_succ, Option.getD_some, forall_eq]
          intros
          rename_i hK
          replace hK := hid hK
          simp only [wantedAt]
          go_simp
          exact hK.out _ _ rfl (grown_refl _ _)
        case o38 =>
          go_light
          intro ac w' hgw
          replace hgw := hid (grown_trans (grown_drew (grown_refl W11 none)) hgw)
          simp only [outThen, preThen, slotIs, factAt, isv, List.getElem?_cons_zero, List.getElem?_cons_succ, Option.getD_some, forall_eq]
          intros
          rename_i hK
          replace hK := hid hK
          simp only [wantedAt]
          go_simp
          exact hK.out _ _ rfl (grown_refl _ _)
        case o39 =>
          go_light
          intro ac w' hgw
          replace hgw := hid (grown_trans (grown_drew (grown_refl W11 none)) hgw)
          simp only [outThen, preThen, slotIs, factAt, isv, List.getElem?_cons_zero, List.getElem?_cons_succ, Option.getD_some, forall_eq]
          intros
          rename_i hK
          replace hK := hid hK
          simp only [wantedAt]
          go_simp
          exact hK.out _ _ rfl (grown_refl _ _)
        case o40 =>
          go_light
          intro ac w' hgw
          replace hgw := hid (grown_trans (grown_drew (grown_refl W11 none)) hgw)
          simp only [outThen, preThen, slotIs, factAt, isv, List.getElem?_cons_zero, List.getElem?_cons_succ, Option.getD_some, forall_eq]
          intros
          rename_i hK
          replace hK := hid hK
          simp only [wantedAt]
          go_simp
          exact hK.out _ _ rfl (grown_refl _ _)
        case o41 =>
          go_light
          intro ac w' hgw
          replace hgw := hid (grown_trans (grown_drew (grown_refl W11 none)) hgw)
          simp only [outThen, preThen, slotIs, factAt, isv, List.getElem?_cons_zero, List.getElem?_cons_succ, Option.getD_some, forall_eq]
          intros
          rename_i hK
          replace hK := hid hK
          simp only [wantedAt]
          go_simp
          exact hK.out _ _ ⟨_, rfl, Holds.new _ _ _⟩ (grown_alloc (grown_refl _ _) _)
        case o42 =>
          go_light
          intro ac w' hgw
          replace hgw := hid (grown_trans (grown_drew (grown_refl W11 none)) hgw)
          simp only [outThen, preThen, slotIs, factAt, isv, List.getElem?_cons_zero, List.getElem?_cons_succ, Option.getD_some, forall_eq]
          intros
          rename_i v1 h1 hv1 _ K hK
          replace hK := hid hK
          obtain ⟨g1, rfl, h1⟩ := h1
          have h1' := hid h1
          clear h1
          simp only [wantedAt]
          go_simp
          refine (words_lit g1 1 [long34] _ _ (by simp only [List.map, q_long]) (by decide) (by decide) h1'.out).mono ?_
          rintro e w9 ⟨P, d, rfl, ha, hg⟩
          exact hK.out _ _ ⟨P, d, rfl, ha⟩ hg
        case o43 =>
          go_light
          intro ac w' hgw
          replace hgw := hid (grown_trans (grown_drew (grown_refl W11 none)) hgw)
          simp only [outThen, preThen, slotIs, factAt, isv, List.getElem?_cons_zero, List.getElem?_cons_succ, Option.getD_some, forall_eq]
          intros
          rename_i v1 h1 hv1 _ K hK
          replace hK := hid hK
          obtain ⟨P, d, rfl, ha⟩ := h1
          have ha' := hid ha
          clear ha
          simp only [wantedAt]
          go_simp
          refine (check_lit false P d [long34] 53 _ p_check_long (by decide) (by decide) ha'.out).mono ?_
          rintro e w9 ⟨rfl, hg⟩
          exact hK.out _ _ rfl hg
        case o44 =>
          go_light
          intro ac w' hgw
          replace hgw := hid (grown_trans (grown_drew (grown_refl W11 none)) hgw)
          simp only [outThen, preThen, slotIs, factAt, isv, List.getElem?_cons_zero, List.getElem?_cons_succ, Option.getD_some, forall_eq]
          intros
          rename_i hK
          replace hK := hid hK
          simp only [wantedAt]
          go_simp
          exact hK.out _ _ rfl (grown_refl _ _)
        case o45 =>
          go_light
          intro ac w' hgw
          replace hgw := hid (grown_trans (grown_drew (grown_refl W11 none)) hgw)
          simp only [outThen, preThen, slotIs, factAt, isv, List.getElem?_cons_zero, List.getElem?_cons_succ, Option.getD_some, forall_eq]
          intros
          rename_i hK
          replace hK := hid hK
          simp only [wantedAt]
          go_simp
          exact hK.out _ _ rfl (grown_refl _ _)
        case o46 =>
          go_light
          intro ac w' hgw
          replace hgw := hid (grown_trans (grown_drew (grown_refl W11 none)) hgw)
          simp only [outThen, preThen, slotIs, factAt, isv, List.getElem?_cons_zero, List.getElem?_cons_succ, Option.getD_some, forall_eq]
          intros
          rename_i hK
          replace hK := hid hK
          simp only [wantedAt]
          go_simp
          exact hK.out _ _ rfl (grown_refl _ _)
        case o47 =>
          go_light
          intro ac w' hgw
          replace hgw := hid (grown_trans (grown_drew (grown_refl W11 none)) hgw)
          simp only [outThen, preThen, slotIs, factAt, isv, List.getElem?_cons_zero, List.getElem?_cons_succ, Option.getD_some, forall_eq]
          intros
          rename_i hK
          replace hK := hid hK
          simp only [wantedAt]
          go_simp
          exact hK.out _ _ rfl (grown_refl _ _)
        case o48 =>
          go_light
          intro ac w' hgw
          replace hgw := hid (grown_trans (grown_drew (grown_refl W11 none)) hgw)
          simp only [outThen, preThen, slotIs, factAt, isv, List.getElem?_cons_zero, List.getElem?_cons_succ, Option.getD_some, forall_eq]
          intros
          rename_i hK
          replace hK := hid hK
          simp only [wantedAt]
          go_simp
          exact hK.out _ _ ⟨_, rfl, Holds.new _ _ _⟩ (grown_alloc (grown_refl _ _) _)
        case o49 =>
          go_light
          intro ac w' hgw
          replace hgw := hid (grown_trans (grown_drew (grown_refl W11 none)) hgw)
          simp only [outThen, preThen, slotIs, factAt, isv, List.getElem?_cons_zero, List.getElem?_cons_succ, Option.getD_some, forall_eq]
          intros
          rename_i v1 h1 hv1 _ K hK
          replace hK := hid hK
          obtain ⟨g1, rfl, h1⟩ := h1
          have h1' := hid h1
          clear h1
          simp only [wantedAt]
          go_simp
          refine (words_lit g1 2 [long34, []] _ _ (by simp only [List.map, q_long, q_none]) (by decide) (by decide) h1'.out).mono ?_
          rintro e w9 ⟨P, d, rfl, ha, hg⟩
          exact hK.out _ _ ⟨P, d, rfl, ha⟩ hg
        case o50 =>
          go_light
          intro ac w' hgw
          replace hgw := hid (grown_trans (grown_drew (grown_refl W11 none)) hgw)
          simp only [outThen, preThen, slotIs, factAt, isv, List.getElem?_cons_zero, List.getElem?_cons_succ, Option.getD_some, forall_eq]
          intros
          rename_i v1 h1 hv1 _ K hK
          replace hK := hid hK
          obtain ⟨P, d, rfl, ha⟩ := h1
          have ha' := hid ha
          clear ha
          simp only [wantedAt]
          go_simp
          refine (check_lit false P d [long34, []] 52 _ p_check_long2 (by decide) (by decide) ha'.out).mono ?_
          rintro e w9 ⟨rfl, hg⟩
          exact hK.out _ _ rfl hg
        case o51 =>
          go_light
          intro ac w' hgw
          replace hgw := hid (grown_trans (grown_drew (grown_refl W11 none)) hgw)
          simp only [outThen, preThen, slotIs, factAt, isv, List.getElem?_cons_zero, List.getElem?_cons_succ, Option.getD_some, forall_eq]
          intros
          rename_i hK
          replace hK := hid hK
          simp only [wantedAt]
          go_simp
          exact hK.out _ _ rfl (grown_refl _ _)
        case o52 =>
          go_light
          intro ac w' hgw
          replace hgw := hid (grown_trans (grown_drew (grown_refl W11 none)) hgw)
          simp only [outThen, preThen, slotIs, factAt, isv, List.getElem?_cons_zero, List.getElem?_cons_succ, Option.getD_some, forall_eq]
          intros
          rename_i hK
          replace hK := hid hK
          simp only [wantedAt]
          go_simp
          exact hK.out _ _ rfl (grown_refl _ _)
        case o53 =>
          go_light
          intro ac w' hgw
          replace hgw := hid (grown_trans (grown_drew (grown_refl W11 none)) hgw)
          simp only [outThen, preThen, slotIs, factAt, isv, List.getElem?_cons_zero, List.getElem?_cons_succ, Option.getD_some, forall_eq]
          intros
          rename_i hK
          replace hK := hid hK
          simp only [wantedAt]
          go_simp
          exact hK.out _ _ rfl (grown_refl _ _)
        case o54 =>
          go_light
          intro ac w' hgw
          replace hgw := hid (grown_trans (grown_drew (grown_refl W11 none)) hgw)
          simp only [outThen, preThen, slotIs, factAt, isv, List.getElem?_cons_zero, List.getElem?_cons_succ, Option.getD_some, forall_eq]
          intros
          rename_i hK
          replace hK := hid hK
          simp only [wantedAt]
          go_simp
          exact hK.out _ _ rfl (grown_refl _ _)
        case o55 =>
          go_light
          intro ac w' hgw
          replace hgw := hid (grown_trans (grown_drew (grown_refl W11 none)) hgw)
          simp only [outThen, preThen, slotIs, factAt, isv, List.getElem?_cons_zero, List.getElem?_cons_succ, Option.getD_some, forall_eq]
          intros
          rename_i hK
          replace hK := hid hK
          simp only [wantedAt]
          go_simp
          refine (check_lit false AM cM (many 65) 51 _ p_check_many (by decide +kernel) (by decide +kernel) (AM1.out.grown hgw.out)).mono ?_
          rintro e w9 ⟨rfl, hg⟩
          exact hK.out _ _ rfl hg
        case o56 =>
          go_light
          intro ac w' hgw
          replace hgw := hid (grown_trans (grown_drew (grown_refl W11 none)) hgw)
          simp only [outThen, preThen, slotIs, factAt, isv, List.getElem?_cons_zero, List.getElem?_cons_succ, Option.getD_some, forall_eq]
          intros
          rename_i hK
          replace hK := hid hK
          simp only [wantedAt]
          go_simp
          exact hK.out _ _ rfl (grown_refl _ _)
        case o57 =>
          go_light
          intro ac w' hgw
          replace hgw := hid (grown_trans (grown_drew (grown_refl W11 none)) hgw)
          simp only [outThen, preThen, slotIs, factAt, isv, List.getElem?_cons_zero, List.getElem?_cons_succ, Option.getD_some, forall_eq]
          intros
          rename_i hK
          replace hK := hid hK
          simp only [wantedAt]
          go_simp
          exact hK.out _ _ rfl (grown_refl _ _)
        case o58 =>
          go_light
          intro ac w' hgw
          replace hgw := hid (grown_trans (grown_drew (grown_refl W11 none)) hgw)
          simp only [outThen, preThen, slotIs, factAt, isv, List.getElem?_cons_zero, List.getElem?_cons_succ, Option.getD_some, forall_eq]
          intros
          rename_i hK
          replace hK := hid hK
          simp only [wantedAt]
          go_simp
          exact hK.out _ _ rfl (grown_refl _ _)
        case o59 =>
          go_light
          intro ac w' hgw
          replace hgw := hid (grown_trans (grown_drew (grown_refl W11 none)) hgw)
          simp only [outThen, preThen, slotIs, factAt, isv, List.getElem?_cons_zero, List.getElem?_cons_succ, Option.getD_some, forall_eq]
          intros
          rename_i hK
          replace hK := hid hK
          simp only [wantedAt]
          go_simp
          exact hK.out _ _ rfl (grown_refl _ _)
        case o60 =>
          go_light
          intro ac w' hgw
          replace hgw := hid (grown_trans (grown_drew (grown_refl W11 none)) hgw)
          simp only [outThen, preThen, slotIs, factAt, isv, List.getElem?_cons_zero, List.getElem?_cons_succ, Option.getD_some, forall_eq]
          have hc64 : (64 : Int) ≤ (cM : Int) := by omega
          intros
          rename_i hK
          replace hK := hid hK
          simp only [wantedAt]
          go_simp
          exact hK.out _ _ rfl (grown_refl _ _)
        case o61 =>
          go_light
          intro ac w' hgw
          replace hgw := hid (grown_trans (grown_drew (grown_refl W11 none)) hgw)
          simp only [outThen, preThen, slotIs, factAt, isv, List.getElem?_cons_zero, List.getElem?_cons_succ, Option.getD_some, forall_eq]
          intros
          rename_i hK
          replace hK := hid hK
          simp only [wantedAt]
          go_simp
          refine (check_lit false AM cM (many 64) 0 _ p_check_most (by decide +kernel) (by decide +kernel) (by rw [← many_take]; exact arrs_take (AM1.out.grown hgw.out) 64)).mono ?_
          rintro e w9 ⟨rfl, hg⟩
          exact hK.out _ _ rfl hg
        case o62 =>
          go_light
          intro ac w' hgw
          replace hgw := hid (grown_trans (grown_drew (grown_refl W11 none)) hgw)
          simp only [outThen, preThen, slotIs, factAt, isv, List.getElem?_cons_zero, List.getElem?_cons_succ, Option.getD_some, forall_eq]
          intros
          rename_i hK
          replace hK := hid hK
          simp only [wantedAt]
          go_simp
          exact hK.out _ _ rfl (grown_refl _ _)
        case o63 =>
          go_light
          intro ac w' hgw
          replace hgw := hid (grown_trans (grown_drew (grown_refl W11 none)) hgw)
          simp only [outThen, preThen, slotIs, factAt, isv, List.getElem?_cons_zero, List.getElem?_cons_succ, Option.getD_some, forall_eq]
          intros
          rename_i hK
          replace hK := hid hK
          simp only [wantedAt]
          go_simp
          exact hK.out _ _ rfl (grown_refl _ _)
        case o64 =>
          go_light
          intro ac w' hgw
          replace hgw := hid (grown_trans (grown_drew (grown_refl W11 none)) hgw)
          simp only [outThen, preThen, slotIs, factAt, isv, List.getElem?_cons_zero, List.getElem?_cons_succ, Option.getD_some, forall_eq]
          intros
          rename_i hK
          replace hK := hid hK
          simp only [wantedAt]
          go_simp
          exact hK.out _ _ rfl (grown_refl _ _)
        case o65 =>
          go_light
          intro ac w' hgw
          replace hgw := hid (grown_trans (grown_drew (grown_refl W11 none)) hgw)
          simp only [outThen, preThen, slotIs, factAt, isv, List.getElem?_cons_zero, List.getElem?_cons_succ, Option.getD_some, forall_eq]
          have k0 := ((gcell hgw.out).1 bH1 0 hl1.out).trans e0.out
          have k1 := ((gcell hgw.out).1 bH1 1 hl1.out).trans e1.out
          intros
          rename_i hK
          replace hK := hid hK
          simp only [wantedAt]
          go_simp
          exact hK.out _ _ rfl (grown_refl _ _)
        case o66 =>
          go_light
          intro ac w' hgw
          replace hgw := hid (grown_trans (grown_drew (grown_refl W11 none)) hgw)
          simp only [outThen, preThen, slotIs, factAt, isv, List.getElem?_cons_zero, List.getElem?_cons_succ, Option.getD_some, forall_eq]
          intros
          rename_i hK
          replace hK := hid hK
          simp only [wantedAt]
          go_simp
          refine (right_lit true _ c1 three true _ p_right (by decide) (by decide) (A3.out.grown hgw.out)).mono ?_
          rintro e w9 ⟨rfl, hg⟩
          exact hK.out _ _ rfl hg
        case o67 =>
          go_light
          intro ac w' hgw
          replace hgw := hid (grown_trans (grown_drew (grown_refl W11 none)) hgw)
          simp only [outThen, preThen, slotIs, factAt, isv, List.getElem?_cons_zero, List.getElem?_cons_succ, Option.getD_some, forall_eq]
          intros
          rename_i hK
          replace hK := hid hK
          simp only [wantedAt]
          go_simp
          exact hK.out _ _ rfl (grown_refl _ _)
        case o68 =>
          go_light
          intro ac w' hgw
          replace hgw := hid (grown_trans (grown_drew (grown_refl W11 none)) hgw)
          simp only [outThen, preThen, slotIs, factAt, isv, List.getElem?_cons_zero, List.getElem?_cons_succ, Option.getD_some, forall_eq]
          intros
          rename_i hK
          replace hK := hid hK
          simp only [wantedAt]
          go_simp
          exact hK.out _ _ rfl (grown_refl _ _)
        case o69 =>
          go_light
          intro ac w' hgw
          replace hgw := hid (grown_trans (grown_drew (grown_refl W11 none)) hgw)
          simp only [outThen, preThen, slotIs, factAt, isv, List.getElem?_cons_zero, List.getElem?_cons_succ, Option.getD_some, forall_eq]
          intros
          rename_i hK
          replace hK := hid hK
          simp only [wantedAt]
          go_simp
          exact hK.out _ _ rfl (grown_refl _ _)
        case o70 =>
          go_light
          intro ac w' hgw
          replace hgw := hid (grown_trans (grown_drew (grown_refl W11 none)) hgw)
          simp only [outThen, preThen, slotIs, factAt, isv, List.getElem?_cons_zero, List.getElem?_cons_succ, Option.getD_some, forall_eq]
          intros
          rename_i hK
          replace hK := hid hK
          simp only [wantedAt]
          go_simp
          refine (right_lit false none 0 [] false _ p_right_no (by decide) (by decide) (Arrs.nil _ _)).mono ?_
          rintro e w9 ⟨rfl, hg⟩
          exact hK.out _ _ rfl hg
        case o71 =>
          go_light
          intro ac w' hgw
          replace hgw := hid (grown_trans (grown_drew (grown_refl W11 none)) hgw)
          simp only [outThen, preThen, slotIs, factAt, isv, List.getElem?_cons_zero, List.getElem?_cons_succ, Option.getD_some, forall_eq]
          intros
          rename_i hK
          replace hK := hid hK
          simp only [wantedAt]
          go_simp
          exact hK.out _ _ rfl (grown_refl _ _)
        case o72 =>
          go_light
          intro ac w' hgw
          replace hgw := hid (grown_trans (grown_drew (grown_refl W11 none)) hgw)
          simp only [outThen, preThen, slotIs, factAt, isv, List.getElem?_cons_zero, List.getElem?_cons_succ, Option.getD_some, forall_eq]
          intros
          rename_i hK
          replace hK := hid hK
          simp only [wantedAt]
          go_simp
          exact hK.out _ _ rfl (grown_refl _ _)
        case o73 =>
          go_light
          intro ac w' hgw
          replace hgw := hid (grown_trans (grown_drew (grown_refl W11 none)) hgw)
          simp only [outThen, preThen, slotIs, factAt, isv, List.getElem?_cons_zero, List.getElem?_cons_succ, Option.getD_some, forall_eq]
          intros
          rename_i hK
          replace hK := hid hK
          simp only [wantedAt]
          go_simp
          exact hK.out _ _ rfl (grown_refl _ _)
        case o74 =>
          go_light
          intro ac w' hgw
          replace hgw := hid (grown_trans (grown_drew (grown_refl W11 none)) hgw)
          simp only [outThen, preThen, slotIs, factAt, isv, List.getElem?_cons_zero, List.getElem?_cons_succ, Option.getD_some, forall_eq]
          intros
          rename_i hK
          replace hK := hid hK
          simp only [wantedAt]
          go_simp
          exact hK.out _ _ ⟨_, rfl, Holds.new _ _ _⟩ (grown_alloc (grown_refl _ _) _)
        case o75 =>
          go_light
          intro ac w' hgw
          replace hgw := hid (grown_trans (grown_drew (grown_refl W11 none)) hgw)
          simp only [outThen, preThen, slotIs, factAt, isv, List.getElem?_cons_zero, List.getElem?_cons_succ, Option.getD_some, forall_eq]
          intros
          rename_i v1 h1 hv1 _ K hK
          replace hK := hid hK
          obtain ⟨g1, rfl, h1⟩ := h1
          have h1' := hid h1
          clear h1
          simp only [wantedAt]
          go_simp
          refine (words_lit g1 1 [[72, 101]] _ _ (by simp only [List.map, q_He]) (by decide) (by decide) h1'.out).mono ?_
          rintro e w9 ⟨P, d, rfl, ha, hg⟩
          exact hK.out _ _ ⟨P, d, rfl, ha⟩ hg
        case o76 =>
          go_light
          intro ac w' hgw
          replace hgw := hid (grown_trans (grown_drew (grown_refl W11 none)) hgw)
          simp only [outThen, preThen, slotIs, factAt, isv, List.getElem?_cons_zero, List.getElem?_cons_succ, Option.getD_some, forall_eq]
          intros
          rename_i v1 h1 hv1 _ K hK
          replace hK := hid hK
          obtain ⟨P, d, rfl, ha⟩ := h1
          have ha' := hid ha
          clear ha
          simp only [wantedAt]
          go_simp
          exact hK.out _ _ ⟨P, d, rfl, ha'.out⟩ (grown_refl _ _)
        case o77 =>
          go_light
          intro ac w' hgw
          replace hgw := hid (grown_trans (grown_drew (grown_refl W11 none)) hgw)
          simp only [outThen, preThen, slotIs, factAt, isv, List.getElem?_cons_zero, List.getElem?_cons_succ, Option.getD_some, forall_eq]
          intros
          rename_i v1 h1 hv1 _ K hK
          replace hK := hid hK
          obtain ⟨P, d, rfl, ha⟩ := h1
          have ha' := hid ha
          clear ha
          simp only [wantedAt]
          go_simp
          refine (right_lit true P d [[72, 101]] false _ p_right_he (by decide) (by decide) ha'.out).mono ?_
          rintro e w9 ⟨rfl, hg⟩
          exact hK.out _ _ rfl hg
        case o78 =>
          go_light
          intro ac w' hgw
          replace hgw := hid (grown_trans (grown_drew (grown_refl W11 none)) hgw)
          simp only [outThen, preThen, slotIs, factAt, isv, List.getElem?_cons_zero, List.getElem?_cons_succ, Option.getD_some, forall_eq]
          intros
          rename_i hK
          replace hK := hid hK
          simp only [wantedAt]
          go_simp
          exact hK.out _ _ rfl (grown_refl _ _)
        case o79 =>
          go_light
          intro ac w' hgw
          replace hgw := hid (grown_trans (grown_drew (grown_refl W11 none)) hgw)
          simp only [outThen, preThen, slotIs, factAt, isv, List.getElem?_cons_zero, List.getElem?_cons_succ, Option.getD_some, forall_eq]
          intros
          rename_i hK
          replace hK := hid hK
          simp only [wantedAt]
          go_simp
          exact hK.out _ _ rfl (grown_refl _ _)
        case o80 =>
          go_light
          intro ac w' hgw
          replace hgw := hid (grown_trans (grown_drew (grown_refl W11 none)) hgw)
          simp only [outThen, preThen, slotIs, factAt, isv, List.getElem?_cons_zero, List.getElem?_cons_succ, Option.getD_some, forall_eq]
          intros
          rename_i hK
          replace hK := hid hK
          simp only [wantedAt]
          go_simp
          exact hK.out _ _ rfl (grown_refl _ _)
        case o81 =>
          go_light
          intro ac w' hgw
          replace hgw := hid (grown_trans (grown_drew (grown_refl W11 none)) hgw)
          simp only [outThen, preThen, slotIs, factAt, isv, List.getElem?_cons_zero, List.getElem?_cons_succ, Option.getD_some, forall_eq]
          have k0 := ((gcell hgw.out).1 bH1 0 hl1.out).trans e0.out
          have k1 := ((gcell hgw.out).1 bH1 1 hl1.out).trans e1.out
          intros
          rename_i hK
          replace hK := hid hK
          simp only [wantedAt]
          go_simp
          exact hK.out _ _ rfl (grown_refl _ _)
        case o82 =>
          go_light
          intro ac w' hgw
          replace hgw := hid (grown_trans (grown_drew (grown_refl W11 none)) hgw)
          simp only [outThen, preThen, slotIs, factAt, isv, List.getElem?_cons_zero, List.getElem?_cons_succ, Option.getD_some, forall_eq]
          intros
          rename_i hK
          replace hK := hid hK
          simp only [wantedAt]
          go_simp
          refine (longest_lit true _ c1 three 3 _ p_longest (by decide) (A3.out.grown hgw.out)).mono ?_
          rintro e w9 ⟨rfl, hg⟩
          exact hK.out _ _ rfl hg
        case o83 =>
          go_light
          intro ac w' hgw
          replace hgw := hid (grown_trans (grown_drew (grown_refl W11 none)) hgw)
          simp only [outThen, preThen, slotIs, factAt, isv, List.getElem?_cons_zero, List.getElem?_cons_succ, Option.getD_some, forall_eq]
          intros
          rename_i hK
          replace hK := hid hK
          simp only [wantedAt]
          go_simp
          exact hK.out _ _ rfl (grown_refl _ _)
        case o84 =>
          go_light
          intro ac w' hgw
          replace hgw := hid (grown_trans (grown_drew (grown_refl W11 none)) hgw)
          simp only [outThen, preThen, slotIs, factAt, isv, List.getElem?_cons_zero, List.getElem?_cons_succ, Option.getD_some, forall_eq]
          intros
          rename_i hK
          replace hK := hid hK
          simp only [wantedAt]
          go_simp
          exact hK.out _ _ rfl (grown_refl _ _)
        case o85 =>
          go_light
          intro ac w' hgw
          replace hgw := hid (grown_trans (grown_drew (grown_refl W11 none)) hgw)
          simp only [outThen, preThen, slotIs, factAt, isv, List.getElem?_cons_zero, List.getElem?_cons_succ, Option.getD_some, forall_eq]
          intros
          rename_i hK
          replace hK := hid hK
          simp only [wantedAt]
          go_simp
          exact hK.out _ _ rfl (grown_refl _ _)
        case o86 =>
          go_light
          intro ac w' hgw
          replace hgw := hid (grown_trans (grown_drew (grown_refl W11 none)) hgw)
          simp only [outThen, preThen, slotIs, factAt, isv, List.getElem?_cons_zero, List.getElem?_cons_succ, Option.getD_some, forall_eq]
          have k0 := ((gcell hgw.out).1 bH1 0 hl1.out).trans e0.out
          have k1 := ((gcell hgw.out).1 bH1 1 hl1.out).trans e1.out
          intros
          rename_i hK
          replace hK := hid hK
          simp only [wantedAt]
          go_simp
          exact hK.out _ _ rfl (grown_refl _ _)
        case o87 =>
          go_light
          intro ac w' hgw
          replace hgw := hid (grown_trans (grown_drew (grown_refl W11 none)) hgw)
          simp only [outThen, preThen, slotIs, factAt, isv, List.getElem?_cons_zero, List.getElem?_cons_succ, Option.getD_some, forall_eq]
          intros
          rename_i hK
          replace hK := hid hK
          simp only [wantedAt]
          go_simp
          refine (own_lit true _ c1 three _ (by decide) (A3.out.grown hgw.out)).mono ?_
          rintro e w9 ⟨P, d, rfl, ha, hg⟩
          exact hK.out _ _ ⟨P, d, rfl, ha⟩ hg
        case o88 =>
          go_light
          intro ac w' hgw
          replace hgw := hid (grown_trans (grown_drew (grown_refl W11 none)) hgw)
          simp only [outThen, preThen, slotIs, factAt, isv, List.getElem?_cons_zero, List.getElem?_cons_succ, Option.getD_some, forall_eq]
          have k0 := ((gcell hgw.out).1 bH1 0 hl1.out).trans e0.out
          have k1 := ((gcell hgw.out).1 bH1 1 hl1.out).trans e1.out
          intros
          rename_i hK
          replace hK := hid hK
          simp only [wantedAt]
          go_simp
          exact hK.out _ _ rfl (grown_refl _ _)
        case o89 =>
          go_light
          intro ac w' hgw
          replace hgw := hid (grown_trans (grown_drew (grown_refl W11 none)) hgw)
          simp only [outThen, preThen, slotIs, factAt, isv, List.getElem?_cons_zero, List.getElem?_cons_succ, Option.getD_some, forall_eq]
          intros
          rename_i v1 h1 hv1 _ _ K hK
          replace hK := hid hK
          obtain ⟨P, d, rfl, ha⟩ := h1
          have ha' := hid ha
          clear ha
          simp only [wantedAt]
          go_simp
          refine (set_lit true true P _ d c1 three three true _ (by decide) (by decide) (by decide) (by decide) ha'.out (A3.out.grown hgw.out)).mono ?_
          rintro e w9 ⟨rfl, hg⟩
          exact hK.out _ _ rfl hg
        case o90 =>
          go_light
          intro ac w' hgw
          replace hgw := hid (grown_trans (grown_drew (grown_refl W11 none)) hgw)
          simp only [outThen, preThen, slotIs, factAt, isv, List.getElem?_cons_zero, List.getElem?_cons_succ, Option.getD_some, forall_eq]
          intros
          rename_i hK
          replace hK := hid hK
          simp only [wantedAt]
          go_simp
          exact hK.out _ _ rfl (grown_refl _ _)
        case o91 =>
          go_light
          intro ac w' hgw
          replace hgw := hid (grown_trans (grown_drew (grown_refl W11 none)) hgw)
          simp only [outThen, preThen, slotIs, factAt, isv, List.getElem?_cons_zero, List.getElem?_cons_succ, Option.getD_some, forall_eq]
          intros
          rename_i hK
          replace hK := hid hK
          simp only [wantedAt]
          go_simp
          exact hK.out _ _ rfl (grown_refl _ _)
        case o92 =>
          go_light
          intro ac w' hgw
          replace hgw := hid (grown_trans (grown_drew (grown_refl W11 none)) hgw)
          simp only [outThen, preThen, slotIs, factAt, isv, List.getElem?_cons_zero, List.getElem?_cons_succ, Option.getD_some, forall_eq]
          have k0 := ((gcell hgw.out).1 bH1 0 hl1.out).trans e0.out
          have k1 := ((gcell hgw.out).1 bH1 1 hl1.out).trans e1.out
          intros
          rename_i hK
          replace hK := hid hK
          simp only [wantedAt]
          go_simp
          exact hK.out _ _ rfl (grown_refl _ _)
        case o93 =>
          go_light
          intro ac w' hgw
          replace hgw := hid (grown_trans (grown_drew (grown_refl W11 none)) hgw)
          simp only [outThen, preThen, slotIs, factAt, isv, List.getElem?_cons_zero, List.getElem?_cons_succ, Option.getD_some, forall_eq]
          have k2 := ((gcell hgw.out).1 bH2 0 hl2.out).trans e2.out
          have k3 := ((gcell hgw.out).1 bH2 1 hl2.out).trans e3.out
          intros
          rename_i hK
          replace hK := hid hK
          simp only [wantedAt]
          go_simp
          exact hK.out _ _ rfl (grown_refl _ _)
        case o94 =>
          go_light
          intro ac w' hgw
          replace hgw := hid (grown_trans (grown_drew (grown_refl W11 none)) hgw)
          simp only [outThen, preThen, slotIs, factAt, isv, List.getElem?_cons_zero, List.getElem?_cons_succ, Option.getD_some, forall_eq]
          intros
          rename_i hK
          replace hK := hid hK
          simp only [wantedAt]
          go_simp
          refine (set_lit true false _ A2 c1 c2 three two false _ (by decide) (by decide) (by decide) (by decide) (A3.out.grown hgw.out) (A2w.out.grown hgw.out)).mono ?_
          rintro e w9 ⟨rfl, hg⟩
          exact hK.out _ _ rfl hg
        case o95 =>
          go_light
          intro ac w' hgw
          replace hgw := hid (grown_trans (grown_drew (grown_refl W11 none)) hgw)
          simp only [outThen, preThen, slotIs, factAt, isv, List.getElem?_cons_zero, List.getElem?_cons_succ, Option.getD_some, forall_eq]
          intros
          rename_i hK
          replace hK := hid hK
          simp only [wantedAt]
          go_simp
          exact hK.out _ _ rfl (grown_refl _ _)
        case o96 =>
          go_light
          intro ac w' hgw
          replace hgw := hid (grown_trans (grown_drew (grown_refl W11 none)) hgw)
          simp only [outThen, preThen, slotIs, factAt, isv, List.getElem?_cons_zero, List.getElem?_cons_succ, Option.getD_some, forall_eq]
          intros
          rename_i hK
          replace hK := hid hK
          simp only [wantedAt]
          go_simp
          exact hK.out _ _ rfl (grown_refl _ _)
        case o97 =>
          go_light
          intro ac w' hgw
          replace hgw := hid (grown_trans (grown_drew (grown_refl W11 none)) hgw)
          simp only [outThen, preThen, slotIs, factAt, isv, List.getElem?_cons_zero, List.getElem?_cons_succ, Option.getD_some, forall_eq]
          intros
          rename_i hK
          replace hK := hid hK
          simp only [wantedAt]
          go_simp
          exact hK.out _ _ rfl (grown_refl _ _)
      case st =>
        repeat (first | exact AllStable.nil | (refine AllStable.cons ?_ ?_; focus (first | exact stable_isv _ | exact stable_isBlk _ _ _ | exact stable_isRows _ _ | exact stable_isSetV _ _ _)))
      case fin =>
        intro w12 hgw
        simp only [List.append_eq, List.cons_append, List.nil_append]
        simp only [finalIn, factAt, isv, List.getElem?_cons_zero, List.getElem?_cons_succ, Option.getD_some, forall_eq, slotIs, subj]
        rintro v30 ⟨g30, rfl, _⟩ v31 ⟨P31, d31, rfl, _⟩ v41 ⟨g41, rfl, _⟩ v42 ⟨P42, d42, rfl, _⟩ v48 ⟨g48, rfl, _⟩ v49 ⟨P49, d49, rfl, _⟩ v74 ⟨g74, rfl, _⟩ v75 ⟨P75, d75, rfl, _⟩ v76 ⟨P76, d76, rfl, _⟩ v87 ⟨P87, d87, rfl, _⟩
        simp only [Act.put, List.setIfInBounds_toArray, List.set_cons_zero, List.set_cons_succ]
        have hG3 := hid (grown_trans (grown_drew hG.out) hgw)
        go_wp2_with fail
        go_ret
        exact ⟨rfl, hG3.out⟩
end Go.Proofs.Ytojbfjlihenjaaa
