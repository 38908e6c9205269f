/- What the document's own example of tries comes to. -/
import Derived.Test.YtojbkhheaondhaaK34
import Derived.Test.YtojbkhheaondhaaK29
import Derived.Test.YtojbkhheaondhaaTTold
import Derived.Test.YtojbkhheaondhaaTSame
import Derived.Deep.CutRange
set_option linter.unusedVariables false
set_option linter.unusedSimpArgs false
set_option maxRecDepth 100000
namespace Go.Proofs.Ytojbkhheaondhaa
open Go.RowKit PlainLetter

theorem lit_at {w : World} {g : Nat} (k : IntKind) (t : TypeId) (xs : List Int) (r : Nat × Nat) (hg : w.heap.size = g) : Arr (w.alloc (.cells (xs.map (Value.int k)).toArray t r)) k (some ⟨g, 0, none⟩) xs := fun _ => by
  subst hg
  refine ⟨w.heap.size, 0, rfl, by simp, fun i hi => ?_⟩
  rw [Nat.zero_add, cell_of_row _ w.heap.size i _ t r (World.alloc_heap_new w _)]
  simp [hi, List.getD]
theorem str_she : strOfNums [115, 104, 101] = ⟨#[115, 104, 101]⟩ := by simp [strOfNums]
theorem same33 : decide (tree3 = tree3) = true := decide_eq_true rfl
abbrev wu : Obj := .cells #[.int .i64 0, .int .i64 0, .int .i64 0, .int .i64 1, .int .i64 2, .int .i64 3, .int .i64 4] 3
abbrev wd : Obj := .cells #[.int .i64 0, .int .i64 1, .int .i64 1, .int .i64 2, .int .i64 2, .int .i64 3, .int .i64 3] 3
abbrev wo : Obj := .cells #[.int .i64 (-1), .int .i64 (-1), .int .i64 (-1), .int .i64 0, .int .i64 (-1), .int .i64 2, .int .i64 1] 3
abbrev wb : Obj := .cells #[.int .u8 0, .int .u8 104, .int .u8 115, .int .u8 101, .int .u8 104, .int .u8 114, .int .u8 101] 5 (7, 8)
abbrev wt (n : Nat) : Obj := .cells #[.slice (some ⟨n, 0, none⟩) 7 7, .slice (some ⟨n + 1, 0, none⟩) 7 7, .slice (some ⟨n + 1 + 1, 0, none⟩) 7 7, .slice (some ⟨n + 1 + 1 + 1, 0, none⟩) 7 7] 30
abbrev wantW (w : World) : World := ((((w.alloc wu).alloc wd).alloc wo).alloc wb).alloc (wt w.heap.size)
theorem want_grown (w : World) : w.grownBy (wantW w) none := grown_alloc (grown_alloc (grown_alloc (grown_alloc (grown_alloc (grown_refl w none) _) _) _) _) _
theorem want_holds (w : World) : Holds (wantW w) (w.heap.size + 1 + 1 + 1 + 1) 30 #[.slice (some ⟨w.heap.size, 0, none⟩) 7 7, .slice (some ⟨w.heap.size + 1, 0, none⟩) 7 7, .slice (some ⟨w.heap.size + 1 + 1, 0, none⟩) 7 7, .slice (some ⟨w.heap.size + 1 + 1 + 1, 0, none⟩) 7 7] :=
  Holds.new_at _ _ (by simp)
theorem want_at (w : World) : TreeAt (wantW w) (some ⟨w.heap.size, 0, none⟩) (some ⟨w.heap.size + 1, 0, none⟩) (some ⟨w.heap.size + 1 + 1, 0, none⟩) (some ⟨w.heap.size + 1 + 1 + 1, 0, none⟩) tree3 where
  up := (lit_at .i64 3 tree3.up (0, 0) rfl).grown (grown_alloc (grown_alloc (grown_alloc (grown_alloc (grown_refl _ _) _) _) _) _)
  depth := (lit_at .i64 3 tree3.depth (0, 0) (by simp)).grown (grown_alloc (grown_alloc (grown_alloc (grown_refl _ _) _) _) _)
  word := (lit_at .i64 3 tree3.word (0, 0) (by simp)).grown (grown_alloc (grown_alloc (grown_refl _ _) _) _)
  byte := (lit_at .u8 5 tree3.byte (7, 8) (by simp)).grown (grown_alloc (grown_refl _ _) _)

set_option maxHeartbeats 8000000 in
theorem twakes_true (w : World) : Calls Try.prog 9 #[] w fun e w' => e = .returned (.bool true) ∧ w.grownBy w' none := by
  have kc := conv_const
  go_enter Try.func9, Try.ntmps9
  go_wp2_with fail
  refine (three_is _).mono ?_
  rintro e W1 ⟨A1, c1, rfl, hA1, hg1⟩
  replace hA1 := hid hA1
  have hG := hid hg1
  clear hg1
  go_wp2_with fail
  refine (tMake_is false A1 c1 ws3 _ (by decide) (by decide) bytes_ws3 hA1.out).mono ?_
  rintro e W2 ⟨U, D, O, B, cu, cd, cw, cb, s, rfl, hs, hno, hT, ⟨hr1, hr2, hr3, hr4⟩, ⟨hm1, hm2, hm3, hm4⟩, hg⟩
  obtain rfl : s = tree3 := (hs right_ws3).trans make3
  replace hT := hid (show TreeOk W2 U D O B cu cd cw cb tree3 from ⟨hT, bytes3, wf3, hr1⟩)
  replace hG := hid (grown_trans hG.out hg)
  clear hg hA1 hs hno hr1 hr2 hr3 hr4 hm1 hm2 hm3 hm4
  rw [right_ws3, if_pos rfl]
  go_upto_region 2 with fail
  have H1 := hid (Holds.new W2 30 #[.slice U tree3.up.length cu, .slice D tree3.depth.length cd, .slice O tree3.word.length cw, .slice B tree3.byte.length cb])
  have hg := grown_alloc (grown_refl W2 none) (.cells #[.slice U tree3.up.length cu, .slice D tree3.depth.length cd, .slice O tree3.word.length cw, .slice B tree3.byte.length cb] 30)
  obtain ⟨W3, hW⟩ : ∃ W, W2.alloc (.cells #[.slice U tree3.up.length cu, .slice D tree3.depth.length cd, .slice O tree3.word.length cw, .slice B tree3.byte.length cb] 30) = W := ⟨_, rfl⟩
  rw [hW] at H1 hg ⊢
  clear hW
  obtain ⟨b1, hb1⟩ : ∃ b, W2.heap.size = b := ⟨_, rfl⟩
  rw [hb1] at H1 ⊢
  replace hb1 := hid hb1
  replace hG := hid (grown_trans hG.out hg)
  replace hT := hid (hT.out.grown hg)
  clear hg
  have c0 := (H1.out.cell 0).trans (show _ = some (Value.slice U tree3.up.length cu) from rfl)
  have c1 := (H1.out.cell 1).trans (show _ = some (Value.slice D tree3.depth.length cd) from rfl)
  have c2 := (H1.out.cell 2).trans (show _ = some (Value.slice O tree3.word.length cw) from rfl)
  have c3 := (H1.out.cell 3).trans (show _ = some (Value.slice B tree3.byte.length cb) from rfl)
  have cl := H1.out.lt
  go_wp2_with fail
  refine (tMake_is false none 0 [] _ (by decide) (by decide) (fun i => by simpa using bytes_all [] rfl) (Arrs.nil _ _)).mono ?_
  rintro e W4 ⟨U2, D2, O2, B2, cu2, cd2, cw2, cb2, s2, rfl, hs2, hno2, hT2, hr2, hm2, hg⟩
  clear c0 c1 c2 c3 cl
  replace hG := hid (grown_trans hG.out hg)
  replace hT := hid (hT.out.grown hg)
  replace H1 := hid (H1.out.kept0 hg)
  clear hg
  obtain rfl : s2 = noTree := hno2 right_none
  clear hs2 hno2 hT2 hr2 hm2
  rw [right_none, if_neg Bool.false_ne_true]
  have c0 := (H1.out.cell 0).trans (show _ = some (Value.slice U tree3.up.length cu) from rfl)
  have c1 := (H1.out.cell 1).trans (show _ = some (Value.slice D tree3.depth.length cd) from rfl)
  have c2 := (H1.out.cell 2).trans (show _ = some (Value.slice O tree3.word.length cw) from rfl)
  have c3 := (H1.out.cell 3).trans (show _ = some (Value.slice B tree3.byte.length cb) from rfl)
  have cl := H1.out.lt
  go_wp2_with fail
  refine (tKid_is U D O B cu cd cw cb tree3 3 114 _ (hT.out.grown (grown_alloc (grown_refl _ _) _))).mono ?_
  rintro e W5 ⟨rfl, hg⟩
  replace hg := grown_trans (grown_alloc (grown_refl W4 none) _) hg
  clear c0 c1 c2 c3 cl
  replace hG := hid (grown_trans hG.out hg)
  replace hT := hid (hT.out.grown hg)
  replace H1 := hid (H1.out.kept0 hg)
  clear hg
  rw [kid3r]
  have c0 := (H1.out.cell 0).trans (show _ = some (Value.slice U tree3.up.length cu) from rfl)
  have c1 := (H1.out.cell 1).trans (show _ = some (Value.slice D tree3.depth.length cd) from rfl)
  have c2 := (H1.out.cell 2).trans (show _ = some (Value.slice O tree3.word.length cw) from rfl)
  have c3 := (H1.out.cell 3).trans (show _ = some (Value.slice B tree3.byte.length cb) from rfl)
  have cl := H1.out.lt
  go_wp2_with fail
  refine (tKid_is U D O B cu cd cw cb tree3 3 120 _ hT.out).mono ?_
  rintro e W6 ⟨rfl, hg⟩
  clear c0 c1 c2 c3 cl
  replace hG := hid (grown_trans hG.out hg)
  replace hT := hid (hT.out.grown hg)
  replace H1 := hid (H1.out.kept0 hg)
  clear hg
  rw [kid3x]
  have c0 := (H1.out.cell 0).trans (show _ = some (Value.slice U tree3.up.length cu) from rfl)
  have c1 := (H1.out.cell 1).trans (show _ = some (Value.slice D tree3.depth.length cd) from rfl)
  have c2 := (H1.out.cell 2).trans (show _ = some (Value.slice O tree3.word.length cw) from rfl)
  have c3 := (H1.out.cell 3).trans (show _ = some (Value.slice B tree3.byte.length cb) from rfl)
  have cl := H1.out.lt
  go_wp2_with fail
  refine (tFind_is U D O B cu cd cw cb tree3 (some ⟨_, 0, none⟩) 2 [115, 104] _ (hT.out.grown (grown_alloc (grown_refl _ _) _)) (bytes_at [115, 104] rfl) (by decide)).mono ?_
  rintro e W7 ⟨rfl, hg⟩
  replace hg := grown_trans (grown_alloc (grown_refl W6 none) _) hg
  clear c0 c1 c2 c3 cl
  replace hG := hid (grown_trans hG.out hg)
  replace hT := hid (hT.out.grown hg)
  replace H1 := hid (H1.out.kept0 hg)
  clear hg
  rw [find3sh]
  have c0 := (H1.out.cell 0).trans (show _ = some (Value.slice U tree3.up.length cu) from rfl)
  have c1 := (H1.out.cell 1).trans (show _ = some (Value.slice D tree3.depth.length cd) from rfl)
  have c2 := (H1.out.cell 2).trans (show _ = some (Value.slice O tree3.word.length cw) from rfl)
  have c3 := (H1.out.cell 3).trans (show _ = some (Value.slice B tree3.byte.length cb) from rfl)
  have cl := H1.out.lt
  go_wp2_with fail
  refine (tFind_is U D O B cu cd cw cb tree3 none 0 [] _ hT.out (Arr.nil _) (by decide)).mono ?_
  rintro e W8 ⟨rfl, hg⟩
  clear c0 c1 c2 c3 cl
  replace hG := hid (grown_trans hG.out hg)
  replace hT := hid (hT.out.grown hg)
  replace H1 := hid (H1.out.kept0 hg)
  clear hg
  rw [find3root]
  have c0 := (H1.out.cell 0).trans (show _ = some (Value.slice U tree3.up.length cu) from rfl)
  have c1 := (H1.out.cell 1).trans (show _ = some (Value.slice D tree3.depth.length cd) from rfl)
  have c2 := (H1.out.cell 2).trans (show _ = some (Value.slice O tree3.word.length cw) from rfl)
  have c3 := (H1.out.cell 3).trans (show _ = some (Value.slice B tree3.byte.length cb) from rfl)
  have cl := H1.out.lt
  go_wp2_with fail
  refine (tFind_is U D O B cu cd cw cb tree3 (some ⟨_, 0, none⟩) 1 [101] _ (hT.out.grown (grown_alloc (grown_refl _ _) _)) (bytes_at [101] rfl) (by decide)).mono ?_
  rintro e W9 ⟨rfl, hg⟩
  replace hg := grown_trans (grown_alloc (grown_refl W8 none) _) hg
  clear c0 c1 c2 c3 cl
  replace hG := hid (grown_trans hG.out hg)
  replace hT := hid (hT.out.grown hg)
  replace H1 := hid (H1.out.kept0 hg)
  clear hg
  rw [find3e]
  have c0 := (H1.out.cell 0).trans (show _ = some (Value.slice U tree3.up.length cu) from rfl)
  have c1 := (H1.out.cell 1).trans (show _ = some (Value.slice D tree3.depth.length cd) from rfl)
  have c2 := (H1.out.cell 2).trans (show _ = some (Value.slice O tree3.word.length cw) from rfl)
  have c3 := (H1.out.cell 3).trans (show _ = some (Value.slice B tree3.byte.length cb) from rfl)
  have cl := H1.out.lt
  go_wp2_with fail
  refine (tSpell_is U D O B cu cd cw cb tree3 6 _ hT.out).mono ?_
  rintro e W10 ⟨A8, n8, c8, rfl, hn8, hc8, hm8, ho8, hg⟩
  clear c0 c1 c2 c3 cl
  replace hG := hid (grown_trans hG.out hg)
  replace hT := hid (hT.out.grown hg)
  replace H1 := hid (H1.out.kept0 hg)
  clear hg
  rw [if_pos spell3.1, spell3.2] at hn8 ho8
  rw [spell3.1]
  obtain rfl : n8 = 3 := hn8
  have h8 := hid (show Arr W10 .u8 A8 [115, 104, 101] from Arr.of_own (k := .u8) ho8)
  clear ho8 hc8 hm8
  have c0 := (H1.out.cell 0).trans (show _ = some (Value.slice U tree3.up.length cu) from rfl)
  have c1 := (H1.out.cell 1).trans (show _ = some (Value.slice D tree3.depth.length cd) from rfl)
  have c2 := (H1.out.cell 2).trans (show _ = some (Value.slice O tree3.word.length cw) from rfl)
  have c3 := (H1.out.cell 3).trans (show _ = some (Value.slice B tree3.byte.length cb) from rfl)
  have cl := H1.out.lt
  go_wp2_with fail
  refine (tSpell_is U D O B cu cd cw cb tree3 7 _ hT.out).mono ?_
  rintro e W11 ⟨A9, n9, c9, rfl, hn9, hc9, hm9, ho9, hg⟩
  clear c0 c1 c2 c3 cl
  replace hG := hid (grown_trans hG.out hg)
  replace hT := hid (hT.out.grown hg)
  replace H1 := hid (H1.out.kept0 hg)
  replace h8 := hid (h8.out.grown hg)
  clear hg
  rw [spell3no]
  clear hc9 hm9 ho9 hn9
  have c0 := (H1.out.cell 0).trans (show _ = some (Value.slice U tree3.up.length cu) from rfl)
  have c1 := (H1.out.cell 1).trans (show _ = some (Value.slice D tree3.depth.length cd) from rfl)
  have c2 := (H1.out.cell 2).trans (show _ = some (Value.slice O tree3.word.length cw) from rfl)
  have c3 := (H1.out.cell 3).trans (show _ = some (Value.slice B tree3.byte.length cb) from rfl)
  have cl := H1.out.lt
  go_upto_region 11 with fail
  clear c0 c1 c2 c3 cl
  have hg := want_grown W11
  have hV := want_at W11
  have H2 := want_holds W11
  obtain ⟨WW, hW⟩ : ∃ V, wantW W11 = V := ⟨_, rfl⟩
  rw [hW] at hg hV H2
  rw [show (((((W11.alloc wu).alloc wd).alloc wo).alloc wb).alloc (wt W11.heap.size)) = WW from hW]
  clear hW
  obtain ⟨b2, hb2⟩ : ∃ b, W11.heap.size + 1 + 1 + 1 + 1 = b := ⟨_, rfl⟩
  obtain ⟨P1, e1⟩ : ∃ P : Option Addr, some ⟨W11.heap.size, 0, none⟩ = P := ⟨_, rfl⟩
  obtain ⟨P2, e2⟩ : ∃ P : Option Addr, some ⟨W11.heap.size + 1, 0, none⟩ = P := ⟨_, rfl⟩
  obtain ⟨P3, e3⟩ : ∃ P : Option Addr, some ⟨W11.heap.size + 1 + 1, 0, none⟩ = P := ⟨_, rfl⟩
  obtain ⟨P4, e4⟩ : ∃ P : Option Addr, some ⟨W11.heap.size + 1 + 1 + 1, 0, none⟩ = P := ⟨_, rfl⟩
  rw [hb2] at H2 ⊢
  rw [e1, e2, e3, e4] at hV H2
  clear hb2 e1 e2 e3 e4 kc
  replace hV := hid hV
  replace H2 := hid H2
  replace hG := hid (grown_trans hG.out hg)
  replace hT := hid (hT.out.grown hg)
  replace H1 := hid (H1.out.kept0 hg)
  replace h8 := hid (h8.out.grown hg)
  clear hg
  have c0 := (H1.out.cell 0).trans (show _ = some (Value.slice U tree3.up.length cu) from rfl)
  have c1 := (H1.out.cell 1).trans (show _ = some (Value.slice D tree3.depth.length cd) from rfl)
  have c2 := (H1.out.cell 2).trans (show _ = some (Value.slice O tree3.word.length cw) from rfl)
  have c3 := (H1.out.cell 3).trans (show _ = some (Value.slice B tree3.byte.length cb) from rfl)
  have cl := H1.out.lt
  go_wp2_with fail
  refine (tWords_is U D O B cu cd cw cb tree3 _ hT.out).mono ?_
  rintro e W12 ⟨AL, cL, l, rfl, hl, hL, hg⟩
  clear c0 c1 c2 c3 cl
  replace hG := hid (grown_trans hG.out hg)
  replace hT := hid (hT.out.grown hg)
  replace H1 := hid (H1.out.kept0 hg)
  replace h8 := hid (h8.out.grown hg)
  replace hV := hid (hV.out.grown hg)
  replace H2 := hid (H2.out.kept0 hg)
  clear hg
  rw [if_pos right3, words3] at hl
  have hLA := hL.arrs.2
  rw [hl] at hLA
  obtain ⟨bL, oL, rfl, hbL, hLc⟩ := hLA (by decide)
  obtain ⟨A10, c10, f1, h10⟩ := hLc 1 (by decide)
  replace f1 : Hid (W12.cell? ⟨bL, oL + 1, none⟩ = some (.slice A10 3 c10)) := hid f1
  replace h10 := hid (show Arr W12 .u8 A10 [115, 104, 101] from h10)
  have hl3 : l.length = 3 := by have := congrArg List.length hl; rw [List.length_map] at this; exact this
  rw [hl3]
  clear hL hl hl3 hLc
  replace hbL := hid hbL
  have c0 := (H1.out.cell 0).trans (show _ = some (Value.slice U tree3.up.length cu) from rfl)
  have c1 := (H1.out.cell 1).trans (show _ = some (Value.slice D tree3.depth.length cd) from rfl)
  have c2 := (H1.out.cell 2).trans (show _ = some (Value.slice O tree3.word.length cw) from rfl)
  have c3 := (H1.out.cell 3).trans (show _ = some (Value.slice B tree3.byte.length cb) from rfl)
  have cl := H1.out.lt
  have d0 := (H2.out.cell 0).trans (show _ = some (Value.slice P1 7 7) from rfl)
  have d1 := (H2.out.cell 1).trans (show _ = some (Value.slice P2 7 7) from rfl)
  have d2 := (H2.out.cell 2).trans (show _ = some (Value.slice P3 7 7) from rfl)
  have d3 := (H2.out.cell 3).trans (show _ = some (Value.slice P4 7 7) from rfl)
  have dl := H2.out.lt
  have f1l := hbL
  go_upto_region 14 with fail
  clear c0 c1 c2 c3 d0 d1 d2 d3
  apply wp_region_each [isv _, isv _, isv (.bool true), isv _, isv _, isv (.bool true), isv (.bool true), isv (.agg #[.slice U tree3.up.length cu, .slice D tree3.depth.length cd, .slice O tree3.word.length cw, .slice B tree3.byte.length cb]), isv (.agg #[.slice P1 7 7, .slice P2 7 7, .slice P3 7 7, .slice P4 7 7]), isv (.bool true), isv (.bool true), isv (.bool true), isv _, isv _, isv (.bool true), isv (.bool true), isv _, isv (.bool true), isv (.bool true), isv _, isv _, isv (.bool true), isv (.bool true), isv _, isv _, isv (.bool true), isv (.bool true), isv _, isv (.bool true), isv (.bool true), isv _, isv _, isv (.bool true), isv (.bool true), isv _, isv (.bool true), isv (.bool true), isv _, isv _, isv (.bool true), isv (.bool true), isv (.slice A8 3 c8), isv (.string ⟨#[115, 104, 101]⟩), isv _, isv (.bool true), isv (.bool true), isv _, isv (.bool true), isv (.bool true), isv _, isv _, isv (.bool true), isv (.bool true), isv (.agg #[.slice U tree3.up.length cu, .slice D tree3.depth.length cd, .slice O tree3.word.length cw, .slice B tree3.byte.length cb]), isv (.int .i64 7), isv _, isv (.bool true), isv (.bool true), isv _, isv _, isv (.slice A10 3 c10), isv (.string ⟨#[115, 104, 101]⟩), isv _, isv (.bool true), isv (.bool true), isv (.agg #[.slice U tree3.up.length cu, .slice D tree3.depth.length cd, .slice O tree3.word.length cw, .slice B tree3.byte.length cb]), isv (.bool true), isv (.bool true), isv (.bool true), isv (.agg #[.slice none 0 0, .slice none 0 0, .slice none 0 0, .slice none 0 0]), isv (.bool false), isv _, isv (.bool true), isv (.bool true), isv (.agg #[.slice U tree3.up.length cu, .slice D tree3.depth.length cd, .slice O tree3.word.length cw, .slice B tree3.byte.length cb]), isTreeV tree3, isv (.agg #[.slice U tree3.up.length cu, .slice D tree3.depth.length cd, .slice O tree3.word.length cw, .slice B tree3.byte.length cb]), isv (.bool true), isv (.bool true), isv (.bool true), isv (.agg #[.slice U tree3.up.length cu, .slice D tree3.depth.length cd, .slice O tree3.word.length cw, .slice B tree3.byte.length cb]), isv (.agg #[.slice none 0 0, .slice none 0 0, .slice none 0 0, .slice none 0 0]), isv (.bool false), isv _, isv (.bool true), isv (.bool true), isv (.agg #[.slice none 0 0, .slice none 0 0, .slice none 0 0, .slice none 0 0]), isv (.int .i64 0), isv _, isv (.bool true), isv (.bool true)]
    169 [some 79, some 80, some 81, some 82, some 83, some 84, some 85, some 86, some 87, some 88, some 89, some 90, some 91, some 92, some 93, some 94, some 95, some 96, some 97, some 98, some 99, some 100, some 101, some 102, some 103, some 104, some 105, some 106, some 107, some 108, some 109, some 110, some 111, some 112, some 113, some 114, some 115, some 116, some 117, some 118, some 119, some 120, some 121, some 122, some 123, some 124, some 125, some 126, some 127, some 128, some 129, some 130, some 131, some 132, some 133, some 134, some 135, some 136, some 137, some 138, some 139, some 140, some 141, some 142, some 143, some 144, some 145, some 146, some 147, some 148, some 149, some 150, some 151, some 152, some 153, some 154, some 155, some 156, some 157, some 158, some 159, some 160, some 161, some 162, some 163, some 164, some 165, some 166, some 167, some 168, some 0]
    [some 79, some 80, some 81, some 82, some 83, some 84, some 85, some 86, some 87, some 88, some 89, some 90, some 91, some 92, some 93, some 94, some 95, some 96, some 97, some 98, some 99, some 100, some 101, some 102, some 103, some 104, some 105, some 106, some 107, some 108, some 109, some 110, some 111, some 112, some 113, some 114, some 115, some 116, some 117, some 118, some 119, some 120, some 121, some 122, some 123, some 124, some 125, some 126, some 127, some 128, some 129, some 130, some 131, some 132, some 133, some 134, some 135, some 136, some 137, some 138, some 139, some 140, some 141, some 142, some 143, some 144, some 145, some 146, some 147, some 148, some 149, some 150, some 151, some 152, some 153, some 154, some 155, some 156, some 157, some 158, some 159, some 160, some 161, some 162, some 163, some 164, some 165, some 166, some 167, some 168, some 0]
    [[], [0], [1], [2], [3, 2], [2, 4], [5], [6], [6], [7, 8, 6], [6, 9], [10], [11], [12, 11], [11, 13], [14], [15], [15, 16], [17], [18], [19, 18], [18, 20], [21], [22], [23, 22], [22, 24], [25], [26], [26, 27], [28], [29], [30, 29], [29, 31], [32], [33], [33, 34], [35], [36], [37, 36], [36, 38], [39], [40], [41, 40], [42, 40], [40, 43], [44], [45], [45, 46], [47], [48], [49, 48], [48, 50], [51], [52], [53, 52], [54, 52], [52, 55], [56], [57], [58, 57], [59, 57], [60, 57], [61, 57], [57, 62], [63], [64], [65, 64], [64, 66], [67], [68], [69, 68], [70, 68], [68, 71], [72], [73], [74, 73], [73], [75, 76, 73], [73, 77], [78], [79], [79], [80, 81, 79], [82, 79], [79, 83], [84], [85], [86, 85], [87, 85], [85, 88], [89]]
    [(1, .pointer (some ⟨b1, 0, none⟩)), (2, .int .i64 0), (4, .int .i64 2), (5, .int .i64 5), (6, .bool true), (8, .bool false), (9, .int .i64 4), (10, .bool true), (11, .int .i64 0), (12, .bool true), (14, .bool false), (15, .slice A8 3 c8), (16, .bool true), (18, .bool false), (19, .pointer (some ⟨b2, 0, none⟩)), (20, .slice (some ⟨bL, oL, none⟩) 3 cL)] (by kernel_rfl) rfl (by kernel_rfl) rfl rfl (by kernel_rfl) (OutsOk.cons rfl rfl (OutsOk.cons rfl rfl (OutsOk.cons rfl rfl (OutsOk.cons rfl rfl (OutsOk.cons rfl rfl (OutsOk.cons rfl rfl (OutsOk.cons rfl rfl (OutsOk.cons rfl rfl (OutsOk.cons rfl rfl (OutsOk.cons rfl rfl (OutsOk.cons rfl rfl (OutsOk.cons rfl rfl (OutsOk.cons rfl rfl (OutsOk.cons rfl rfl (OutsOk.cons rfl rfl (OutsOk.cons rfl rfl OutsOk.nil)))))))))))))))) ?st ?ob ?fin
  case ob =>
    refine Obs.consv rfl ?o0 (Obs.consv rfl ?o1 (Obs.consv rfl ?o2 (Obs.consv rfl ?o3 (Obs.consv rfl ?o4 (Obs.consv rfl ?o5 (Obs.consv rfl ?o6 (Obs.consv rfl ?o7 (Obs.consv rfl ?o8 (Obs.consv rfl ?o9 (Obs.consv rfl ?o10 (Obs.consv rfl ?o11 (Obs.consv rfl ?o12 (Obs.consv rfl ?o13 (Obs.consv rfl ?o14 (Obs.consv rfl ?o15 (Obs.consv rfl ?o16 (Obs.consv rfl ?o17 (Obs.consv rfl ?o18 (Obs.consv rfl ?o19 (Obs.consv rfl ?o20 (Obs.consv rfl ?o21 (Obs.consv rfl ?o22 (Obs.consv rfl ?o23 (Obs.consv rfl ?o24 (Obs.consv rfl ?o25 (Obs.consv rfl ?o26 (Obs.consv rfl ?o27 (Obs.consv rfl ?o28 (Obs.consv rfl ?o29 (Obs.consv rfl ?o30 (Obs.consv rfl ?o31 (Obs.consv rfl ?o32 (Obs.consv rfl ?o33 (Obs.consv rfl ?o34 (Obs.consv rfl ?o35 (Obs.consv rfl ?o36 (Obs.consv rfl ?o37 (Obs.consv rfl ?o38 (Obs.consv rfl ?o39 (Obs.consv rfl ?o40 (Obs.consv rfl ?o41 (Obs.consv rfl ?o42 (Obs.consv rfl ?o43 (Obs.consv rfl ?o44 (Obs.consv rfl ?o45 (Obs.consv rfl ?o46 (Obs.consv rfl ?o47 (Obs.consv rfl ?o48 (Obs.consv rfl ?o49 (Obs.consv rfl ?o50 (Obs.consv rfl ?o51 (Obs.consv rfl ?o52 (Obs.consv rfl ?o53 (Obs.consv rfl ?o54 (Obs.consv rfl ?o55 (Obs.consv rfl ?o56 (Obs.consv rfl ?o57 (Obs.consv rfl ?o58 (Obs.consv rfl ?o59 (Obs.consv rfl ?o60 (Obs.consv rfl ?o61 (Obs.consv rfl ?o62 (Obs.consv rfl ?o63 (Obs.consv rfl ?o64 (Obs.consv rfl ?o65 (Obs.consv rfl ?o66 (Obs.consv rfl ?o67 (Obs.consv rfl ?o68 (Obs.consv rfl ?o69 (Obs.consv rfl ?o70 (Obs.consv rfl ?o71 (Obs.consv rfl ?o72 (Obs.consv rfl ?o73 (Obs.consv rfl ?o74 (Obs.consv rfl ?o75 (Obs.consv rfl ?o76 (Obs.consv rfl ?o77 (Obs.consv rfl ?o78 (Obs.consv rfl ?o79 (Obs.consv rfl ?o80 (Obs.consv rfl ?o81 (Obs.consv rfl ?o82 (Obs.consv rfl ?o83 (Obs.consv rfl ?o84 (Obs.consv rfl ?o85 (Obs.consv rfl ?o86 (Obs.consv rfl ?o87 (Obs.consv rfl ?o88 (Obs.consv rfl ?o89 (Obs.consv rfl ?o90 Obs.nil))))))))))))))))))))))))))))))))))))))))))))))))))))))))))))))))))))))))))))))))))))))))))
    case o0 =>
      go_light
      intro ac w' hgw
      have hgw0 := hid hgw
      replace hgw := hid (grown_trans (grown_drew (grown_refl W12 none)) hgw)
      simp only [outThen, preThen, slotIs, factAt, isv, List.getElem?_cons_zero, List.getElem?_cons_succ, Option.getD_some, forall_eq]
      intros
      rename_i hK
      replace hK := hid hK
      simp only [wantedAt]
      go_simp
      exact hK.out _ _ rfl (grown_refl _ _)
    case o1 =>
      go_light
      intro ac w' hgw
      have hgw0 := hid hgw
      replace hgw := hid (grown_trans (grown_drew (grown_refl W12 none)) hgw)
      simp only [outThen, preThen, slotIs, factAt, isv, List.getElem?_cons_zero, List.getElem?_cons_succ, Option.getD_some, forall_eq]
      intros
      rename_i hK
      replace hK := hid hK
      simp only [wantedAt]
      go_simp
      exact hK.out _ _ rfl (grown_refl _ _)
    case o2 =>
      go_light
      intro ac w' hgw
      have hgw0 := hid hgw
      replace hgw := hid (grown_trans (grown_drew (grown_refl W12 none)) hgw)
      simp only [outThen, preThen, slotIs, factAt, isv, List.getElem?_cons_zero, List.getElem?_cons_succ, Option.getD_some, forall_eq]
      intros
      rename_i hK
      replace hK := hid hK
      simp only [wantedAt]
      go_simp
      exact hK.out _ _ rfl (grown_refl _ _)
    case o3 =>
      go_light
      intro ac w' hgw
      have hgw0 := hid hgw
      replace hgw := hid (grown_trans (grown_drew (grown_refl W12 none)) hgw)
      simp only [outThen, preThen, slotIs, factAt, isv, List.getElem?_cons_zero, List.getElem?_cons_succ, Option.getD_some, forall_eq]
      intros
      rename_i hK
      replace hK := hid hK
      simp only [wantedAt]
      go_simp
      exact hK.out _ _ rfl (grown_refl _ _)
    case o4 =>
      go_light
      intro ac w' hgw
      have hgw0 := hid hgw
      replace hgw := hid (grown_trans (grown_drew (grown_refl W12 none)) hgw)
      simp only [outThen, preThen, slotIs, factAt, isv, List.getElem?_cons_zero, List.getElem?_cons_succ, Option.getD_some, forall_eq]
      intros
      rename_i hK
      replace hK := hid hK
      simp only [wantedAt]
      go_simp
      exact hK.out _ _ rfl (grown_refl _ _)
    case o5 =>
      go_light
      intro ac w' hgw
      have hgw0 := hid hgw
      replace hgw := hid (grown_trans (grown_drew (grown_refl W12 none)) hgw)
      simp only [outThen, preThen, slotIs, factAt, isv, List.getElem?_cons_zero, List.getElem?_cons_succ, Option.getD_some, forall_eq]
      intros
      rename_i hK
      replace hK := hid hK
      simp only [wantedAt]
      go_simp
      exact hK.out _ _ rfl (grown_refl _ _)
    case o6 =>
      go_light
      intro ac w' hgw
      have hgw0 := hid hgw
      replace hgw := hid (grown_trans (grown_drew (grown_refl W12 none)) hgw)
      simp only [outThen, preThen, slotIs, factAt, isv, List.getElem?_cons_zero, List.getElem?_cons_succ, Option.getD_some, forall_eq]
      intros
      rename_i hK
      replace hK := hid hK
      simp only [wantedAt]
      go_simp
      exact hK.out _ _ rfl (grown_refl _ _)
    case o7 =>
      go_light
      intro ac w' hgw
      have hgw0 := hid hgw
      replace hgw := hid (grown_trans (grown_drew (grown_refl W12 none)) hgw)
      simp only [outThen, preThen, slotIs, factAt, isv, List.getElem?_cons_zero, List.getElem?_cons_succ, Option.getD_some, forall_eq]
      have k0 := ((gcell hgw.out).1 b1 0 H1.out.lt).trans ((H1.out.cell 0).trans (show _ = some (Value.slice U tree3.up.length cu) from rfl))
      have k1 := ((gcell hgw.out).1 b1 1 H1.out.lt).trans ((H1.out.cell 1).trans (show _ = some (Value.slice D tree3.depth.length cd) from rfl))
      have k2 := ((gcell hgw.out).1 b1 2 H1.out.lt).trans ((H1.out.cell 2).trans (show _ = some (Value.slice O tree3.word.length cw) from rfl))
      have k3 := ((gcell hgw.out).1 b1 3 H1.out.lt).trans ((H1.out.cell 3).trans (show _ = some (Value.slice B tree3.byte.length cb) from rfl))
      intros
      rename_i hK
      replace hK := hid hK
      simp only [wantedAt]
      go_simp
      exact hK.out _ _ rfl (grown_refl _ _)
    case o8 =>
      go_light
      intro ac w' hgw
      have hgw0 := hid hgw
      replace hgw := hid (grown_trans (grown_drew (grown_refl W12 none)) hgw)
      simp only [outThen, preThen, slotIs, factAt, isv, List.getElem?_cons_zero, List.getElem?_cons_succ, Option.getD_some, forall_eq]
      have k0 := ((gcell hgw.out).1 b2 0 H2.out.lt).trans ((H2.out.cell 0).trans (show _ = some (Value.slice P1 7 7) from rfl))
      have k1 := ((gcell hgw.out).1 b2 1 H2.out.lt).trans ((H2.out.cell 1).trans (show _ = some (Value.slice P2 7 7) from rfl))
      have k2 := ((gcell hgw.out).1 b2 2 H2.out.lt).trans ((H2.out.cell 2).trans (show _ = some (Value.slice P3 7 7) from rfl))
      have k3 := ((gcell hgw.out).1 b2 3 H2.out.lt).trans ((H2.out.cell 3).trans (show _ = some (Value.slice P4 7 7) from rfl))
      intros
      rename_i hK
      replace hK := hid hK
      simp only [wantedAt]
      go_simp
      exact hK.out _ _ rfl (grown_refl _ _)
    case o9 =>
      go_light
      intro ac w' hgw
      have hgw0 := hid hgw
      replace hgw := hid (grown_trans (grown_drew (grown_refl W12 none)) hgw)
      simp only [outThen, preThen, slotIs, factAt, isv, List.getElem?_cons_zero, List.getElem?_cons_succ, Option.getD_some, forall_eq]
      intros
      rename_i hK
      replace hK := hid hK
      simp only [wantedAt]
      go_simp
      refine (refTSame_is U D O B P1 P2 P3 P4 cu cd cw cb 7 7 7 7 tree3 tree3 _ (by decide) (by decide) (by decide) bytes3 bytes3 (hT.out.grown hgw.out).at_ (hV.out.grown hgw.out)).mono ?_
      rintro e w9 ⟨rfl, hg⟩
      rw [same33]
      exact hK.out _ _ rfl hg
    case o10 =>
      go_light
      intro ac w' hgw
      have hgw0 := hid hgw
      replace hgw := hid (grown_trans (grown_drew (grown_refl W12 none)) hgw)
      simp only [outThen, preThen, slotIs, factAt, isv, List.getElem?_cons_zero, List.getElem?_cons_succ, Option.getD_some, forall_eq]
      intros
      rename_i hK
      replace hK := hid hK
      simp only [wantedAt]
      go_simp
      exact hK.out _ _ rfl (grown_refl _ _)
    case o11 =>
      go_light
      intro ac w' hgw
      have hgw0 := hid hgw
      replace hgw := hid (grown_trans (grown_drew (grown_refl W12 none)) hgw)
      simp only [outThen, preThen, slotIs, factAt, isv, List.getElem?_cons_zero, List.getElem?_cons_succ, Option.getD_some, forall_eq]
      intros
      rename_i hK
      replace hK := hid hK
      simp only [wantedAt]
      go_simp
      exact hK.out _ _ rfl (grown_refl _ _)
    case o12 =>
      go_light
      intro ac w' hgw
      have hgw0 := hid hgw
      replace hgw := hid (grown_trans (grown_drew (grown_refl W12 none)) hgw)
      simp only [outThen, preThen, slotIs, factAt, isv, List.getElem?_cons_zero, List.getElem?_cons_succ, Option.getD_some, forall_eq]
      intros
      rename_i hK
      replace hK := hid hK
      simp only [wantedAt]
      go_simp
      exact hK.out _ _ rfl (grown_refl _ _)
    case o13 =>
      go_light
      intro ac w' hgw
      have hgw0 := hid hgw
      replace hgw := hid (grown_trans (grown_drew (grown_refl W12 none)) hgw)
      simp only [outThen, preThen, slotIs, factAt, isv, List.getElem?_cons_zero, List.getElem?_cons_succ, Option.getD_some, forall_eq]
      intros
      rename_i hK
      replace hK := hid hK
      simp only [wantedAt]
      go_simp
      exact hK.out _ _ rfl (grown_refl _ _)
    case o14 =>
      go_light
      intro ac w' hgw
      have hgw0 := hid hgw
      replace hgw := hid (grown_trans (grown_drew (grown_refl W12 none)) hgw)
      simp only [outThen, preThen, slotIs, factAt, isv, List.getElem?_cons_zero, List.getElem?_cons_succ, Option.getD_some, forall_eq]
      intros
      rename_i hK
      replace hK := hid hK
      simp only [wantedAt]
      go_simp
      exact hK.out _ _ rfl (grown_refl _ _)
    case o15 =>
      go_light
      intro ac w' hgw
      have hgw0 := hid hgw
      replace hgw := hid (grown_trans (grown_drew (grown_refl W12 none)) hgw)
      simp only [outThen, preThen, slotIs, factAt, isv, List.getElem?_cons_zero, List.getElem?_cons_succ, Option.getD_some, forall_eq]
      intros
      rename_i hK
      replace hK := hid hK
      simp only [wantedAt]
      go_simp
      exact hK.out _ _ rfl (grown_refl _ _)
    case o16 =>
      go_light
      intro ac w' hgw
      have hgw0 := hid hgw
      replace hgw := hid (grown_trans (grown_drew (grown_refl W12 none)) hgw)
      simp only [outThen, preThen, slotIs, factAt, isv, List.getElem?_cons_zero, List.getElem?_cons_succ, Option.getD_some, forall_eq]
      intros
      rename_i hK
      replace hK := hid hK
      simp only [wantedAt]
      go_simp
      exact hK.out _ _ rfl (grown_refl _ _)
    case o17 =>
      go_light
      intro ac w' hgw
      have hgw0 := hid hgw
      replace hgw := hid (grown_trans (grown_drew (grown_refl W12 none)) hgw)
      simp only [outThen, preThen, slotIs, factAt, isv, List.getElem?_cons_zero, List.getElem?_cons_succ, Option.getD_some, forall_eq]
      intros
      rename_i hK
      replace hK := hid hK
      simp only [wantedAt]
      go_simp
      exact hK.out _ _ rfl (grown_refl _ _)
    case o18 =>
      go_light
      intro ac w' hgw
      have hgw0 := hid hgw
      replace hgw := hid (grown_trans (grown_drew (grown_refl W12 none)) hgw)
      simp only [outThen, preThen, slotIs, factAt, isv, List.getElem?_cons_zero, List.getElem?_cons_succ, Option.getD_some, forall_eq]
      intros
      rename_i hK
      replace hK := hid hK
      simp only [wantedAt]
      go_simp
      exact hK.out _ _ rfl (grown_refl _ _)
    case o19 =>
      go_light
      intro ac w' hgw
      have hgw0 := hid hgw
      replace hgw := hid (grown_trans (grown_drew (grown_refl W12 none)) hgw)
      simp only [outThen, preThen, slotIs, factAt, isv, List.getElem?_cons_zero, List.getElem?_cons_succ, Option.getD_some, forall_eq]
      intros
      rename_i hK
      replace hK := hid hK
      simp only [wantedAt]
      go_simp
      exact hK.out _ _ rfl (grown_refl _ _)
    case o20 =>
      go_light
      intro ac w' hgw
      have hgw0 := hid hgw
      replace hgw := hid (grown_trans (grown_drew (grown_refl W12 none)) hgw)
      simp only [outThen, preThen, slotIs, factAt, isv, List.getElem?_cons_zero, List.getElem?_cons_succ, Option.getD_some, forall_eq]
      intros
      rename_i hK
      replace hK := hid hK
      simp only [wantedAt]
      go_simp
      exact hK.out _ _ rfl (grown_refl _ _)
    case o21 =>
      go_light
      intro ac w' hgw
      have hgw0 := hid hgw
      replace hgw := hid (grown_trans (grown_drew (grown_refl W12 none)) hgw)
      simp only [outThen, preThen, slotIs, factAt, isv, List.getElem?_cons_zero, List.getElem?_cons_succ, Option.getD_some, forall_eq]
      intros
      rename_i hK
      replace hK := hid hK
      simp only [wantedAt]
      go_simp
      exact hK.out _ _ rfl (grown_refl _ _)
    case o22 =>
      go_light
      intro ac w' hgw
      have hgw0 := hid hgw
      replace hgw := hid (grown_trans (grown_drew (grown_refl W12 none)) hgw)
      simp only [outThen, preThen, slotIs, factAt, isv, List.getElem?_cons_zero, List.getElem?_cons_succ, Option.getD_some, forall_eq]
      intros
      rename_i hK
      replace hK := hid hK
      simp only [wantedAt]
      go_simp
      exact hK.out _ _ rfl (grown_refl _ _)
    case o23 =>
      go_light
      intro ac w' hgw
      have hgw0 := hid hgw
      replace hgw := hid (grown_trans (grown_drew (grown_refl W12 none)) hgw)
      simp only [outThen, preThen, slotIs, factAt, isv, List.getElem?_cons_zero, List.getElem?_cons_succ, Option.getD_some, forall_eq]
      intros
      rename_i hK
      replace hK := hid hK
      simp only [wantedAt]
      go_simp
      exact hK.out _ _ rfl (grown_refl _ _)
    case o24 =>
      go_light
      intro ac w' hgw
      have hgw0 := hid hgw
      replace hgw := hid (grown_trans (grown_drew (grown_refl W12 none)) hgw)
      simp only [outThen, preThen, slotIs, factAt, isv, List.getElem?_cons_zero, List.getElem?_cons_succ, Option.getD_some, forall_eq]
      intros
      rename_i hK
      replace hK := hid hK
      simp only [wantedAt]
      go_simp
      exact hK.out _ _ rfl (grown_refl _ _)
    case o25 =>
      go_light
      intro ac w' hgw
      have hgw0 := hid hgw
      replace hgw := hid (grown_trans (grown_drew (grown_refl W12 none)) hgw)
      simp only [outThen, preThen, slotIs, factAt, isv, List.getElem?_cons_zero, List.getElem?_cons_succ, Option.getD_some, forall_eq]
      intros
      rename_i hK
      replace hK := hid hK
      simp only [wantedAt]
      go_simp
      exact hK.out _ _ rfl (grown_refl _ _)
    case o26 =>
      go_light
      intro ac w' hgw
      have hgw0 := hid hgw
      replace hgw := hid (grown_trans (grown_drew (grown_refl W12 none)) hgw)
      simp only [outThen, preThen, slotIs, factAt, isv, List.getElem?_cons_zero, List.getElem?_cons_succ, Option.getD_some, forall_eq]
      intros
      rename_i hK
      replace hK := hid hK
      simp only [wantedAt]
      go_simp
      exact hK.out _ _ rfl (grown_refl _ _)
    case o27 =>
      go_light
      intro ac w' hgw
      have hgw0 := hid hgw
      replace hgw := hid (grown_trans (grown_drew (grown_refl W12 none)) hgw)
      simp only [outThen, preThen, slotIs, factAt, isv, List.getElem?_cons_zero, List.getElem?_cons_succ, Option.getD_some, forall_eq]
      intros
      rename_i hK
      replace hK := hid hK
      simp only [wantedAt]
      go_simp
      exact hK.out _ _ rfl (grown_refl _ _)
    case o28 =>
      go_light
      intro ac w' hgw
      have hgw0 := hid hgw
      replace hgw := hid (grown_trans (grown_drew (grown_refl W12 none)) hgw)
      simp only [outThen, preThen, slotIs, factAt, isv, List.getElem?_cons_zero, List.getElem?_cons_succ, Option.getD_some, forall_eq]
      intros
      rename_i hK
      replace hK := hid hK
      simp only [wantedAt]
      go_simp
      exact hK.out _ _ rfl (grown_refl _ _)
    case o29 =>
      go_light
      intro ac w' hgw
      have hgw0 := hid hgw
      replace hgw := hid (grown_trans (grown_drew (grown_refl W12 none)) hgw)
      simp only [outThen, preThen, slotIs, factAt, isv, List.getElem?_cons_zero, List.getElem?_cons_succ, Option.getD_some, forall_eq]
      intros
      rename_i hK
      replace hK := hid hK
      simp only [wantedAt]
      go_simp
      exact hK.out _ _ rfl (grown_refl _ _)
    case o30 =>
      go_light
      intro ac w' hgw
      have hgw0 := hid hgw
      replace hgw := hid (grown_trans (grown_drew (grown_refl W12 none)) hgw)
      simp only [outThen, preThen, slotIs, factAt, isv, List.getElem?_cons_zero, List.getElem?_cons_succ, Option.getD_some, forall_eq]
      intros
      rename_i hK
      replace hK := hid hK
      simp only [wantedAt]
      go_simp
      exact hK.out _ _ rfl (grown_refl _ _)
    case o31 =>
      go_light
      intro ac w' hgw
      have hgw0 := hid hgw
      replace hgw := hid (grown_trans (grown_drew (grown_refl W12 none)) hgw)
      simp only [outThen, preThen, slotIs, factAt, isv, List.getElem?_cons_zero, List.getElem?_cons_succ, Option.getD_some, forall_eq]
      intros
      rename_i hK
      replace hK := hid hK
      simp only [wantedAt]
      go_simp
      exact hK.out _ _ rfl (grown_refl _ _)
    case o32 =>
      go_light
      intro ac w' hgw
      have hgw0 := hid hgw
      replace hgw := hid (grown_trans (grown_drew (grown_refl W12 none)) hgw)
      simp only [outThen, preThen, slotIs, factAt, isv, List.getElem?_cons_zero, List.getElem?_cons_succ, Option.getD_some, forall_eq]
      intros
      rename_i hK
      replace hK := hid hK
      simp only [wantedAt]
      go_simp
      exact hK.out _ _ rfl (grown_refl _ _)
    case o33 =>
      go_light
      intro ac w' hgw
      have hgw0 := hid hgw
      replace hgw := hid (grown_trans (grown_drew (grown_refl W12 none)) hgw)
      simp only [outThen, preThen, slotIs, factAt, isv, List.getElem?_cons_zero, List.getElem?_cons_succ, Option.getD_some, forall_eq]
      intros
      rename_i hK
      replace hK := hid hK
      simp only [wantedAt]
      go_simp
      exact hK.out _ _ rfl (grown_refl _ _)
    case o34 =>
      go_light
      intro ac w' hgw
      have hgw0 := hid hgw
      replace hgw := hid (grown_trans (grown_drew (grown_refl W12 none)) hgw)
      simp only [outThen, preThen, slotIs, factAt, isv, List.getElem?_cons_zero, List.getElem?_cons_succ, Option.getD_some, forall_eq]
      intros
      rename_i hK
      replace hK := hid hK
      simp only [wantedAt]
      go_simp
      exact hK.out _ _ rfl (grown_refl _ _)
    case o35 =>
      go_light
      intro ac w' hgw
      have hgw0 := hid hgw
      replace hgw := hid (grown_trans (grown_drew (grown_refl W12 none)) hgw)
      simp only [outThen, preThen, slotIs, factAt, isv, List.getElem?_cons_zero, List.getElem?_cons_succ, Option.getD_some, forall_eq]
      intros
      rename_i hK
      replace hK := hid hK
      simp only [wantedAt]
      go_simp
      exact hK.out _ _ rfl (grown_refl _ _)
    case o36 =>
      go_light
      intro ac w' hgw
      have hgw0 := hid hgw
      replace hgw := hid (grown_trans (grown_drew (grown_refl W12 none)) hgw)
      simp only [outThen, preThen, slotIs, factAt, isv, List.getElem?_cons_zero, List.getElem?_cons_succ, Option.getD_some, forall_eq]
      intros
      rename_i hK
      replace hK := hid hK
      simp only [wantedAt]
      go_simp
      exact hK.out _ _ rfl (grown_refl _ _)
    case o37 =>
      go_light
      intro ac w' hgw
      have hgw0 := hid hgw
      replace hgw := hid (grown_trans (grown_drew (grown_refl W12 none)) hgw)
      simp only [outThen, preThen, slotIs, factAt, isv, List.getElem?_cons_zero, List.getElem?_cons_succ, Option.getD_some, forall_eq]
      intros
      rename_i hK
      replace hK := hid hK
      simp only [wantedAt]
      go_simp
      exact hK.out _ _ rfl (grown_refl _ _)
    case o38 =>
      go_light
      intro ac w' hgw
      have hgw0 := hid hgw
      replace hgw := hid (grown_trans (grown_drew (grown_refl W12 none)) hgw)
      simp only [outThen, preThen, slotIs, factAt, isv, List.getElem?_cons_zero, List.getElem?_cons_succ, Option.getD_some, forall_eq]
      intros
      rename_i hK
      replace hK := hid hK
      simp only [wantedAt]
      go_simp
      exact hK.out _ _ rfl (grown_refl _ _)
    case o39 =>
      go_light
      intro ac w' hgw
      have hgw0 := hid hgw
      replace hgw := hid (grown_trans (grown_drew (grown_refl W12 none)) hgw)
      simp only [outThen, preThen, slotIs, factAt, isv, List.getElem?_cons_zero, List.getElem?_cons_succ, Option.getD_some, forall_eq]
      intros
      rename_i hK
      replace hK := hid hK
      simp only [wantedAt]
      go_simp
      exact hK.out _ _ rfl (grown_refl _ _)
    case o40 =>
      go_light
      intro ac w' hgw
      have hgw0 := hid hgw
      replace hgw := hid (grown_trans (grown_drew (grown_refl W12 none)) hgw)
      simp only [outThen, preThen, slotIs, factAt, isv, List.getElem?_cons_zero, List.getElem?_cons_succ, Option.getD_some, forall_eq]
      intros
      rename_i hK
      replace hK := hid hK
      simp only [wantedAt]
      go_simp
      exact hK.out _ _ rfl (grown_refl _ _)
    case o41 =>
      go_light
      intro ac w' hgw
      have hgw0 := hid hgw
      replace hgw := hid (grown_trans (grown_drew (grown_refl W12 none)) hgw)
      simp only [outThen, preThen, slotIs, factAt, isv, List.getElem?_cons_zero, List.getElem?_cons_succ, Option.getD_some, forall_eq]
      intros
      rename_i hK
      replace hK := hid hK
      simp only [wantedAt]
      go_simp
      exact hK.out _ _ rfl (grown_refl _ _)
    case o42 =>
      go_light
      intro ac w' hgw
      have hgw0 := hid hgw
      replace hgw := hid (grown_trans (grown_drew (grown_refl W12 none)) hgw)
      simp only [outThen, preThen, slotIs, factAt, isv, List.getElem?_cons_zero, List.getElem?_cons_succ, Option.getD_some, forall_eq]
      have cv := conv_arr w' A8 c8 [115, 104, 101] (h8.out.grown hgw.out)
      rw [str_she] at cv
      simp only [List.length_cons, List.length_nil, Nat.zero_add, Nat.reduceAdd] at cv
      intros
      rename_i hK
      replace hK := hid hK
      simp only [wantedAt]
      go_simp
      exact hK.out _ _ rfl (grown_refl _ _)
    case o43 =>
      go_light
      intro ac w' hgw
      have hgw0 := hid hgw
      replace hgw := hid (grown_trans (grown_drew (grown_refl W12 none)) hgw)
      simp only [outThen, preThen, slotIs, factAt, isv, List.getElem?_cons_zero, List.getElem?_cons_succ, Option.getD_some, forall_eq]
      intros
      rename_i hK
      replace hK := hid hK
      simp only [wantedAt]
      go_simp
      exact hK.out _ _ rfl (grown_refl _ _)
    case o44 =>
      go_light
      intro ac w' hgw
      have hgw0 := hid hgw
      replace hgw := hid (grown_trans (grown_drew (grown_refl W12 none)) hgw)
      simp only [outThen, preThen, slotIs, factAt, isv, List.getElem?_cons_zero, List.getElem?_cons_succ, Option.getD_some, forall_eq]
      intros
      rename_i hK
      replace hK := hid hK
      simp only [wantedAt]
      go_simp
      exact hK.out _ _ rfl (grown_refl _ _)
    case o45 =>
      go_light
      intro ac w' hgw
      have hgw0 := hid hgw
      replace hgw := hid (grown_trans (grown_drew (grown_refl W12 none)) hgw)
      simp only [outThen, preThen, slotIs, factAt, isv, List.getElem?_cons_zero, List.getElem?_cons_succ, Option.getD_some, forall_eq]
      intros
      rename_i hK
      replace hK := hid hK
      simp only [wantedAt]
      go_simp
      exact hK.out _ _ rfl (grown_refl _ _)
    case o46 =>
      go_light
      intro ac w' hgw
      have hgw0 := hid hgw
      replace hgw := hid (grown_trans (grown_drew (grown_refl W12 none)) hgw)
      simp only [outThen, preThen, slotIs, factAt, isv, List.getElem?_cons_zero, List.getElem?_cons_succ, Option.getD_some, forall_eq]
      intros
      rename_i hK
      replace hK := hid hK
      simp only [wantedAt]
      go_simp
      exact hK.out _ _ rfl (grown_refl _ _)
    case o47 =>
      go_light
      intro ac w' hgw
      have hgw0 := hid hgw
      replace hgw := hid (grown_trans (grown_drew (grown_refl W12 none)) hgw)
      simp only [outThen, preThen, slotIs, factAt, isv, List.getElem?_cons_zero, List.getElem?_cons_succ, Option.getD_some, forall_eq]
      intros
      rename_i hK
      replace hK := hid hK
      simp only [wantedAt]
      go_simp
      exact hK.out _ _ rfl (grown_refl _ _)
    case o48 =>
      go_light
      intro ac w' hgw
      have hgw0 := hid hgw
      replace hgw := hid (grown_trans (grown_drew (grown_refl W12 none)) hgw)
      simp only [outThen, preThen, slotIs, factAt, isv, List.getElem?_cons_zero, List.getElem?_cons_succ, Option.getD_some, forall_eq]
      intros
      rename_i hK
      replace hK := hid hK
      simp only [wantedAt]
      go_simp
      exact hK.out _ _ rfl (grown_refl _ _)
    case o49 =>
      go_light
      intro ac w' hgw
      have hgw0 := hid hgw
      replace hgw := hid (grown_trans (grown_drew (grown_refl W12 none)) hgw)
      simp only [outThen, preThen, slotIs, factAt, isv, List.getElem?_cons_zero, List.getElem?_cons_succ, Option.getD_some, forall_eq]
      intros
      rename_i hK
      replace hK := hid hK
      simp only [wantedAt]
      go_simp
      exact hK.out _ _ rfl (grown_refl _ _)
    case o50 =>
      go_light
      intro ac w' hgw
      have hgw0 := hid hgw
      replace hgw := hid (grown_trans (grown_drew (grown_refl W12 none)) hgw)
      simp only [outThen, preThen, slotIs, factAt, isv, List.getElem?_cons_zero, List.getElem?_cons_succ, Option.getD_some, forall_eq]
      intros
      rename_i hK
      replace hK := hid hK
      simp only [wantedAt]
      go_simp
      exact hK.out _ _ rfl (grown_refl _ _)
    case o51 =>
      go_light
      intro ac w' hgw
      have hgw0 := hid hgw
      replace hgw := hid (grown_trans (grown_drew (grown_refl W12 none)) hgw)
      simp only [outThen, preThen, slotIs, factAt, isv, List.getElem?_cons_zero, List.getElem?_cons_succ, Option.getD_some, forall_eq]
      intros
      rename_i hK
      replace hK := hid hK
      simp only [wantedAt]
      go_simp
      exact hK.out _ _ rfl (grown_refl _ _)
    case o52 =>
      go_light
      intro ac w' hgw
      have hgw0 := hid hgw
      replace hgw := hid (grown_trans (grown_drew (grown_refl W12 none)) hgw)
      simp only [outThen, preThen, slotIs, factAt, isv, List.getElem?_cons_zero, List.getElem?_cons_succ, Option.getD_some, forall_eq]
      intros
      rename_i hK
      replace hK := hid hK
      simp only [wantedAt]
      go_simp
      exact hK.out _ _ rfl (grown_refl _ _)
    case o53 =>
      go_light
      intro ac w' hgw
      have hgw0 := hid hgw
      replace hgw := hid (grown_trans (grown_drew (grown_refl W12 none)) hgw)
      simp only [outThen, preThen, slotIs, factAt, isv, List.getElem?_cons_zero, List.getElem?_cons_succ, Option.getD_some, forall_eq]
      have k0 := ((gcell hgw.out).1 b1 0 H1.out.lt).trans ((H1.out.cell 0).trans (show _ = some (Value.slice U tree3.up.length cu) from rfl))
      have k1 := ((gcell hgw.out).1 b1 1 H1.out.lt).trans ((H1.out.cell 1).trans (show _ = some (Value.slice D tree3.depth.length cd) from rfl))
      have k2 := ((gcell hgw.out).1 b1 2 H1.out.lt).trans ((H1.out.cell 2).trans (show _ = some (Value.slice O tree3.word.length cw) from rfl))
      have k3 := ((gcell hgw.out).1 b1 3 H1.out.lt).trans ((H1.out.cell 3).trans (show _ = some (Value.slice B tree3.byte.length cb) from rfl))
      intros
      rename_i hK
      replace hK := hid hK
      simp only [wantedAt]
      go_simp
      exact hK.out _ _ rfl (grown_refl _ _)
    case o54 =>
      go_light
      intro ac w' hgw
      have hgw0 := hid hgw
      replace hgw := hid (grown_trans (grown_drew (grown_refl W12 none)) hgw)
      simp only [outThen, preThen, slotIs, factAt, isv, List.getElem?_cons_zero, List.getElem?_cons_succ, Option.getD_some, forall_eq]
      intros
      rename_i hK
      replace hK := hid hK
      simp only [wantedAt]
      go_simp
      refine (tMany_is U D O B cu cd cw cb tree3 _ (hT.out.grown hgw.out)).mono ?_
      rintro e w9 ⟨rfl, hg⟩
      rw [if_pos right3]
      exact hK.out _ _ rfl hg
    case o55 =>
      go_light
      intro ac w' hgw
      have hgw0 := hid hgw
      replace hgw := hid (grown_trans (grown_drew (grown_refl W12 none)) hgw)
      simp only [outThen, preThen, slotIs, factAt, isv, List.getElem?_cons_zero, List.getElem?_cons_succ, Option.getD_some, forall_eq]
      intros
      rename_i hK
      replace hK := hid hK
      simp only [wantedAt]
      go_simp
      exact hK.out _ _ rfl (grown_refl _ _)
    case o56 =>
      go_light
      intro ac w' hgw
      have hgw0 := hid hgw
      replace hgw := hid (grown_trans (grown_drew (grown_refl W12 none)) hgw)
      simp only [outThen, preThen, slotIs, factAt, isv, List.getElem?_cons_zero, List.getElem?_cons_succ, Option.getD_some, forall_eq]
      intros
      rename_i hK
      replace hK := hid hK
      simp only [wantedAt]
      go_simp
      exact hK.out _ _ rfl (grown_refl _ _)
    case o57 =>
      go_light
      intro ac w' hgw
      have hgw0 := hid hgw
      replace hgw := hid (grown_trans (grown_drew (grown_refl W12 none)) hgw)
      simp only [outThen, preThen, slotIs, factAt, isv, List.getElem?_cons_zero, List.getElem?_cons_succ, Option.getD_some, forall_eq]
      intros
      rename_i hK
      replace hK := hid hK
      simp only [wantedAt]
      go_simp
      exact hK.out _ _ rfl (grown_refl _ _)
    case o58 =>
      go_light
      intro ac w' hgw
      have hgw0 := hid hgw
      replace hgw := hid (grown_trans (grown_drew (grown_refl W12 none)) hgw)
      simp only [outThen, preThen, slotIs, factAt, isv, List.getElem?_cons_zero, List.getElem?_cons_succ, Option.getD_some, forall_eq]
      intros
      rename_i hK
      replace hK := hid hK
      simp only [wantedAt]
      go_simp
      exact hK.out _ _ rfl (grown_refl _ _)
    case o59 =>
      go_light
      intro ac w' hgw
      have hgw0 := hid hgw
      replace hgw := hid (grown_trans (grown_drew (grown_refl W12 none)) hgw)
      simp only [outThen, preThen, slotIs, factAt, isv, List.getElem?_cons_zero, List.getElem?_cons_succ, Option.getD_some, forall_eq]
      intros
      rename_i hK
      replace hK := hid hK
      simp only [wantedAt]
      go_simp
      exact hK.out _ _ rfl (grown_refl _ _)
    case o60 =>
      go_light
      intro ac w' hgw
      have hgw0 := hid hgw
      replace hgw := hid (grown_trans (grown_drew (grown_refl W12 none)) hgw)
      simp only [outThen, preThen, slotIs, factAt, isv, List.getElem?_cons_zero, List.getElem?_cons_succ, Option.getD_some, forall_eq]
      have k0 := ((gcell hgw.out).1 bL (oL + 1) f1l.out).trans f1.out
      intros
      rename_i hK
      replace hK := hid hK
      simp only [wantedAt]
      go_simp
      exact hK.out _ _ rfl (grown_refl _ _)
    case o61 =>
      go_light
      intro ac w' hgw
      have hgw0 := hid hgw
      replace hgw := hid (grown_trans (grown_drew (grown_refl W12 none)) hgw)
      simp only [outThen, preThen, slotIs, factAt, isv, List.getElem?_cons_zero, List.getElem?_cons_succ, Option.getD_some, forall_eq]
      have cv := conv_arr w' A10 c10 [115, 104, 101] (h10.out.grown hgw.out)
      rw [str_she] at cv
      simp only [List.length_cons, List.length_nil, Nat.zero_add, Nat.reduceAdd] at cv
      intros
      rename_i hK
      replace hK := hid hK
      simp only [wantedAt]
      go_simp
      exact hK.out _ _ rfl (grown_refl _ _)
    case o62 =>
      go_light
      intro ac w' hgw
      have hgw0 := hid hgw
      replace hgw := hid (grown_trans (grown_drew (grown_refl W12 none)) hgw)
      simp only [outThen, preThen, slotIs, factAt, isv, List.getElem?_cons_zero, List.getElem?_cons_succ, Option.getD_some, forall_eq]
      intros
      rename_i hK
      replace hK := hid hK
      simp only [wantedAt]
      go_simp
      exact hK.out _ _ rfl (grown_refl _ _)
    case o63 =>
      go_light
      intro ac w' hgw
      have hgw0 := hid hgw
      replace hgw := hid (grown_trans (grown_drew (grown_refl W12 none)) hgw)
      simp only [outThen, preThen, slotIs, factAt, isv, List.getElem?_cons_zero, List.getElem?_cons_succ, Option.getD_some, forall_eq]
      intros
      rename_i hK
      replace hK := hid hK
      simp only [wantedAt]
      go_simp
      exact hK.out _ _ rfl (grown_refl _ _)
    case o64 =>
      go_light
      intro ac w' hgw
      have hgw0 := hid hgw
      replace hgw := hid (grown_trans (grown_drew (grown_refl W12 none)) hgw)
      simp only [outThen, preThen, slotIs, factAt, isv, List.getElem?_cons_zero, List.getElem?_cons_succ, Option.getD_some, forall_eq]
      intros
      rename_i hK
      replace hK := hid hK
      simp only [wantedAt]
      go_simp
      exact hK.out _ _ rfl (grown_refl _ _)
    case o65 =>
      go_light
      intro ac w' hgw
      have hgw0 := hid hgw
      replace hgw := hid (grown_trans (grown_drew (grown_refl W12 none)) hgw)
      simp only [outThen, preThen, slotIs, factAt, isv, List.getElem?_cons_zero, List.getElem?_cons_succ, Option.getD_some, forall_eq]
      have k0 := ((gcell hgw.out).1 b1 0 H1.out.lt).trans ((H1.out.cell 0).trans (show _ = some (Value.slice U tree3.up.length cu) from rfl))
      have k1 := ((gcell hgw.out).1 b1 1 H1.out.lt).trans ((H1.out.cell 1).trans (show _ = some (Value.slice D tree3.depth.length cd) from rfl))
      have k2 := ((gcell hgw.out).1 b1 2 H1.out.lt).trans ((H1.out.cell 2).trans (show _ = some (Value.slice O tree3.word.length cw) from rfl))
      have k3 := ((gcell hgw.out).1 b1 3 H1.out.lt).trans ((H1.out.cell 3).trans (show _ = some (Value.slice B tree3.byte.length cb) from rfl))
      intros
      rename_i hK
      replace hK := hid hK
      simp only [wantedAt]
      go_simp
      exact hK.out _ _ rfl (grown_refl _ _)
    case o66 =>
      go_light
      intro ac w' hgw
      have hgw0 := hid hgw
      replace hgw := hid (grown_trans (grown_drew (grown_refl W12 none)) hgw)
      simp only [outThen, preThen, slotIs, factAt, isv, List.getElem?_cons_zero, List.getElem?_cons_succ, Option.getD_some, forall_eq]
      intros
      rename_i hK
      replace hK := hid hK
      simp only [wantedAt]
      go_simp
      refine (tRight_is U D O B cu cd cw cb tree3 _ (hT.out.grown hgw.out)).mono ?_
      rintro e w9 ⟨rfl, hg⟩
      rw [right3]
      exact hK.out _ _ rfl hg
    case o67 =>
      go_light
      intro ac w' hgw
      have hgw0 := hid hgw
      replace hgw := hid (grown_trans (grown_drew (grown_refl W12 none)) hgw)
      simp only [outThen, preThen, slotIs, factAt, isv, List.getElem?_cons_zero, List.getElem?_cons_succ, Option.getD_some, forall_eq]
      intros
      rename_i hK
      replace hK := hid hK
      simp only [wantedAt]
      go_simp
      exact hK.out _ _ rfl (grown_refl _ _)
    case o68 =>
      go_light
      intro ac w' hgw
      have hgw0 := hid hgw
      replace hgw := hid (grown_trans (grown_drew (grown_refl W12 none)) hgw)
      simp only [outThen, preThen, slotIs, factAt, isv, List.getElem?_cons_zero, List.getElem?_cons_succ, Option.getD_some, forall_eq]
      intros
      rename_i hK
      replace hK := hid hK
      simp only [wantedAt]
      go_simp
      exact hK.out _ _ rfl (grown_refl _ _)
    case o69 =>
      go_light
      intro ac w' hgw
      have hgw0 := hid hgw
      replace hgw := hid (grown_trans (grown_drew (grown_refl W12 none)) hgw)
      simp only [outThen, preThen, slotIs, factAt, isv, List.getElem?_cons_zero, List.getElem?_cons_succ, Option.getD_some, forall_eq]
      intros
      rename_i hK
      replace hK := hid hK
      simp only [wantedAt]
      go_simp
      exact hK.out _ _ rfl (grown_refl _ _)
    case o70 =>
      go_light
      intro ac w' hgw
      have hgw0 := hid hgw
      replace hgw := hid (grown_trans (grown_drew (grown_refl W12 none)) hgw)
      simp only [outThen, preThen, slotIs, factAt, isv, List.getElem?_cons_zero, List.getElem?_cons_succ, Option.getD_some, forall_eq]
      intros
      rename_i hK
      replace hK := hid hK
      simp only [wantedAt]
      go_simp
      refine (tRight_is none none none none 0 0 0 0 noTree _ ⟨⟨Arr.nil _, Arr.nil _, Arr.nil _, Arr.nil _⟩, bytes_all [] rfl, fun x hx => (by cases hx), Nat.le_refl _⟩).mono ?_
      rintro e w9 ⟨rfl, hg⟩
      rw [right0]
      exact hK.out _ _ rfl hg
    case o71 =>
      go_light
      intro ac w' hgw
      have hgw0 := hid hgw
      replace hgw := hid (grown_trans (grown_drew (grown_refl W12 none)) hgw)
      simp only [outThen, preThen, slotIs, factAt, isv, List.getElem?_cons_zero, List.getElem?_cons_succ, Option.getD_some, forall_eq]
      intros
      rename_i hK
      replace hK := hid hK
      simp only [wantedAt]
      go_simp
      exact hK.out _ _ rfl (grown_refl _ _)
    case o72 =>
      go_light
      intro ac w' hgw
      have hgw0 := hid hgw
      replace hgw := hid (grown_trans (grown_drew (grown_refl W12 none)) hgw)
      simp only [outThen, preThen, slotIs, factAt, isv, List.getElem?_cons_zero, List.getElem?_cons_succ, Option.getD_some, forall_eq]
      intros
      rename_i hK
      replace hK := hid hK
      simp only [wantedAt]
      go_simp
      exact hK.out _ _ rfl (grown_refl _ _)
    case o73 =>
      go_light
      intro ac w' hgw
      have hgw0 := hid hgw
      replace hgw := hid (grown_trans (grown_drew (grown_refl W12 none)) hgw)
      simp only [outThen, preThen, slotIs, factAt, isv, List.getElem?_cons_zero, List.getElem?_cons_succ, Option.getD_some, forall_eq]
      intros
      rename_i hK
      replace hK := hid hK
      simp only [wantedAt]
      go_simp
      exact hK.out _ _ rfl (grown_refl _ _)
    case o74 =>
      go_light
      intro ac w' hgw
      have hgw0 := hid hgw
      replace hgw := hid (grown_trans (grown_drew (grown_refl W12 none)) hgw)
      simp only [outThen, preThen, slotIs, factAt, isv, List.getElem?_cons_zero, List.getElem?_cons_succ, Option.getD_some, forall_eq]
      have k0 := ((gcell hgw.out).1 b1 0 H1.out.lt).trans ((H1.out.cell 0).trans (show _ = some (Value.slice U tree3.up.length cu) from rfl))
      have k1 := ((gcell hgw.out).1 b1 1 H1.out.lt).trans ((H1.out.cell 1).trans (show _ = some (Value.slice D tree3.depth.length cd) from rfl))
      have k2 := ((gcell hgw.out).1 b1 2 H1.out.lt).trans ((H1.out.cell 2).trans (show _ = some (Value.slice O tree3.word.length cw) from rfl))
      have k3 := ((gcell hgw.out).1 b1 3 H1.out.lt).trans ((H1.out.cell 3).trans (show _ = some (Value.slice B tree3.byte.length cb) from rfl))
      intros
      rename_i hK
      replace hK := hid hK
      simp only [wantedAt]
      go_simp
      exact hK.out _ _ rfl (grown_refl _ _)
    case o75 =>
      go_light
      intro ac w' hgw
      have hgw0 := hid hgw
      replace hgw := hid (grown_trans (grown_drew (grown_refl W12 none)) hgw)
      simp only [outThen, preThen, slotIs, factAt, isv, List.getElem?_cons_zero, List.getElem?_cons_succ, Option.getD_some, forall_eq]
      intros
      rename_i hK
      replace hK := hid hK
      simp only [wantedAt]
      go_simp
      refine (tOwn_is U D O B cu cd cw cb tree3 _ (by decide) (by decide) (by decide) (by decide) (hT.out.grown hgw.out).at_).mono ?_
      rintro e w9 ⟨v, rfl, hv, hg⟩
      exact hK.out _ _ hv hg
    case o76 =>
      go_light
      intro ac w' hgw
      have hgw0 := hid hgw
      replace hgw := hid (grown_trans (grown_drew (grown_refl W12 none)) hgw)
      simp only [outThen, preThen, slotIs, factAt, isv, List.getElem?_cons_zero, List.getElem?_cons_succ, Option.getD_some, forall_eq]
      have k0 := ((gcell hgw.out).1 b1 0 H1.out.lt).trans ((H1.out.cell 0).trans (show _ = some (Value.slice U tree3.up.length cu) from rfl))
      have k1 := ((gcell hgw.out).1 b1 1 H1.out.lt).trans ((H1.out.cell 1).trans (show _ = some (Value.slice D tree3.depth.length cd) from rfl))
      have k2 := ((gcell hgw.out).1 b1 2 H1.out.lt).trans ((H1.out.cell 2).trans (show _ = some (Value.slice O tree3.word.length cw) from rfl))
      have k3 := ((gcell hgw.out).1 b1 3 H1.out.lt).trans ((H1.out.cell 3).trans (show _ = some (Value.slice B tree3.byte.length cb) from rfl))
      intros
      rename_i hK
      replace hK := hid hK
      simp only [wantedAt]
      go_simp
      exact hK.out _ _ rfl (grown_refl _ _)
    case o77 =>
      go_light
      intro ac w' hgw
      have hgw0 := hid hgw
      replace hgw := hid (grown_trans (grown_drew (grown_refl W12 none)) hgw)
      simp only [outThen, preThen, slotIs, factAt, isv, List.getElem?_cons_zero, List.getElem?_cons_succ, Option.getD_some, forall_eq]
      intros
      rename_i v1 h1 hv1 _ _ K hK
      replace hK := hid hK
      obtain ⟨U3, D3, O3, B3, cu3, cd3, cw3, cb3, rfl, _, _, hT3⟩ := h1
      replace hT3 := hid hT3
      simp only [wantedAt]
      go_simp
      refine (tSame_is U3 D3 O3 B3 U D O B cu3 cd3 cw3 cb3 cu cd cw cb tree3 tree3 _ (by decide) (by decide) (by decide) (by decide) hT3.out (hT.out.grown hgw.out).at_).mono ?_
      rintro e w9 ⟨rfl, hg⟩
      rw [same33]
      exact hK.out _ _ rfl hg
    case o78 =>
      go_light
      intro ac w' hgw
      have hgw0 := hid hgw
      replace hgw := hid (grown_trans (grown_drew (grown_refl W12 none)) hgw)
      simp only [outThen, preThen, slotIs, factAt, isv, List.getElem?_cons_zero, List.getElem?_cons_succ, Option.getD_some, forall_eq]
      intros
      rename_i hK
      replace hK := hid hK
      simp only [wantedAt]
      go_simp
      exact hK.out _ _ rfl (grown_refl _ _)
    case o79 =>
      go_light
      intro ac w' hgw
      have hgw0 := hid hgw
      replace hgw := hid (grown_trans (grown_drew (grown_refl W12 none)) hgw)
      simp only [outThen, preThen, slotIs, factAt, isv, List.getElem?_cons_zero, List.getElem?_cons_succ, Option.getD_some, forall_eq]
      intros
      rename_i hK
      replace hK := hid hK
      simp only [wantedAt]
      go_simp
      exact hK.out _ _ rfl (grown_refl _ _)
    case o80 =>
      go_light
      intro ac w' hgw
      have hgw0 := hid hgw
      replace hgw := hid (grown_trans (grown_drew (grown_refl W12 none)) hgw)
      simp only [outThen, preThen, slotIs, factAt, isv, List.getElem?_cons_zero, List.getElem?_cons_succ, Option.getD_some, forall_eq]
      have k0 := ((gcell hgw.out).1 b1 0 H1.out.lt).trans ((H1.out.cell 0).trans (show _ = some (Value.slice U tree3.up.length cu) from rfl))
      have k1 := ((gcell hgw.out).1 b1 1 H1.out.lt).trans ((H1.out.cell 1).trans (show _ = some (Value.slice D tree3.depth.length cd) from rfl))
      have k2 := ((gcell hgw.out).1 b1 2 H1.out.lt).trans ((H1.out.cell 2).trans (show _ = some (Value.slice O tree3.word.length cw) from rfl))
      have k3 := ((gcell hgw.out).1 b1 3 H1.out.lt).trans ((H1.out.cell 3).trans (show _ = some (Value.slice B tree3.byte.length cb) from rfl))
      intros
      rename_i hK
      replace hK := hid hK
      simp only [wantedAt]
      go_simp
      exact hK.out _ _ rfl (grown_refl _ _)
    case o81 =>
      go_light
      intro ac w' hgw
      have hgw0 := hid hgw
      replace hgw := hid (grown_trans (grown_drew (grown_refl W12 none)) hgw)
      simp only [outThen, preThen, slotIs, factAt, isv, List.getElem?_cons_zero, List.getElem?_cons_succ, Option.getD_some, forall_eq]
      intros
      rename_i hK
      replace hK := hid hK
      simp only [wantedAt]
      go_simp
      exact hK.out _ _ rfl (grown_refl _ _)
    case o82 =>
      go_light
      intro ac w' hgw
      have hgw0 := hid hgw
      replace hgw := hid (grown_trans (grown_drew (grown_refl W12 none)) hgw)
      simp only [outThen, preThen, slotIs, factAt, isv, List.getElem?_cons_zero, List.getElem?_cons_succ, Option.getD_some, forall_eq]
      intros
      rename_i hK
      replace hK := hid hK
      simp only [wantedAt]
      go_simp
      refine (tSame_is U D O B none none none none cu cd cw cb 0 0 0 0 tree3 noTree _ (by decide) (by decide) (by decide) (by decide) (hT.out.grown hgw.out).at_ ⟨Arr.nil _, Arr.nil _, Arr.nil _, Arr.nil _⟩).mono ?_
      rintro e w9 ⟨rfl, hg⟩
      rw [same3]
      exact hK.out _ _ rfl hg
    case o83 =>
      go_light
      intro ac w' hgw
      have hgw0 := hid hgw
      replace hgw := hid (grown_trans (grown_drew (grown_refl W12 none)) hgw)
      simp only [outThen, preThen, slotIs, factAt, isv, List.getElem?_cons_zero, List.getElem?_cons_succ, Option.getD_some, forall_eq]
      intros
      rename_i hK
      replace hK := hid hK
      simp only [wantedAt]
      go_simp
      exact hK.out _ _ rfl (grown_refl _ _)
    case o84 =>
      go_light
      intro ac w' hgw
      have hgw0 := hid hgw
      replace hgw := hid (grown_trans (grown_drew (grown_refl W12 none)) hgw)
      simp only [outThen, preThen, slotIs, factAt, isv, List.getElem?_cons_zero, List.getElem?_cons_succ, Option.getD_some, forall_eq]
      intros
      rename_i hK
      replace hK := hid hK
      simp only [wantedAt]
      go_simp
      exact hK.out _ _ rfl (grown_refl _ _)
    case o85 =>
      go_light
      intro ac w' hgw
      have hgw0 := hid hgw
      replace hgw := hid (grown_trans (grown_drew (grown_refl W12 none)) hgw)
      simp only [outThen, preThen, slotIs, factAt, isv, List.getElem?_cons_zero, List.getElem?_cons_succ, Option.getD_some, forall_eq]
      intros
      rename_i hK
      replace hK := hid hK
      simp only [wantedAt]
      go_simp
      exact hK.out _ _ rfl (grown_refl _ _)
    case o86 =>
      go_light
      intro ac w' hgw
      have hgw0 := hid hgw
      replace hgw := hid (grown_trans (grown_drew (grown_refl W12 none)) hgw)
      simp only [outThen, preThen, slotIs, factAt, isv, List.getElem?_cons_zero, List.getElem?_cons_succ, Option.getD_some, forall_eq]
      intros
      rename_i hK
      replace hK := hid hK
      simp only [wantedAt]
      go_simp
      exact hK.out _ _ rfl (grown_refl _ _)
    case o87 =>
      go_light
      intro ac w' hgw
      have hgw0 := hid hgw
      replace hgw := hid (grown_trans (grown_drew (grown_refl W12 none)) hgw)
      simp only [outThen, preThen, slotIs, factAt, isv, List.getElem?_cons_zero, List.getElem?_cons_succ, Option.getD_some, forall_eq]
      intros
      rename_i hK
      replace hK := hid hK
      simp only [wantedAt]
      go_simp
      refine (tMany_is none none none none 0 0 0 0 noTree _ ⟨⟨Arr.nil _, Arr.nil _, Arr.nil _, Arr.nil _⟩, bytes_all [] rfl, fun x hx => (by cases hx), Nat.le_refl _⟩).mono ?_
      rintro e w9 ⟨rfl, hg⟩
      rw [right0, if_neg Bool.false_ne_true]
      exact hK.out _ _ rfl hg
    case o88 =>
      go_light
      intro ac w' hgw
      have hgw0 := hid hgw
      replace hgw := hid (grown_trans (grown_drew (grown_refl W12 none)) hgw)
      simp only [outThen, preThen, slotIs, factAt, isv, List.getElem?_cons_zero, List.getElem?_cons_succ, Option.getD_some, forall_eq]
      intros
      rename_i hK
      replace hK := hid hK
      simp only [wantedAt]
      go_simp
      exact hK.out _ _ rfl (grown_refl _ _)
    case o89 =>
      go_light
      intro ac w' hgw
      have hgw0 := hid hgw
      replace hgw := hid (grown_trans (grown_drew (grown_refl W12 none)) hgw)
      simp only [outThen, preThen, slotIs, factAt, isv, List.getElem?_cons_zero, List.getElem?_cons_succ, Option.getD_some, forall_eq]
      intros
      rename_i hK
      replace hK := hid hK
      simp only [wantedAt]
      go_simp
      exact hK.out _ _ rfl (grown_refl _ _)
    case o90 =>
      go_light
      intro ac w' hgw
      have hgw0 := hid hgw
      replace hgw := hid (grown_trans (grown_drew (grown_refl W12 none)) hgw)
      simp only [outThen, preThen, slotIs, factAt, isv, List.getElem?_cons_zero, List.getElem?_cons_succ, Option.getD_some, forall_eq]
      intros
      rename_i hK
      replace hK := hid hK
      simp only [wantedAt]
      go_simp
      exact hK.out _ _ rfl (grown_refl _ _)
  case st =>
    repeat (first | exact AllStable.nil | (refine AllStable.cons ?_ ?_; focus (first | exact stable_isv _ | exact stable_isTreeV _)))
  case fin =>
    intro w12 hgw
    simp only [List.append_eq, List.cons_append, List.nil_append]
    simp only [finalIn, factAt, isv, List.getElem?_cons_zero, List.getElem?_cons_succ, Option.getD_some, forall_eq, slotIs, subj]
    rintro v75 ⟨U3, D3, O3, B3, cu3, cd3, cw3, cb3, rfl, _, _, _⟩
    simp only [Act.put, List.setIfInBounds_toArray, List.set_cons_zero, List.set_cons_succ]
    have hG3 := hid (grown_trans hG.out (grown_trans (grown_drew (grown_refl W12 none)) hgw))
    go_wp2_with fail
    go_ret
    exact ⟨rfl, hG3.out⟩


end Go.Proofs.Ytojbkhheaondhaa
