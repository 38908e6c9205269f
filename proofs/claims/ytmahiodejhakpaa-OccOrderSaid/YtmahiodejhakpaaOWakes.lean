/- What the document's own example of hits comes to. -/
import Derived.Test.YtmahiodejhakpaaK30
import Derived.Test.YtmahiodejhakpaaK19
import Derived.Deep.CutRange
set_option linter.unusedVariables false
set_option linter.unusedSimpArgs false
namespace Go.Proofs.Ytmahiodejhakpaa
open Go.RowKit PlainLetter PlainPatset PlainOcc

theorem ob_all (l : List Int) (h : l.all (fun x => decide (0 ≤ x ∧ x ≤ 255)) = true) : Bytes l := fun k => by
  by_cases hk : k < l.length
  · have := List.all_eq_true.1 h (l.getD k 0) (by simp [List.getD, hk])
    simpa using this
  · simp [List.getD, List.getElem?_eq_none (Nat.le_of_not_lt hk)]
theorem obs_all (l : List (List Int)) (h : l.all (fun b => b.all (fun x => decide (0 ≤ x ∧ x ≤ 255))) = true) : ∀ k, Bytes (l.getD k []) := fun k => by
  by_cases hk : k < l.length
  · exact ob_all _ (List.all_eq_true.1 h (l.getD k []) (by simp [List.getD, hk]))
  · simp only [List.getD, List.getElem?_eq_none (Nat.le_of_not_lt hk), Option.getD_none]
    exact fun i => by simp

theorem freeze_size (w : World) (g k : Nat) : (w.freeze ⟨g, k, none⟩ 1).heap.size = w.heap.size := by
  unfold World.freeze; rw [if_neg (by decide)]; simp
theorem freeze_ne (w : World) (g k i : Nat) (h : g ≠ i) : (w.freeze ⟨g, k, none⟩ 1).heap[i]? = w.heap[i]? := by
  unfold World.freeze; rw [if_neg (by decide)]
  show (w.heap.modify g _)[i]? = _
  rw [Array.getElem?_modify, if_neg h]
theorem freeze_eq (w : World) (g k : Nat) (C : Array Value) (t : TypeId) (fr : Nat × Nat) (hC : w.heap[g]? = some (.cells C t fr)) : ∃ fr', (w.freeze ⟨g, k, none⟩ 1).heap[g]? = some (.cells C t fr') := by
  unfold World.freeze; rw [if_neg (by decide)]
  show ∃ fr', (w.heap.modify g _)[g]? = _
  rw [Array.getElem?_modify, if_pos rfl, hC]
  obtain ⟨lo, hi⟩ := fr
  exact ⟨_, rfl⟩
theorem freeze_cell (w : World) (g k : Nat) (C : Array Value) (t : TypeId) (fr : Nat × Nat) (hC : w.heap[g]? = some (.cells C t fr)) (p : Addr) : (w.freeze ⟨g, k, none⟩ 1).cell? p = w.cell? p := by
  unfold World.cell?
  by_cases hp : g = p.block
  · obtain ⟨fr', h⟩ := freeze_eq w g k C t fr hC
    rw [← hp, h, hC]
  · rw [freeze_ne w g k p.block hp]
theorem freeze_grown (w w' : World) (g k : Nat) (h : w.grownBy w' none) (hg : w.heap.size ≤ g) : w.grownBy (w'.freeze ⟨g, k, none⟩ 1) none :=
  ⟨by have := h.os; unfold World.freeze; rw [if_neg (by decide)]; exact this, by have := h.tape; unfold World.freeze; rw [if_neg (by decide)]; exact this, by have := h.output; unfold World.freeze; rw [if_neg (by decide)]; exact this,
   by rw [freeze_size]; exact h.size, fun j hj hn => by rw [freeze_ne _ _ _ _ (by omega)]; exact h.block j hj hn⟩

def isLit (B : Nat) : Fact := fun v w => ∃ g fr, v = .slice (some ⟨g, 0, none⟩) 5 5 ∧ B ≤ g ∧ w.heap[g]? = some (.cells #[.int .u8 117, .int .u8 115, .int .u8 104, .int .u8 101, .int .u8 114] 5 fr)
def isHits (l : List Hit) : Fact := fun v w => ∃ P d, v = .slice P l.length d ∧ Hits w P l
def isHitRows (ls : List (List Hit)) : Fact := fun v w => ∃ P, v = .slice P ls.length ls.length ∧ HitRows w P ls
theorem stable_isLit (B : Nat) : Stable (isLit B) := fun _ _ _ ⟨g, fr, h1, h2, h3⟩ hg => ⟨g, fr, h1, h2, by
  rw [hg.block g (Array.getElem?_eq_some_iff.1 h3).1 (by simp)]; exact h3⟩
theorem stable_isHits (l : List Hit) : Stable (isHits l) := fun _ _ _ ⟨P, d, h1, h2⟩ hg => ⟨P, d, h1, h2.grown hg⟩
theorem stable_isHitRows (ls : List (List Hit)) : Stable (isHitRows ls) := fun _ _ _ ⟨P, h1, h2⟩ hg => ⟨P, h1, h2.grown hg⟩

theorem Hits.cells {w w' : World} {P : Option Addr} {l : List Hit} (h : Hits w P l) (hc : ∀ p, w'.cell? p = w.cell? p) (hs : w'.heap.size = w.heap.size) : Hits w' P l := fun hz => by
  obtain ⟨b, off, h1, h2, h3⟩ := h hz
  exact ⟨b, off, h1, by rw [hs]; exact h2, fun i hi => by rw [hc, hc]; exact h3 i hi⟩
theorem kept_isHits {l : List Hit} {v : Value} {w w' : World} (h : isHits l v w) (hc : ∀ p, w'.cell? p = w.cell? p) (hs : w'.heap.size = w.heap.size) : isHits l v w' := by
  obtain ⟨P, d, h1, h2⟩ := h
  exact ⟨P, d, h1, h2.cells hc hs⟩
theorem kept_isHitRows {ls : List (List Hit)} {v : Value} {w w' : World} (h : isHitRows ls v w) (hc : ∀ p, w'.cell? p = w.cell? p) (hs : w'.heap.size = w.heap.size) : isHitRows ls v w' := by
  obtain ⟨P, h1, h2⟩ := h
  refine ⟨P, h1, fun hz => ?_⟩
  obtain ⟨b, off, e1, e2, e3⟩ := h2 hz
  exact ⟨b, off, e1, by rw [hs]; exact e2, fun i hi => by
    obtain ⟨Ai, ci, f1, f2⟩ := e3 i hi
    exact ⟨Ai, ci, by rw [hc]; exact f1, f2.cells hc hs⟩⟩
theorem kept_isLit {B g k : Nat} {v : Value} {w : World} {C : Array Value} {t : TypeId} {fr : Nat × Nat} (h : isLit B v w) (hC : w.heap[g]? = some (.cells C t fr)) : isLit B v (w.freeze ⟨g, k, none⟩ 1) := by
  obtain ⟨g', fr', h1, h2, h3⟩ := h
  by_cases e : g = g'
  · subst e
    obtain ⟨fr2, h4⟩ := freeze_eq w g k _ _ _ h3
    exact ⟨g, fr2, h1, h2, h4⟩
  · exact ⟨g', fr', h1, h2, by rw [freeze_ne w g k g' e]; exact h3⟩
theorem lit_arr {w : World} {g : Nat} {fr : Nat × Nat} (h : w.heap[g]? = some (.cells #[.int .u8 117, .int .u8 115, .int .u8 104, .int .u8 101, .int .u8 114] 5 fr)) : Arr w .u8 (some ⟨g, 0, none⟩) usher := fun _ => ⟨g, 0, rfl, (Array.getElem?_eq_some_iff.1 h).1, fun i hi => by
  rw [cell_of_row w g (0 + i) _ _ _ h, Nat.zero_add]
  have hi' : i < 5 := hi
  rcases i with _ | _ | _ | _ | _ | i
  all_goals first | rfl | omega⟩

theorem hits_two (w : World) (x y : Hit) : Hits (w.alloc (.cells #[.int .i64 x.1, .int .i64 x.2, .int .i64 y.1, .int .i64 y.2] 35)) (some ⟨w.heap.size, 0, none⟩) [x, y] := fun _ => by
  have H : Holds (w.alloc (.cells #[.int .i64 x.1, .int .i64 x.2, .int .i64 y.1, .int .i64 y.2] 35)) w.heap.size 35 #[.int .i64 x.1, .int .i64 x.2, .int .i64 y.1, .int .i64 y.2] := Holds.new _ _ _
  refine ⟨w.heap.size, 0, rfl, H.lt, fun i hi => ?_⟩
  have hi' : i < 2 := hi
  rcases i with _ | _ | i
  · exact ⟨by rw [H.cell]; rfl, by rw [H.cell]; rfl⟩
  · exact ⟨by rw [H.cell]; rfl, by rw [H.cell]; rfl⟩
  · omega
theorem hitRows_three (w : World) (P1 P2 : Option Addr) (d1 d2 : Nat) (l m : List Hit) (h1 : Hits w P1 l) (h2 : Hits w P2 m) :
    HitRows (w.alloc (.cells #[.slice P1 l.length d1, .slice none 0 0, .slice P2 m.length d2] 28)) (some ⟨w.heap.size, 0, none⟩) [l, [], m] := fun _ => by
  have H : Holds (w.alloc (.cells #[.slice P1 l.length d1, .slice none 0 0, .slice P2 m.length d2] 28)) w.heap.size 28 #[.slice P1 l.length d1, .slice none 0 0, .slice P2 m.length d2] := Holds.new _ _ _
  have hg := grown_alloc (grown_refl w none) (.cells #[.slice P1 l.length d1, .slice none 0 0, .slice P2 m.length d2] 28)
  refine ⟨w.heap.size, 0, rfl, H.lt, fun i hi => ?_⟩
  have hi' : i < 3 := hi
  rcases i with _ | _ | _ | i
  · exact ⟨P1, d1, by rw [H.cell]; rfl, h1.grown hg⟩
  · exact ⟨none, 0, by rw [H.cell]; rfl, Hits.nil _ _⟩
  · exact ⟨P2, d2, by rw [H.cell]; rfl, h2.grown hg⟩
  · omega

set_option maxRecDepth 100000 in
set_option maxHeartbeats 8000000 in
theorem owakes_true (w : World) : Calls Try.prog 8 #[] w fun e w' => e = .returned (.bool true) ∧ w.grownBy w' none := by
  have kc := conv_const
  go_enter Try.func8, Try.ntmps8
  go_wp2_with fail
  refine (she_is _).mono ?_
  rintro e W1 ⟨A1, c1, rfl, hA1, hg1⟩
  replace hA1 := hid hA1
  have hG := hid hg1
  clear hg1
  go_upto_region 2 with fail
  have H1 := hid (Holds.new W1 24 #[.bool false, .slice A1 3 c1])
  have hg := grown_alloc (grown_refl W1 none) (.cells #[.bool false, .slice A1 3 c1] 24)
  obtain ⟨W2, hW⟩ : ∃ W, W1.alloc (.cells #[.bool false, .slice A1 3 c1] 24) = W := ⟨_, rfl⟩
  rw [hW] at H1 hg ⊢
  clear hW
  obtain ⟨bS, hbS⟩ : ∃ b, W1.heap.size = b := ⟨_, rfl⟩
  rw [hbS] at H1 ⊢
  replace hbS := hid hbS
  replace hG := hid (grown_trans hG.out hg)
  replace hA1 := hid (hA1.out.grown hg)
  clear hg
  have c0 := H1.out.cell 0
  have c1' := H1.out.cell 1
  simp at c0 c1'
  go_wp2_with fail
  refine (occOcc_is false A1 _ c1 5 10 usher sheWords _ (by decide) (by decide) (obs_all _ (by decide)) (hA1.out.grown (grown_alloc (grown_refl _ _) _)) (by decide) (by decide) (by decide) (ob_all _ (by decide)) (const_at usher (5, 6) rfl) (by decide) (by decide)).mono ?_
  rintro e W3 ⟨v, rfl, hv, hg⟩
  replace hg := grown_trans (grown_alloc (grown_refl W2 none) _) hg
  unfold OccTold at hv
  rw [if_pos ⟨p_she_right, by decide, by decide⟩, p_she_occ] at hv
  obtain ⟨u, rfl, hu⟩ := hv
  obtain ⟨AL, cL, rfl, hL, hcL, hmL⟩ := hu.form
  replace hL := hid hL
  replace hmL := hid hmL
  replace hG := hid (grown_trans hG.out hg)
  replace hA1 := hid (hA1.out.grown hg)
  replace H1 := hid (H1.out.kept0 hg)
  clear hg hu c0 c1'
  simp only [List.length_cons, List.length_nil, Nat.zero_add, Nat.reduceAdd] at hcL ⊢
  go_wp2_with fail
  refine (occOcc_is false none none 0 0 0 [] [] _ (by decide) (by decide) (obs_all _ (by decide)) (Arrs.nil _ _) (by decide) (by decide) (by decide) (ob_all _ (by decide)) (Arr.nil _) (by decide) (by decide)).mono ?_
  rintro e W4 ⟨v, rfl, hv, hg⟩
  unfold OccTold at hv
  rw [if_neg (by rw [p_she_none]; simp)] at hv
  subst hv
  replace hG := hid (grown_trans hG.out hg)
  replace hA1 := hid (hA1.out.grown hg)
  replace H1 := hid (H1.out.kept0 hg)
  replace hL := hid (hL.out.grown hg)
  clear hg
  obtain ⟨bL, oL, rfl, hbL, hcells⟩ := hL.out.at_ (i := 0) (by decide)
  have x0 := hid (hcells 0 (by decide)).1
  have y0 := hid (hcells 0 (by decide)).2
  have x1 := hid (hcells 1 (by decide)).1
  have y1 := hid (hcells 1 (by decide)).2
  have x2 := hid (hcells 2 (by decide)).1
  have y2 := hid (hcells 2 (by decide)).2
  clear hcells
  replace hbL := hid hbL
  have cx0 := x0.out
  have cy0 := y0.out
  have cx1 := x1.out
  have cy1 := y1.out
  have cx2 := x2.out
  have cy2 := y2.out
  simp at cx0 cy0 cx1 cy1 cx2 cy2
  replace x0 := hid cx0
  replace y0 := hid cy0
  replace x1 := hid cx1
  replace y1 := hid cy1
  replace x2 := hid cx2
  replace y2 := hid cy2
  have hcL1 : ¬ cL = 1 := by omega
  have hcL2 : ¬ cL = 2 := by omega
  have hcA : (1 : Int) ≤ (cL : Int) := by omega
  have hcB : (3 : Int) ≤ (cL : Int) := by omega
  have hL01 := hid (show Hits W4 (some ⟨bL, oL, none⟩) [(14, 1)] from hL.out.take 1)
  have hL12 := hL.out.drop (k := 1) (c := cL) hcL
  rw [if_neg (by omega)] at hL12
  simp only [Option.map_some, add_lit] at hL12
  replace hL12 := hid (show Hits W4 (some ⟨bL, oL + 2, none⟩) [(14, 0), (15, 2)] from hL12)
  have hL2 := hL.out.drop (k := 2) (c := cL) hcL
  rw [if_neg (by omega)] at hL2
  simp only [Option.map_some, add_lit] at hL2
  replace hL2 := hid (show Hits W4 (some ⟨bL, oL + 4, none⟩) [(15, 2)] from hL2)
  have hlS := hid H1.out.lt
  have e0 := hid (H1.out.cell 0)
  have e1 := hid (H1.out.cell 1)
  simp at e0 e1
  clear kc
  go_upto_region 7 with fail
  clear cx0 cy0 cx1 cy1 cx2 cy2
  apply wp_region_each [isv (.bool true), isv (.bool true), isv (.agg #[.bool false, .slice A1 3 c1]), isLit W4.heap.size, isLit W4.heap.size, isv (.slice (some ⟨bL, oL, none⟩) 3 cL), isv _, isv (.agg #[.int .i64 15, .int .i64 2]), isv (.bool true), isv (.bool true), isv (.bool true), isv (.agg #[.bool false, .slice A1 3 c1]), isLit W4.heap.size, isLit W4.heap.size, isv (.agg #[.int .i64 15, .int .i64 0]), isv (.bool false), isv (.bool true), isv (.bool true), isv (.bool true), isv (.agg #[.bool false, .slice A1 3 c1]), isv (.slice (some ⟨bL, oL, none⟩) 3 cL), isv _, isv (.agg #[.int .i64 14, .int .i64 1]), isv (.slice (some ⟨bL, oL, none⟩) 3 cL), isv _, isv (.agg #[.int .i64 14, .int .i64 0]), isv (.bool true), isv (.bool true), isv (.bool true), isv (.agg #[.bool false, .slice A1 3 c1]), isv (.slice (some ⟨bL, oL, none⟩) 3 cL), isv _, isv (.agg #[.int .i64 14, .int .i64 0]), isv (.slice (some ⟨bL, oL, none⟩) 3 cL), isv _, isv (.agg #[.int .i64 14, .int .i64 1]), isv (.bool false), isv (.bool true), isv (.bool true), isv (.bool true), isv (.agg #[.bool false, .slice A1 3 c1]), isv (.slice (some ⟨bL, oL, none⟩) 3 cL), isv (.bool true), isv (.bool true), isv (.bool true), isv (.agg #[.bool false, .slice A1 3 c1]), isv (.slice (some ⟨bL, oL, none⟩) 3 cL), isv _, isv (.agg #[.int .i64 14, .int .i64 1]), isv (.slice (some ⟨bL, oL, none⟩) 3 cL), isv _, isv (.agg #[.int .i64 14, .int .i64 1]), isHits [(14, 1), (14, 1)], isv (.bool false), isv (.bool true), isv (.bool true), isv (.bool true), isv (.slice (some ⟨bL, oL, none⟩) 3 cL), isHits [(15, 2)], isv (.slice (some ⟨bL, oL, none⟩) 3 cL), isHits [(15, 2)], isv (.bool true), isv (.bool true), isv (.bool true), isv (.slice (some ⟨bL, oL, none⟩) 3 cL), isHits [(14, 1)], isv (.slice (some ⟨bL, oL, none⟩) 3 cL), isHits [(14, 0), (15, 2)], isHitRows [[(14, 1)], [], [(14, 0), (15, 2)]], isHits [(14, 1), (14, 0), (15, 2)], isv (.slice (some ⟨bL, oL, none⟩) 3 cL), isv (.bool true), isv (.bool true), isv (.bool true), isv (.slice (some ⟨bL, oL, none⟩) 3 cL), isv (.slice (some ⟨bL, oL, none⟩) 3 cL), isHits [(14, 0), (15, 2)], isv (.bool false), isv (.bool true), isv (.bool true), isv (.bool true)]
    130 [some 50, some 51, some 52, some 53, some 54, some 55, some 56, some 57, some 58, some 59, some 60, some 61, some 62, some 63, some 64, some 65, some 66, some 67, some 68, some 69, some 70, some 71, some 72, some 73, some 74, some 75, some 76, some 77, some 78, some 79, some 80, some 81, some 82, some 83, some 84, some 85, some 86, some 87, some 88, some 89, some 90, some 91, some 92, some 93, some 94, some 95, some 96, some 97, some 98, some 99, some 100, some 101, some 102, some 103, some 104, some 105, some 106, some 107, some 108, some 109, some 110, some 111, some 112, some 113, some 114, some 115, some 116, some 117, some 118, some 119, some 120, some 121, some 122, some 123, some 124, some 125, some 126, some 127, some 128, some 129, some 0]
    [some 50, some 51, some 52, some 53, some 54, some 55, some 56, some 57, some 58, some 59, some 60, some 61, some 62, some 63, some 64, some 65, some 66, some 67, some 68, some 69, some 70, some 71, some 72, some 73, some 74, some 75, some 76, some 77, some 78, some 79, some 80, some 81, some 82, some 83, some 84, some 85, some 86, some 87, some 88, some 89, some 90, some 91, some 92, some 93, some 94, some 95, some 96, some 97, some 98, some 99, some 100, some 101, some 102, some 103, some 104, some 105, some 106, some 107, some 108, some 109, some 110, some 111, some 112, some 113, some 114, some 115, some 116, some 117, some 118, some 119, some 120, some 121, some 122, some 123, some 124, some 125, some 126, some 127, some 128, some 129, some 0]
    [[], [0], [1], [1], [3, 1], [1], [5, 1], [6, 1], [2, 4, 7, 1], [1, 8], [9], [10], [10], [12, 10], [10], [11, 13, 14, 10], [15, 10], [10, 16], [17], [18], [18], [20, 18], [21, 18], [18], [23, 18], [24, 18], [19, 22, 25, 18], [18, 26], [27], [28], [28], [30, 28], [31, 28], [28], [33, 28], [34, 28], [29, 32, 35, 28], [36, 28], [28, 37], [38], [39], [39], [40, 41, 39], [39, 42], [43], [44], [44], [46, 44], [47, 44], [44], [49, 44], [50, 44], [48, 51, 44], [45, 52, 44], [53, 44], [44, 54], [55], [56], [57, 56], [56], [59, 56], [58, 60, 56], [56, 61], [62], [63], [64, 63], [63], [66, 63], [65, 67, 63], [68, 63], [63], [69, 70, 63], [63, 71], [72], [73], [73], [75, 73], [74, 76, 73], [77, 73], [73, 78], [79]]
    [(1, .pointer (some ⟨bS, 0, none⟩)), (2, .slice (some ⟨bL, oL, none⟩) 3 cL), (6, .bool true)] (by kernel_rfl) rfl (by kernel_rfl) rfl rfl (by kernel_rfl) (OutsOk.cons rfl rfl (OutsOk.cons rfl rfl (OutsOk.cons rfl rfl OutsOk.nil))) ?st ?ob ?fin
  case ob =>
    refine Obs.consv rfl ?o0 (Obs.consv rfl ?o1 (Obs.consv rfl ?o2 (Obs.consv rfl ?o3 (Obs.consa ?o4 (Obs.consv rfl ?o5 (Obs.consv rfl ?o6 (Obs.consv rfl ?o7 (Obs.consv rfl ?o8 (Obs.consv rfl ?o9 (Obs.consv rfl ?o10 (Obs.consv rfl ?o11 (Obs.consv rfl ?o12 (Obs.consa ?o13 (Obs.consv rfl ?o14 (Obs.consv rfl ?o15 (Obs.consv rfl ?o16 (Obs.consv rfl ?o17 (Obs.consv rfl ?o18 (Obs.consv rfl ?o19 (Obs.consv rfl ?o20 (Obs.consv rfl ?o21 (Obs.consv rfl ?o22 (Obs.consv rfl ?o23 (Obs.consv rfl ?o24 (Obs.consv rfl ?o25 (Obs.consv rfl ?o26 (Obs.consv rfl ?o27 (Obs.consv rfl ?o28 (Obs.consv rfl ?o29 (Obs.consv rfl ?o30 (Obs.consv rfl ?o31 (Obs.consv rfl ?o32 (Obs.consv rfl ?o33 (Obs.consv rfl ?o34 (Obs.consv rfl ?o35 (Obs.consv rfl ?o36 (Obs.consv rfl ?o37 (Obs.consv rfl ?o38 (Obs.consv rfl ?o39 (Obs.consv rfl ?o40 (Obs.consv rfl ?o41 (Obs.consv rfl ?o42 (Obs.consv rfl ?o43 (Obs.consv rfl ?o44 (Obs.consv rfl ?o45 (Obs.consv rfl ?o46 (Obs.consv rfl ?o47 (Obs.consv rfl ?o48 (Obs.consv rfl ?o49 (Obs.consv rfl ?o50 (Obs.consv rfl ?o51 (Obs.consv rfl ?o52 (Obs.consv rfl ?o53 (Obs.consv rfl ?o54 (Obs.consv rfl ?o55 (Obs.consv rfl ?o56 (Obs.consv rfl ?o57 (Obs.consv rfl ?o58 (Obs.consv rfl ?o59 (Obs.consv rfl ?o60 (Obs.consv rfl ?o61 (Obs.consv rfl ?o62 (Obs.consv rfl ?o63 (Obs.consv rfl ?o64 (Obs.consv rfl ?o65 (Obs.consv rfl ?o66 (Obs.consv rfl ?o67 (Obs.consv rfl ?o68 (Obs.consv rfl ?o69 (Obs.consv rfl ?o70 (Obs.consv rfl ?o71 (Obs.consv rfl ?o72 (Obs.consv rfl ?o73 (Obs.consv rfl ?o74 (Obs.consv rfl ?o75 (Obs.consv rfl ?o76 (Obs.consv rfl ?o77 (Obs.consv rfl ?o78 (Obs.consv rfl ?o79 (Obs.consv rfl ?o80 Obs.nil))))))))))))))))))))))))))))))))))))))))))))))))))))))))))))))))))))))))))))))))
    case o0 =>
      go_light
      intro ac w' hgw
      have hgw0 := hid hgw
      replace hgw := hid (grown_trans (grown_drew (grown_refl W4 none)) hgw)
      simp only [outThen, preThen, slotIs, factAt, isv, List.getElem?_cons_zero, List.getElem?_cons_succ, Option.getD_some, forall_eq]
      intros
      rename_i hK
      replace hK := hid hK
      simp only [wantedAt]
      go_simp
      exact hK.out _ _ rfl (grown_refl _ _)
    case o1 =>
      go_light
      intro ac w' hgw
      have hgw0 := hid hgw
      replace hgw := hid (grown_trans (grown_drew (grown_refl W4 none)) hgw)
      simp only [outThen, preThen, slotIs, factAt, isv, List.getElem?_cons_zero, List.getElem?_cons_succ, Option.getD_some, forall_eq]
      intros
      rename_i hK
      replace hK := hid hK
      simp only [wantedAt]
      go_simp
      exact hK.out _ _ rfl (grown_refl _ _)
    case o2 =>
      go_light
      intro ac w' hgw
      have hgw0 := hid hgw
      replace hgw := hid (grown_trans (grown_drew (grown_refl W4 none)) hgw)
      simp only [outThen, preThen, slotIs, factAt, isv, List.getElem?_cons_zero, List.getElem?_cons_succ, Option.getD_some, forall_eq]
      have k0 := ((gcell hgw.out).1 bS 0 hlS.out).trans e0.out
      have k1 := ((gcell hgw.out).1 bS 1 hlS.out).trans e1.out
      intros
      rename_i hK
      replace hK := hid hK
      simp only [wantedAt]
      go_simp
      exact hK.out _ _ rfl (grown_refl _ _)
    case o3 =>
      go_light
      intro ac w' hgw
      have hgw0 := hid hgw
      replace hgw := hid (grown_trans (grown_drew (grown_refl W4 none)) hgw)
      simp only [outThen, preThen, slotIs, factAt, isv, List.getElem?_cons_zero, List.getElem?_cons_succ, Option.getD_some, forall_eq]
      intros
      rename_i hK
      replace hK := hid hK
      simp only [wantedAt]
      go_simp
      exact hK.out _ _ ⟨_, _, rfl, hgw.out.size, World.alloc_heap_new _ _⟩ (grown_alloc (grown_refl _ _) _)
    case o4 =>
      go_light
      intro ac w' hgw
      have hgw0 := hid hgw
      replace hgw := hid (grown_trans (grown_drew (grown_refl W4 none)) hgw)
      simp only [outThen, preThen, slotIs, factAt, isv, List.getElem?_cons_zero, List.getElem?_cons_succ, Option.getD_some, forall_eq]
      intros
      rename_i v1 h1 hv1 _ K hK
      replace hK := hid hK
      obtain ⟨g, fr, rfl, hge, hgl⟩ := h1
      have hcc := freeze_cell w' g 5 _ _ _ hgl
      have hss := freeze_size w' g 5
      have hcv := run_convert_mark w' g 5 5 _ fr hgl
      obtain ⟨fr2, hgl2⟩ := freeze_eq w' g 5 _ _ _ hgl
      have hres := hK.out (.slice (some ⟨g, 0, none⟩) 5 5) (.slice (some ⟨g, 0, none⟩) 5 5) (w'.freeze ⟨g, 5, none⟩ 1) rfl ⟨g, fr2, rfl, hge, hgl2⟩ (freeze_grown _ _ _ _ hgw0.out hge) (fun j v hj hf => AllKept.at_ ?kp j v hf)
      case kp => exact AllKept.cons (fun _ e => e) (AllKept.cons (fun _ e => e) (AllKept.cons (fun _ e => e) (AllKept.cons (fun _ e => kept_isLit e hgl) (AllKept.cons (fun _ e => kept_isLit e hgl) (AllKept.cons (fun _ e => e) (AllKept.cons (fun _ e => e) (AllKept.cons (fun _ e => e) (AllKept.cons (fun _ e => e) (AllKept.cons (fun _ e => e) (AllKept.cons (fun _ e => e) (AllKept.cons (fun _ e => e) (AllKept.cons (fun _ e => kept_isLit e hgl) (AllKept.cons (fun _ e => kept_isLit e hgl) (AllKept.cons (fun _ e => e) (AllKept.cons (fun _ e => e) (AllKept.cons (fun _ e => e) (AllKept.cons (fun _ e => e) (AllKept.cons (fun _ e => e) (AllKept.cons (fun _ e => e) (AllKept.cons (fun _ e => e) (AllKept.cons (fun _ e => e) (AllKept.cons (fun _ e => e) (AllKept.cons (fun _ e => e) (AllKept.cons (fun _ e => e) (AllKept.cons (fun _ e => e) (AllKept.cons (fun _ e => e) (AllKept.cons (fun _ e => e) (AllKept.cons (fun _ e => e) (AllKept.cons (fun _ e => e) (AllKept.cons (fun _ e => e) (AllKept.cons (fun _ e => e) (AllKept.cons (fun _ e => e) (AllKept.cons (fun _ e => e) (AllKept.cons (fun _ e => e) (AllKept.cons (fun _ e => e) (AllKept.cons (fun _ e => e) (AllKept.cons (fun _ e => e) (AllKept.cons (fun _ e => e) (AllKept.cons (fun _ e => e) (AllKept.cons (fun _ e => e) (AllKept.cons (fun _ e => e) (AllKept.cons (fun _ e => e) (AllKept.cons (fun _ e => e) (AllKept.cons (fun _ e => e) (AllKept.cons (fun _ e => e) (AllKept.cons (fun _ e => e) (AllKept.cons (fun _ e => e) (AllKept.cons (fun _ e => e) (AllKept.cons (fun _ e => e) (AllKept.cons (fun _ e => e) (AllKept.cons (fun _ e => e) (AllKept.cons (fun _ e => kept_isHits e hcc hss) (AllKept.cons (fun _ e => e) (AllKept.cons (fun _ e => e) (AllKept.cons (fun _ e => e) (AllKept.cons (fun _ e => e) (AllKept.cons (fun _ e => e) (AllKept.cons (fun _ e => kept_isHits e hcc hss) (AllKept.cons (fun _ e => e) (AllKept.cons (fun _ e => kept_isHits e hcc hss) (AllKept.cons (fun _ e => e) (AllKept.cons (fun _ e => e) (AllKept.cons (fun _ e => e) (AllKept.cons (fun _ e => e) (AllKept.cons (fun _ e => kept_isHits e hcc hss) (AllKept.cons (fun _ e => e) (AllKept.cons (fun _ e => kept_isHits e hcc hss) (AllKept.cons (fun _ e => kept_isHitRows e hcc hss) (AllKept.cons (fun _ e => kept_isHits e hcc hss) (AllKept.cons (fun _ e => e) (AllKept.cons (fun _ e => e) (AllKept.cons (fun _ e => e) (AllKept.cons (fun _ e => e) (AllKept.cons (fun _ e => e) (AllKept.cons (fun _ e => e) (AllKept.cons (fun _ e => kept_isHits e hcc hss) (AllKept.cons (fun _ e => e) (AllKept.cons (fun _ e => e) (AllKept.cons (fun _ e => e) (AllKept.cons (fun _ e => e) (AllKept.nil)))))))))))))))))))))))))))))))))))))))))))))))))))))))))))))))))))))))))))))))))
      replace hcv := hid hcv
      replace hgl := hid hgl
      have hcv2 := hcv.out
      clear hcc hss
      simp only [wantedAt]
      go_simp
      exact hres
    case o5 =>
      go_light
      intro ac w' hgw
      have hgw0 := hid hgw
      replace hgw := hid (grown_trans (grown_drew (grown_refl W4 none)) hgw)
      simp only [outThen, preThen, slotIs, factAt, isv, List.getElem?_cons_zero, List.getElem?_cons_succ, Option.getD_some, forall_eq]
      intros
      rename_i hK
      replace hK := hid hK
      simp only [wantedAt]
      go_simp
      exact hK.out _ _ rfl (grown_refl _ _)
    case o6 =>
      go_light
      intro ac w' hgw
      have hgw0 := hid hgw
      replace hgw := hid (grown_trans (grown_drew (grown_refl W4 none)) hgw)
      simp only [outThen, preThen, slotIs, factAt, isv, List.getElem?_cons_zero, List.getElem?_cons_succ, Option.getD_some, forall_eq]
      intros
      rename_i hK
      replace hK := hid hK
      simp only [wantedAt]
      go_simp
      exact hK.out _ _ rfl (grown_refl _ _)
    case o7 =>
      go_light
      intro ac w' hgw
      have hgw0 := hid hgw
      replace hgw := hid (grown_trans (grown_drew (grown_refl W4 none)) hgw)
      simp only [outThen, preThen, slotIs, factAt, isv, List.getElem?_cons_zero, List.getElem?_cons_succ, Option.getD_some, forall_eq]
      have k0 := ((gcell hgw.out).1 bL (oL + 4) hbL.out).trans x2.out
      have k1 := ((gcell hgw.out).1 bL ((oL + 4) + 1) hbL.out).trans y2.out
      intros
      rename_i hK
      replace hK := hid hK
      simp only [wantedAt]
      go_simp
      exact hK.out _ _ rfl (grown_refl _ _)
    case o8 =>
      go_light
      intro ac w' hgw
      have hgw0 := hid hgw
      replace hgw := hid (grown_trans (grown_drew (grown_refl W4 none)) hgw)
      simp only [outThen, preThen, slotIs, factAt, isv, List.getElem?_cons_zero, List.getElem?_cons_succ, Option.getD_some, forall_eq]
      intros
      rename_i _ v1 h1 hv1 _ _ K hK
      replace hK := hid hK
      obtain ⟨g, fr, rfl, hge, hgl⟩ := h1
      replace hgl := hid hgl
      simp only [wantedAt]
      go_simp
      refine (occStands_is false A1 (some ⟨g, 0, none⟩) c1 5 10 usher (15, 2) sheWords _ (by decide) (by decide) (obs_all _ (by decide)) (hA1.out.grown hgw.out) (by decide) (by decide) (by decide) (ob_all _ (by decide)) (lit_arr hgl.out) (by decide) (by decide) (by decide) (by decide)).mono ?_
      rintro e w9 ⟨rfl, hg⟩
      rw [p_she_right, p_she_stands]
      exact hK.out _ _ rfl hg
    case o9 =>
      go_light
      intro ac w' hgw
      have hgw0 := hid hgw
      replace hgw := hid (grown_trans (grown_drew (grown_refl W4 none)) hgw)
      simp only [outThen, preThen, slotIs, factAt, isv, List.getElem?_cons_zero, List.getElem?_cons_succ, Option.getD_some, forall_eq]
      intros
      rename_i hK
      replace hK := hid hK
      simp only [wantedAt]
      go_simp
      exact hK.out _ _ rfl (grown_refl _ _)
    case o10 =>
      go_light
      intro ac w' hgw
      have hgw0 := hid hgw
      replace hgw := hid (grown_trans (grown_drew (grown_refl W4 none)) hgw)
      simp only [outThen, preThen, slotIs, factAt, isv, List.getElem?_cons_zero, List.getElem?_cons_succ, Option.getD_some, forall_eq]
      intros
      rename_i hK
      replace hK := hid hK
      simp only [wantedAt]
      go_simp
      exact hK.out _ _ rfl (grown_refl _ _)
    case o11 =>
      go_light
      intro ac w' hgw
      have hgw0 := hid hgw
      replace hgw := hid (grown_trans (grown_drew (grown_refl W4 none)) hgw)
      simp only [outThen, preThen, slotIs, factAt, isv, List.getElem?_cons_zero, List.getElem?_cons_succ, Option.getD_some, forall_eq]
      have k0 := ((gcell hgw.out).1 bS 0 hlS.out).trans e0.out
      have k1 := ((gcell hgw.out).1 bS 1 hlS.out).trans e1.out
      intros
      rename_i hK
      replace hK := hid hK
      simp only [wantedAt]
      go_simp
      exact hK.out _ _ rfl (grown_refl _ _)
    case o12 =>
      go_light
      intro ac w' hgw
      have hgw0 := hid hgw
      replace hgw := hid (grown_trans (grown_drew (grown_refl W4 none)) hgw)
      simp only [outThen, preThen, slotIs, factAt, isv, List.getElem?_cons_zero, List.getElem?_cons_succ, Option.getD_some, forall_eq]
      intros
      rename_i hK
      replace hK := hid hK
      simp only [wantedAt]
      go_simp
      exact hK.out _ _ ⟨_, _, rfl, hgw.out.size, World.alloc_heap_new _ _⟩ (grown_alloc (grown_refl _ _) _)
    case o13 =>
      go_light
      intro ac w' hgw
      have hgw0 := hid hgw
      replace hgw := hid (grown_trans (grown_drew (grown_refl W4 none)) hgw)
      simp only [outThen, preThen, slotIs, factAt, isv, List.getElem?_cons_zero, List.getElem?_cons_succ, Option.getD_some, forall_eq]
      intros
      rename_i v1 h1 hv1 _ K hK
      replace hK := hid hK
      obtain ⟨g, fr, rfl, hge, hgl⟩ := h1
      have hcc := freeze_cell w' g 5 _ _ _ hgl
      have hss := freeze_size w' g 5
      have hcv := run_convert_mark w' g 5 5 _ fr hgl
      obtain ⟨fr2, hgl2⟩ := freeze_eq w' g 5 _ _ _ hgl
      have hres := hK.out (.slice (some ⟨g, 0, none⟩) 5 5) (.slice (some ⟨g, 0, none⟩) 5 5) (w'.freeze ⟨g, 5, none⟩ 1) rfl ⟨g, fr2, rfl, hge, hgl2⟩ (freeze_grown _ _ _ _ hgw0.out hge) (fun j v hj hf => AllKept.at_ ?kp j v hf)
      case kp => exact AllKept.cons (fun _ e => e) (AllKept.cons (fun _ e => e) (AllKept.cons (fun _ e => e) (AllKept.cons (fun _ e => kept_isLit e hgl) (AllKept.cons (fun _ e => kept_isLit e hgl) (AllKept.cons (fun _ e => e) (AllKept.cons (fun _ e => e) (AllKept.cons (fun _ e => e) (AllKept.cons (fun _ e => e) (AllKept.cons (fun _ e => e) (AllKept.cons (fun _ e => e) (AllKept.cons (fun _ e => e) (AllKept.cons (fun _ e => kept_isLit e hgl) (AllKept.cons (fun _ e => kept_isLit e hgl) (AllKept.cons (fun _ e => e) (AllKept.cons (fun _ e => e) (AllKept.cons (fun _ e => e) (AllKept.cons (fun _ e => e) (AllKept.cons (fun _ e => e) (AllKept.cons (fun _ e => e) (AllKept.cons (fun _ e => e) (AllKept.cons (fun _ e => e) (AllKept.cons (fun _ e => e) (AllKept.cons (fun _ e => e) (AllKept.cons (fun _ e => e) (AllKept.cons (fun _ e => e) (AllKept.cons (fun _ e => e) (AllKept.cons (fun _ e => e) (AllKept.cons (fun _ e => e) (AllKept.cons (fun _ e => e) (AllKept.cons (fun _ e => e) (AllKept.cons (fun _ e => e) (AllKept.cons (fun _ e => e) (AllKept.cons (fun _ e => e) (AllKept.cons (fun _ e => e) (AllKept.cons (fun _ e => e) (AllKept.cons (fun _ e => e) (AllKept.cons (fun _ e => e) (AllKept.cons (fun _ e => e) (AllKept.cons (fun _ e => e) (AllKept.cons (fun _ e => e) (AllKept.cons (fun _ e => e) (AllKept.cons (fun _ e => e) (AllKept.cons (fun _ e => e) (AllKept.cons (fun _ e => e) (AllKept.cons (fun _ e => e) (AllKept.cons (fun _ e => e) (AllKept.cons (fun _ e => e) (AllKept.cons (fun _ e => e) (AllKept.cons (fun _ e => e) (AllKept.cons (fun _ e => e) (AllKept.cons (fun _ e => e) (AllKept.cons (fun _ e => kept_isHits e hcc hss) (AllKept.cons (fun _ e => e) (AllKept.cons (fun _ e => e) (AllKept.cons (fun _ e => e) (AllKept.cons (fun _ e => e) (AllKept.cons (fun _ e => e) (AllKept.cons (fun _ e => kept_isHits e hcc hss) (AllKept.cons (fun _ e => e) (AllKept.cons (fun _ e => kept_isHits e hcc hss) (AllKept.cons (fun _ e => e) (AllKept.cons (fun _ e => e) (AllKept.cons (fun _ e => e) (AllKept.cons (fun _ e => e) (AllKept.cons (fun _ e => kept_isHits e hcc hss) (AllKept.cons (fun _ e => e) (AllKept.cons (fun _ e => kept_isHits e hcc hss) (AllKept.cons (fun _ e => kept_isHitRows e hcc hss) (AllKept.cons (fun _ e => kept_isHits e hcc hss) (AllKept.cons (fun _ e => e) (AllKept.cons (fun _ e => e) (AllKept.cons (fun _ e => e) (AllKept.cons (fun _ e => e) (AllKept.cons (fun _ e => e) (AllKept.cons (fun _ e => e) (AllKept.cons (fun _ e => kept_isHits e hcc hss) (AllKept.cons (fun _ e => e) (AllKept.cons (fun _ e => e) (AllKept.cons (fun _ e => e) (AllKept.cons (fun _ e => e) (AllKept.nil)))))))))))))))))))))))))))))))))))))))))))))))))))))))))))))))))))))))))))))))))
      replace hcv := hid hcv
      replace hgl := hid hgl
      have hcv2 := hcv.out
      clear hcc hss
      simp only [wantedAt]
      go_simp
      exact hres
    case o14 =>
      go_light
      intro ac w' hgw
      have hgw0 := hid hgw
      replace hgw := hid (grown_trans (grown_drew (grown_refl W4 none)) hgw)
      simp only [outThen, preThen, slotIs, factAt, isv, List.getElem?_cons_zero, List.getElem?_cons_succ, Option.getD_some, forall_eq]
      intros
      rename_i hK
      replace hK := hid hK
      simp only [wantedAt]
      go_simp
      exact hK.out _ _ rfl (grown_refl _ _)
    case o15 =>
      go_light
      intro ac w' hgw
      have hgw0 := hid hgw
      replace hgw := hid (grown_trans (grown_drew (grown_refl W4 none)) hgw)
      simp only [outThen, preThen, slotIs, factAt, isv, List.getElem?_cons_zero, List.getElem?_cons_succ, Option.getD_some, forall_eq]
      intros
      rename_i _ v1 h1 hv1 _ _ K hK
      replace hK := hid hK
      obtain ⟨g, fr, rfl, hge, hgl⟩ := h1
      replace hgl := hid hgl
      simp only [wantedAt]
      go_simp
      refine (occStands_is false A1 (some ⟨g, 0, none⟩) c1 5 10 usher (15, 0) sheWords _ (by decide) (by decide) (obs_all _ (by decide)) (hA1.out.grown hgw.out) (by decide) (by decide) (by decide) (ob_all _ (by decide)) (lit_arr hgl.out) (by decide) (by decide) (by decide) (by decide)).mono ?_
      rintro e w9 ⟨rfl, hg⟩
      rw [p_she_right, p_she_not]
      exact hK.out _ _ rfl hg
    case o16 =>
      go_light
      intro ac w' hgw
      have hgw0 := hid hgw
      replace hgw := hid (grown_trans (grown_drew (grown_refl W4 none)) hgw)
      simp only [outThen, preThen, slotIs, factAt, isv, List.getElem?_cons_zero, List.getElem?_cons_succ, Option.getD_some, forall_eq]
      intros
      rename_i hK
      replace hK := hid hK
      simp only [wantedAt]
      go_simp
      exact hK.out _ _ rfl (grown_refl _ _)
    case o17 =>
      go_light
      intro ac w' hgw
      have hgw0 := hid hgw
      replace hgw := hid (grown_trans (grown_drew (grown_refl W4 none)) hgw)
      simp only [outThen, preThen, slotIs, factAt, isv, List.getElem?_cons_zero, List.getElem?_cons_succ, Option.getD_some, forall_eq]
      intros
      rename_i hK
      replace hK := hid hK
      simp only [wantedAt]
      go_simp
      exact hK.out _ _ rfl (grown_refl _ _)
    case o18 =>
      go_light
      intro ac w' hgw
      have hgw0 := hid hgw
      replace hgw := hid (grown_trans (grown_drew (grown_refl W4 none)) hgw)
      simp only [outThen, preThen, slotIs, factAt, isv, List.getElem?_cons_zero, List.getElem?_cons_succ, Option.getD_some, forall_eq]
      intros
      rename_i hK
      replace hK := hid hK
      simp only [wantedAt]
      go_simp
      exact hK.out _ _ rfl (grown_refl _ _)
    case o19 =>
      go_light
      intro ac w' hgw
      have hgw0 := hid hgw
      replace hgw := hid (grown_trans (grown_drew (grown_refl W4 none)) hgw)
      simp only [outThen, preThen, slotIs, factAt, isv, List.getElem?_cons_zero, List.getElem?_cons_succ, Option.getD_some, forall_eq]
      have k0 := ((gcell hgw.out).1 bS 0 hlS.out).trans e0.out
      have k1 := ((gcell hgw.out).1 bS 1 hlS.out).trans e1.out
      intros
      rename_i hK
      replace hK := hid hK
      simp only [wantedAt]
      go_simp
      exact hK.out _ _ rfl (grown_refl _ _)
    case o20 =>
      go_light
      intro ac w' hgw
      have hgw0 := hid hgw
      replace hgw := hid (grown_trans (grown_drew (grown_refl W4 none)) hgw)
      simp only [outThen, preThen, slotIs, factAt, isv, List.getElem?_cons_zero, List.getElem?_cons_succ, Option.getD_some, forall_eq]
      intros
      rename_i hK
      replace hK := hid hK
      simp only [wantedAt]
      go_simp
      exact hK.out _ _ rfl (grown_refl _ _)
    case o21 =>
      go_light
      intro ac w' hgw
      have hgw0 := hid hgw
      replace hgw := hid (grown_trans (grown_drew (grown_refl W4 none)) hgw)
      simp only [outThen, preThen, slotIs, factAt, isv, List.getElem?_cons_zero, List.getElem?_cons_succ, Option.getD_some, forall_eq]
      intros
      rename_i hK
      replace hK := hid hK
      simp only [wantedAt]
      go_simp
      exact hK.out _ _ rfl (grown_refl _ _)
    case o22 =>
      go_light
      intro ac w' hgw
      have hgw0 := hid hgw
      replace hgw := hid (grown_trans (grown_drew (grown_refl W4 none)) hgw)
      simp only [outThen, preThen, slotIs, factAt, isv, List.getElem?_cons_zero, List.getElem?_cons_succ, Option.getD_some, forall_eq]
      have k0 := ((gcell hgw.out).1 bL oL hbL.out).trans x0.out
      have k1 := ((gcell hgw.out).1 bL (oL + 1) hbL.out).trans y0.out
      intros
      rename_i hK
      replace hK := hid hK
      simp only [wantedAt]
      go_simp
      exact hK.out _ _ rfl (grown_refl _ _)
    case o23 =>
      go_light
      intro ac w' hgw
      have hgw0 := hid hgw
      replace hgw := hid (grown_trans (grown_drew (grown_refl W4 none)) hgw)
      simp only [outThen, preThen, slotIs, factAt, isv, List.getElem?_cons_zero, List.getElem?_cons_succ, Option.getD_some, forall_eq]
      intros
      rename_i hK
      replace hK := hid hK
      simp only [wantedAt]
      go_simp
      exact hK.out _ _ rfl (grown_refl _ _)
    case o24 =>
      go_light
      intro ac w' hgw
      have hgw0 := hid hgw
      replace hgw := hid (grown_trans (grown_drew (grown_refl W4 none)) hgw)
      simp only [outThen, preThen, slotIs, factAt, isv, List.getElem?_cons_zero, List.getElem?_cons_succ, Option.getD_some, forall_eq]
      intros
      rename_i hK
      replace hK := hid hK
      simp only [wantedAt]
      go_simp
      exact hK.out _ _ rfl (grown_refl _ _)
    case o25 =>
      go_light
      intro ac w' hgw
      have hgw0 := hid hgw
      replace hgw := hid (grown_trans (grown_drew (grown_refl W4 none)) hgw)
      simp only [outThen, preThen, slotIs, factAt, isv, List.getElem?_cons_zero, List.getElem?_cons_succ, Option.getD_some, forall_eq]
      have k0 := ((gcell hgw.out).1 bL (oL + 2) hbL.out).trans x1.out
      have k1 := ((gcell hgw.out).1 bL ((oL + 2) + 1) hbL.out).trans y1.out
      intros
      rename_i hK
      replace hK := hid hK
      simp only [wantedAt]
      go_simp
      exact hK.out _ _ rfl (grown_refl _ _)
    case o26 =>
      go_light
      intro ac w' hgw
      have hgw0 := hid hgw
      replace hgw := hid (grown_trans (grown_drew (grown_refl W4 none)) hgw)
      simp only [outThen, preThen, slotIs, factAt, isv, List.getElem?_cons_zero, List.getElem?_cons_succ, Option.getD_some, forall_eq]
      intros
      rename_i hK
      replace hK := hid hK
      simp only [wantedAt]
      go_simp
      refine (occLess_is false A1 c1 sheWords (14, 1) (14, 0) _ (hA1.out.grown hgw.out)).mono ?_
      rintro e w9 ⟨rfl, hg⟩
      rw [p_she_less]
      exact hK.out _ _ rfl hg
    case o27 =>
      go_light
      intro ac w' hgw
      have hgw0 := hid hgw
      replace hgw := hid (grown_trans (grown_drew (grown_refl W4 none)) hgw)
      simp only [outThen, preThen, slotIs, factAt, isv, List.getElem?_cons_zero, List.getElem?_cons_succ, Option.getD_some, forall_eq]
      intros
      rename_i hK
      replace hK := hid hK
      simp only [wantedAt]
      go_simp
      exact hK.out _ _ rfl (grown_refl _ _)
    case o28 =>
      go_light
      intro ac w' hgw
      have hgw0 := hid hgw
      replace hgw := hid (grown_trans (grown_drew (grown_refl W4 none)) hgw)
      simp only [outThen, preThen, slotIs, factAt, isv, List.getElem?_cons_zero, List.getElem?_cons_succ, Option.getD_some, forall_eq]
      intros
      rename_i hK
      replace hK := hid hK
      simp only [wantedAt]
      go_simp
      exact hK.out _ _ rfl (grown_refl _ _)
    case o29 =>
      go_light
      intro ac w' hgw
      have hgw0 := hid hgw
      replace hgw := hid (grown_trans (grown_drew (grown_refl W4 none)) hgw)
      simp only [outThen, preThen, slotIs, factAt, isv, List.getElem?_cons_zero, List.getElem?_cons_succ, Option.getD_some, forall_eq]
      have k0 := ((gcell hgw.out).1 bS 0 hlS.out).trans e0.out
      have k1 := ((gcell hgw.out).1 bS 1 hlS.out).trans e1.out
      intros
      rename_i hK
      replace hK := hid hK
      simp only [wantedAt]
      go_simp
      exact hK.out _ _ rfl (grown_refl _ _)
    case o30 =>
      go_light
      intro ac w' hgw
      have hgw0 := hid hgw
      replace hgw := hid (grown_trans (grown_drew (grown_refl W4 none)) hgw)
      simp only [outThen, preThen, slotIs, factAt, isv, List.getElem?_cons_zero, List.getElem?_cons_succ, Option.getD_some, forall_eq]
      intros
      rename_i hK
      replace hK := hid hK
      simp only [wantedAt]
      go_simp
      exact hK.out _ _ rfl (grown_refl _ _)
    case o31 =>
      go_light
      intro ac w' hgw
      have hgw0 := hid hgw
      replace hgw := hid (grown_trans (grown_drew (grown_refl W4 none)) hgw)
      simp only [outThen, preThen, slotIs, factAt, isv, List.getElem?_cons_zero, List.getElem?_cons_succ, Option.getD_some, forall_eq]
      intros
      rename_i hK
      replace hK := hid hK
      simp only [wantedAt]
      go_simp
      exact hK.out _ _ rfl (grown_refl _ _)
    case o32 =>
      go_light
      intro ac w' hgw
      have hgw0 := hid hgw
      replace hgw := hid (grown_trans (grown_drew (grown_refl W4 none)) hgw)
      simp only [outThen, preThen, slotIs, factAt, isv, List.getElem?_cons_zero, List.getElem?_cons_succ, Option.getD_some, forall_eq]
      have k0 := ((gcell hgw.out).1 bL (oL + 2) hbL.out).trans x1.out
      have k1 := ((gcell hgw.out).1 bL ((oL + 2) + 1) hbL.out).trans y1.out
      intros
      rename_i hK
      replace hK := hid hK
      simp only [wantedAt]
      go_simp
      exact hK.out _ _ rfl (grown_refl _ _)
    case o33 =>
      go_light
      intro ac w' hgw
      have hgw0 := hid hgw
      replace hgw := hid (grown_trans (grown_drew (grown_refl W4 none)) hgw)
      simp only [outThen, preThen, slotIs, factAt, isv, List.getElem?_cons_zero, List.getElem?_cons_succ, Option.getD_some, forall_eq]
      intros
      rename_i hK
      replace hK := hid hK
      simp only [wantedAt]
      go_simp
      exact hK.out _ _ rfl (grown_refl _ _)
    case o34 =>
      go_light
      intro ac w' hgw
      have hgw0 := hid hgw
      replace hgw := hid (grown_trans (grown_drew (grown_refl W4 none)) hgw)
      simp only [outThen, preThen, slotIs, factAt, isv, List.getElem?_cons_zero, List.getElem?_cons_succ, Option.getD_some, forall_eq]
      intros
      rename_i hK
      replace hK := hid hK
      simp only [wantedAt]
      go_simp
      exact hK.out _ _ rfl (grown_refl _ _)
    case o35 =>
      go_light
      intro ac w' hgw
      have hgw0 := hid hgw
      replace hgw := hid (grown_trans (grown_drew (grown_refl W4 none)) hgw)
      simp only [outThen, preThen, slotIs, factAt, isv, List.getElem?_cons_zero, List.getElem?_cons_succ, Option.getD_some, forall_eq]
      have k0 := ((gcell hgw.out).1 bL oL hbL.out).trans x0.out
      have k1 := ((gcell hgw.out).1 bL (oL + 1) hbL.out).trans y0.out
      intros
      rename_i hK
      replace hK := hid hK
      simp only [wantedAt]
      go_simp
      exact hK.out _ _ rfl (grown_refl _ _)
    case o36 =>
      go_light
      intro ac w' hgw
      have hgw0 := hid hgw
      replace hgw := hid (grown_trans (grown_drew (grown_refl W4 none)) hgw)
      simp only [outThen, preThen, slotIs, factAt, isv, List.getElem?_cons_zero, List.getElem?_cons_succ, Option.getD_some, forall_eq]
      intros
      rename_i hK
      replace hK := hid hK
      simp only [wantedAt]
      go_simp
      refine (occLess_is false A1 c1 sheWords (14, 0) (14, 1) _ (hA1.out.grown hgw.out)).mono ?_
      rintro e w9 ⟨rfl, hg⟩
      rw [p_she_more]
      exact hK.out _ _ rfl hg
    case o37 =>
      go_light
      intro ac w' hgw
      have hgw0 := hid hgw
      replace hgw := hid (grown_trans (grown_drew (grown_refl W4 none)) hgw)
      simp only [outThen, preThen, slotIs, factAt, isv, List.getElem?_cons_zero, List.getElem?_cons_succ, Option.getD_some, forall_eq]
      intros
      rename_i hK
      replace hK := hid hK
      simp only [wantedAt]
      go_simp
      exact hK.out _ _ rfl (grown_refl _ _)
    case o38 =>
      go_light
      intro ac w' hgw
      have hgw0 := hid hgw
      replace hgw := hid (grown_trans (grown_drew (grown_refl W4 none)) hgw)
      simp only [outThen, preThen, slotIs, factAt, isv, List.getElem?_cons_zero, List.getElem?_cons_succ, Option.getD_some, forall_eq]
      intros
      rename_i hK
      replace hK := hid hK
      simp only [wantedAt]
      go_simp
      exact hK.out _ _ rfl (grown_refl _ _)
    case o39 =>
      go_light
      intro ac w' hgw
      have hgw0 := hid hgw
      replace hgw := hid (grown_trans (grown_drew (grown_refl W4 none)) hgw)
      simp only [outThen, preThen, slotIs, factAt, isv, List.getElem?_cons_zero, List.getElem?_cons_succ, Option.getD_some, forall_eq]
      intros
      rename_i hK
      replace hK := hid hK
      simp only [wantedAt]
      go_simp
      exact hK.out _ _ rfl (grown_refl _ _)
    case o40 =>
      go_light
      intro ac w' hgw
      have hgw0 := hid hgw
      replace hgw := hid (grown_trans (grown_drew (grown_refl W4 none)) hgw)
      simp only [outThen, preThen, slotIs, factAt, isv, List.getElem?_cons_zero, List.getElem?_cons_succ, Option.getD_some, forall_eq]
      have k0 := ((gcell hgw.out).1 bS 0 hlS.out).trans e0.out
      have k1 := ((gcell hgw.out).1 bS 1 hlS.out).trans e1.out
      intros
      rename_i hK
      replace hK := hid hK
      simp only [wantedAt]
      go_simp
      exact hK.out _ _ rfl (grown_refl _ _)
    case o41 =>
      go_light
      intro ac w' hgw
      have hgw0 := hid hgw
      replace hgw := hid (grown_trans (grown_drew (grown_refl W4 none)) hgw)
      simp only [outThen, preThen, slotIs, factAt, isv, List.getElem?_cons_zero, List.getElem?_cons_succ, Option.getD_some, forall_eq]
      intros
      rename_i hK
      replace hK := hid hK
      simp only [wantedAt]
      go_simp
      exact hK.out _ _ rfl (grown_refl _ _)
    case o42 =>
      go_light
      intro ac w' hgw
      have hgw0 := hid hgw
      replace hgw := hid (grown_trans (grown_drew (grown_refl W4 none)) hgw)
      simp only [outThen, preThen, slotIs, factAt, isv, List.getElem?_cons_zero, List.getElem?_cons_succ, Option.getD_some, forall_eq]
      intros
      rename_i hK
      replace hK := hid hK
      simp only [wantedAt]
      go_simp
      refine (occRise_is false A1 (some ⟨bL, oL, none⟩) c1 cL sheWords [(14, 1), (14, 0), (15, 2)] _ (by decide) (hA1.out.grown hgw.out) (hL.out.grown hgw.out)).mono ?_
      rintro e w9 ⟨rfl, hg⟩
      rw [p_she_rise]
      exact hK.out _ _ rfl hg
    case o43 =>
      go_light
      intro ac w' hgw
      have hgw0 := hid hgw
      replace hgw := hid (grown_trans (grown_drew (grown_refl W4 none)) hgw)
      simp only [outThen, preThen, slotIs, factAt, isv, List.getElem?_cons_zero, List.getElem?_cons_succ, Option.getD_some, forall_eq]
      intros
      rename_i hK
      replace hK := hid hK
      simp only [wantedAt]
      go_simp
      exact hK.out _ _ rfl (grown_refl _ _)
    case o44 =>
      go_light
      intro ac w' hgw
      have hgw0 := hid hgw
      replace hgw := hid (grown_trans (grown_drew (grown_refl W4 none)) hgw)
      simp only [outThen, preThen, slotIs, factAt, isv, List.getElem?_cons_zero, List.getElem?_cons_succ, Option.getD_some, forall_eq]
      intros
      rename_i hK
      replace hK := hid hK
      simp only [wantedAt]
      go_simp
      exact hK.out _ _ rfl (grown_refl _ _)
    case o45 =>
      go_light
      intro ac w' hgw
      have hgw0 := hid hgw
      replace hgw := hid (grown_trans (grown_drew (grown_refl W4 none)) hgw)
      simp only [outThen, preThen, slotIs, factAt, isv, List.getElem?_cons_zero, List.getElem?_cons_succ, Option.getD_some, forall_eq]
      have k0 := ((gcell hgw.out).1 bS 0 hlS.out).trans e0.out
      have k1 := ((gcell hgw.out).1 bS 1 hlS.out).trans e1.out
      intros
      rename_i hK
      replace hK := hid hK
      simp only [wantedAt]
      go_simp
      exact hK.out _ _ rfl (grown_refl _ _)
    case o46 =>
      go_light
      intro ac w' hgw
      have hgw0 := hid hgw
      replace hgw := hid (grown_trans (grown_drew (grown_refl W4 none)) hgw)
      simp only [outThen, preThen, slotIs, factAt, isv, List.getElem?_cons_zero, List.getElem?_cons_succ, Option.getD_some, forall_eq]
      intros
      rename_i hK
      replace hK := hid hK
      simp only [wantedAt]
      go_simp
      exact hK.out _ _ rfl (grown_refl _ _)
    case o47 =>
      go_light
      intro ac w' hgw
      have hgw0 := hid hgw
      replace hgw := hid (grown_trans (grown_drew (grown_refl W4 none)) hgw)
      simp only [outThen, preThen, slotIs, factAt, isv, List.getElem?_cons_zero, List.getElem?_cons_succ, Option.getD_some, forall_eq]
      intros
      rename_i hK
      replace hK := hid hK
      simp only [wantedAt]
      go_simp
      exact hK.out _ _ rfl (grown_refl _ _)
    case o48 =>
      go_light
      intro ac w' hgw
      have hgw0 := hid hgw
      replace hgw := hid (grown_trans (grown_drew (grown_refl W4 none)) hgw)
      simp only [outThen, preThen, slotIs, factAt, isv, List.getElem?_cons_zero, List.getElem?_cons_succ, Option.getD_some, forall_eq]
      have k0 := ((gcell hgw.out).1 bL oL hbL.out).trans x0.out
      have k1 := ((gcell hgw.out).1 bL (oL + 1) hbL.out).trans y0.out
      intros
      rename_i hK
      replace hK := hid hK
      simp only [wantedAt]
      go_simp
      exact hK.out _ _ rfl (grown_refl _ _)
    case o49 =>
      go_light
      intro ac w' hgw
      have hgw0 := hid hgw
      replace hgw := hid (grown_trans (grown_drew (grown_refl W4 none)) hgw)
      simp only [outThen, preThen, slotIs, factAt, isv, List.getElem?_cons_zero, List.getElem?_cons_succ, Option.getD_some, forall_eq]
      intros
      rename_i hK
      replace hK := hid hK
      simp only [wantedAt]
      go_simp
      exact hK.out _ _ rfl (grown_refl _ _)
    case o50 =>
      go_light
      intro ac w' hgw
      have hgw0 := hid hgw
      replace hgw := hid (grown_trans (grown_drew (grown_refl W4 none)) hgw)
      simp only [outThen, preThen, slotIs, factAt, isv, List.getElem?_cons_zero, List.getElem?_cons_succ, Option.getD_some, forall_eq]
      intros
      rename_i hK
      replace hK := hid hK
      simp only [wantedAt]
      go_simp
      exact hK.out _ _ rfl (grown_refl _ _)
    case o51 =>
      go_light
      intro ac w' hgw
      have hgw0 := hid hgw
      replace hgw := hid (grown_trans (grown_drew (grown_refl W4 none)) hgw)
      simp only [outThen, preThen, slotIs, factAt, isv, List.getElem?_cons_zero, List.getElem?_cons_succ, Option.getD_some, forall_eq]
      have k0 := ((gcell hgw.out).1 bL oL hbL.out).trans x0.out
      have k1 := ((gcell hgw.out).1 bL (oL + 1) hbL.out).trans y0.out
      intros
      rename_i hK
      replace hK := hid hK
      simp only [wantedAt]
      go_simp
      exact hK.out _ _ rfl (grown_refl _ _)
    case o52 =>
      go_light
      intro ac w' hgw
      have hgw0 := hid hgw
      replace hgw := hid (grown_trans (grown_drew (grown_refl W4 none)) hgw)
      simp only [outThen, preThen, slotIs, factAt, isv, List.getElem?_cons_zero, List.getElem?_cons_succ, Option.getD_some, forall_eq]
      intros
      rename_i hK
      replace hK := hid hK
      simp only [wantedAt]
      go_simp
      exact hK.out _ _ ⟨_, _, rfl, hits_two _ _ _⟩ (grown_alloc (grown_refl _ _) _)
    case o53 =>
      go_light
      intro ac w' hgw
      have hgw0 := hid hgw
      replace hgw := hid (grown_trans (grown_drew (grown_refl W4 none)) hgw)
      simp only [outThen, preThen, slotIs, factAt, isv, List.getElem?_cons_zero, List.getElem?_cons_succ, Option.getD_some, forall_eq]
      intros
      rename_i _ v1 h1 hv1 _ K hK
      replace hK := hid hK
      obtain ⟨P1, d1, rfl, ha1⟩ := h1
      replace ha1 := hid ha1
      simp only [wantedAt]
      go_simp
      refine (occRise_is false A1 P1 c1 d1 sheWords [(14, 1), (14, 1)] _ (by decide) (hA1.out.grown hgw.out) ha1.out).mono ?_
      rintro e w9 ⟨rfl, hg⟩
      rw [p_she_twice]
      exact hK.out _ _ rfl hg
    case o54 =>
      go_light
      intro ac w' hgw
      have hgw0 := hid hgw
      replace hgw := hid (grown_trans (grown_drew (grown_refl W4 none)) hgw)
      simp only [outThen, preThen, slotIs, factAt, isv, List.getElem?_cons_zero, List.getElem?_cons_succ, Option.getD_some, forall_eq]
      intros
      rename_i hK
      replace hK := hid hK
      simp only [wantedAt]
      go_simp
      exact hK.out _ _ rfl (grown_refl _ _)
    case o55 =>
      go_light
      intro ac w' hgw
      have hgw0 := hid hgw
      replace hgw := hid (grown_trans (grown_drew (grown_refl W4 none)) hgw)
      simp only [outThen, preThen, slotIs, factAt, isv, List.getElem?_cons_zero, List.getElem?_cons_succ, Option.getD_some, forall_eq]
      intros
      rename_i hK
      replace hK := hid hK
      simp only [wantedAt]
      go_simp
      exact hK.out _ _ rfl (grown_refl _ _)
    case o56 =>
      go_light
      intro ac w' hgw
      have hgw0 := hid hgw
      replace hgw := hid (grown_trans (grown_drew (grown_refl W4 none)) hgw)
      simp only [outThen, preThen, slotIs, factAt, isv, List.getElem?_cons_zero, List.getElem?_cons_succ, Option.getD_some, forall_eq]
      intros
      rename_i hK
      replace hK := hid hK
      simp only [wantedAt]
      go_simp
      exact hK.out _ _ rfl (grown_refl _ _)
    case o57 =>
      go_light
      intro ac w' hgw
      have hgw0 := hid hgw
      replace hgw := hid (grown_trans (grown_drew (grown_refl W4 none)) hgw)
      simp only [outThen, preThen, slotIs, factAt, isv, List.getElem?_cons_zero, List.getElem?_cons_succ, Option.getD_some, forall_eq]
      intros
      rename_i hK
      replace hK := hid hK
      simp only [wantedAt]
      go_simp
      exact hK.out _ _ rfl (grown_refl _ _)
    case o58 =>
      go_light
      intro ac w' hgw
      have hgw0 := hid hgw
      replace hgw := hid (grown_trans (grown_drew (grown_refl W4 none)) hgw)
      simp only [outThen, preThen, slotIs, factAt, isv, List.getElem?_cons_zero, List.getElem?_cons_succ, Option.getD_some, forall_eq]
      intros
      rename_i hK
      replace hK := hid hK
      simp only [wantedAt]
      go_simp
      refine (occBetween_is 14 15 (some ⟨bL, oL, none⟩) cL [(14, 1), (14, 0), (15, 2)] _ (by decide) (hL.out.grown hgw.out)).mono ?_
      rintro e w9 ⟨v, rfl, hown, hg⟩
      rw [p_she_between] at hown
      obtain ⟨A9, c9, rfl, hh9, _, _⟩ := hown.form
      exact hK.out _ _ ⟨A9, c9, rfl, hh9⟩ hg
    case o59 =>
      go_light
      intro ac w' hgw
      have hgw0 := hid hgw
      replace hgw := hid (grown_trans (grown_drew (grown_refl W4 none)) hgw)
      simp only [outThen, preThen, slotIs, factAt, isv, List.getElem?_cons_zero, List.getElem?_cons_succ, Option.getD_some, forall_eq]
      intros
      rename_i hK
      replace hK := hid hK
      simp only [wantedAt]
      go_simp
      exact hK.out _ _ rfl (grown_refl _ _)
    case o60 =>
      go_light
      intro ac w' hgw
      have hgw0 := hid hgw
      replace hgw := hid (grown_trans (grown_drew (grown_refl W4 none)) hgw)
      simp only [outThen, preThen, slotIs, factAt, isv, List.getElem?_cons_zero, List.getElem?_cons_succ, Option.getD_some, forall_eq]
      intros
      rename_i hK
      replace hK := hid hK
      simp only [wantedAt]
      go_simp
      exact hK.out _ _ ⟨_, _, rfl, hL2.out.grown hgw.out⟩ (grown_refl _ _)
    case o61 =>
      go_light
      intro ac w' hgw
      have hgw0 := hid hgw
      replace hgw := hid (grown_trans (grown_drew (grown_refl W4 none)) hgw)
      simp only [outThen, preThen, slotIs, factAt, isv, List.getElem?_cons_zero, List.getElem?_cons_succ, Option.getD_some, forall_eq]
      intros
      rename_i v1 h1 hv1 v2 h2 hv2 _ K hK
      replace hK := hid hK
      obtain ⟨P1, d1, rfl, ha1⟩ := h1
      replace ha1 := hid ha1
      obtain ⟨P2, d2, rfl, ha2⟩ := h2
      replace ha2 := hid ha2
      simp only [wantedAt]
      go_simp
      refine (occSame_is P1 P2 d1 d2 [(15, 2)] [(15, 2)] _ (by decide) ha1.out ha2.out).mono ?_
      rintro e w9 ⟨rfl, hg⟩
      exact hK.out _ _ rfl hg
    case o62 =>
      go_light
      intro ac w' hgw
      have hgw0 := hid hgw
      replace hgw := hid (grown_trans (grown_drew (grown_refl W4 none)) hgw)
      simp only [outThen, preThen, slotIs, factAt, isv, List.getElem?_cons_zero, List.getElem?_cons_succ, Option.getD_some, forall_eq]
      intros
      rename_i hK
      replace hK := hid hK
      simp only [wantedAt]
      go_simp
      exact hK.out _ _ rfl (grown_refl _ _)
    case o63 =>
      go_light
      intro ac w' hgw
      have hgw0 := hid hgw
      replace hgw := hid (grown_trans (grown_drew (grown_refl W4 none)) hgw)
      simp only [outThen, preThen, slotIs, factAt, isv, List.getElem?_cons_zero, List.getElem?_cons_succ, Option.getD_some, forall_eq]
      intros
      rename_i hK
      replace hK := hid hK
      simp only [wantedAt]
      go_simp
      exact hK.out _ _ rfl (grown_refl _ _)
    case o64 =>
      go_light
      intro ac w' hgw
      have hgw0 := hid hgw
      replace hgw := hid (grown_trans (grown_drew (grown_refl W4 none)) hgw)
      simp only [outThen, preThen, slotIs, factAt, isv, List.getElem?_cons_zero, List.getElem?_cons_succ, Option.getD_some, forall_eq]
      intros
      rename_i hK
      replace hK := hid hK
      simp only [wantedAt]
      go_simp
      exact hK.out _ _ rfl (grown_refl _ _)
    case o65 =>
      go_light
      intro ac w' hgw
      have hgw0 := hid hgw
      replace hgw := hid (grown_trans (grown_drew (grown_refl W4 none)) hgw)
      simp only [outThen, preThen, slotIs, factAt, isv, List.getElem?_cons_zero, List.getElem?_cons_succ, Option.getD_some, forall_eq]
      intros
      rename_i hK
      replace hK := hid hK
      simp only [wantedAt]
      go_simp
      exact hK.out _ _ ⟨_, _, rfl, hL01.out.grown hgw.out⟩ (grown_refl _ _)
    case o66 =>
      go_light
      intro ac w' hgw
      have hgw0 := hid hgw
      replace hgw := hid (grown_trans (grown_drew (grown_refl W4 none)) hgw)
      simp only [outThen, preThen, slotIs, factAt, isv, List.getElem?_cons_zero, List.getElem?_cons_succ, Option.getD_some, forall_eq]
      intros
      rename_i hK
      replace hK := hid hK
      simp only [wantedAt]
      go_simp
      exact hK.out _ _ rfl (grown_refl _ _)
    case o67 =>
      go_light
      intro ac w' hgw
      have hgw0 := hid hgw
      replace hgw := hid (grown_trans (grown_drew (grown_refl W4 none)) hgw)
      simp only [outThen, preThen, slotIs, factAt, isv, List.getElem?_cons_zero, List.getElem?_cons_succ, Option.getD_some, forall_eq]
      intros
      rename_i hK
      replace hK := hid hK
      simp only [wantedAt]
      go_simp
      exact hK.out _ _ ⟨_, _, rfl, hL12.out.grown hgw.out⟩ (grown_refl _ _)
    case o68 =>
      go_light
      intro ac w' hgw
      have hgw0 := hid hgw
      replace hgw := hid (grown_trans (grown_drew (grown_refl W4 none)) hgw)
      simp only [outThen, preThen, slotIs, factAt, isv, List.getElem?_cons_zero, List.getElem?_cons_succ, Option.getD_some, forall_eq]
      intros
      rename_i v1 h1 hv1 v2 h2 hv2 _ K hK
      replace hK := hid hK
      obtain ⟨P1, d1, rfl, ha1⟩ := h1
      replace ha1 := hid ha1
      obtain ⟨P2, d2, rfl, ha2⟩ := h2
      replace ha2 := hid ha2
      simp only [wantedAt]
      go_simp
      exact hK.out _ _ ⟨_, rfl, hitRows_three _ P1 P2 d1 d2 [(14, 1)] [(14, 0), (15, 2)] ha1.out ha2.out⟩ (grown_alloc (grown_refl _ _) _)
    case o69 =>
      go_light
      intro ac w' hgw
      have hgw0 := hid hgw
      replace hgw := hid (grown_trans (grown_drew (grown_refl W4 none)) hgw)
      simp only [outThen, preThen, slotIs, factAt, isv, List.getElem?_cons_zero, List.getElem?_cons_succ, Option.getD_some, forall_eq]
      intros
      rename_i v1 h1 hv1 _ K hK
      replace hK := hid hK
      obtain ⟨P1, rfl, ha1⟩ := h1
      replace ha1 := hid ha1
      simp only [wantedAt]
      go_simp
      refine (occJoin_is P1 3 [[(14, 1)], [], [(14, 0), (15, 2)]] _ (by decide) (by decide) ha1.out).mono ?_
      rintro e w9 ⟨v, rfl, hown, hg⟩
      obtain ⟨A9, c9, rfl, hh9, _, _⟩ := hown.form
      exact hK.out _ _ ⟨A9, c9, rfl, hh9⟩ hg
    case o70 =>
      go_light
      intro ac w' hgw
      have hgw0 := hid hgw
      replace hgw := hid (grown_trans (grown_drew (grown_refl W4 none)) hgw)
      simp only [outThen, preThen, slotIs, factAt, isv, List.getElem?_cons_zero, List.getElem?_cons_succ, Option.getD_some, forall_eq]
      intros
      rename_i hK
      replace hK := hid hK
      simp only [wantedAt]
      go_simp
      exact hK.out _ _ rfl (grown_refl _ _)
    case o71 =>
      go_light
      intro ac w' hgw
      have hgw0 := hid hgw
      replace hgw := hid (grown_trans (grown_drew (grown_refl W4 none)) hgw)
      simp only [outThen, preThen, slotIs, factAt, isv, List.getElem?_cons_zero, List.getElem?_cons_succ, Option.getD_some, forall_eq]
      intros
      rename_i v1 h1 hv1 _ _ K hK
      replace hK := hid hK
      obtain ⟨P1, d1, rfl, ha1⟩ := h1
      replace ha1 := hid ha1
      simp only [wantedAt]
      go_simp
      refine (occSame_is P1 (some ⟨bL, oL, none⟩) d1 cL [(14, 1), (14, 0), (15, 2)] [(14, 1), (14, 0), (15, 2)] _ (by decide) ha1.out (hL.out.grown hgw.out)).mono ?_
      rintro e w9 ⟨rfl, hg⟩
      exact hK.out _ _ rfl hg
    case o72 =>
      go_light
      intro ac w' hgw
      have hgw0 := hid hgw
      replace hgw := hid (grown_trans (grown_drew (grown_refl W4 none)) hgw)
      simp only [outThen, preThen, slotIs, factAt, isv, List.getElem?_cons_zero, List.getElem?_cons_succ, Option.getD_some, forall_eq]
      intros
      rename_i hK
      replace hK := hid hK
      simp only [wantedAt]
      go_simp
      exact hK.out _ _ rfl (grown_refl _ _)
    case o73 =>
      go_light
      intro ac w' hgw
      have hgw0 := hid hgw
      replace hgw := hid (grown_trans (grown_drew (grown_refl W4 none)) hgw)
      simp only [outThen, preThen, slotIs, factAt, isv, List.getElem?_cons_zero, List.getElem?_cons_succ, Option.getD_some, forall_eq]
      intros
      rename_i hK
      replace hK := hid hK
      simp only [wantedAt]
      go_simp
      exact hK.out _ _ rfl (grown_refl _ _)
    case o74 =>
      go_light
      intro ac w' hgw
      have hgw0 := hid hgw
      replace hgw := hid (grown_trans (grown_drew (grown_refl W4 none)) hgw)
      simp only [outThen, preThen, slotIs, factAt, isv, List.getElem?_cons_zero, List.getElem?_cons_succ, Option.getD_some, forall_eq]
      intros
      rename_i hK
      replace hK := hid hK
      simp only [wantedAt]
      go_simp
      exact hK.out _ _ rfl (grown_refl _ _)
    case o75 =>
      go_light
      intro ac w' hgw
      have hgw0 := hid hgw
      replace hgw := hid (grown_trans (grown_drew (grown_refl W4 none)) hgw)
      simp only [outThen, preThen, slotIs, factAt, isv, List.getElem?_cons_zero, List.getElem?_cons_succ, Option.getD_some, forall_eq]
      intros
      rename_i hK
      replace hK := hid hK
      simp only [wantedAt]
      go_simp
      exact hK.out _ _ rfl (grown_refl _ _)
    case o76 =>
      go_light
      intro ac w' hgw
      have hgw0 := hid hgw
      replace hgw := hid (grown_trans (grown_drew (grown_refl W4 none)) hgw)
      simp only [outThen, preThen, slotIs, factAt, isv, List.getElem?_cons_zero, List.getElem?_cons_succ, Option.getD_some, forall_eq]
      intros
      rename_i hK
      replace hK := hid hK
      simp only [wantedAt]
      go_simp
      exact hK.out _ _ ⟨_, _, rfl, hL12.out.grown hgw.out⟩ (grown_refl _ _)
    case o77 =>
      go_light
      intro ac w' hgw
      have hgw0 := hid hgw
      replace hgw := hid (grown_trans (grown_drew (grown_refl W4 none)) hgw)
      simp only [outThen, preThen, slotIs, factAt, isv, List.getElem?_cons_zero, List.getElem?_cons_succ, Option.getD_some, forall_eq]
      intros
      rename_i _ v1 h1 hv1 _ K hK
      replace hK := hid hK
      obtain ⟨P1, d1, rfl, ha1⟩ := h1
      replace ha1 := hid ha1
      simp only [wantedAt]
      go_simp
      refine (occSame_is (some ⟨bL, oL, none⟩) P1 cL d1 [(14, 1), (14, 0), (15, 2)] [(14, 0), (15, 2)] _ (by decide) (hL.out.grown hgw.out) ha1.out).mono ?_
      rintro e w9 ⟨rfl, hg⟩
      exact hK.out _ _ rfl hg
    case o78 =>
      go_light
      intro ac w' hgw
      have hgw0 := hid hgw
      replace hgw := hid (grown_trans (grown_drew (grown_refl W4 none)) hgw)
      simp only [outThen, preThen, slotIs, factAt, isv, List.getElem?_cons_zero, List.getElem?_cons_succ, Option.getD_some, forall_eq]
      intros
      rename_i hK
      replace hK := hid hK
      simp only [wantedAt]
      go_simp
      exact hK.out _ _ rfl (grown_refl _ _)
    case o79 =>
      go_light
      intro ac w' hgw
      have hgw0 := hid hgw
      replace hgw := hid (grown_trans (grown_drew (grown_refl W4 none)) hgw)
      simp only [outThen, preThen, slotIs, factAt, isv, List.getElem?_cons_zero, List.getElem?_cons_succ, Option.getD_some, forall_eq]
      intros
      rename_i hK
      replace hK := hid hK
      simp only [wantedAt]
      go_simp
      exact hK.out _ _ rfl (grown_refl _ _)
    case o80 =>
      go_light
      intro ac w' hgw
      have hgw0 := hid hgw
      replace hgw := hid (grown_trans (grown_drew (grown_refl W4 none)) hgw)
      simp only [outThen, preThen, slotIs, factAt, isv, List.getElem?_cons_zero, List.getElem?_cons_succ, Option.getD_some, forall_eq]
      intros
      rename_i hK
      replace hK := hid hK
      simp only [wantedAt]
      go_simp
      exact hK.out _ _ rfl (grown_refl _ _)
  case st =>
    repeat (first | exact AllStable.nil | (refine AllStable.cons ?_ ?_; focus (first | exact stable_isv _ | exact stable_isLit _ | exact stable_isHits _ | exact stable_isHitRows _)))
  case fin =>
    intro w12 hgw
    simp only [List.append_eq, List.cons_append, List.nil_append]
    simp only [finalIn, factAt, isv, List.getElem?_cons_zero, List.getElem?_cons_succ, Option.getD_some, forall_eq, slotIs, subj]
    rintro v3 ⟨g3, f3, rfl, _, _⟩ v4 ⟨g4, f4, rfl, _, _⟩ v12 ⟨g12, f12, rfl, _, _⟩ v13 ⟨g13, f13, rfl, _, _⟩ v52 ⟨P52, d52, rfl, _⟩ v58 ⟨P58, d58, rfl, _⟩ v60 ⟨P60, d60, rfl, _⟩ v65 ⟨P65, d65, rfl, _⟩ v67 ⟨P67, d67, rfl, _⟩ v68 ⟨P68, rfl, _⟩ v69 ⟨P69, d69, rfl, _⟩ v76 ⟨P76, d76, rfl, _⟩
    simp only [Act.put, List.setIfInBounds_toArray, List.set_cons_zero, List.set_cons_succ]
    have hG3 := hid (grown_trans hG.out (grown_trans (grown_drew (grown_refl W4 none)) hgw))
    go_wp2_with fail
    go_ret
    exact ⟨rfl, hG3.out⟩

end Go.Proofs.Ytmahiodejhakpaa
