/- Package trie: a node's kid by a byte. What may be a tree, in the words of its form: spellings, kids, what is found, its words. Plain mathematics, of no program. Package trie: a node's bytes; a node's kid; the node of bytes. -/
import Derived.Test.YtojbkhheaondhaaK28
set_option linter.unusedSimpArgs false
set_option linter.unusedVariables false
set_option maxRecDepth 100000
namespace Go.Proofs.Ytojbkhheaondhaa
open Go.RowKit PlainLetter

open Go.Shelf
attribute [local go_sem] Oper.semAt_some

namespace PlainTrie
/-- The kid of node i by c. -/
def belowR (t : Tree) (i : Nat) (c : Int) : Int × Bool := if 0 ≤ place (sps t) (sp t i ++ [c]) then (place (sps t) (sp t i ++ [c]), true) else (0, false)
theorem Tall.place_sp {t : Tree} (h : Tall t) {i : Nat} (hi : i < t.up.length) : place (sps t) (sp t i) = i := by
  have := place_at (rises_nodup h.sps_rises) i (by rw [sps_len]; exact hi)
  rwa [sps_at] at this
theorem Tall.below_yes {t : Tree} (h : Tall t) {i : Nat} {c : Int} {k : Nat} (h1 : i < k) (h2 : k < t.up.length) (h3 : t.up.getD k 0 = (i : Int)) (h4 : t.byte.getD k 0 = c) : belowR t i c = ((k : Int), true) := by
  have e := h.sp_step h2 (by omega)
  rw [h3, Int.toNat_natCast, h4] at e
  unfold belowR
  rw [← e, h.place_sp h2, if_pos (by omega)]
theorem Tall.below_no {t : Tree} (h : Tall t) {i : Nat} {c : Int} (hi : i < t.up.length) (hh : ∀ q, i < q → q < t.up.length → t.up.getD q 0 = (i : Int) → ¬ t.byte.getD q 0 = c) : belowR t i c = (0, false) := by
  unfold belowR
  rw [if_neg]
  intro h0
  have hm : sp t i ++ [c] ∈ sps t := Decidable.byContradiction fun hb => by rw [place_none hb] at h0; omega
  obtain ⟨q, hq, e⟩ := mem_sps.1 hm
  rcases Nat.eq_zero_or_pos q with e0 | e0
  · subst e0
    rw [h.sp_zero] at e
    simp at e
  · obtain ⟨g1, g2, _⟩ := h.rise q e0 hq
    replace e := (h.sp_step hq e0).symm.trans e.symm
    generalize hu : (t.up.getD q 0).toNat = p at e
    have e1 := List.append_inj e (by
      have := congrArg List.length e
      simp at this
      omega)
    have e2 := h.sp_inj (by omega) hi e1.1
    have e3 : t.byte.getD q 0 = c := by simpa using e1.2
    exact hh q (by omega) hq (by omega) e3
end PlainTrie

/-- Between two kids: h: the tree, h + 1: the byte, h + 2, h + 3: the results; h + 4, h + 5: the iterator's variables. -/
structure BlwAt (w : World) (h node : Nat) (c : Int) (U D W B : Option Addr) (cu cd cw cb : Nat) (t : PlainTrie.Tree) (rc : LoopState → Option Code → Loop) (V : World) : Prop where
  bt : Holds V h 30 #[.slice U t.up.length cu, .slice D t.depth.length cd, .slice W t.word.length cw, .slice B t.byte.length cb]
  bc : Holds V (h + 1) 5 #[.int .u8 c]
  r0 : Holds V (h + 2) 3 #[.int .i64 0]
  r1 : Holds V (h + 3) 4 #[.bool false]
  gt : Holds V (h + 4) 30 #[.slice U t.up.length cu, .slice D t.depth.length cd, .slice W t.word.length cw, .slice B t.byte.length cb]
  gn : Holds V (h + 5) 3 #[.int .i64 (node : Int)]
  dfr : V.heap[h + 6]? = some (.deferred (some []))
  record : V.heap[h + 7]? = some (.loop (rc .ready none))
  gr : w.grownBy V none
structure BEnd (w : World) (h : Nat) (rc : LoopState → Option Code → Loop) (k : Nat) (V : World) : Prop where
  r0 : Holds V (h + 2) 3 #[.int .i64 (k : Int)]
  r1 : Holds V (h + 3) 4 #[.bool true]
  dfr : V.heap[h + 6]? = some (.deferred (some []))
  record : V.heap[h + 7]? = some (.loop (rc .done (some .ret)))
  gr : w.grownBy V none

/-- The return, the results in two cells, the loop's mark taken up. -/
theorem below_leaves {V : World} {h d : Nat} {z : Int} {y : Bool} {T : Array Value} {R : Ending → World → Prop} (hT : T.getD 6 undef = .pointer (some ⟨h, 0, none⟩)) (hT3 : T.getD 7 undef = .pointer (some ⟨h + 1, 0, none⟩))
    (hr : Holds V h 3 #[.int .i64 z]) (hr1 : Holds V (h + 1) 4 #[.bool y])
    (hne : h + 1 < d) (hD : V.heap[d]? = some (.deferred (some []))) (hR : R (.returned (.tuple #[.int .i64 z, .bool y])) (V.putObj d (.deferred none))) :
    bodyPostM Fence.wide 0 Try.prog Try.f37 R Exit.ret { tmps := T, defers := [{ target := .collected d, args := #[] }] } V := by
  refine ⟨by simp, .inl ⟨_, _, rfl, run_takeDeferred hD, ?_⟩⟩
  have c0 := (hr.put (l := d) (by omega) (.deferred none)).cell 0
  have c1 := (hr1.put (l := d) (by omega) (.deferred none)).cell 0
  simp at c0 c1
  rw [Array.getD_eq_getD_getElem?] at hT hT3
  refine ⟨_, ?_, hR⟩
  simp [results, Try.results37, hT, hT3, go_sem, c0, c1]

set_option maxHeartbeats 8000000 in
theorem below_is (U D W B : Option Addr) (cu cd cw cb : Nat) (t : PlainTrie.Tree) (node : Nat) (c : Int) (w : World) (hL : PlainTrie.Tall t) (hn : node < t.up.length) (hT : TreeAt w U D W B t) :
    Calls Try.prog 37 #[treeV U D W B t cu cd cw cb, .int .i64 (node : Int), .int .u8 c] w fun e w' => e = .returned (.tuple #[.int .i64 (PlainTrie.belowR t node c).1, .bool (PlainTrie.belowR t node c).2]) ∧ w.grownBy w' none := by
  have hyes := hid (fun (k : Nat) (h1 : node < k) (h2 : k < t.up.length) (h3 : t.up.getD k 0 = (node : Int)) (h4 : t.byte.getD k 0 = c) => hL.below_yes h1 h2 h3 h4)
  have hno := hid (fun (hh : ∀ q, node < q → q < t.up.length → t.up.getD q 0 = (node : Int) → ¬ t.byte.getD q 0 = c) => hL.below_no hn hh)
  obtain ⟨zy, hzy⟩ : ∃ zy, PlainTrie.belowR t node c = zy := ⟨_, rfl⟩
  rw [hzy] at hyes hno ⊢
  clear hzy
  have h4 : t.up.length ≤ 400 := hL.even.2.1
  have hbl : Hid (t.byte.length = t.up.length) := hid hL.even.2.2.2.2
  have hmono := hid (fun (j : Nat) (j1 : 1 < j) (j2 : j < t.up.length) => show t.up.getD (j - 1) 0 ≤ t.up.getD j 0 by
    obtain ⟨_, _, _, h5⟩ := hL.rise j (by omega) j2
    rcases h5 j1 with h5 | h5 <;> omega)
  clear hL
  have hTa := hid hT
  clear hT
  obtain ⟨h, hh⟩ : ∃ h, w.heap.size = h := ⟨_, rfl⟩
  refine (callsIn_wide (n := 0)).1 ?_
  refine callsIn_of_wp_marks Try.func37 rfl trivial ?_ rfl
  simp only [Try.ntmps37, List.size_toArray, List.length_cons, List.length_nil, Nat.reduceAdd, Nat.reduceSub, Array.replicate_succ, Array.replicate_zero, List.push_toArray, List.append_toArray, List.nil_append, List.cons_append]
  have hht := hid hh
  have hGa : Hid (w.grownBy ((((w.alloc (.cells #[.slice U t.up.length cu, .slice D t.depth.length cd, .slice W t.word.length cw, .slice B t.byte.length cb] 30)).alloc (.cells #[.int .u8 c] 5)).alloc (.cells #[.int .i64 0] 3)).alloc (.cells #[.bool false] 4)) none) := hid (grown_alloc (grown_alloc (grown_alloc (grown_alloc (grown_refl w none) _) _) _) _)
  have hB0 : Hid (Holds ((((w.alloc (.cells #[.slice U t.up.length cu, .slice D t.depth.length cd, .slice W t.word.length cw, .slice B t.byte.length cb] 30)).alloc (.cells #[.int .u8 c] 5)).alloc (.cells #[.int .i64 0] 3)).alloc (.cells #[.bool false] 4)) h 30 #[.slice U t.up.length cu, .slice D t.depth.length cd, .slice W t.word.length cw, .slice B t.byte.length cb]) := hid ((((Holds.new_at 30 _ hht.out).alloc _).alloc _).alloc _)
  have hB1 : Hid (Holds ((((w.alloc (.cells #[.slice U t.up.length cu, .slice D t.depth.length cd, .slice W t.word.length cw, .slice B t.byte.length cb] 30)).alloc (.cells #[.int .u8 c] 5)).alloc (.cells #[.int .i64 0] 3)).alloc (.cells #[.bool false] 4)) (h + 1) 5 #[.int .u8 c]) := hid (((Holds.new_at 5 _ (by simp [hht.out])).alloc _).alloc _)
  have hB2 : Hid (Holds ((((w.alloc (.cells #[.slice U t.up.length cu, .slice D t.depth.length cd, .slice W t.word.length cw, .slice B t.byte.length cb] 30)).alloc (.cells #[.int .u8 c] 5)).alloc (.cells #[.int .i64 0] 3)).alloc (.cells #[.bool false] 4)) (h + 2) 3 #[.int .i64 0]) := hid ((Holds.new_at 3 _ (by simp [hht.out])).alloc _)
  have hB3 : Hid (Holds ((((w.alloc (.cells #[.slice U t.up.length cu, .slice D t.depth.length cd, .slice W t.word.length cw, .slice B t.byte.length cb] 30)).alloc (.cells #[.int .u8 c] 5)).alloc (.cells #[.int .i64 0] 3)).alloc (.cells #[.bool false] 4)) (h + 3) 4 #[.bool false]) := hid (Holds.new_at 4 _ (by simp [hht.out]))
  have c0 := (hB0.out.cell 0).trans (show _ = some (Value.slice U t.up.length cu) from rfl)
  have c1 := (hB0.out.cell 1).trans (show _ = some (Value.slice D t.depth.length cd) from rfl)
  have c2 := (hB0.out.cell 2).trans (show _ = some (Value.slice W t.word.length cw) from rfl)
  have c3 := (hB0.out.cell 3).trans (show _ = some (Value.slice B t.byte.length cb) from rfl)
  gi_wp2_with fail
  refine ⟨trivial, rfl, ?_⟩
  obtain ⟨Wa, hWa⟩ : ∃ Wa, (((w.alloc (.cells #[.slice U t.up.length cu, .slice D t.depth.length cd, .slice W t.word.length cw, .slice B t.byte.length cb] 30)).alloc (.cells #[.int .u8 c] 5)).alloc (.cells #[.int .i64 0] 3)).alloc (.cells #[.bool false] 4) = Wa := ⟨_, rfl⟩
  have hsa : Hid (Wa.heap.size = h + 4) := hid (by rw [← hWa]; simp [hht.out])
  rw [hWa] at hGa hB0 hB1 hB2 hB3
  try rw [hWa]
  clear hWa c0 c1 c2 c3 hh
  refine (callsIn_wide.2 (kids_is U D W B cu cd cw cb t (node : Int) _)).mono ?_
  rintro e w2 ⟨rfl, rfl⟩
  gi_wp2
  refine range_wide (gf := 70) rfl (enters_of Try.func70 (by kernel_rfl) rfl) (fun fn rc hrc => ?_)
  replace hrc := hid hrc
  simp only [World.size_alloc, hsa.out, Nat.add_assoc, Nat.reduceAdd] at hrc ⊢
  obtain ⟨W1, hW1⟩ : ∃ W1, (((Wa.alloc (.cells #[.slice U t.up.length cu, .slice D t.depth.length cd, .slice W t.word.length cw, .slice B t.byte.length cb] 30)).alloc (.cells #[.int .i64 (node : Int)] 3)).alloc (Obj.deferred (some []))).alloc (Obj.loop (rc .ready none)) = W1 := ⟨_, rfl⟩
  rw [hW1]
  have hN : BlwAt w h node c U D W B cu cd cw cb t rc W1 := by
    subst hW1
    exact {
      bt := (((hB0.out.alloc _).alloc _).alloc _).alloc _
      bc := (((hB1.out.alloc _).alloc _).alloc _).alloc _
      r0 := (((hB2.out.alloc _).alloc _).alloc _).alloc _
      r1 := (((hB3.out.alloc _).alloc _).alloc _).alloc _
      gt := (((Holds.new_at 30 _ hsa.out).alloc _).alloc _).alloc _
      gn := ((Holds.new_at 3 _ (by simp [hsa.out])).alloc _).alloc _
      dfr := other_alloc (alloc_at _ (by simp [hsa.out]))
      record := alloc_at _ (by simp [hsa.out])
      gr := grown_alloc (grown_alloc (grown_alloc (grown_alloc hGa.out _) _) _) _ }
  clear hW1
  refine CallsIn.mono (kids_in (h + 7) (h + 5) (h + 4) node U D W B cu cd cw cb t (fun k => t.byte.getD k 0 = c) (BlwAt w h node c U D W B cu cd cw cb t rc) (BEnd w h rc) W1 hn h4 hmono.out
    (fun V s => ⟨s.gn, s.gt, hTa.out.up.grown s.gr⟩) (fun V s => ⟨s.bt, s.bc, s.r0, s.r1, s.gt, s.gn, s.dfr, s.record, grown_drew s.gr⟩) ?goes ?stops hN) ?behind
  case goes =>
    intro k V s hk1 hk2 hk3 hk4
    have Hs := hid s
    refine round_wide hrc.out Hs.out.record rfl fun K hK => ?_
    replace hK := hid hK
    gi_wp2
    refine hK.out _ ?_
    clear hK
    clear K
    obtain ⟨bb, ob, hA, lb, kb⟩ := hTa.out.byte.at_ (i := k) (by rw [hbl.out]; exact hk2)
    have kbk := kb k (by rw [hbl.out]; exact hk2)
    have b0 : Holds (V.putObj (h + 7) (.loop (rc .busy none))) h 30 #[.slice U t.up.length cu, .slice D t.depth.length cd, .slice W t.word.length cw, .slice B t.byte.length cb] := s.bt.put (by omega) _
    have b1 : Holds (V.putObj (h + 7) (.loop (rc .busy none))) (h + 1) 5 #[.int .u8 c] := s.bc.put (by omega) _
    have rb : (V.putObj (h + 7) (.loop (rc .busy none))).heap[h + 7]? = some (.loop (rc .busy none)) := World.putObj_heap_same (Array.getElem?_eq_some_iff.1 s.record).1
    have hE : Hid (BlwAt w h node c U D W B cu cd cw cb t rc ((V.putObj (h + 7) (.loop (rc .busy none))).drew.putObj (h + 7) (.loop (rc .ready none)))) := hid {
      bt := (show Holds _ _ _ _ from b0).put (by omega) _
      bc := (show Holds _ _ _ _ from b1).put (by omega) _
      r0 := (show Holds (V.putObj (h + 7) (.loop (rc .busy none))).drew _ _ _ from s.r0.put (by omega) _).put (by omega) _
      r1 := (show Holds (V.putObj (h + 7) (.loop (rc .busy none))).drew _ _ _ from s.r1.put (by omega) _).put (by omega) _
      gt := (show Holds (V.putObj (h + 7) (.loop (rc .busy none))).drew _ _ _ from s.gt.put (by omega) _).put (by omega) _
      gn := (show Holds (V.putObj (h + 7) (.loop (rc .busy none))).drew _ _ _ from s.gn.put (by omega) _).put (by omega) _
      dfr := (World.putObj_heap_other (by omega)).trans ((World.putObj_heap_other (by omega)).trans s.dfr)
      record := World.putObj_heap_same (Array.getElem?_eq_some_iff.1 rb).1
      gr := grown_put (grown_drew (grown_put s.gr (by have := hht.out; omega) _)) (by have := hht.out; omega) _ }
    have kb2 : (V.putObj (h + 7) (.loop (rc .busy none))).cell? ⟨bb, ob + k, none⟩ = some (.int .u8 (t.byte.getD k 0)) :=
      (World.cell?_of_block (World.putObj_heap_other (show bb ≠ h + 7 by have := hht.out; omega))).trans (((gcell s.gr).1 bb _ lb).trans kbk)
    obtain ⟨Wb, hWb⟩ : ∃ Wb, V.putObj (h + 7) (.loop (rc .busy none)) = Wb := ⟨_, rfl⟩
    rw [hWb] at b0 b1 rb hE kb2
    rw [hWb]
    have c3 := (b0.cell 3).trans (show _ = some (Value.slice B t.byte.length cb) from rfl)
    have cc := (b1.cell 0).trans (show _ = some (Value.int .u8 c) from rfl)
    rw [hA] at c3
    have q0 : (0 : Int) ≤ (k : Int) := by omega
    have q1 : (k : Int) < (t.byte.length : Int) := by have := hbl.out; omega
    generalize t.byte.getD k 0 = y at kb2 hk4 kbk
    have hne : (y == c) = false := by simp [hk4]
    replace hk4 := hid hk4
    have rb2 := hid rb
    clear b0 b1 rb kb kbk hWb s Hs
    replace lb := hid lb
    gi_wp2_with fail
    refine tail_round 6 (by kernel_rfl) (by kernel_rfl) rfl ?_
    simp only [List.take_succ_cons, List.take_zero, List.drop_succ_cons, List.drop_zero]
    repeat still_step
    refine wpStill_nil ?_
    gi_wp2_with fail
    rw [← hA]
    exact ⟨rb2.out, hE.out⟩
  case stops =>
    intro k V s hk1 hk2 hk3 hk4
    have Hs := hid s
    refine round_wide hrc.out Hs.out.record rfl fun K hK => ?_
    replace hK := hid hK
    gi_wp2
    refine hK.out _ ?_
    clear hK
    clear K
    obtain ⟨bb, ob, hA, lb, kb⟩ := hTa.out.byte.at_ (i := k) (by rw [hbl.out]; exact hk2)
    have kbk := kb k (by rw [hbl.out]; exact hk2)
    have b0 : Holds (V.putObj (h + 7) (.loop (rc .busy none))) h 30 #[.slice U t.up.length cu, .slice D t.depth.length cd, .slice W t.word.length cw, .slice B t.byte.length cb] := s.bt.put (by omega) _
    have b1 : Holds (V.putObj (h + 7) (.loop (rc .busy none))) (h + 1) 5 #[.int .u8 c] := s.bc.put (by omega) _
    have rb : (V.putObj (h + 7) (.loop (rc .busy none))).heap[h + 7]? = some (.loop (rc .busy none)) := World.putObj_heap_same (Array.getElem?_eq_some_iff.1 s.record).1
    have kb2 : (V.putObj (h + 7) (.loop (rc .busy none))).cell? ⟨bb, ob + k, none⟩ = some (.int .u8 (t.byte.getD k 0)) :=
      (World.cell?_of_block (World.putObj_heap_other (show bb ≠ h + 7 by have := hht.out; omega))).trans (((gcell s.gr).1 bb _ lb).trans kbk)
    have b2 : Holds (V.putObj (h + 7) (.loop (rc .busy none))) (h + 2) 3 #[.int .i64 0] := s.r0.put (by omega) _
    have b3 : Holds (V.putObj (h + 7) (.loop (rc .busy none))) (h + 3) 4 #[.bool false] := s.r1.put (by omega) _
    have db : (V.putObj (h + 7) (.loop (rc .busy none))).heap[h + 6]? = some (.deferred (some [])) := (World.putObj_heap_other (by omega)).trans s.dfr
    have gb : w.grownBy (V.putObj (h + 7) (.loop (rc .busy none))) none := grown_put s.gr (by have := hht.out; omega) _
    obtain ⟨Wb, hWb⟩ : ∃ Wb, V.putObj (h + 7) (.loop (rc .busy none)) = Wb := ⟨_, rfl⟩
    rw [hWb] at b0 b1 b2 b3 rb kb2 db gb
    rw [hWb]
    have c3 := (b0.cell 3).trans (show _ = some (Value.slice B t.byte.length cb) from rfl)
    have cc := (b1.cell 0).trans (show _ = some (Value.int .u8 c) from rfl)
    rw [hA] at c3
    have q0 : (0 : Int) ≤ (k : Int) := by omega
    have q1 : (k : Int) < (t.byte.length : Int) := by have := hbl.out; omega
    rw [hk4] at kb2
    replace hk4 := hid hk4
    have d2 := (show Holds Wb.drew _ _ _ from b2)
    have d3 := (show Holds Wb.drew _ _ _ from b3)
    have r2 := other_set (p := ⟨h + 3, 0, none⟩) (other_set (p := ⟨h + 2, 0, none⟩) (show Wb.drew.heap[h + 7]? = _ from rb) (show h + 7 ≠ h + 2 by omega) (.int .i64 (k : Int))) (show h + 7 ≠ h + 3 by omega) (.bool true)
    have e2 := other_set (p := ⟨h + 3, 0, none⟩) (other_set (p := ⟨h + 2, 0, none⟩) (show Wb.drew.heap[h + 6]? = _ from db) (show h + 6 ≠ h + 2 by omega) (.int .i64 (k : Int))) (show h + 6 ≠ h + 3 by omega) (.bool true)
    have hE : Hid (BEnd w h rc k (((Wb.drew.setCell ⟨h + 2, 0, none⟩ (.int .i64 (k : Int))).setCell ⟨h + 3, 0, none⟩ (.bool true)).putObj (h + 7) (.loop (rc .done (some .ret))))) := hid {
      r0 := by have := ((d2.set 0 (.int .i64 (k : Int))).far (p := ⟨h + 3, 0, none⟩) (show h + 2 ≠ h + 3 by omega) (.bool true)).put (l := h + 7) (by omega) (.loop (rc .done (some .ret))); simpa using this
      r1 := by have := ((d3.far (p := ⟨h + 2, 0, none⟩) (show h + 3 ≠ h + 2 by omega) (.int .i64 (k : Int))).set 0 (.bool true)).put (l := h + 7) (by omega) (.loop (rc .done (some .ret))); simpa using this
      dfr := (World.putObj_heap_other (by omega)).trans e2
      record := World.putObj_heap_same (Array.getElem?_eq_some_iff.1 r2).1
      gr := grown_put (grown_set (grown_set (grown_drew gb) (.inr (by have := hht.out; simp; omega)) _) (.inr (by have := hht.out; simp; omega)) _) (by have := hht.out; omega) _ }
    replace r2 := hid r2
    have f2 := d2.free 0
    have f3 := d3.free 0
    have l2 := d2.lt
    have l3 := d3.lt
    have k2 := (d2.cell 0).trans (show _ = some (Value.int .i64 0) from rfl)
    have k3 := (d3.cell 0).trans (show _ = some (Value.bool false) from rfl)
    clear b0 b1 b2 b3 rb kb kbk hWb s Hs d2 d3 e2 db gb
    replace lb := hid lb
    obtain ⟨Wd, hWd⟩ : ∃ Wd, Wb.drew = Wd := ⟨_, rfl⟩
    rw [hWd] at r2 hE f2 f3 l2 l3 k2 k3
    replace hWd := hid hWd
    gi_wp2_with fail
    refine tail_round 6 (by kernel_rfl) (by kernel_rfl) rfl ?_
    simp only [List.take_succ_cons, List.take_zero, List.drop_succ_cons, List.drop_zero]
    repeat still_step
    refine wpStill_nil ?_
    clear kb2 c3 cc
    rw [hWd.out]
    gi_wp2_with fail
    exact ⟨r2.out, hE.out⟩
  case behind =>
    rintro e W2 ⟨hv, ⟨s, hq⟩ | ⟨k, hk1, hk2, hk3, hk4, _, s⟩⟩
    · have hz := hid (hno.out hq)
      refine ⟨hv, .inl ⟨s.record, fun o => ?_⟩⟩
      have b0 := s.r0.put (l := h + 7) (by omega) o
      have b1 := s.r1.put (l := h + 7) (by omega) o
      have hD := (World.putObj_heap_other (o := o) (r := h + 7) (k := h + 6) (by omega)).trans s.dfr
      have hG := grown_put (l := h + 7) s.gr (by have := hht.out; omega) o
      obtain ⟨W3, hW3⟩ : ∃ W3, W2.putObj (h + 7) o = W3 := ⟨_, rfl⟩
      rw [hW3] at b0 b1 hD hG ⊢
      clear hW3 s hq
      have c0 := (b0.cell 0).trans (show _ = some (Value.int .i64 0) from rfl)
      have c1 := (b1.cell 0).trans (show _ = some (Value.bool false) from rfl)
      have f0 := b0.free 0
      have f1 := b1.free 0
      have l0 := b0.lt
      have l1 := b1.lt
      have k0 := hid (show Holds ((W3.setCell ⟨h + 2, 0, none⟩ (.int .i64 0)).setCell ⟨h + 3, 0, none⟩ (.bool false)) (h + 2) 3 #[.int .i64 0] by
        have := (b0.set 0 (.int .i64 0)).far (p := ⟨h + 3, 0, none⟩) (show h + 2 ≠ h + 3 by omega) (.bool false)
        simpa using this)
      have k1 := hid (show Holds ((W3.setCell ⟨h + 2, 0, none⟩ (.int .i64 0)).setCell ⟨h + 3, 0, none⟩ (.bool false)) (h + 3) 4 #[.bool false] by
        have := (b1.far (p := ⟨h + 2, 0, none⟩) (show h + 3 ≠ h + 2 by omega) (.int .i64 0)).set 0 (.bool false)
        simpa using this)
      have kd := hid (other_set (p := ⟨h + 3, 0, none⟩) (other_set (p := ⟨h + 2, 0, none⟩) hD (show h + 6 ≠ h + 2 by omega) (.int .i64 0)) (show h + 6 ≠ h + 3 by omega) (.bool false))
      have kg := hid (grown_put (l := h + 6) (grown_set (p := ⟨h + 3, 0, none⟩) (grown_set (p := ⟨h + 2, 0, none⟩) hG (.inr (by have := hht.out; simp; omega)) (.int .i64 0)) (.inr (by have := hht.out; simp; omega)) (.bool false)) (by have := hht.out; omega) (.deferred none))
      replace b0 := hid b0
      replace b1 := hid b1
      replace hD := hid hD
      replace hG := hid hG
      gi_wp2_with fail
      refine below_leaves (h := h + 2) (z := 0) (y := false) rfl rfl k0.out k1.out (by omega) kd.out ?_
      exact ⟨by rw [hz.out], kg.out⟩
    · have hz := hid (hyes.out k hk1 hk2 hk3 hk4)
      refine ⟨hv, .inr ⟨_, s.record, fun o => ?_⟩⟩
      have b0 := s.r0.put (l := h + 7) (by omega) o
      have b1 := s.r1.put (l := h + 7) (by omega) o
      have hD := (World.putObj_heap_other (o := o) (r := h + 7) (k := h + 6) (by omega)).trans s.dfr
      have hG := grown_put (l := h + 7) s.gr (by have := hht.out; omega) o
      obtain ⟨W3, hW3⟩ : ∃ W3, W2.putObj (h + 7) o = W3 := ⟨_, rfl⟩
      rw [hW3] at b0 b1 hD hG ⊢
      clear hW3 s
      replace b0 := hid b0
      replace b1 := hid b1
      replace hD := hid hD
      replace hG := hid hG
      gi_wp2_with fail
      refine below_leaves (h := h + 2) (z := (k : Int)) (y := true) rfl rfl b0.out b1.out (by omega) hD.out ?_
      exact ⟨by rw [hz.out], grown_put hG.out (by have := hht.out; omega) _⟩

end Go.Proofs.Ytojbkhheaondhaa

namespace Go.Proofs.Ytojbkhheaondhaa
open PlainLetter PlainTrie

theorem right_tall {t : Tree} (h : PlainTrie.right t = true) : Tall t ∧ ∀ j, j < t.up.length → t.depth.getD j 0 ≤ 32 := by
  obtain ⟨a, b, c, _, _, d⟩ := right_form h
  exact ⟨⟨a, b, c⟩, fun j hj => d.2.2 j (by have := a.2.2.1; omega)⟩
theorem right_sps {t : Tree} (h : PlainTrie.right t = true) : sps t = nodes (words t) := by
  obtain ⟨ws, hw, rfl, e⟩ := right_is h
  rw [e]
  refine List.ext_getElem (by rw [sps_len, (make_length ws).1]) fun i hi hi' => ?_
  rw [sps_at, made_sp ws hi']
theorem right_spell {t : Tree} (h : PlainTrie.right t = true) {i : Nat} (hi : i < t.up.length) : spell t i = sp t i := by
  obtain ⟨a, b⟩ := right_tall h
  exact a.climb_enough 32 i hi (b i hi)
theorem kid_below {t : Tree} (h : PlainTrie.right t = true) {i : Nat} (hi : i < t.up.length) (c : Int) : kidAt t i c = belowR t i c := by
  have h1 : there t i = true := by unfold there; rw [h]; simp; omega
  unfold kidAt foundAt belowR
  rw [if_pos h1, right_spell h hi, right_sps h]
  by_cases h2 : 0 ≤ place (nodes (words t)) (sp t i ++ [c])
  · rw [if_pos ⟨h, h2⟩, if_pos h2]
  · rw [if_neg (fun e => h2 e.2), if_neg h2]
theorem kid_none {t : Tree} {i c : Int} (h : there t i = false) : kidAt t i c = (0, false) := by
  unfold kidAt; rw [h]; rfl
/-- Going down: from the node of the first j bytes. -/
theorem find_next {t : Tree} (h : PlainTrie.right t = true) {ys : List Int} {j k : Nat} (hj : j < ys.length) (hk : k < t.up.length) (e : sp t k = ys.take j) :
    (∃ k' : Nat, k' < t.up.length ∧ belowR t k (ys.getD j 0) = ((k' : Int), true) ∧ sp t k' = ys.take (j + 1)) ∨ (belowR t k (ys.getD j 0) = (0, false) ∧ foundAt t ys = (0, false)) := by
  have ht := (right_tall h).1
  have e1 : sp t k ++ [ys.getD j 0] = ys.take (j + 1) := by rw [e, take_getD ys j 0 hj]
  unfold belowR
  rw [e1]
  by_cases hm : ys.take (j + 1) ∈ sps t
  · left
    obtain ⟨k', h1, h2⟩ := mem_sps.1 hm
    refine ⟨k', h1, ?_, h2.symm⟩
    rw [h2, ht.place_sp h1, if_pos (by omega)]
  · right
    rw [place_none hm]
    refine ⟨if_neg (by omega), ?_⟩
    unfold foundAt
    rw [if_neg]
    rintro ⟨_, h2⟩
    refine hm ?_
    rw [right_sps h]
    refine nodes_prefix (x := ys) ?_ (List.take_prefix _ _)
    exact Decidable.byContradiction fun hb => by rw [place_none hb] at h2; omega
theorem find_end {t : Tree} (h : PlainTrie.right t = true) {ys : List Int} {k : Nat} (hk : k < t.up.length) (e : sp t k = ys) : foundAt t ys = ((k : Int), true) := by
  have ht := (right_tall h).1
  unfold foundAt
  rw [← right_sps h, ← e, ht.place_sp hk, if_pos ⟨h, by omega⟩]
theorem find_not {t : Tree} (h : PlainTrie.right t = false) (ys : List Int) : foundAt t ys = (0, false) := by
  unfold foundAt; rw [h]; simp
theorem spell_is {t : Tree} {i : Int} (h : there t i = true) : PlainTrie.right t = true ∧ ∃ k : Nat, i = k ∧ k < t.up.length ∧ spell t i = sp t k := by
  unfold there at h
  simp at h
  obtain ⟨h1, h2, h3⟩ := h
  refine ⟨h1, i.toNat, by omega, by omega, ?_⟩
  rw [← right_spell h1 (i := i.toNat) (by omega)]
  congr 1
  omega
/-- The words, number by number, of the words' places. -/
theorem words_places {t : Tree} (h : PlainTrie.right t = true) {ks : List Int} {f : Int → Int} (hp : Places t ks f) : ks.length = (words t).length ∧ ∀ j, j < ks.length → (j : Int) ∈ ks ∧ ∃ q : Nat, f j = q ∧ q < t.up.length ∧ (words t).getD j [] = sp t q := by
  have hlen := right_keys h hp.isKeys
  obtain ⟨_, _, _, _, h5, _⟩ := right_form h
  have hn := h5 ks hp.isKeys
  refine ⟨hlen, fun j hj => ?_⟩
  have hkl : ∀ k ∈ ks, 0 ≤ k ∧ k < ks.length := fun k hk => by
    obtain ⟨a, q, b, c⟩ := (hp.keys k).1 hk
    subst c
    have := hn q b a
    exact ⟨this.1, this.2.1⟩
  have hm : (j : Int) ∈ ks := all_there hp.nodup hkl hj
  obtain ⟨q, q1, q2, q3, _⟩ := hp.last _ hm
  refine ⟨hm, q, q1, ?_, ?_⟩
  · have := (right_tall h).1.even.2.2.2.1; omega
  · obtain ⟨ws, hw, rfl, e⟩ := right_is h
    rw [e] at hlen ⊢
    have hq : q < (nodes ws).length := by rw [(make_length ws).2.2.1] at q2; exact q2
    rw [made_sp ws hq]
    rw [(made_at ws hq).2.2.1] at q3
    obtain ⟨a, b⟩ := place_get q3
    rw [← b]
    simp [List.getD, a]

end Go.Proofs.Ytojbkhheaondhaa

namespace Go.Proofs.Ytojbkhheaondhaa
open Go.RowKit PlainLetter

set_option maxHeartbeats 2000000 in
theorem tSpell_is (U D W B : Option Addr) (cu cd cw cb : Nat) (t : PlainTrie.Tree) (i : Int) (w : World) (hT : TreeOk w U D W B cu cd cw cb t) :
    Calls Try.prog 17 #[treeV U D W B t cu cd cw cb, .int .i64 i] w (SpeltTold (there t i) (if there t i = true then PlainTrie.spell t i else []) w) := by
  have hSt := hid (fun (w' : World) (h : w.grownBy w' none) => tStands_is U D W B cu cd cw cb t i w' (hT.grown h))
  have hno : Hid (∀ w' : World, w.grownBy w' none → there t i = false → SpeltTold (there t i) (if there t i = true then PlainTrie.spell t i else []) w (.returned (.tuple #[.slice none 0 0, .bool false])) w') := hid (fun w' hg h => by
    rw [h]; exact ⟨none, 0, 0, rfl, rfl, Nat.le_refl _, Nat.zero_le _, World.ownsRow_nil _ _ _ _, hg⟩)
  have hyes : Hid (∀ (w' : World) (v : Value), w.grownBy w' none → there t i = true → w'.ownsRow w.heap.size 5 1 v (PlainTrie.spell t i).length ((PlainTrie.spell t i).map (Value.int .u8)) → SpeltTold (there t i) (if there t i = true then PlainTrie.spell t i else []) w (.returned (.tuple #[v, .bool true])) w') := hid (fun w' v hg h ho => by
    rw [h]
    obtain ⟨A, c, rfl, h1, h2⟩ := own_form ho
    exact ⟨A, _, c, rfl, rfl, h1, h2, ho, hg⟩)
  obtain ⟨zz, hzz⟩ : ∃ zz, (if there t i = true then PlainTrie.spell t i else []) = zz := ⟨_, rfl⟩
  rw [hzz] at hno hyes ⊢
  clear hzz
  obtain ⟨R, hR⟩ : ∃ R, SpeltTold (there t i) zz w = R := ⟨_, rfl⟩
  rw [hR] at hno hyes ⊢
  clear hR
  cases hb : there t i with
  | false =>
    rw [hb] at hSt
    replace hb := hid hb
    clear hT
    obtain ⟨u, d, o, b⟩ := t
    have hG0 : Hid (w.grownBy (w.alloc (.cells #[.slice U u.length cu, .slice D d.length cd, .slice W o.length cw, .slice B b.length cb] 30)) none) := grown_alloc (grown_refl w none) _
    have K1 : Hid (Holds (w.alloc (.cells #[.slice U u.length cu, .slice D d.length cd, .slice W o.length cw, .slice B b.length cb] 30)) w.heap.size 30 #[.slice U u.length cu, .slice D d.length cd, .slice W o.length cw, .slice B b.length cb]) := Holds.new _ _ _
    go_enter Try.func17, Try.ntmps17
    go_upto_region 1 with fail
    obtain ⟨W0, hW0⟩ : ∃ W0, w.alloc (.cells #[.slice U u.length cu, .slice D d.length cd, .slice W o.length cw, .slice B b.length cb] 30) = W0 := ⟨_, rfl⟩
    rw [hW0] at K1 hG0 ⊢
    clear hW0
    obtain ⟨h, hh⟩ : ∃ h, w.heap.size = h := ⟨_, rfl⟩
    rw [hh] at K1 ⊢
    replace hh := hid hh
    have c0 := (K1.out.cell 0).trans (show _ = some (Value.slice U u.length cu) from rfl)
    have c1 := (K1.out.cell 1).trans (show _ = some (Value.slice D d.length cd) from rfl)
    have c2 := (K1.out.cell 2).trans (show _ = some (Value.slice W o.length cw) from rfl)
    have c3 := (K1.out.cell 3).trans (show _ = some (Value.slice B b.length cb) from rfl)
    go_wp2_with fail
    refine (hSt.out W0 hG0.out).mono ?_
    rintro e w1 ⟨rfl, hg⟩
    have g1 := hid (grown_trans hG0.out hg)
    have L1 := hid (K1.out.kept0 hg)
    clear hg c0 c1 c2 c3
    have c0 := (L1.out.cell 0).trans (show _ = some (Value.slice U u.length cu) from rfl)
    have c1 := (L1.out.cell 1).trans (show _ = some (Value.slice D d.length cd) from rfl)
    have c2 := (L1.out.cell 2).trans (show _ = some (Value.slice W o.length cw) from rfl)
    have c3 := (L1.out.cell 3).trans (show _ = some (Value.slice B b.length cb) from rfl)
    clear c0 c1 c2 c3
    go_wp2_with fail
    exact hno.out _ g1.out hb.out
  | true =>
    rw [hb] at hSt
    obtain ⟨hr, k, rfl, hk, hsp⟩ := spell_is hb
    obtain ⟨hL, hd32⟩ := right_tall hr
    have hSp := hid (fun (w' : World) (h : w.grownBy w' none) => tSpelt_is U D W B cu cd cw cb t k w' hL hd32 hk (hT.at_.grown h))
    rw [hsp] at hyes
    replace hb := hid hb
    generalize PlainTrie.sp t k = zs at hSp hyes
    clear hT hL hd32 hr hsp
    replace hk := hid hk
    obtain ⟨u, d, o, b⟩ := t
    have hG0 : Hid (w.grownBy (w.alloc (.cells #[.slice U u.length cu, .slice D d.length cd, .slice W o.length cw, .slice B b.length cb] 30)) none) := grown_alloc (grown_refl w none) _
    have K1 : Hid (Holds (w.alloc (.cells #[.slice U u.length cu, .slice D d.length cd, .slice W o.length cw, .slice B b.length cb] 30)) w.heap.size 30 #[.slice U u.length cu, .slice D d.length cd, .slice W o.length cw, .slice B b.length cb]) := Holds.new _ _ _
    go_enter Try.func17, Try.ntmps17
    go_upto_region 1 with fail
    obtain ⟨W0, hW0⟩ : ∃ W0, w.alloc (.cells #[.slice U u.length cu, .slice D d.length cd, .slice W o.length cw, .slice B b.length cb] 30) = W0 := ⟨_, rfl⟩
    rw [hW0] at K1 hG0 ⊢
    clear hW0
    obtain ⟨h, hh⟩ : ∃ h, w.heap.size = h := ⟨_, rfl⟩
    rw [hh] at K1 ⊢
    have hle : Hid (h ≤ W0.heap.size) := hid (by rw [← hh]; exact hG0.out.size)
    rw [hh] at hyes
    replace hh := hid hh
    have c0 := (K1.out.cell 0).trans (show _ = some (Value.slice U u.length cu) from rfl)
    have c1 := (K1.out.cell 1).trans (show _ = some (Value.slice D d.length cd) from rfl)
    have c2 := (K1.out.cell 2).trans (show _ = some (Value.slice W o.length cw) from rfl)
    have c3 := (K1.out.cell 3).trans (show _ = some (Value.slice B b.length cb) from rfl)
    go_wp2_with fail
    refine (hSt.out W0 hG0.out).mono ?_
    rintro e w1 ⟨rfl, hg⟩
    have g1 := hid (grown_trans hG0.out hg)
    have L1 := hid (K1.out.kept0 hg)
    clear hg c0 c1 c2 c3
    have c0 := (L1.out.cell 0).trans (show _ = some (Value.slice U u.length cu) from rfl)
    have c1 := (L1.out.cell 1).trans (show _ = some (Value.slice D d.length cd) from rfl)
    have c2 := (L1.out.cell 2).trans (show _ = some (Value.slice W o.length cw) from rfl)
    have c3 := (L1.out.cell 3).trans (show _ = some (Value.slice B b.length cb) from rfl)
    go_wp2_with fail
    refine (hSp.out _ g1.out).mono ?_
    rintro e w2 ⟨v, rfl, hown, hg⟩
    have hown2 := hid (own_mono hown (base' := h) (by have h1 := hle.out; have h2 := g1.out.size; have h3 := hh.out; omega))
    have g2 := hid (grown_trans g1.out hg)
    clear hown hg c0 c1 c2 c3
    go_wp2_with fail
    exact hyes.out _ _ g2.out hb.out hown2.out

set_option maxHeartbeats 2000000 in
theorem tKid_is (U D W B : Option Addr) (cu cd cw cb : Nat) (t : PlainTrie.Tree) (i y : Int) (w : World) (hT : TreeOk w U D W B cu cd cw cb t) :
    Calls Try.prog 18 #[treeV U D W B t cu cd cw cb, .int .i64 i, .int .u8 y] w fun e w' => e = .returned (.tuple #[.int .i64 (kidAt t i y).1, .bool (kidAt t i y).2]) ∧ w.grownBy w' none := by
  have hSt := hid (fun (w' : World) (h : w.grownBy w' none) => tStands_is U D W B cu cd cw cb t i w' (hT.grown h))
  cases hb : there t i with
  | false =>
    rw [hb] at hSt
    rw [kid_none hb]
    clear hb hT
    obtain ⟨u, d, o, b⟩ := t
    have hG0 : Hid (w.grownBy (w.alloc (.cells #[.slice U u.length cu, .slice D d.length cd, .slice W o.length cw, .slice B b.length cb] 30)) none) := grown_alloc (grown_refl w none) _
    have K1 : Hid (Holds (w.alloc (.cells #[.slice U u.length cu, .slice D d.length cd, .slice W o.length cw, .slice B b.length cb] 30)) w.heap.size 30 #[.slice U u.length cu, .slice D d.length cd, .slice W o.length cw, .slice B b.length cb]) := Holds.new _ _ _
    go_enter Try.func18, Try.ntmps18
    go_upto_region 1 with fail
    obtain ⟨W0, hW0⟩ : ∃ W0, w.alloc (.cells #[.slice U u.length cu, .slice D d.length cd, .slice W o.length cw, .slice B b.length cb] 30) = W0 := ⟨_, rfl⟩
    rw [hW0] at K1 hG0 ⊢
    clear hW0
    obtain ⟨h, hh⟩ : ∃ h, w.heap.size = h := ⟨_, rfl⟩
    rw [hh] at K1 ⊢
    replace hh := hid hh
    have c0 := (K1.out.cell 0).trans (show _ = some (Value.slice U u.length cu) from rfl)
    have c1 := (K1.out.cell 1).trans (show _ = some (Value.slice D d.length cd) from rfl)
    have c2 := (K1.out.cell 2).trans (show _ = some (Value.slice W o.length cw) from rfl)
    have c3 := (K1.out.cell 3).trans (show _ = some (Value.slice B b.length cb) from rfl)
    go_wp2_with fail
    refine (hSt.out W0 hG0.out).mono ?_
    rintro e w1 ⟨rfl, hg⟩
    have g1 := hid (grown_trans hG0.out hg)
    have L1 := hid (K1.out.kept0 hg)
    clear hg c0 c1 c2 c3
    have c0 := (L1.out.cell 0).trans (show _ = some (Value.slice U u.length cu) from rfl)
    have c1 := (L1.out.cell 1).trans (show _ = some (Value.slice D d.length cd) from rfl)
    have c2 := (L1.out.cell 2).trans (show _ = some (Value.slice W o.length cw) from rfl)
    have c3 := (L1.out.cell 3).trans (show _ = some (Value.slice B b.length cb) from rfl)
    clear c0 c1 c2 c3
    go_wp2_with fail
    exact bodyPost_ret (v := .tuple #[.int .i64 0, .bool false]) (by simp [results, Try.results18, go_sem]) rfl ⟨rfl, g1.out⟩
  | true =>
    rw [hb] at hSt
    obtain ⟨hr, k, rfl, hk, hsp⟩ := spell_is hb
    rw [kid_below hr hk y]
    obtain ⟨hL, _⟩ := right_tall hr
    have hBe := hid (fun (w' : World) (h : w.grownBy w' none) => below_is U D W B cu cd cw cb t k y w' hL hk (hT.at_.grown h))
    generalize PlainTrie.belowR t k y = zy at hBe ⊢
    obtain ⟨z1, z2⟩ := zy
    clear hT hL hr hsp hb
    replace hk := hid hk
    obtain ⟨u, d, o, b⟩ := t
    have hG0 : Hid (w.grownBy (w.alloc (.cells #[.slice U u.length cu, .slice D d.length cd, .slice W o.length cw, .slice B b.length cb] 30)) none) := grown_alloc (grown_refl w none) _
    have K1 : Hid (Holds (w.alloc (.cells #[.slice U u.length cu, .slice D d.length cd, .slice W o.length cw, .slice B b.length cb] 30)) w.heap.size 30 #[.slice U u.length cu, .slice D d.length cd, .slice W o.length cw, .slice B b.length cb]) := Holds.new _ _ _
    go_enter Try.func18, Try.ntmps18
    go_upto_region 1 with fail
    obtain ⟨W0, hW0⟩ : ∃ W0, w.alloc (.cells #[.slice U u.length cu, .slice D d.length cd, .slice W o.length cw, .slice B b.length cb] 30) = W0 := ⟨_, rfl⟩
    rw [hW0] at K1 hG0 ⊢
    clear hW0
    obtain ⟨h, hh⟩ : ∃ h, w.heap.size = h := ⟨_, rfl⟩
    rw [hh] at K1 ⊢
    replace hh := hid hh
    have c0 := (K1.out.cell 0).trans (show _ = some (Value.slice U u.length cu) from rfl)
    have c1 := (K1.out.cell 1).trans (show _ = some (Value.slice D d.length cd) from rfl)
    have c2 := (K1.out.cell 2).trans (show _ = some (Value.slice W o.length cw) from rfl)
    have c3 := (K1.out.cell 3).trans (show _ = some (Value.slice B b.length cb) from rfl)
    go_wp2_with fail
    refine (hSt.out W0 hG0.out).mono ?_
    rintro e w1 ⟨rfl, hg⟩
    have g1 := hid (grown_trans hG0.out hg)
    have L1 := hid (K1.out.kept0 hg)
    clear hg c0 c1 c2 c3
    have c0 := (L1.out.cell 0).trans (show _ = some (Value.slice U u.length cu) from rfl)
    have c1 := (L1.out.cell 1).trans (show _ = some (Value.slice D d.length cd) from rfl)
    have c2 := (L1.out.cell 2).trans (show _ = some (Value.slice W o.length cw) from rfl)
    have c3 := (L1.out.cell 3).trans (show _ = some (Value.slice B b.length cb) from rfl)
    go_wp2_with fail
    refine (hBe.out _ g1.out).mono ?_
    rintro e w2 ⟨rfl, hg⟩
    have g2 := hid (grown_trans g1.out hg)
    clear hg c0 c1 c2 c3
    go_wp2_with fail
    exact bodyPost_ret (v := .tuple #[.int .i64 z1, .bool z2]) (by simp [results, Try.results18, go_sem]) rfl ⟨rfl, g2.out⟩

set_option maxHeartbeats 2000000 in
theorem tFind_is (U D W B : Option Addr) (cu cd cw cb : Nat) (t : PlainTrie.Tree) (A : Option Addr) (c0' : Nat) (ys : List Int) (w : World) (hT : TreeOk w U D W B cu cd cw cb t) (hA : Arr w .u8 A ys) (hy : ys.length ≤ 100000) :
    Calls Try.prog 14 #[treeV U D W B t cu cd cw cb, .slice A ys.length c0'] w fun e w' => e = .returned (.tuple #[.int .i64 (foundAt t ys).1, .bool (foundAt t ys).2]) ∧ w.grownBy w' none := by
  have hRt := hid (fun (w' : World) (h : w.grownBy w' none) => tRight_is U D W B cu cd cw cb t w' (hT.grown h))
  replace hA := hid hA
  cases hr : PlainTrie.right t with
  | false =>
    rw [hr] at hRt
    rw [find_not hr]
    clear hr hT
    obtain ⟨u, d, o, b⟩ := t
    have hG0 : Hid (w.grownBy (w.alloc (.cells #[.slice U u.length cu, .slice D d.length cd, .slice W o.length cw, .slice B b.length cb] 30)) none) := grown_alloc (grown_refl w none) _
    have K1 : Hid (Holds (w.alloc (.cells #[.slice U u.length cu, .slice D d.length cd, .slice W o.length cw, .slice B b.length cb] 30)) w.heap.size 30 #[.slice U u.length cu, .slice D d.length cd, .slice W o.length cw, .slice B b.length cb]) := Holds.new _ _ _
    go_enter Try.func14, Try.ntmps14
    go_upto_region 1 with fail
    obtain ⟨W0, hW0⟩ : ∃ W0, w.alloc (.cells #[.slice U u.length cu, .slice D d.length cd, .slice W o.length cw, .slice B b.length cb] 30) = W0 := ⟨_, rfl⟩
    rw [hW0] at K1 hG0 ⊢
    clear hW0
    obtain ⟨h, hh⟩ : ∃ h, w.heap.size = h := ⟨_, rfl⟩
    rw [hh] at K1 ⊢
    replace hh := hid hh
    have c0 := (K1.out.cell 0).trans (show _ = some (Value.slice U u.length cu) from rfl)
    have c1 := (K1.out.cell 1).trans (show _ = some (Value.slice D d.length cd) from rfl)
    have c2 := (K1.out.cell 2).trans (show _ = some (Value.slice W o.length cw) from rfl)
    have c3 := (K1.out.cell 3).trans (show _ = some (Value.slice B b.length cb) from rfl)
    go_wp2_with fail
    refine (hRt.out W0 hG0.out).mono ?_
    rintro e w1 ⟨rfl, hg⟩
    have g1 := hid (grown_trans hG0.out hg)
    have L1 := hid (K1.out.kept0 hg)
    clear hg c0 c1 c2 c3
    have c0 := (L1.out.cell 0).trans (show _ = some (Value.slice U u.length cu) from rfl)
    have c1 := (L1.out.cell 1).trans (show _ = some (Value.slice D d.length cd) from rfl)
    have c2 := (L1.out.cell 2).trans (show _ = some (Value.slice W o.length cw) from rfl)
    have c3 := (L1.out.cell 3).trans (show _ = some (Value.slice B b.length cb) from rfl)
    clear c0 c1 c2 c3
    go_wp2_with fail
    exact bodyPost_ret (v := .tuple #[.int .i64 0, .bool false]) (by simp [results, Try.results14, go_sem]) rfl ⟨rfl, g1.out⟩
  | true =>
    rw [hr] at hRt
    obtain ⟨hL, _⟩ := right_tall hr
    have hnx := hid (fun (j k : Nat) (hj : j < ys.length) (hk : k < t.up.length) (e : PlainTrie.sp t k = ys.take j) => find_next hr hj hk e)
    have hen := hid (fun (k : Nat) (hk : k < t.up.length) (e : PlainTrie.sp t k = ys) => find_end hr hk e)
    have hBe := hid (fun (k : Nat) (y : Int) (hk : k < t.up.length) (w' : World) (h : w.grownBy w' none) => below_is U D W B cu cd cw cb t k y w' hL hk (hT.at_.grown h))
    have hz := hid hL.sp_zero
    have hpos := hid hL.even.1
    have h4 : t.up.length ≤ 400 := hL.even.2.1
    obtain ⟨zy, hzy⟩ : ∃ zy, foundAt t ys = zy := ⟨_, rfl⟩
    rw [hzy] at hen ⊢
    simp only [hzy] at hnx
    clear hzy hT hL hr
    generalize PlainTrie.sp t = SP at hnx hen hz
    generalize PlainTrie.belowR t = BR at hnx hBe
    obtain ⟨u, d, o, b⟩ := t
    simp only at hnx hen hBe hpos h4
    have hG0 : Hid (w.grownBy (w.alloc (.cells #[.slice U u.length cu, .slice D d.length cd, .slice W o.length cw, .slice B b.length cb] 30)) none) := grown_alloc (grown_refl w none) _
    have K1 : Hid (Holds (w.alloc (.cells #[.slice U u.length cu, .slice D d.length cd, .slice W o.length cw, .slice B b.length cb] 30)) w.heap.size 30 #[.slice U u.length cu, .slice D d.length cd, .slice W o.length cw, .slice B b.length cb]) := Holds.new _ _ _
    go_enter Try.func14, Try.ntmps14
    go_upto_region 1 with fail
    obtain ⟨W0, hW0⟩ : ∃ W0, w.alloc (.cells #[.slice U u.length cu, .slice D d.length cd, .slice W o.length cw, .slice B b.length cb] 30) = W0 := ⟨_, rfl⟩
    rw [hW0] at K1 hG0 ⊢
    clear hW0
    obtain ⟨h, hh⟩ : ∃ h, w.heap.size = h := ⟨_, rfl⟩
    rw [hh] at K1 ⊢
    replace hh := hid hh
    have c0 := (K1.out.cell 0).trans (show _ = some (Value.slice U u.length cu) from rfl)
    have c1 := (K1.out.cell 1).trans (show _ = some (Value.slice D d.length cd) from rfl)
    have c2 := (K1.out.cell 2).trans (show _ = some (Value.slice W o.length cw) from rfl)
    have c3 := (K1.out.cell 3).trans (show _ = some (Value.slice B b.length cb) from rfl)
    go_wp2_with fail
    refine (hRt.out W0 hG0.out).mono ?_
    rintro e w1 ⟨rfl, hg⟩
    have g1 := hid (grown_trans hG0.out hg)
    have L1 := hid (K1.out.kept0 hg)
    clear hg c0 c1 c2 c3
    have c0 := (L1.out.cell 0).trans (show _ = some (Value.slice U u.length cu) from rfl)
    have c1 := (L1.out.cell 1).trans (show _ = some (Value.slice D d.length cd) from rfl)
    have c2 := (L1.out.cell 2).trans (show _ = some (Value.slice W o.length cw) from rfl)
    have c3 := (L1.out.cell 3).trans (show _ = some (Value.slice B b.length cb) from rfl)
    clear c0 c1 c2 c3
    go_wp2_with fail
    go_loopw [6, 16] (fun n i wr => ∃ j k : Nat, j ≤ ys.length ∧ k < u.length ∧ i = .int .i64 j ∧ n = .int .i64 k ∧ SP k = ys.take j ∧ w1.grownBy wr none) (fun _ i _ => ys.length - (intOf i).toNat)
    case atStart => exact ⟨0, 0, Nat.zero_le _, hpos.out, rfl, rfl, by rw [hz.out]; rfl, grown_refl _ _⟩
    case round =>
      obtain ⟨j, k, hj, hk, rfl, rfl, hsp, hG⟩ := hrel
      by_cases hlt : j < ys.length
      · have hG1 := hid (grown_trans g1.out hG)
        obtain ⟨ba, oa, hAe, la, ka⟩ := (hA.out.grown hG1.out).at_ hlt
        have kj := ka j hlt
        have hn := hnx.out j k hlt hk hsp
        generalize ys.getD j 0 = y at kj hn
        have hB := hid (hBe.out k y hk wr hG1.out)
        subst hAe
        have M := L1.out.kept0 hG
        have c0 := (M.cell 0).trans (show _ = some (Value.slice U u.length cu) from rfl)
        have c1 := (M.cell 1).trans (show _ = some (Value.slice D d.length cd) from rfl)
        have c2 := (M.cell 2).trans (show _ = some (Value.slice W o.length cw) from rfl)
        have c3 := (M.cell 3).trans (show _ = some (Value.slice B b.length cb) from rfl)
        have q0 : (0 : Int) ≤ (j : Int) := by omega
        have q1 : (j : Int) < (ys.length : Int) := by omega
        replace hG := hid hG
        replace hsp := hid hsp
        clear M ka
        rcases hn with ⟨k', hk', e1, e2⟩ | ⟨e1, e2⟩
        · rw [e1] at hB
          replace e2 := hid e2
          clear e1
          go_wp2_with fail
          refine hB.out.mono ?_
          rintro e w2 ⟨rfl, hg⟩
          have gg := hid (grown_trans hG.out hg)
          clear hg c0 c1 c2 c3 kj
          go_wp2_with fail
          go_roundw
          case rel => exact ⟨j + 1, k', by omega, hk', by go_num, rfl, e2.out, gg.out⟩
          case measure => simp [intOf]; omega
        · rw [e1] at hB
          subst e2
          clear e1
          go_wp2_with fail
          refine hB.out.mono ?_
          rintro e w2 ⟨rfl, hg⟩
          have gg := hid (grown_trans hG1.out hg)
          clear hg c0 c1 c2 c3 kj
          go_wp2_with fail
          exact bodyPost_ret (v := .tuple #[.int .i64 0, .bool false]) (by simp [results, Try.results14, go_sem]) rfl ⟨rfl, gg.out⟩
      · have hV := hid (hen.out k hk (by rw [hsp, show j = ys.length by omega, List.take_length]))
        have hlt' : ¬ ((j : Int) < (ys.length : Int)) := by omega
        replace hG := hid (grown_trans g1.out hG)
        replace hsp := hid hsp
        go_wp2_with fail
        exact bodyPost_ret (v := .tuple #[.int .i64 (k : Int), .bool true]) (by simp [results, Try.results14, go_sem]) rfl ⟨by rw [hV.out], hG.out⟩

end Go.Proofs.Ytojbkhheaondhaa
