/- Package patset: how many beginnings there are. -/
import Derived.Test.YtojbfjlihenjaaaPBgn
set_option linter.unusedSimpArgs false
set_option linter.unusedVariables false
set_option maxRecDepth 100000
namespace Go.Proofs.Ytojbfjlihenjaaa
open Go.RowKit PlainLetter PlainPatset PlainNumbers Go.Shelf
attribute [local go_sem] Oper.semAt_some run_store_func

/-- Between two numbers: the greatest so far. -/
structure NAt (w : World) (h : Nat) (f : Bool) (P : Option Addr) (n c : Nat) (rc : LoopState → Option Code → Loop) (st : LoopState) (m : Nat) (W : World) : Prop where
  gr : w.grownBy W none
  lk : isLook W (h + 2) f P n c
  great : Holds W (h + 1) 3 #[.int .i64 (m : Nat)]
  mark : W.heap[h + 3]? = some (.deferred (some []))
  record : W.heap[h + 4]? = some (.loop (rc st none))

theorem NAt.below {w W W' : World} {h : Nat} {f : Bool} {P : Option Addr} {n c : Nat} {rc : LoopState → Option Code → Loop} {st : LoopState} {m : Nat} (s : NAt w h f P n c rc st m W) (hw : w.heap.size ≤ h + 5) (hb : Below (h + 5) W W') : NAt w h f P n c rc st m W' := by
  refine ⟨⟨hb.os.trans s.gr.os, hb.tape.trans s.gr.tape, hb.output.trans s.gr.output, Nat.le_trans s.gr.size hb.size, fun k hk hne => (hb.block k (by omega)).trans (s.gr.block k hk hne)⟩, ?_, ?_, ?_, ?_⟩
  · exact (hb.block _ (by omega)).trans s.lk
  · exact (hb.block _ (by omega)).trans s.great
  · exact (hb.block _ (by omega)).trans s.mark
  · exact (hb.block _ (by omega)).trans s.record

/-- The return, the result in slot 2, the loop's mark taken up. -/
theorem nodes_leaves {W : World} {d : Nat} {v : Value} {T : Array Value} {R : Ending → World → Prop} (hT : T.getD 2 undef = v)
    (hD : W.heap[d]? = some (.deferred (some []))) (hR : R (.returned v) (W.putObj d (.deferred none))) :
    bodyPostM Fence.wide 0 Try.prog Try.f35 R Exit.ret { tmps := T, defers := [{ target := .collected d, args := #[] }] } W := by
  refine ⟨by simp, .inl ⟨_, _, rfl, run_takeDeferred hD, ?_⟩⟩
  rw [Array.getD_eq_getD_getElem?] at hT
  refine ⟨_, ?_, hR⟩
  simp [results, Try.results35, hT]

set_option maxHeartbeats 4000000 in
theorem nodes_is (f : Bool) (P : Option Addr) (c : Nat) (xss : List (List Int)) (w : World) (hn : xss.length ≤ 100000) (hl : xss.flatten.length ≤ 99999) (hB : ∀ i, Bytes (xss.getD i [])) (hP : Arrs w P xss) :
    Calls Try.prog 35 #[.agg #[.slice P xss.length c, .bool f]] w fun e w' => e = .returned (.int .i64 (nodes f xss : Nat)) ∧ w.grownBy w' none := by
  have hS : ∀ k, (xss.getD k []).length ≤ 100000 := fun k => by
    by_cases hk : k < xss.length
    · have h1 := flatten_take_succ xss k hk
      have h2 := flatten_take_le xss (k + 1)
      rw [h1, List.length_append] at h2
      omega
    · simp [List.getD, List.getElem?_eq_none (Nat.le_of_not_lt hk)]
  obtain ⟨As, Cs, hR0⟩ := RowsAt.of_arrs hP
  have hml : nodes f xss ≤ 100000 := by
    have := allP_len_le (xss.map (foldIf f)) []
    rw [nodes_all]
    rw [flatten_fold_len] at this
    rw [List.length_nil] at this
    omega
  obtain ⟨h, hh⟩ : ∃ h, w.heap.size = h := ⟨_, rfl⟩
  have hsz0 : (w.alloc (.cells #[.slice P xss.length c, .bool f] 52)).heap.size = h + 1 := by simp [hh]
  have hgr0 := grown_alloc (grown_alloc (grown_refl w none) (.cells #[.slice P xss.length c, .bool f] 52)) (.cells #[.int .i64 0] 3)
  have hlk0 := (Holds.new_at 52 #[.slice P xss.length c, .bool f] hh).alloc (.cells #[.int .i64 0] 3)
  have hgt0 : Holds ((w.alloc (.cells #[.slice P xss.length c, .bool f] 52)).alloc (.cells #[.int .i64 0] 3)) (h + 1) 3 #[.int .i64 0] := Holds.new_at _ _ hsz0
  have hsz1 : ((w.alloc (.cells #[.slice P xss.length c, .bool f] 52)).alloc (.cells #[.int .i64 0] 3)).heap.size = h + 2 := by simp [hh]
  have b0 := (hlk0.cell 0).trans (show _ = some (Value.slice P xss.length c) from rfl)
  have b1 := (hlk0.cell 1).trans (show _ = some (Value.bool f) from rfl)
  replace hS := hid hS
  replace hB := hid hB
  replace hR0 := hid hR0
  replace hgr0 := hid hgr0
  replace hgt0 := hid hgt0
  replace hsz1 := hid hsz1
  clear hlk0 hsz0 hP
  refine (callsIn_wide (n := 0)).1 ?_
  refine callsIn_of_wp_marks Try.func35 rfl trivial ?_ rfl
  simp only [Try.ntmps35, List.size_toArray, List.length_cons, List.length_nil, Nat.reduceAdd, Nat.reduceSub, Array.replicate_succ, Array.replicate_zero, List.push_toArray, List.append_toArray, List.nil_append, List.cons_append]
  gi_wp2
  refine ⟨trivial, rfl, ?_⟩
  refine (callsIn_wide.2 (beginnings_is f P xss.length c _)).mono ?_
  rintro e w2 ⟨rfl, hlk, hg2, hsz2⟩
  rw [hsz1.out] at hlk hsz2 ⊢
  replace hgr0 := hid (grown_trans hgr0.out hg2)
  replace hgt0 := hid (hgt0.out.kept0 hg2)
  replace hlk := hid hlk
  have hht := hid hh
  have hsz3 := hid hsz2
  clear hh b0 b1 hg2 hsz2 hsz1
  gi_wp2
  refine range_wide (gf := 60) rfl (enters_of Try.func60 (by kernel_rfl) rfl) (fun fn rc hrc => ?_)
  replace hrc := hid hrc
  simp only [hsz3.out, Nat.add_assoc, Nat.reduceAdd] at hrc ⊢
  obtain ⟨W1, hW1⟩ : ∃ W1, (w2.alloc (Obj.deferred (some []))).alloc (Obj.loop (rc .ready none)) = W1 := ⟨_, rfl⟩
  rw [hW1]
  have hsW : W1.heap.size = h + 5 := by rw [← hW1]; simp [hsz3.out]
  have hN : NAt w h f P xss.length c rc .ready 0 W1 := by
    have hg : w2.grownBy W1 none := by rw [← hW1]; exact grown_alloc (grown_alloc (grown_refl w2 none) _) _
    refine ⟨grown_trans hgr0.out hg, hlk.out.kept0 hg, hgt0.out.kept0 hg, ?_, ?_⟩
    · rw [← hW1]; exact other_alloc (alloc_at _ hsz3.out)
    · rw [← hW1]; exact alloc_at _ (by simp [hsz3.out])
  clear hW1 hgr0 hgt0 hlk hsz3
  have hnd := hid (nodes_all f xss)
  refine CallsIn.mono (bgn_in (h + 4) (h + 2) f P c As Cs xss hn hS.out hB.out hl (fun m => NAt w h f P xss.length c rc .ready m) W1 ?at_ ?below ?round hN) ?behind
  case at_ =>
    intro m W s
    exact ⟨hR0.out.grown s.gr, s.lk⟩
  case below =>
    intro m W W' s hb
    rw [hsW] at hb
    exact s.below (by have := hht.out; omega) hb
  case round =>
    intro m n W s hnm hm hsz
    rw [hsW] at hsz ⊢
    have Hs := hid s
    refine round_wide hrc.out Hs.out.record rfl fun K hK => ?_
    replace hK := hid hK
    gi_wp2
    refine hK.out _ ?_
    clear hK
    clear K
    obtain ⟨Wb, hWb⟩ : ∃ Wb, W.putObj (h + 4) (.loop (rc .busy none)) = Wb := ⟨_, rfl⟩
    have hgt : Holds Wb (h + 1) 3 #[.int .i64 (m : Nat)] := by rw [← hWb]; exact s.great.put (by omega) _
    have c0 := (hgt.cell 0).trans (show _ = some (Value.int .i64 (m : Nat)) from rfl)
    have f0 := hgt.free 0
    have l0 := hgt.lt
    have hrec : Wb.heap[h + 4]? = some (.loop (rc .busy none)) := by rw [← hWb]; exact World.putObj_heap_same (Array.getElem?_eq_some_iff.1 s.record).1
    have hg2 : W.grownBy Wb (some (h + 4)) := by rw [← hWb]; exact grown_put' W (h + 4) _
    have hfin : ∀ V : Nat, V = max m n → (Wb.setCell ⟨h + 1, 0, none⟩ (.int .i64 (V : Nat))).heap[h + 4]? = some (.loop (rc .busy none)) ∧
        NAt w h f P xss.length c rc .ready (max m n) ((Wb.setCell ⟨h + 1, 0, none⟩ (.int .i64 (V : Nat))).putObj (h + 4) (.loop (rc .ready none))) ∧
        Above (h + 5) W ((Wb.setCell ⟨h + 1, 0, none⟩ (.int .i64 (V : Nat))).putObj (h + 4) (.loop (rc .ready none))) := by
      rintro V rfl
      have r1 := other_set (p := ⟨h + 1, 0, none⟩) hrec (by simp) (.int .i64 ((max m n : Nat) : Int))
      have g1 : hgt.lt = hgt.lt := rfl
      have gW : w.grownBy Wb none := by rw [← hWb]; exact grown_put s.gr (by have := hht.out; omega) _
      have gW2 := grown_put (l := h + 4) (grown_set (p := ⟨h + 1, 0, none⟩) gW (.inr (by have := hht.out; simp; omega)) (.int .i64 ((max m n : Nat) : Int))) (by have := hht.out; omega) (.loop (rc .ready none))
      have lk1 : Holds Wb (h + 2) 52 #[.slice P xss.length c, .bool f] := by rw [← hWb]; exact Holds.put s.lk (by omega) _
      have mk1 : Wb.heap[h + 3]? = some (.deferred (some [])) := by rw [← hWb]; exact (World.putObj_heap_other (by omega)).trans s.mark
      refine ⟨r1, ⟨gW2, (lk1.far (p := ⟨h + 1, 0, none⟩) (by simp) _).put (by omega) _, ((show Holds _ _ _ _ from hgt.set 0 _)).put (by omega) _, ?_, World.putObj_heap_same (Array.getElem?_eq_some_iff.1 r1).1⟩, ?_⟩
      · exact (World.putObj_heap_other (by omega)).trans (other_set (p := ⟨h + 1, 0, none⟩) mk1 (by simp) _)
      · refine ⟨by have := hg2.size; simpa [World.setCell] using this, fun k o hk ho => ?_⟩
        refine (World.putObj_heap_other (by omega)).trans (other_set (p := ⟨h + 1, 0, none⟩) (grown_but hg2 (by omega) ho) (by simp; omega) _)
    rw [hWb]
    replace hfin := hid hfin
    replace hrec := hid hrec
    replace hg2 := hid hg2
    replace hgt := hid hgt
    clear s hWb
    by_cases hmn : m < n
    · gi_wp2
      exact hfin.out n (by omega)
    · gi_wp2
      exact hfin.out m (by omega)
  case behind =>
    rintro e W2 ⟨hv, s⟩
    refine ⟨hv, .inl ⟨s.record, fun o => ?_⟩⟩
    have hgt := s.great.put (l := h + 4) (by omega) o
    have hD := (World.putObj_heap_other (o := o) (r := h + 4) (k := h + 3) (by omega)).trans s.mark
    have hG := grown_put (l := h + 4) s.gr (by have := hht.out; omega) o
    generalize W2.putObj (h + 4) o = W3 at hgt hD hG ⊢
    clear s
    generalize hNN : (allP [] (xss.map (foldIf f))).length = N at hgt ⊢
    have c0 := (hgt.cell 0).trans (show _ = some (Value.int .i64 (N : Nat)) from rfl)
    have hNl : N ≤ 100000 := by have := hnd.out; rw [hNN] at this; omega
    replace hG := hid hG
    replace hD := hid hD
    clear hgt
    gi_wp2
    refine nodes_leaves (v := .int .i64 ((1 + N : Nat) : Int)) (by go_num) hD.out ?_
    exact ⟨by rw [hnd.out, hNN], grown_put hG.out (by have := hht.out; omega) _⟩
end Go.Proofs.Ytojbfjlihenjaaa
