/- Package letter: are two texts the same, held by either judge?. Package letter: the iterator through all bytes of all texts, for a loop body that never breaks. -/
import Derived.Test.YtojbkhheaondhaaK10
import Derived.Test.YtojbkhheaondhaaCollect
set_option linter.unusedSimpArgs false
set_option linter.unusedVariables false
set_option maxRecDepth 100000
namespace Go.Proofs.Ytojbkhheaondhaa
open Go.RowKit PlainLetter Go.Shelf
attribute [local go_sem] Oper.semAt_some

theorem foldIf_get (f : Bool) (a : List Int) (k : Nat) : (foldIf f a).getD k 0 = if f = true then fold (a.getD k 0) else a.getD k 0 := by
  cases f with
  | false => simp [foldIf]
  | true =>
    simp only [foldIf, if_true, List.getD, List.getElem?_map]
    cases a[k]? with
    | none => simp [fold_zero]
    | some x => rfl
theorem foldIf_len (f : Bool) (a : List Int) : (foldIf f a).length = a.length := by cases f <;> simp [foldIf]

theorem same_all (f : Bool) (a b : List Int) (hl : a.length = b.length) (h : ∀ j, j < a.length → (if f = true then fold (a.getD j 0) else a.getD j 0) = if f = true then fold (b.getD j 0) else b.getD j 0) : same f a b = true := by
  unfold same
  refine decide_eq_true (List.ext_getElem (by rw [foldIf_len, foldIf_len]; exact hl) fun i h1 h2 => ?_)
  have := h i (by rwa [foldIf_len] at h1)
  rw [← foldIf_get, ← foldIf_get] at this
  simpa [List.getD, h1, h2] using this

theorem same_one (f : Bool) (a b : List Int) (j : Nat) (h : (if f = true then fold (a.getD j 0) else a.getD j 0) ≠ if f = true then fold (b.getD j 0) else b.getD j 0) : same f a b = false := by
  unfold same
  refine decide_eq_false fun e => h ?_
  rw [← foldIf_get, ← foldIf_get, e]

theorem same_len (f : Bool) (a b : List Int) (h : a.length ≠ b.length) : same f a b = false := by
  unfold same
  refine decide_eq_false fun e => h ?_
  rw [← foldIf_len f a, ← foldIf_len f b, e]

/-- Between two bytes; F: what tells whether two are alike. -/
structure HeldAt (w : World) (h : Nat) (u F : Value) (A B : Option Addr) (c d n m : Nat) (rc : LoopState → Option Code → Loop) (W : World) : Prop where
  fn : Holds W (h + 1) 121 #[F]
  res : Holds W (h + 2) 4 #[.bool false]
  bx : Holds W (h + 3) 117 #[.slice A n c]
  by_ : Holds W (h + 4) 28 #[.slice B m d]
  dfr : W.heap[h + 5]? = some (.deferred (some []))
  record : W.heap[h + 6]? = some (.loop (rc .ready none))
  gr : w.grownBy W none

/-- The rounds have ended by a return of no. -/
structure HeldEnd (w : World) (h : Nat) (rc : LoopState → Option Code → Loop) (W : World) : Prop where
  res : Holds W (h + 2) 4 #[.bool false]
  dfr : W.heap[h + 5]? = some (.deferred (some []))
  record : W.heap[h + 6]? = some (.loop (rc .done (some .ret)))
  gr : w.grownBy W none

/-- The return, the result in a cell, the loop's mark taken up. -/
theorem held_leaves {W : World} {g d : Nat} {x : Bool} {T : Array Value} {R : Ending → World → Prop} (hT : T.getD 6 undef = .pointer (some ⟨g, 0, none⟩)) (hr : Holds W g 4 #[.bool x])
    (hne : g ≠ d) (hD : W.heap[d]? = some (.deferred (some []))) (hR : R (.returned (.bool x)) (W.putObj d (.deferred none))) :
    bodyPostM Fence.wide 0 Try.prog Try.f94 R Exit.ret { tmps := T, defers := [{ target := .collected d, args := #[] }] } W := by
  refine ⟨by simp, .inl ⟨_, _, rfl, run_takeDeferred hD, ?_⟩⟩
  have c0 := (hr.put (l := d) hne (.deferred none)).cell 0
  simp at c0
  rw [Array.getD_eq_getD_getElem?] at hT
  refine ⟨_, ?_, hR⟩
  simp [results, Try.results94, hT, go_sem, c0]

theorem held_len (A B : Option Addr) (c d n m : Nat) (F : Fn) (fs bs : Array Value) (w : World) (hn : n ≠ m) :
    Calls Try.prog 94 #[.agg #[.slice A n c], .slice B m d, .func F fs bs] w fun e w' => e = .returned (.bool false) ∧ w.grownBy w' none := by
  have h1 : ((n : Int) == (m : Int)) = false := by rw [beq_eq_false_iff_ne]; omega
  have h2 : ((n : Int) != (m : Int)) = true := by rw [bne_iff_ne]; omega
  go_enter Try.func94, Try.ntmps94
  go_wp2_with fail
  have r0 : Holds (((w.alloc (.cells #[.slice A n c] 117)).alloc (.cells #[.func F fs bs] 121)).alloc (.cells #[.bool false] 4)) (w.heap.size + 2) 4 #[.bool false] :=
    by refine Holds.new_at _ _ ?_; simp
  have c0 := r0.cell 0
  simp at c0
  refine bodyPost_ret (v := .bool false) (by simp [results, Try.results94, go_sem, c0]) rfl ⟨rfl, ?_⟩
  exact grown_alloc (grown_alloc (grown_alloc (grown_refl w none) _) _) _

set_option maxHeartbeats 2000000 in
theorem held_fold (A B : Option Addr) (c d : Nat) (xs ys : List Int) (w : World) (hl : xs.length = ys.length) (hx : xs.length ≤ 100000) (hbx : Bytes xs) (hby : Bytes ys) (hA : Arr w .u8 A xs) (hB : Arr w .u8 B ys) (u : Value) :
    Calls Try.prog 94 #[.agg #[.slice A xs.length c], .slice B ys.length d, .func (.func 97) #[.agg #[u]] #[]] w fun e w' => e = .returned (.bool (same true xs ys)) ∧ w.grownBy w' none := by
  obtain ⟨h, hh⟩ : ∃ h, w.heap.size = h := ⟨_, rfl⟩
  refine (callsIn_wide (n := 0)).1 ?_
  refine callsIn_of_wp_marks Try.func94 rfl trivial ?_ rfl
  simp only [Try.ntmps94, List.size_toArray, List.length_cons, List.length_nil, Nat.reduceAdd, Nat.reduceSub, Array.replicate_succ, Array.replicate_zero, List.push_toArray, List.append_toArray, List.nil_append, List.cons_append]
  have hht := hid hh
  have hA' := hid hA
  have hB' := hid hB
  have hbx' := hid hbx
  have hby' := hid hby
  have hl' := hid hl
  have hne : ((xs.length : Int) != (ys.length : Int)) = false := by rw [hl]; simp
  clear hh hA hB hbx hby hl
  gi_wp2_with fail
  refine ⟨trivial, rfl, ?_⟩
  refine (callsIn_wide.2 (beside_is _ _ _ _ _)).mono ?_
  rintro e w2 ⟨rfl, rfl⟩
  gi_wp2
  refine range_wide (gf := 99) rfl (enters_of Try.func99 (by kernel_rfl) rfl) (fun fn rc hrc => ?_)
  replace hrc := hid hrc
  simp only [World.size_alloc, hht.out, Nat.add_assoc, Nat.reduceAdd] at hrc ⊢
  obtain ⟨F, hF⟩ : ∃ F, Value.func (.func 97) #[.agg #[u]] #[] = F := ⟨_, rfl⟩
  obtain ⟨W1, hW1⟩ : ∃ W1, (((((((w.alloc (.cells #[.slice A xs.length c] 117)).alloc (.cells #[.func (.func 97) #[.agg #[u]] #[]] 121)).alloc (.cells #[.bool false] 4)).alloc
    (.cells #[.slice A xs.length c] 117)).alloc (.cells #[.slice B ys.length d] 28)).alloc (Obj.deferred (some []))).alloc (Obj.loop (rc .ready none))) = W1 := ⟨_, rfl⟩
  rw [hW1]
  have hN : HeldAt w h u F A B c d xs.length ys.length rc W1 := by
    subst hW1
    subst hF
    exact {
      fn := (((((Holds.new_at 121 _ (by simp [hht.out])).alloc _).alloc _).alloc _).alloc _).alloc _
      res := ((((Holds.new_at 4 _ (by simp [hht.out])).alloc _).alloc _).alloc _).alloc _
      bx := (((Holds.new_at 117 _ (by simp [hht.out])).alloc _).alloc _).alloc _
      by_ := ((Holds.new_at 28 _ (by simp [hht.out])).alloc _).alloc _
      dfr := other_alloc (alloc_at _ (by simp [hht.out]))
      record := alloc_at _ (by simp [hht.out])
      gr := grown_alloc (grown_alloc (grown_alloc (grown_alloc (grown_alloc (grown_alloc (grown_alloc (grown_refl w _) _) _) _) _) _) _) _ }
  clear hW1
  replace hF := hid hF
  refine CallsIn.mono (beside_in (h + 6) (h + 3) (h + 4) A B c d xs ys hl'.out hx w hA'.out hB'.out
    (fun i W => HeldAt w h u F A B c d xs.length ys.length rc W ∧ ∀ j, j < i → fold (xs.getD j 0) = fold (ys.getD j 0))
    (fun W => HeldEnd w h rc W ∧ ∃ j, fold (xs.getD j 0) ≠ fold (ys.getD j 0)) W1 (fun i W s => ⟨s.1.gr, s.1.bx, s.1.by_⟩) ?round ⟨hN, fun j hj => absurd hj (Nat.not_lt_zero _)⟩) ?behind
  case round =>
    rintro i W ⟨s, hall⟩ hi
    obtain ⟨hx0, hx1⟩ := hbx'.out i
    obtain ⟨hy0, hy1⟩ := hby'.out i
    have hyes := hid (fun (e : fold (xs.getD i 0) = fold (ys.getD i 0)) => fun j (hj : j < i + 1) => (by
      by_cases hji : j < i
      · exact hall j hji
      · obtain rfl : j = i := by omega
        exact e : fold (xs.getD j 0) = fold (ys.getD j 0)))
    have hno := hid (fun (e : fold (xs.getD i 0) ≠ fold (ys.getD i 0)) => (⟨i, e⟩ : ∃ j, fold (xs.getD j 0) ≠ fold (ys.getD j 0)))
    clear hall
    generalize xs.getD i 0 = x at hx0 hx1 hyes hno ⊢
    generalize ys.getD i 0 = y at hy0 hy1 hyes hno ⊢
    have Hs := hid s
    refine round_wide hrc.out Hs.out.record rfl fun K hK => ?_
    replace hK := hid hK
    gi_wp2
    refine hK.out _ ?_
    clear hK
    clear K
    obtain ⟨Wb, hWb⟩ : ∃ Wb, W.putObj (h + 6) (.loop (rc .busy none)) = Wb := ⟨_, rfl⟩
    rw [hWb]
    have hT : Holds Wb (h + 1) 121 #[F] := hWb ▸ Hs.out.fn.put (by omega) _
    have hrb : Wb.heap[h + 6]? = some (.loop (rc .busy none)) := hWb ▸ World.putObj_heap_same (Array.getElem?_eq_some_iff.1 Hs.out.record).1
    have hres : Holds Wb (h + 2) 4 #[.bool false] := hWb ▸ Hs.out.res.put (by omega) _
    have hbxw : Holds Wb (h + 3) 117 #[.slice A xs.length c] := hWb ▸ Hs.out.bx.put (by omega) _
    have hbyw : Holds Wb (h + 4) 28 #[.slice B ys.length d] := hWb ▸ Hs.out.by_.put (by omega) _
    have hdf : Wb.heap[h + 5]? = some (.deferred (some [])) := hWb ▸ (World.putObj_heap_other (by omega)).trans Hs.out.dfr
    have hgr : w.grownBy Wb none := hWb ▸ grown_put Hs.out.gr (by have := hht.out; omega) _
    have hcf := hT.cell 0
    simp at hcf
    rw [← hF.out] at hcf
    clear hWb Hs s
    replace hrb := hid hrb
    replace hres := hid hres
    replace hbxw := hid hbxw
    replace hbyw := hid hbyw
    replace hdf := hid hdf
    replace hgr := hid hgr
    replace hT := hid hT
    gi_wp2_with fail
    refine ⟨trivial, rfl, ?_⟩
    refine (wideAt_calls (r := some (h + 6)) (foldAlike_is _ x y Wb hx0 hx1 hy0 hy1)).mono ?_
    rintro e w3 ⟨rfl, hg3⟩
    have keep : ∀ (l : Nat) (o : Obj), Wb.heap[l]? = some o → w3.heap[l]? = some o := fun l o ho => (hg3.block l (Array.getElem?_eq_some_iff.1 ho).1 (by simp)).trans ho
    have hr3 := keep _ _ hrb.out
    have hd3 := keep _ _ hdf.out
    have res3 := hres.out.kept0 hg3
    have hF3 := hT.out.kept0 hg3
    have hX3 := hbxw.out.kept0 hg3
    have hY3 := hbyw.out.kept0 hg3
    have hG3 := grown_trans hgr.out hg3
    clear keep hg3
    by_cases e : fold x = fold y
    · have he : (fold x == fold y) = true := by simp [e]
      rw [he]
      have hN : HeldAt w h u F A B c d xs.length ys.length rc (w3.putObj (h + 6) (.loop (rc .ready none))) := {
        fn := hF3.put (by omega) _
        res := res3.put (by omega) _
        bx := hX3.put (by omega) _
        by_ := hY3.put (by omega) _
        dfr := (World.putObj_heap_other (by omega)).trans hd3
        record := World.putObj_heap_same (Array.getElem?_eq_some_iff.1 hr3).1
        gr := grown_put hG3 (by have := hht.out; omega) _ }
      have hall := hyes.out e
      replace hr3 := hid hr3
      clear hd3 res3 hF3 hX3 hY3 hG3
      replace hN := hid hN
      replace hall := hid hall
      clear hyes hno he
      gi_wp2
      exact ⟨hr3.out, hN.out, by simpa using hall.out⟩
    · have he : (fold x == fold y) = false := by simp [e]
      rw [he]
      have hex := hid (hno.out e)
      have hc3 := res3.cell 0
      have hf3 := res3.free 0
      simp at hc3
      have rs := res3.set 0 (.bool false)
      simp at rs
      have hr4 := other_set (p := ⟨h + 2, 0, none⟩) hr3 (by simp) (.bool false)
      have hd4 := other_set (p := ⟨h + 2, 0, none⟩) hd3 (by simp) (.bool false)
      have hE : HeldEnd w h rc ((w3.setCell ⟨h + 2, 0, none⟩ (.bool false)).putObj (h + 6) (.loop (rc .done (some .ret)))) := {
        res := rs.put (by omega) _
        dfr := (World.putObj_heap_other (by omega)).trans hd4
        record := World.putObj_heap_same (Array.getElem?_eq_some_iff.1 hr4).1
        gr := grown_put (grown_set hG3 (.inr (by have := hht.out; simp; omega)) _) (by have := hht.out; omega) _ }
      have hl3 := res3.lt
      replace hr4 := hid hr4
      replace hE := hid hE
      clear hr3 hd3 res3 hF3 hX3 hY3 hG3 rs hd4 hyes hno he e
      gi_wp2
      exact ⟨hr4.out, hE.out, by simpa using hex.out⟩
  case behind =>
    rintro e W2 ⟨hv, ⟨s, hall⟩ | ⟨s, hex⟩⟩
    · refine ⟨hv, .inl ⟨s.record, fun o => ?_⟩⟩
      have hs : Hid (same true xs ys = true) := same_all _ _ _ hl'.out hall
      have res := s.res.put (l := h + 6) (by omega) o
      have hD := (World.putObj_heap_other (o := o) (r := h + 6) (k := h + 5) (by omega)).trans s.dfr
      have hG := grown_put (l := h + 6) s.gr (by have := hht.out; omega) o
      obtain ⟨W3, hW3⟩ : ∃ W3, W2.putObj (h + 6) o = W3 := ⟨_, rfl⟩
      rw [hW3] at res hD hG ⊢
      clear hW3 s hall
      have c_0 := res.cell 0
      have f_0 := res.free 0
      have l_0 := res.lt
      simp at c_0
      have rs := res.set 0 (.bool true)
      simp at rs
      replace rs := hid rs
      replace hD := hid hD
      replace hG := hid hG
      clear res
      gi_wp2
      refine held_leaves (g := h + 2) (x := true) rfl rs.out (by omega) (other_set hD.out (by simp) _) ?_
      exact ⟨by rw [hs.out], grown_put (grown_set hG.out (.inr (by have := hht.out; simp; omega)) _) (by have := hht.out; omega) _⟩
    · refine ⟨hv, .inr ⟨_, s.record, fun o => ?_⟩⟩
      obtain ⟨j, hj⟩ := hex
      have hs : Hid (same true xs ys = false) := same_one _ _ _ j hj
      have res := s.res.put (l := h + 6) (by omega) o
      have hD := (World.putObj_heap_other (o := o) (r := h + 6) (k := h + 5) (by omega)).trans s.dfr
      have hG := grown_put (l := h + 6) s.gr (by have := hht.out; omega) o
      obtain ⟨W3, hW3⟩ : ∃ W3, W2.putObj (h + 6) o = W3 := ⟨_, rfl⟩
      rw [hW3] at res hD hG ⊢
      clear hW3 s hj
      replace res := hid res
      replace hD := hid hD
      replace hG := hid hG
      gi_wp2
      refine held_leaves (g := h + 2) (x := false) rfl res.out (by omega) hD.out ?_
      exact ⟨by rw [hs.out], grown_put hG.out (by have := hht.out; omega) _⟩

set_option maxHeartbeats 2000000 in
theorem held_plain (A B : Option Addr) (c d : Nat) (xs ys : List Int) (w : World) (hl : xs.length = ys.length) (hx : xs.length ≤ 100000) (hbx : Bytes xs) (hby : Bytes ys) (hA : Arr w .u8 A xs) (hB : Arr w .u8 B ys) (u : Value) :
    Calls Try.prog 94 #[.agg #[.slice A xs.length c], .slice B ys.length d, .func (.func 98) #[.agg #[u]] #[]] w fun e w' => e = .returned (.bool (same false xs ys)) ∧ w.grownBy w' none := by
  obtain ⟨h, hh⟩ : ∃ h, w.heap.size = h := ⟨_, rfl⟩
  refine (callsIn_wide (n := 0)).1 ?_
  refine callsIn_of_wp_marks Try.func94 rfl trivial ?_ rfl
  simp only [Try.ntmps94, List.size_toArray, List.length_cons, List.length_nil, Nat.reduceAdd, Nat.reduceSub, Array.replicate_succ, Array.replicate_zero, List.push_toArray, List.append_toArray, List.nil_append, List.cons_append]
  have hht := hid hh
  have hA' := hid hA
  have hB' := hid hB
  have hbx' := hid hbx
  have hby' := hid hby
  have hl' := hid hl
  have hne : ((xs.length : Int) != (ys.length : Int)) = false := by rw [hl]; simp
  clear hh hA hB hbx hby hl
  gi_wp2_with fail
  refine ⟨trivial, rfl, ?_⟩
  refine (callsIn_wide.2 (beside_is _ _ _ _ _)).mono ?_
  rintro e w2 ⟨rfl, rfl⟩
  gi_wp2
  refine range_wide (gf := 99) rfl (enters_of Try.func99 (by kernel_rfl) rfl) (fun fn rc hrc => ?_)
  replace hrc := hid hrc
  simp only [World.size_alloc, hht.out, Nat.add_assoc, Nat.reduceAdd] at hrc ⊢
  obtain ⟨F, hF⟩ : ∃ F, Value.func (.func 98) #[.agg #[u]] #[] = F := ⟨_, rfl⟩
  obtain ⟨W1, hW1⟩ : ∃ W1, (((((((w.alloc (.cells #[.slice A xs.length c] 117)).alloc (.cells #[.func (.func 98) #[.agg #[u]] #[]] 121)).alloc (.cells #[.bool false] 4)).alloc
    (.cells #[.slice A xs.length c] 117)).alloc (.cells #[.slice B ys.length d] 28)).alloc (Obj.deferred (some []))).alloc (Obj.loop (rc .ready none))) = W1 := ⟨_, rfl⟩
  rw [hW1]
  have hN : HeldAt w h u F A B c d xs.length ys.length rc W1 := by
    subst hW1
    subst hF
    exact {
      fn := (((((Holds.new_at 121 _ (by simp [hht.out])).alloc _).alloc _).alloc _).alloc _).alloc _
      res := ((((Holds.new_at 4 _ (by simp [hht.out])).alloc _).alloc _).alloc _).alloc _
      bx := (((Holds.new_at 117 _ (by simp [hht.out])).alloc _).alloc _).alloc _
      by_ := ((Holds.new_at 28 _ (by simp [hht.out])).alloc _).alloc _
      dfr := other_alloc (alloc_at _ (by simp [hht.out]))
      record := alloc_at _ (by simp [hht.out])
      gr := grown_alloc (grown_alloc (grown_alloc (grown_alloc (grown_alloc (grown_alloc (grown_alloc (grown_refl w _) _) _) _) _) _) _) _ }
  clear hW1
  replace hF := hid hF
  refine CallsIn.mono (beside_in (h + 6) (h + 3) (h + 4) A B c d xs ys hl'.out hx w hA'.out hB'.out
    (fun i W => HeldAt w h u F A B c d xs.length ys.length rc W ∧ ∀ j, j < i → xs.getD j 0 = ys.getD j 0)
    (fun W => HeldEnd w h rc W ∧ ∃ j, xs.getD j 0 ≠ ys.getD j 0) W1 (fun i W s => ⟨s.1.gr, s.1.bx, s.1.by_⟩) ?round ⟨hN, fun j hj => absurd hj (Nat.not_lt_zero _)⟩) ?behind
  case round =>
    rintro i W ⟨s, hall⟩ hi
    obtain ⟨hx0, hx1⟩ := hbx'.out i
    obtain ⟨hy0, hy1⟩ := hby'.out i
    have hyes := hid (fun (e : xs.getD i 0 = ys.getD i 0) => fun j (hj : j < i + 1) => (by
      by_cases hji : j < i
      · exact hall j hji
      · obtain rfl : j = i := by omega
        exact e : xs.getD j 0 = ys.getD j 0))
    have hno := hid (fun (e : xs.getD i 0 ≠ ys.getD i 0) => (⟨i, e⟩ : ∃ j, xs.getD j 0 ≠ ys.getD j 0))
    clear hall
    generalize xs.getD i 0 = x at hx0 hx1 hyes hno ⊢
    generalize ys.getD i 0 = y at hy0 hy1 hyes hno ⊢
    have Hs := hid s
    refine round_wide hrc.out Hs.out.record rfl fun K hK => ?_
    replace hK := hid hK
    gi_wp2
    refine hK.out _ ?_
    clear hK
    clear K
    obtain ⟨Wb, hWb⟩ : ∃ Wb, W.putObj (h + 6) (.loop (rc .busy none)) = Wb := ⟨_, rfl⟩
    rw [hWb]
    have hT : Holds Wb (h + 1) 121 #[F] := hWb ▸ Hs.out.fn.put (by omega) _
    have hrb : Wb.heap[h + 6]? = some (.loop (rc .busy none)) := hWb ▸ World.putObj_heap_same (Array.getElem?_eq_some_iff.1 Hs.out.record).1
    have hres : Holds Wb (h + 2) 4 #[.bool false] := hWb ▸ Hs.out.res.put (by omega) _
    have hbxw : Holds Wb (h + 3) 117 #[.slice A xs.length c] := hWb ▸ Hs.out.bx.put (by omega) _
    have hbyw : Holds Wb (h + 4) 28 #[.slice B ys.length d] := hWb ▸ Hs.out.by_.put (by omega) _
    have hdf : Wb.heap[h + 5]? = some (.deferred (some [])) := hWb ▸ (World.putObj_heap_other (by omega)).trans Hs.out.dfr
    have hgr : w.grownBy Wb none := hWb ▸ grown_put Hs.out.gr (by have := hht.out; omega) _
    have hcf := hT.cell 0
    simp at hcf
    rw [← hF.out] at hcf
    clear hWb Hs s
    replace hrb := hid hrb
    replace hres := hid hres
    replace hbxw := hid hbxw
    replace hbyw := hid hbyw
    replace hdf := hid hdf
    replace hgr := hid hgr
    replace hT := hid hT
    gi_wp2_with fail
    refine ⟨trivial, rfl, ?_⟩
    refine (wideAt_calls (r := some (h + 6)) (plainAlike_is _ x y Wb)).mono ?_
    rintro e w3 ⟨rfl, hg3⟩
    have keep : ∀ (l : Nat) (o : Obj), Wb.heap[l]? = some o → w3.heap[l]? = some o := fun l o ho => (hg3.block l (Array.getElem?_eq_some_iff.1 ho).1 (by simp)).trans ho
    have hr3 := keep _ _ hrb.out
    have hd3 := keep _ _ hdf.out
    have res3 := hres.out.kept0 hg3
    have hF3 := hT.out.kept0 hg3
    have hX3 := hbxw.out.kept0 hg3
    have hY3 := hbyw.out.kept0 hg3
    have hG3 := grown_trans hgr.out hg3
    clear keep hg3
    by_cases e : x = y
    · have he : (x == y) = true := by simp [e]
      rw [he]
      have hN : HeldAt w h u F A B c d xs.length ys.length rc (w3.putObj (h + 6) (.loop (rc .ready none))) := {
        fn := hF3.put (by omega) _
        res := res3.put (by omega) _
        bx := hX3.put (by omega) _
        by_ := hY3.put (by omega) _
        dfr := (World.putObj_heap_other (by omega)).trans hd3
        record := World.putObj_heap_same (Array.getElem?_eq_some_iff.1 hr3).1
        gr := grown_put hG3 (by have := hht.out; omega) _ }
      have hall := hyes.out e
      replace hr3 := hid hr3
      clear hd3 res3 hF3 hX3 hY3 hG3
      replace hN := hid hN
      replace hall := hid hall
      clear hyes hno he
      gi_wp2
      exact ⟨hr3.out, hN.out, by simpa using hall.out⟩
    · have he : (x == y) = false := by simp [e]
      rw [he]
      have hex := hid (hno.out e)
      have hc3 := res3.cell 0
      have hf3 := res3.free 0
      simp at hc3
      have rs := res3.set 0 (.bool false)
      simp at rs
      have hr4 := other_set (p := ⟨h + 2, 0, none⟩) hr3 (by simp) (.bool false)
      have hd4 := other_set (p := ⟨h + 2, 0, none⟩) hd3 (by simp) (.bool false)
      have hE : HeldEnd w h rc ((w3.setCell ⟨h + 2, 0, none⟩ (.bool false)).putObj (h + 6) (.loop (rc .done (some .ret)))) := {
        res := rs.put (by omega) _
        dfr := (World.putObj_heap_other (by omega)).trans hd4
        record := World.putObj_heap_same (Array.getElem?_eq_some_iff.1 hr4).1
        gr := grown_put (grown_set hG3 (.inr (by have := hht.out; simp; omega)) _) (by have := hht.out; omega) _ }
      have hl3 := res3.lt
      replace hr4 := hid hr4
      replace hE := hid hE
      clear hr3 hd3 res3 hF3 hX3 hY3 hG3 rs hd4 hyes hno he e
      gi_wp2
      exact ⟨hr4.out, hE.out, by simpa using hex.out⟩
  case behind =>
    rintro e W2 ⟨hv, ⟨s, hall⟩ | ⟨s, hex⟩⟩
    · refine ⟨hv, .inl ⟨s.record, fun o => ?_⟩⟩
      have hs : Hid (same false xs ys = true) := same_all _ _ _ hl'.out hall
      have res := s.res.put (l := h + 6) (by omega) o
      have hD := (World.putObj_heap_other (o := o) (r := h + 6) (k := h + 5) (by omega)).trans s.dfr
      have hG := grown_put (l := h + 6) s.gr (by have := hht.out; omega) o
      obtain ⟨W3, hW3⟩ : ∃ W3, W2.putObj (h + 6) o = W3 := ⟨_, rfl⟩
      rw [hW3] at res hD hG ⊢
      clear hW3 s hall
      have c_0 := res.cell 0
      have f_0 := res.free 0
      have l_0 := res.lt
      simp at c_0
      have rs := res.set 0 (.bool true)
      simp at rs
      replace rs := hid rs
      replace hD := hid hD
      replace hG := hid hG
      clear res
      gi_wp2
      refine held_leaves (g := h + 2) (x := true) rfl rs.out (by omega) (other_set hD.out (by simp) _) ?_
      exact ⟨by rw [hs.out], grown_put (grown_set hG.out (.inr (by have := hht.out; simp; omega)) _) (by have := hht.out; omega) _⟩
    · refine ⟨hv, .inr ⟨_, s.record, fun o => ?_⟩⟩
      obtain ⟨j, hj⟩ := hex
      have hs : Hid (same false xs ys = false) := same_one _ _ _ j hj
      have res := s.res.put (l := h + 6) (by omega) o
      have hD := (World.putObj_heap_other (o := o) (r := h + 6) (k := h + 5) (by omega)).trans s.dfr
      have hG := grown_put (l := h + 6) s.gr (by have := hht.out; omega) o
      obtain ⟨W3, hW3⟩ : ∃ W3, W2.putObj (h + 6) o = W3 := ⟨_, rfl⟩
      rw [hW3] at res hD hG ⊢
      clear hW3 s hj
      replace res := hid res
      replace hD := hid hD
      replace hG := hid hG
      gi_wp2
      refine held_leaves (g := h + 2) (x := false) rfl res.out (by omega) hD.out ?_
      exact ⟨by rw [hs.out], grown_put hG.out (by have := hht.out; omega) _⟩

theorem held_is (f : Bool) (A B : Option Addr) (c d : Nat) (xs ys : List Int) (w : World) (hx : xs.length ≤ 100000) (hbx : Bytes xs) (hby : Bytes ys) (hA : Arr w .u8 A xs) (hB : Arr w .u8 B ys) (u : Value) :
    Calls Try.prog 94 #[.agg #[.slice A xs.length c], .slice B ys.length d, .func (.func (if f = true then 97 else 98)) #[.agg #[u]] #[]] w fun e w' =>
      e = .returned (.bool (same f xs ys)) ∧ w.grownBy w' none := by
  by_cases hl : xs.length = ys.length
  · cases f with
    | true => exact held_fold A B c d xs ys w hl hx hbx hby hA hB u
    | false => exact held_plain A B c d xs ys w hl hx hbx hby hA hB u
  · rw [same_len f xs ys hl]
    exact held_len A B c d _ _ _ _ _ w hl
end Go.Proofs.Ytojbkhheaondhaa

namespace Go.Proofs.Ytojbkhheaondhaa
open Go.RowKit PlainLetter Go.Shelf
attribute [local go_sem] Oper.semAt_some

set_option maxHeartbeats 1000000 in
theorem letAll_in (l bx : Nat) (P : Option Addr) (c : Nat) (As : Nat → Option Addr) (Cs : Nat → Nat) (xss : List (List Int)) (hn : xss.length ≤ 100000) (hS : ∀ k, (xss.getD k []).length ≤ 100000) (J : List Int → World → Prop) (W0 : World)
    (hJs : ∀ pre W, J pre W → RowsAt W P As Cs xss ∧ Holds W bx 22 #[.slice P xss.length c])
    (hY : ∀ pre y W, J pre W → pre.length < xss.flatten.length → (∃ k m, y = (xss.getD k []).getD m 0) → YieldAt Fence.wide 0 Try.prog l #[.int .u8 y] W (fun e W' => e = .returned (.bool true) ∧ J (pre ++ [y]) W'))
    (h0 : J [] W0) :
    CallsIn Fence.wide 0 Try.prog 93 #[.func (.yield l) #[] #[], .pointer (some ⟨bx, 0, none⟩)] W0 fun e W' => (∃ v, e = .returned v) ∧ J xss.flatten W' := by
  replace hS := hid hS
  replace hJs := hid hJs
  replace hY := hid hY
  have hc0 := (hJs.out _ _ h0).2.cell 0
  simp at hc0
  refine callsIn_of_wp Try.func93 rfl trivial ?_ rfl
  simp only [Try.ntmps93, List.size_toArray, List.length_cons, List.length_nil, Nat.reduceAdd, Nat.reduceSub, Array.replicate_succ, Array.replicate_zero, List.push_toArray, List.append_toArray, List.nil_append, List.cons_append]
  gi_wp2
  gi_loopw [9] (fun i wr => ∃ k : Nat, k ≤ xss.length ∧ i = .int .i64 k ∧ J (xss.take k).flatten wr) (fun i _ => xss.length - (intOf i).toNat)
  case atStart => exact ⟨0, by omega, rfl, h0⟩
  case round =>
    clear hc0 h0
    obtain ⟨k, hk, rfl, hJ⟩ := hrel
    by_cases hlt : k < xss.length
    · obtain ⟨b, off, rfl, hb, hcell, _⟩ := (hJs.out _ _ hJ).1 k hlt
      have hrow : Hid (∀ pre W, J pre W → Arr W .u8 (As k) (xss.getD k [])) := fun pre W h => by
        obtain ⟨_, _, _, _, _, h4⟩ := (hJs.out _ _ h).1 k hlt
        exact h4
      have hT := hid (congrArg List.flatten (take_getD xss k [] hlt))
      have hxl := hS.out k
      have hle : Hid ((xss.take k).flatten.length + (xss.getD k []).length ≤ xss.flatten.length) := by
        have h1 := congrArg (fun l => (List.flatten l).length) (List.take_append_drop (k + 1) xss)
        rw [List.flatten_append, List.length_append, hT.out, List.flatten_append, List.length_append] at h1
        simp only [List.flatten_cons, List.flatten_nil, List.append_nil] at h1
        exact hid (by omega)
      generalize hxs : xss.getD k [] = xs at hcell hrow hT hxl hle
      replace hxs := hid hxs
      gi_wp2
      obtain ⟨wo, rfl⟩ : ∃ wo : World, wo = wr := ⟨_, rfl⟩
      gi_loopw [15] (fun j wx => ∃ m : Nat, m ≤ xs.length ∧ j = .int .i64 m ∧ J ((xss.take k).flatten ++ xs.take m) wx) (fun j _ => xs.length - (intOf j).toNat)
      case atStart => exact ⟨0, by omega, rfl, by simpa using hJ⟩
      case round =>
        clear hJ hcell
        obtain ⟨m, hm, rfl, hJ⟩ := hrel
        by_cases hmt : m < xs.length
        · obtain ⟨b1, off1, hb0, hb1, hc⟩ := (hrow.out _ _ hJ).at_ hmt
          have hck := hc m hmt
          have hF := hid (show (xss.take k).flatten ++ xs.take (m + 1) = (xss.take k).flatten ++ xs.take m ++ [xs.getD m 0] by rw [take_getD xs m 0 hmt, List.append_assoc])
          clear hc
          have hy := hY.out _ (xs.getD m 0) _ hJ (by have := hle.out; rw [List.length_append, List.length_take]; omega) ⟨k, m, by rw [hxs.out]⟩
          generalize xs.getD m 0 = y at hck hF hy
          replace hJ := hid hJ
          replace hb0 := hid hb0
          obtain ⟨fn, tmps, assign, body, hyy, hR⟩ := hy
          rw [hb0.out]
          gi_wp2
          refine ⟨rfl, hR.mono ?_⟩
          rintro e W2 ⟨rfl, hJ2⟩
          gi_wp2
          go_roundw
          case rel => exact ⟨m + 1, by omega, by go_num, by rw [hF.out]; exact hJ2⟩
          case measure => simp [intOf]; omega
        · obtain rfl : m = xs.length := by omega
          rw [List.take_length] at hJ
          gi_wp2
          go_roundw
          case rel => exact ⟨k + 1, by omega, by go_num, by rw [hT.out, List.flatten_append]; simpa using hJ⟩
          case measure => simp [intOf]; omega
    · obtain rfl : k = xss.length := by omega
      rw [List.take_length] at hJ
      gi_wp2
      go_end0
      exact ⟨⟨_, rfl⟩, hJ⟩
end Go.Proofs.Ytojbkhheaondhaa
