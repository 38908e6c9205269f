/- Package patset: the numbers of the words' beginnings, one by one. Package patset: how many beginnings there are. -/
import Derived.Test.YtojbkhheaondhaaK17
set_option linter.unusedSimpArgs false
set_option linter.unusedVariables false
set_option maxRecDepth 100000
namespace Go.Proofs.Ytojbkhheaondhaa
open Go.RowKit PlainLetter PlainPatset PlainNumbers Go.Shelf
attribute [local go_sem] Oper.semAt_some run_store_func

theorem beginnings_is (f : Bool) (P : Option Addr) (n c : Nat) (w : World) :
    Calls Try.prog 86 #[.agg #[.slice P n c, .bool f]] w fun e w' =>
      e = .returned (.func (.func 91) #[] #[.pointer (some ⟨w.heap.size, 0, none⟩)]) ∧
      isLook w' w.heap.size f P n c ∧ w.grownBy w' none ∧ w'.heap.size = w.heap.size + 1 := by
  go_enter Try.func86, Try.ntmps86
  go_wp2_with fail
  go_ret
  exact ⟨rfl, Holds.new _ _ _, grown_alloc (grown_refl w none) _, by simp⟩

/-- What stood from block B on stands. -/
def Above (B : Nat) (W W' : World) : Prop := W.heap.size ≤ W'.heap.size ∧ ∀ k o, B ≤ k → W.heap[k]? = some o → W'.heap[k]? = some o

/-- Between two bytes, or two words: what the iterator has of its own, and what stands outside. -/
structure BAt (J : Nat → World → Prop) (base l bn bk bm bx bf d2 l2 : Nat) (f : Bool) (P : Option Addr) (n c : Nat) (rc : LoopState → Option Code → Loop) (st : LoopState) (ps : List (List Int)) (W : World) : Prop where
  outer : J ps.length W
  size : base ≤ W.heap.size
  yb : Holds W bn 96 #[.func (.yield l) #[] #[]]
  kb : Holds W bk 112 #[.map (some bm)]
  map : MapAt W bm (keys ps)
  lk : isLook W bx f P n c
  fn : isOwnF W bf f
  mark : W.heap[d2]? = some (.deferred (some []))
  record : W.heap[l2]? = some (.loop (rc st none))

section
variable {J : Nat → World → Prop} {base l bn bk bm bx bf d2 l2 : Nat} {f : Bool} {P : Option Addr} {n c : Nat} {rc : LoopState → Option Code → Loop} {st st' : LoopState} {ps ps' : List (List Int)} {W W' : World}

theorem BAt.to (s : BAt J base l bn bk bm bx bf d2 l2 f P n c rc st ps W) (hlo : base ≤ bn ∧ base ≤ bk ∧ base ≤ bm ∧ base ≤ bx ∧ base ≤ bf ∧ base ≤ d2 ∧ base ≤ l2) (ho : J ps'.length W') (hsz : W.heap.size ≤ W'.heap.size)
    (hk : ∀ k o, base ≤ k → W.heap[k]? = some o → (o.isCells = true ∨ k = d2) → W'.heap[k]? = some o) (hm : MapAt W' bm (keys ps')) (hr : W'.heap[l2]? = some (.loop (rc st' none))) :
    BAt J base l bn bk bm bx bf d2 l2 f P n c rc st' ps' W' :=
  ⟨ho, Nat.le_trans s.size hsz, hk _ _ hlo.1 s.yb (.inl rfl), hk _ _ hlo.2.1 s.kb (.inl rfl), hm, hk _ _ hlo.2.2.2.1 s.lk (.inl rfl), hk _ _ hlo.2.2.2.2.1 s.fn (.inl rfl), hk _ _ hlo.2.2.2.2.2.1 s.mark (.inr rfl), hr⟩

theorem grown_same {w w' : World} (h : w.grownBy w' none) {k : Nat} {o : Obj} (hk : w.heap[k]? = some o) : w'.heap[k]? = some o := (h.block k (Array.getElem?_eq_some_iff.1 hk).1 (by simp)).trans hk
theorem grown_but {w w' : World} {b : Nat} (h : w.grownBy w' (some b)) {k : Nat} {o : Obj} (hne : k ≠ b) (hk : w.heap[k]? = some o) : w'.heap[k]? = some o := (h.block k (Array.getElem?_eq_some_iff.1 hk).1 (fun e => hne (by injection e))).trans hk

/-- New memory. -/
theorem BAt.grown (s : BAt J base l bn bk bm bx bf d2 l2 f P n c rc st ps W) (hlo : base ≤ bn ∧ base ≤ bk ∧ base ≤ bm ∧ base ≤ bx ∧ base ≤ bf ∧ base ≤ d2 ∧ base ≤ l2) (hJB : ∀ m W W', J m W → Below base W W' → J m W') (hg : W.grownBy W' none) : BAt J base l bn bk bm bx bf d2 l2 f P n c rc st ps W' :=
  s.to hlo (hJB _ _ _ s.outer (below_of_grown hg s.size (by simp))) hg.size (fun k o _ hk _ => grown_same hg hk) (s.map.kept hg (by simp)) (grown_same hg s.record)

/-- The map has turned. -/
theorem BAt.turned (s : BAt J base l bn bk bm bx bf d2 l2 f P n c rc st ps W) (hlo : base ≤ bn ∧ base ≤ bk ∧ base ≤ bm ∧ base ≤ bx ∧ base ≤ bf ∧ base ≤ d2 ∧ base ≤ l2) (hJB : ∀ m W W', J m W → Below base W W' → J m W') (hg : W.grownBy W' (some bm)) :
    J ps.length W' ∧ base ≤ W'.heap.size ∧ (∀ k o, base ≤ k → W.heap[k]? = some o → (o.isCells = true ∨ k = d2 ∨ k = l2) → W'.heap[k]? = some o) := by
  refine ⟨hJB _ _ _ s.outer (below_of_grown hg s.size (fun k e => by injection e with e; subst e; exact hlo.2.2.1)), Nat.le_trans s.size hg.size, fun k o _ hk hc => grown_but hg ?_ hk⟩
  rintro rfl
  obtain ⟨es, clock, hb, _⟩ := s.map
  rw [hb] at hk
  injection hk with hk
  rcases hc with hc | rfl | rfl
  · subst hk; cases hc
  · have := s.mark; rw [hb] at this; cases this
  · have := s.record; rw [hb] at this; cases this
end

theorem OwnBytes.same {w w' : World} {base : Nat} {x : Sl} (h : OwnBytes w base x) (hk : ∀ k o, base ≤ k → w.heap[k]? = some o → o.isCells = true → w'.heap[k]? = some o) : OwnBytes w' base x := by
  obtain ⟨h1, h2⟩ := h
  refine ⟨h1, h2.imp id ?_⟩
  rintro ⟨g, cap, cur, a1, a2, a3, a4⟩
  exact ⟨g, cap, cur, a1, a2, hk _ _ a2 a3 rfl, a4⟩

theorem flatten_fold_len (f : Bool) : ∀ l : List (List Int), (l.map (foldIf f)).flatten.length = l.flatten.length
  | [] => rfl
  | x :: l => by
    have := flatten_fold_len f l
    simp only [List.map_cons, List.flatten_cons, List.length_append, this, foldIf_length]

theorem grown_put' (w : World) (q : Nat) (o : Obj) : w.grownBy (w.putObj q o) (some q) :=
  ⟨rfl, rfl, rfl, by simp, fun k hk hne => World.putObj_heap_other (fun e => hne (by rw [e]))⟩

theorem key_ok (n : Nat) (c : Int) (hn : n ≤ 1000000) (h0 : 0 ≤ c) (h1 : c ≤ 255) : KeyOk (((n : Nat) : Int), c) := by
  have e1 : IntKind.min .i64 = -9223372036854775808 := by decide
  have e2 : IntKind.max .i64 = 9223372036854775807 := by decide
  have e3 : IntKind.min .u8 = 0 := by decide
  have e4 : IntKind.max .u8 = 255 := by decide
  refine ⟨?_, ?_⟩
  · simp only [Lit.wf, e1, e2, Bool.and_eq_true, decide_eq_true_eq]; omega
  · simp only [Lit.wf, e3, e4, Bool.and_eq_true, decide_eq_true_eq]; omega

theorem MapAt.same {w w' : World} {b : Nat} {ks : List (Int × Int)} (h : MapAt w b ks) (hk : ∀ o, w.heap[b]? = some o → w'.heap[b]? = some o) : MapAt w' b ks := by
  obtain ⟨es, clock, hb, hr⟩ := h
  exact ⟨es, clock, hk _ hb, hr⟩

/-- The end of a function without results: the loop's mark taken up. -/
theorem bgn_leaves {W : World} {d : Nat} {T : Array Value} {R : Ending → World → Prop} (hD : W.heap[d]? = some (.deferred (some []))) (hR : ∀ v, R (.returned v) (W.putObj d (.deferred none))) {E : Exit} (hE : E = .normal ∨ E = .ret) :
    bodyPostM Fence.wide 0 Try.prog Try.f91 R E { tmps := T, defers := [{ target := .collected d, args := #[] }] } W := by
  have key : LeavesInM Fence.wide 0 Try.prog Try.f91 T R [{ target := .collected d, args := #[] }] .returning W := by
    refine ⟨by simp, .inl ⟨_, _, rfl, run_takeDeferred hD, ?_⟩⟩
    exact ⟨.tuple #[], by simp [results, Try.results91], hR _⟩
  rcases hE with rfl | rfl
  · exact key
  · exact key

set_option maxHeartbeats 4000000 in
theorem bgn_in (l bl : Nat) (f : Bool) (P : Option Addr) (c : Nat) (As : Nat → Option Addr) (Cs : Nat → Nat) (xss : List (List Int)) (hn : xss.length ≤ 100000) (hS : ∀ k, (xss.getD k []).length ≤ 100000) (hB : ∀ k, Bytes (xss.getD k [])) (ht : xss.flatten.length ≤ 99999)
    (J : Nat → World → Prop) (W0 : World)
    (hJs : ∀ m W, J m W → RowsAt W P As Cs xss ∧ isLook W bl f P xss.length c)
    (hJB : ∀ m W W', J m W → Below W0.heap.size W W' → J m W')
    (hY : ∀ m n W, J m W → n ≤ m + 1 → m ≤ 100000 → W0.heap.size ≤ W.heap.size → YieldAt Fence.wide 0 Try.prog l #[.int .i64 (n : Nat)] W (fun e W' => e = .returned (.bool true) ∧ J (max m n) W' ∧ Above W0.heap.size W W'))
    (h0 : J 0 W0) :
    CallsIn Fence.wide 0 Try.prog 91 #[.func (.yield l) #[] #[], .pointer (some ⟨bl, 0, none⟩)] W0 fun e W' => (∃ v, e = .returned v) ∧ J (allP [] (xss.map (foldIf f))).length W' := by
  have hmm := @run_makeMap Try.prog
  obtain ⟨h, hh⟩ : ∃ h, W0.heap.size = h := ⟨_, rfl⟩
  have hl0 := (((((hJs _ _ h0).2 : Holds _ _ _ _).alloc (.cells #[.func (.yield l) #[] #[]] 96)).alloc (.map #[] 0)).alloc (.cells #[.map (some (h + 1))] 112))
  have b0 := (hl0.cell 0).trans (show _ = some (Value.slice P xss.length c) from rfl)
  have b1 := (hl0.cell 1).trans (show _ = some (Value.bool f) from rfl)
  have hyb := ((Holds.new_at 96 #[.func (.yield l) #[] #[]] hh).alloc (.map #[] 0)).alloc (.cells #[.map (some (h + 1))] 112)
  have hkb : Holds (((W0.alloc (.cells #[.func (.yield l) #[] #[]] 96)).alloc (.map #[] 0)).alloc (.cells #[.map (some (h + 1))] 112)) (h + 2) 112 #[.map (some (h + 1))] := Holds.new_at _ _ (by simp; omega)
  have hmp := MapAt.made (W0.alloc (.cells #[.func (.yield l) #[] #[]] 96))
  rw [World.size_alloc, hh] at hmp
  replace hmp := hmp.kept (grown_alloc (grown_refl _ none) (.cells #[.map (some (h + 1))] 112)) (by simp)
  have hgr := grown_alloc (grown_alloc (grown_alloc (grown_refl W0 none) (.cells #[.func (.yield l) #[] #[]] 96)) (.map #[] 0)) (.cells #[.map (some (h + 1))] 112)
  have hsz : (((W0.alloc (.cells #[.func (.yield l) #[] #[]] 96)).alloc (.map #[] 0)).alloc (.cells #[.map (some (h + 1))] 112)).heap.size = h + 3 := by simp; omega
  replace hyb := hid hyb
  replace hkb := hid hkb
  replace hmp := hid hmp
  replace hgr := hid hgr
  replace hsz := hid hsz
  clear hl0
  replace hS := hid hS
  replace hB := hid hB
  replace hJs := hid hJs
  replace hJB := hid hJB
  replace hY := hid hY
  refine callsIn_of_wp_marks Try.func91 rfl trivial ?_ rfl
  simp only [Try.ntmps91, List.size_toArray, List.length_cons, List.length_nil, Nat.reduceAdd, Nat.reduceSub, Array.replicate_succ, Array.replicate_zero, List.push_toArray, List.append_toArray, List.nil_append, List.cons_append]
  gi_wp2
  refine ⟨trivial, rfl, ?_⟩
  refine (callsIn_wide.2 (told_is f P xss.length c _)).mono ?_
  rintro e w2 ⟨rfl, hlk, hfn, hg2, hsz2⟩
  rw [hsz.out] at hlk hfn hsz2 ⊢
  replace hyb := hid (hyb.out.kept0 hg2)
  replace hkb := hid (hkb.out.kept0 hg2)
  replace hmp := hid (hmp.out.kept hg2 (by simp))
  have hJ2 := hid (hJB.out _ _ _ h0 (below_of_grown (grown_trans hgr.out hg2) (Nat.le_refl _) (by simp)))
  have hsz3 : w2.heap.size = h + 5 := by omega
  have hht := hid hh
  replace hlk := hid hlk
  replace hfn := hid hfn
  clear hh h0 b0 b1 hgr hg2 hsz2 hsz hmm
  gi_wp2
  refine range_wide (gf := 79) rfl (enters_of Try.func79 (by kernel_rfl) rfl) (fun fn rc hrc => ?_)
  replace hrc := hid hrc
  replace hsz3 := hid hsz3
  simp only [hsz3.out, Nat.add_assoc, Nat.reduceAdd] at hrc ⊢
  obtain ⟨W1, hW1⟩ : ∃ W1, (w2.alloc (Obj.deferred (some []))).alloc (Obj.loop (rc .ready none)) = W1 := ⟨_, rfl⟩
  rw [hW1]
  have hlo : Hid (h ≤ h ∧ h ≤ h + 2 ∧ h ≤ h + 1 ∧ h ≤ h + 3 ∧ h ≤ h + 4 ∧ h ≤ h + 5 ∧ h ≤ h + 6) := hid ⟨by omega, by omega, by omega, by omega, by omega, by omega, by omega⟩
  have hN : BAt J h l h (h + 2) (h + 1) (h + 3) (h + 4) (h + 5) (h + 6) f P xss.length c rc .ready (allP [] ((xss.take 0).map (foldIf f))) W1 := by
    have hg : w2.grownBy W1 none := by rw [← hW1]; exact grown_alloc (grown_alloc (grown_refl w2 none) _) _
    have hs : W1.heap.size = h + 7 := by rw [← hW1]; simp [hsz3.out]
    refine ⟨hJB.out _ _ _ hJ2.out (below_of_grown hg (by rw [hht.out, hsz3.out]; omega) (by simp)), by omega, hyb.out.kept0 hg, hkb.out.kept0 hg, ?_, hlk.out.kept0 hg, hfn.out.kept0 hg, ?_, ?_⟩
    · rw [List.take_zero]
      exact hmp.out.kept hg (by simp)
    · rw [← hW1]; exact other_alloc (alloc_at _ hsz3.out)
    · rw [← hW1]; exact alloc_at _ (by simp [hsz3.out])
  have hh := hht
  rw [hht.out] at hJB hY
  clear hW1 hyb hkb hmp hlk hfn hJ2 hsz3
  refine CallsIn.mono (told_in (h + 6) (h + 3) (h + 4) h f P c As Cs xss hn hS.out hB.out
    (fun k => BAt J h l h (h + 2) (h + 1) (h + 3) (h + 4) (h + 5) (h + 6) f P xss.length c rc .ready (allP [] ((xss.take k).map (foldIf f)))) W1 ?at_ ?gr ?round hN) ?behind
  case at_ =>
    intro k W s
    exact ⟨(hJs.out _ _ s.outer).1, s.lk, s.fn, s.size⟩
  case gr =>
    intro k W W' s hg
    exact s.grown hlo.out hJB.out hg
  case round =>
    intro k W A cw hk s hown
    have hnext := hid (all_snoc (foldIf f (xss.getD k [])) ((xss.take k).map (foldIf f)) [])
    have htk : (xss.take k).map (foldIf f) ++ [foldIf f (xss.getD k [])] = (xss.take (k + 1)).map (foldIf f) := by rw [take_getD xss k [] hk, List.map_append]; rfl
    rw [htk] at hnext
    have hgood := all_good ((xss.take k).map (foldIf f)) good_nil
    have hzl := foldIf_length f (xss.getD k [])
    have hlen : (allP [] ((xss.take k).map (foldIf f))).length + (foldIf f (xss.getD k [])).length ≤ 99999 := by
      have e1 := allP_len_le ((xss.take k).map (foldIf f)) []
      have e2 := flatten_take_succ xss k hk
      have e3 := flatten_take_le xss (k + 1)
      rw [e2, List.length_append] at e3
      have e4 : ((xss.take k).map (foldIf f)).flatten.length = (xss.take k).flatten.length := flatten_fold_len f _
      simp only [List.length_nil, Nat.zero_add] at e1
      omega
    have hbz := (hB.out k).foldIf (f := f)
    rw [← hzl]
    generalize foldIf f (xss.getD k []) = zs at hnext hown hlen hbz ⊢
    generalize hps : allP [] ((xss.take k).map (foldIf f)) = ps at hnext hgood hlen s ⊢
    replace hgood := hid hgood
    replace hbz := hid hbz
    replace hnext := hid hnext
    have Hs := hid s
    clear htk hps hzl
    refine round_wide hrc.out Hs.out.record rfl fun K hK => ?_
    replace hK := hid hK
    gi_wp2
    refine hK.out _ ?_
    clear hK
    clear K
    obtain ⟨Wb, hWb⟩ : ∃ Wb, W.putObj (h + 6) (.loop (rc .busy none)) = Wb := ⟨_, rfl⟩
    have hso : ∀ q o, q ≠ h + 6 → W.heap[q]? = some o → Wb.heap[q]? = some o := fun q o hq ho => by rw [← hWb]; exact (World.putObj_heap_other hq).trans ho
    have sb : BAt J h l h (h + 2) (h + 1) (h + 3) (h + 4) (h + 5) (h + 6) f P xss.length c rc .busy ps Wb := by
      have hgb : W.grownBy Wb (some (h + 6)) := by rw [← hWb]; exact grown_put' W (h + 6) _
      refine s.to hlo.out (hJB.out _ _ _ s.outer (below_of_grown hgb s.size (fun q e => by injection e with e; omega))) hgb.size (fun q o hq ho hc => hso q o ?_ ho) (s.map.kept hgb ?_) (by rw [← hWb]; exact World.putObj_heap_same (Array.getElem?_eq_some_iff.1 s.record).1)
      · rintro rfl
        rcases hc with hc | hc
        · rw [s.record] at ho; injection ho with ho; subst ho; cases hc
        · omega
      · intro e; injection e with e; omega
    have hownb : OwnBytes Wb h (A, zs, cw) := hown.same (fun q o hq ho hc => hso q o (by
      rintro rfl
      rw [s.record] at ho; injection ho with ho; subst ho; cases hc) ho)
    rw [hWb]
    clear hWb hso hown s Hs
    gi_wp2
    gi_loopw [5, 14] (fun n i wx => ∃ j : Nat, j ≤ zs.length ∧ i = .int .i64 j ∧ n = .int .i64 (posn (wordP ps zs j) (zs.take j) : Nat) ∧ BAt J h l h (h + 2) (h + 1) (h + 3) (h + 4) (h + 5) (h + 6) f P xss.length c rc .busy (wordP ps zs j) wx ∧ OwnBytes wx h (A, zs, cw)) (fun _ i _ => zs.length - (intOf i).toNat)
    case atStart => exact ⟨0, by omega, rfl, rfl, sb, hownb⟩
    case round =>
      clear sb hownb
      obtain ⟨j, hj, rfl, rfl, s, hown⟩ := hrel
      by_cases hjt : j < zs.length
      · obtain ⟨hg1, hg2⟩ := word_good hgood.out zs j hj
        have hks := key_step (c := zs.getD j 0) hg1 hg2
        rw [← take_snoc zs j hjt] at hks
        have hgs := greatest_step (ps := wordP ps zs j) (z := zs.take (j + 1)) (by
          intro e
          have := congrArg List.length e
          rw [List.length_take, List.length_nil] at this
          omega)
        have hwl := wordP_len_le ps zs j
        have hpl := posn_le hg2
        have hok := key_ok (posn (wordP ps zs j) (zs.take j)) (zs.getD j 0) (by omega) (hbz.out j).1 (hbz.out j).2
        have hAr : Arr wr .u8 A zs := hown.arr
        obtain ⟨b1, off1, hb0, hb1, hc⟩ := hAr.at_ hjt
        have hck := hc j hjt
        have k0 := (s.kb.cell 0).trans (show _ = some (Value.map (some (h + 1))) from rfl)
        have hks2 : (keys (wordP ps zs j)).length ≤ 100000 := by rw [keys_len]; omega
        have hstep : wordP ps zs (j + 1) = addP (wordP ps zs j) (zs.take (j + 1)) := rfl
        rw [← hstep] at hks hgs
        clear hc hstep hpl hAr
        have hnum := hks.2.1
        have hadd := hks.1
        clear hks
        generalize hm : (wordP ps zs j).length = m at hgs hwl
        generalize zs.getD j 0 = y at hck hnum hadd hok
        generalize posn (wordP ps zs j) (zs.take j) = q at hnum hadd hok ⊢
        generalize hq' : posn (wordP ps zs (j + 1)) (zs.take (j + 1)) = q' at hgs hnum
        have hof := fun W hM => numbersOf_is (h + 1) (keys (wordP ps zs j)) q y W hM hok hks2
        rw [hnum, hadd] at hof
        replace hof := hid hof
        replace hgs := hid hgs
        replace hm := hid hm
        replace hq' := hid hq'
        replace hwl := hid hwl
        replace hb0 := hid hb0
        replace hg1 := hid hg1
        replace hg2 := hid hg2
        clear hnum hadd hok hks2
        rw [hb0.out]
        gi_wp2
        refine ⟨trivial, rfl, ?_⟩
        refine (callsIn_wide.2 (hof.out wr s.map)).mono ?_
        rintro e w3 ⟨rfl, hg3, hm3⟩
        obtain ⟨hJ3, hs3, hk3⟩ := s.turned hlo.out hJB.out hg3
        have y0 := ((show Holds w3 h 96 #[.func (.yield l) #[] #[]] from hk3 _ _ (Nat.le_refl _) s.yb (.inl rfl)).cell 0).trans (show _ = some (Value.func (.yield l) #[] #[]) from rfl)
        have hy := hY.out (wordP ps zs j).length q' w3 hJ3 (by rw [hm.out]; exact hgs.out.2) (by rw [hm.out]; have := hwl.out; omega) hs3
        rw [hm.out, hgs.out.1] at hy
        have S := hid s
        have hm3' := hid hm3
        have hk3' := hid hk3
        have hg3' := hid hg3
        have hown' := hid hown
        clear s hm3 hk3 hg3 hown hck k0 hJ3 hs3
        obtain ⟨fn', tmps', assign', body', hyy, hR⟩ := hy
        gi_wp2
        refine ⟨rfl, RoundIn.mono (show RoundIn (Fence.wide.inRound (h + 6)) 0 Try.prog l fn' tmps' assign' body' w3 _ from hR) ?_⟩
        rintro e W4 ⟨rfl, hJ4, hab⟩
        have s4 : BAt J h l h (h + 2) (h + 1) (h + 3) (h + 4) (h + 5) (h + 6) f P xss.length c rc .busy (wordP ps zs (j + 1)) W4 :=
          S.out.to hlo.out hJ4 (Nat.le_trans hg3'.out.size hab.1) (fun q o hq ho hc => hab.2 q o hq (hk3'.out q o hq ho (hc.imp id .inl))) (hm3'.out.same (fun o ho => hab.2 _ _ (by omega) ho))
            (hab.2 _ _ (by omega) (hk3'.out _ _ (by omega) S.out.record (.inr (.inr rfl))))
        have o4 : OwnBytes W4 h (A, zs, cw) := hown'.out.same (fun q o hq ho hc => hab.2 q o hq (hk3'.out q o hq ho (.inl hc)))
        rw [hb0.out] at o4
        clear hJ4 hab hyy hR y0
        gi_wp2
        go_roundw
        case rel => exact ⟨j + 1, by omega, by go_num, by rw [hq'.out], s4, o4⟩
        case measure => simp [intOf]; omega
      · obtain rfl : j = zs.length := by omega
        gi_wp2
        rw [← List.map_take, hnext.out]
        have hgr : wr.grownBy (wr.putObj (h + 6) (.loop (rc .ready none))) (some (h + 6)) := grown_put' wr (h + 6) _
        refine ⟨s.record, s.to hlo.out (hJB.out _ _ _ s.outer (below_of_grown hgr s.size (fun q e => by injection e with e; omega))) hgr.size (fun q o hq ho hc => (World.putObj_heap_other ?_).trans ho) (s.map.kept hgr ?_) (World.putObj_heap_same (Array.getElem?_eq_some_iff.1 s.record).1)⟩
        · rintro rfl
          rcases hc with hc | hc
          · rw [s.record] at ho; injection ho with ho; subst ho; cases hc
          · omega
        · intro e; injection e with e; omega
  case behind =>
    rintro e W2 ⟨hv, s⟩
    rw [List.take_length] at s
    refine ⟨hv, .inl ⟨s.record, fun o => ?_⟩⟩
    have hgr : W2.grownBy (W2.putObj (h + 6) o) (some (h + 6)) := grown_put' W2 (h + 6) _
    have hJ3 := hid (hJB.out _ _ _ s.outer (below_of_grown hgr s.size (fun q e => by injection e with e; omega)))
    have hD := (World.putObj_heap_other (o := o) (r := h + 6) (k := h + 5) (by omega)).trans s.mark
    have hsz := hid (Nat.le_trans s.size hgr.size)
    generalize W2.putObj (h + 6) o = W3 at hJ3 hD hsz ⊢
    replace hD := hid hD
    clear s hgr
    gi_wp2
    refine bgn_leaves hD.out (fun v => ⟨⟨_, rfl⟩, ?_⟩) (.inl rfl)
    have hg4 : W3.grownBy (W3.putObj (h + 5) (.deferred none)) (some (h + 5)) := grown_put' W3 (h + 5) _
    exact hJB.out _ _ _ hJ3.out (below_of_grown hg4 hsz.out (fun q e => by injection e with e; omega))
end Go.Proofs.Ytojbkhheaondhaa

namespace Go.Proofs.Ytojbkhheaondhaa
open Go.RowKit PlainLetter PlainPatset PlainNumbers Go.Shelf
attribute [local go_sem] Oper.semAt_some run_store_func

/-- Between two numbers: the greatest so far. -/
structure NAt (w : World) (h : Nat) (f : Bool) (P : Option Addr) (n c : Nat) (rc : LoopState → Option Code → Loop) (st : LoopState) (m : Nat) (W : World) : Prop where
  gr : w.grownBy W none
  lk : isLook W (h + 2) f P n c
  great : Holds W (h + 1) 3 #[.int .i64 (m : Nat)]
  mark : W.heap[h + 3]? = some (.deferred (some []))
  record : W.heap[h + 4]? = some (.loop (rc st none))

theorem NAt.below {w W W' : World} {h : Nat} {f : Bool} {P : Option Addr} {n c : Nat} {rc : LoopState → Option Code → Loop} {st : LoopState} {m : Nat} (s : NAt w h f P n c rc st m W) (hw : w.heap.size ≤ h + 5) (hb : Below (h + 5) W W') : NAt w h f P n c rc st m W' := by
  refine ⟨⟨hb.os.trans s.gr.os, hb.tape.trans s.gr.tape, hb.output.trans s.gr.output, Nat.le_trans s.gr.size hb.size, fun k hk hne => (hb.block k (by omega)).trans (s.gr.block k hk hne)⟩, ?_, ?_, ?_, ?_⟩
  · exact (hb.block _ (by omega)).trans s.lk
  · exact (hb.block _ (by omega)).trans s.great
  · exact (hb.block _ (by omega)).trans s.mark
  · exact (hb.block _ (by omega)).trans s.record

/-- The return, the result in slot 2, the loop's mark taken up. -/
theorem nodes_leaves {W : World} {d : Nat} {v : Value} {T : Array Value} {R : Ending → World → Prop} (hT : T.getD 2 undef = v)
    (hD : W.heap[d]? = some (.deferred (some []))) (hR : R (.returned v) (W.putObj d (.deferred none))) :
    bodyPostM Fence.wide 0 Try.prog Try.f76 R Exit.ret { tmps := T, defers := [{ target := .collected d, args := #[] }] } W := by
  refine ⟨by simp, .inl ⟨_, _, rfl, run_takeDeferred hD, ?_⟩⟩
  rw [Array.getD_eq_getD_getElem?] at hT
  refine ⟨_, ?_, hR⟩
  simp [results, Try.results76, hT]

set_option maxHeartbeats 4000000 in
theorem nodes_is (f : Bool) (P : Option Addr) (c : Nat) (xss : List (List Int)) (w : World) (hn : xss.length ≤ 100000) (hl : xss.flatten.length ≤ 99999) (hB : ∀ i, Bytes (xss.getD i [])) (hP : Arrs w P xss) :
    Calls Try.prog 76 #[.agg #[.slice P xss.length c, .bool f]] w fun e w' => e = .returned (.int .i64 (nodes f xss : Nat)) ∧ w.grownBy w' none := by
  have hS : ∀ k, (xss.getD k []).length ≤ 100000 := fun k => by
    by_cases hk : k < xss.length
    · have h1 := flatten_take_succ xss k hk
      have h2 := flatten_take_le xss (k + 1)
      rw [h1, List.length_append] at h2
      omega
    · simp [List.getD, List.getElem?_eq_none (Nat.le_of_not_lt hk)]
  obtain ⟨As, Cs, hR0⟩ := RowsAt.of_arrs hP
  have hml : nodes f xss ≤ 100000 := by
    have := allP_len_le (xss.map (foldIf f)) []
    rw [nodes_all]
    rw [flatten_fold_len] at this
    rw [List.length_nil] at this
    omega
  obtain ⟨h, hh⟩ : ∃ h, w.heap.size = h := ⟨_, rfl⟩
  have hsz0 : (w.alloc (.cells #[.slice P xss.length c, .bool f] 86)).heap.size = h + 1 := by simp [hh]
  have hgr0 := grown_alloc (grown_alloc (grown_refl w none) (.cells #[.slice P xss.length c, .bool f] 86)) (.cells #[.int .i64 0] 3)
  have hlk0 := (Holds.new_at 86 #[.slice P xss.length c, .bool f] hh).alloc (.cells #[.int .i64 0] 3)
  have hgt0 : Holds ((w.alloc (.cells #[.slice P xss.length c, .bool f] 86)).alloc (.cells #[.int .i64 0] 3)) (h + 1) 3 #[.int .i64 0] := Holds.new_at _ _ hsz0
  have hsz1 : ((w.alloc (.cells #[.slice P xss.length c, .bool f] 86)).alloc (.cells #[.int .i64 0] 3)).heap.size = h + 2 := by simp [hh]
  have b0 := (hlk0.cell 0).trans (show _ = some (Value.slice P xss.length c) from rfl)
  have b1 := (hlk0.cell 1).trans (show _ = some (Value.bool f) from rfl)
  replace hS := hid hS
  replace hB := hid hB
  replace hR0 := hid hR0
  replace hgr0 := hid hgr0
  replace hgt0 := hid hgt0
  replace hsz1 := hid hsz1
  clear hlk0 hsz0 hP
  refine (callsIn_wide (n := 0)).1 ?_
  refine callsIn_of_wp_marks Try.func76 rfl trivial ?_ rfl
  simp only [Try.ntmps76, List.size_toArray, List.length_cons, List.length_nil, Nat.reduceAdd, Nat.reduceSub, Array.replicate_succ, Array.replicate_zero, List.push_toArray, List.append_toArray, List.nil_append, List.cons_append]
  gi_wp2
  refine ⟨trivial, rfl, ?_⟩
  refine (callsIn_wide.2 (beginnings_is f P xss.length c _)).mono ?_
  rintro e w2 ⟨rfl, hlk, hg2, hsz2⟩
  rw [hsz1.out] at hlk hsz2 ⊢
  replace hgr0 := hid (grown_trans hgr0.out hg2)
  replace hgt0 := hid (hgt0.out.kept0 hg2)
  replace hlk := hid hlk
  have hht := hid hh
  have hsz3 := hid hsz2
  clear hh b0 b1 hg2 hsz2 hsz1
  gi_wp2
  refine range_wide (gf := 91) rfl (enters_of Try.func91 (by kernel_rfl) rfl) (fun fn rc hrc => ?_)
  replace hrc := hid hrc
  simp only [hsz3.out, Nat.add_assoc, Nat.reduceAdd] at hrc ⊢
  obtain ⟨W1, hW1⟩ : ∃ W1, (w2.alloc (Obj.deferred (some []))).alloc (Obj.loop (rc .ready none)) = W1 := ⟨_, rfl⟩
  rw [hW1]
  have hsW : W1.heap.size = h + 5 := by rw [← hW1]; simp [hsz3.out]
  have hN : NAt w h f P xss.length c rc .ready 0 W1 := by
    have hg : w2.grownBy W1 none := by rw [← hW1]; exact grown_alloc (grown_alloc (grown_refl w2 none) _) _
    refine ⟨grown_trans hgr0.out hg, hlk.out.kept0 hg, hgt0.out.kept0 hg, ?_, ?_⟩
    · rw [← hW1]; exact other_alloc (alloc_at _ hsz3.out)
    · rw [← hW1]; exact alloc_at _ (by simp [hsz3.out])
  clear hW1 hgr0 hgt0 hlk hsz3
  have hnd := hid (nodes_all f xss)
  refine CallsIn.mono (bgn_in (h + 4) (h + 2) f P c As Cs xss hn hS.out hB.out hl (fun m => NAt w h f P xss.length c rc .ready m) W1 ?at_ ?below ?round hN) ?behind
  case at_ =>
    intro m W s
    exact ⟨hR0.out.grown s.gr, s.lk⟩
  case below =>
    intro m W W' s hb
    rw [hsW] at hb
    exact s.below (by have := hht.out; omega) hb
  case round =>
    intro m n W s hnm hm hsz
    rw [hsW] at hsz ⊢
    have Hs := hid s
    refine round_wide hrc.out Hs.out.record rfl fun K hK => ?_
    replace hK := hid hK
    gi_wp2
    refine hK.out _ ?_
    clear hK
    clear K
    obtain ⟨Wb, hWb⟩ : ∃ Wb, W.putObj (h + 4) (.loop (rc .busy none)) = Wb := ⟨_, rfl⟩
    have hgt : Holds Wb (h + 1) 3 #[.int .i64 (m : Nat)] := by rw [← hWb]; exact s.great.put (by omega) _
    have c0 := (hgt.cell 0).trans (show _ = some (Value.int .i64 (m : Nat)) from rfl)
    have f0 := hgt.free 0
    have l0 := hgt.lt
    have hrec : Wb.heap[h + 4]? = some (.loop (rc .busy none)) := by rw [← hWb]; exact World.putObj_heap_same (Array.getElem?_eq_some_iff.1 s.record).1
    have hg2 : W.grownBy Wb (some (h + 4)) := by rw [← hWb]; exact grown_put' W (h + 4) _
    have hfin : ∀ V : Nat, V = max m n → (Wb.setCell ⟨h + 1, 0, none⟩ (.int .i64 (V : Nat))).heap[h + 4]? = some (.loop (rc .busy none)) ∧
        NAt w h f P xss.length c rc .ready (max m n) ((Wb.setCell ⟨h + 1, 0, none⟩ (.int .i64 (V : Nat))).putObj (h + 4) (.loop (rc .ready none))) ∧
        Above (h + 5) W ((Wb.setCell ⟨h + 1, 0, none⟩ (.int .i64 (V : Nat))).putObj (h + 4) (.loop (rc .ready none))) := by
      rintro V rfl
      have r1 := other_set (p := ⟨h + 1, 0, none⟩) hrec (by simp) (.int .i64 ((max m n : Nat) : Int))
      have g1 : hgt.lt = hgt.lt := rfl
      have gW : w.grownBy Wb none := by rw [← hWb]; exact grown_put s.gr (by have := hht.out; omega) _
      have gW2 := grown_put (l := h + 4) (grown_set (p := ⟨h + 1, 0, none⟩) gW (.inr (by have := hht.out; simp; omega)) (.int .i64 ((max m n : Nat) : Int))) (by have := hht.out; omega) (.loop (rc .ready none))
      have lk1 : Holds Wb (h + 2) 86 #[.slice P xss.length c, .bool f] := by rw [← hWb]; exact Holds.put s.lk (by omega) _
      have mk1 : Wb.heap[h + 3]? = some (.deferred (some [])) := by rw [← hWb]; exact (World.putObj_heap_other (by omega)).trans s.mark
      refine ⟨r1, ⟨gW2, (lk1.far (p := ⟨h + 1, 0, none⟩) (by simp) _).put (by omega) _, ((show Holds _ _ _ _ from hgt.set 0 _)).put (by omega) _, ?_, World.putObj_heap_same (Array.getElem?_eq_some_iff.1 r1).1⟩, ?_⟩
      · exact (World.putObj_heap_other (by omega)).trans (other_set (p := ⟨h + 1, 0, none⟩) mk1 (by simp) _)
      · refine ⟨by have := hg2.size; simpa [World.setCell] using this, fun k o hk ho => ?_⟩
        refine (World.putObj_heap_other (by omega)).trans (other_set (p := ⟨h + 1, 0, none⟩) (grown_but hg2 (by omega) ho) (by simp; omega) _)
    rw [hWb]
    replace hfin := hid hfin
    replace hrec := hid hrec
    replace hg2 := hid hg2
    replace hgt := hid hgt
    clear s hWb
    by_cases hmn : m < n
    · gi_wp2
      exact hfin.out n (by omega)
    · gi_wp2
      exact hfin.out m (by omega)
  case behind =>
    rintro e W2 ⟨hv, s⟩
    refine ⟨hv, .inl ⟨s.record, fun o => ?_⟩⟩
    have hgt := s.great.put (l := h + 4) (by omega) o
    have hD := (World.putObj_heap_other (o := o) (r := h + 4) (k := h + 3) (by omega)).trans s.mark
    have hG := grown_put (l := h + 4) s.gr (by have := hht.out; omega) o
    generalize W2.putObj (h + 4) o = W3 at hgt hD hG ⊢
    clear s
    generalize hNN : (allP [] (xss.map (foldIf f))).length = N at hgt ⊢
    have c0 := (hgt.cell 0).trans (show _ = some (Value.int .i64 (N : Nat)) from rfl)
    have hNl : N ≤ 100000 := by have := hnd.out; rw [hNN] at this; omega
    replace hG := hid hG
    replace hD := hid hD
    clear hgt
    gi_wp2
    refine nodes_leaves (v := .int .i64 ((1 + N : Nat) : Int)) (by go_num) hD.out ?_
    exact ⟨by rw [hnd.out, hNN], grown_put hG.out (by have := hht.out; omega) _⟩
end Go.Proofs.Ytojbkhheaondhaa
