/- Package patset: the set of a list. Rows of slices, appended one behind the other: by runs, for drawn regions, and for walks; of no program's own. -/
import Derived.Test.YtojbkhheaondhaaK19
import Derived.Test.YtojbkhheaondhaaK16
import Derived.Test.YtojbkhheaondhaaK8
import Derived.ArgAppend
import Derived.OwnWalkIn
import Derived.Laws.OwnMore
set_option linter.unusedSimpArgs false
set_option linter.unusedVariables false
set_option maxRecDepth 100000
namespace Go.Proofs.Ytojbkhheaondhaa
open Go.RowKit PlainLetter PlainPatset Go.Shelf
attribute [local go_sem] Oper.semAt_some run_store_func

theorem same_foldIf (f : Bool) (x y : List Int) : same f (foldIf f x) y = same f x y := by
  unfold same
  rw [foldIf_twice]

theorem which_foldIf (f : Bool) (x : List Int) (l : List (List Int)) : which f (foldIf f x) l = which f x l := by
  rcases which_spec f x l with ⟨h, hno⟩ | ⟨k, hk, h, hs, hno⟩
  · rw [h]
    exact which_none f _ l (fun j hj => by rw [same_foldIf]; exact hno j hj)
  · rw [h]
    exact which_hit f _ l k hk (fun j hj => by rw [same_foldIf]; exact hno j hj) (by rw [same_foldIf]; exact hs)

theorem make_results {W : World} {h n c : Nat} {b : Bool} {A : Option Addr} {e : Int} {T : Array Value} (hT : T.getD 4 undef = .pointer (some ⟨h, 0, none⟩)) (hT5 : T.getD 5 undef = .int .i64 e) (hr : Holds W h 24 #[.bool b, .slice A n c]) :
    (results Try.f49 T).run Try.prog W = .ok (.tuple #[.agg #[.bool b, .slice A n c], .int .i64 e]) W := by
  have s0 := (hr.cell 0).trans (show _ = some (Value.bool b) from rfl)
  have s1 := (hr.cell 1).trans (show _ = some (Value.slice A n c) from rfl)
  rw [Array.getD_eq_getD_getElem?] at hT hT5
  simp [results, Try.results49, go_sem, hT, hT5, s0, s1]

/-- Between two words: the set so far. -/
structure MAt (w : World) (base r s bx bf d2 l2 : Nat) (f : Bool) (P : Option Addr) (n c : Nat) (rc : LoopState → Option Code → Loop) (st : LoopState) (ws : List (List Int)) (W : World) : Prop where
  gr : w.grownBy W none
  res : Holds W r 24 #[.bool false, .slice none 0 0]
  set : ∃ (A : Option Addr) (cA : Nat) (l : List Sl), Holds W s 24 #[.bool f, .slice A l.length cA] ∧ l.map (·.2.1) = ws ∧ OwnRows W base (.slice A l.length cA) l
  lk : isLook W bx f P n c
  fn : isOwnF W bf f
  mark : W.heap[d2]? = some (.deferred (some []))
  record : W.heap[l2]? = some (.loop (rc st none))

theorem MAt.grown {w W W' : World} {base r s bx bf d2 l2 : Nat} {f : Bool} {P : Option Addr} {n c : Nat} {rc : LoopState → Option Code → Loop} {st : LoopState} {ws : List (List Int)} (h : MAt w base r s bx bf d2 l2 f P n c rc st ws W) (hg : W.grownBy W' none) :
    MAt w base r s bx bf d2 l2 f P n c rc st ws W' := by
  obtain ⟨A, cA, l, h1, h2, h3⟩ := h.set
  exact ⟨grown_trans h.gr hg, h.res.kept0 hg, ⟨A, cA, l, h1.kept0 hg, h2, h3.grown hg⟩, h.lk.kept0 hg, h.fn.kept0 hg, grown_same hg h.mark, grown_same hg h.record⟩

theorem MAt.to {w W W' : World} {base r s bx bf d2 l2 : Nat} {f : Bool} {P : Option Addr} {n c : Nat} {rc : LoopState → Option Code → Loop} {st st' : LoopState} {ws ws' : List (List Int)} (h : MAt w base r s bx bf d2 l2 f P n c rc st ws W) (hg : w.grownBy W' none)
    (hk : ∀ q o, W.heap[q]? = some o → (q = r ∨ q = bx ∨ q = bf ∨ q = d2) → W'.heap[q]? = some o) (hs : ∃ (A : Option Addr) (cA : Nat) (l : List Sl), Holds W' s 24 #[.bool f, .slice A l.length cA] ∧ l.map (·.2.1) = ws' ∧ OwnRows W' base (.slice A l.length cA) l)
    (hr : W'.heap[l2]? = some (.loop (rc st' none))) : MAt w base r s bx bf d2 l2 f P n c rc st' ws' W' :=
  ⟨hg, hk _ _ h.res (.inl rfl), hs, hk _ _ h.lk (.inr (.inl rfl)), hk _ _ h.fn (.inr (.inr (.inl rfl))), hk _ _ h.mark (.inr (.inr (.inr rfl))), hr⟩

/-- Rows stand when a mark turns. -/
theorem OwnRows.put {w : World} {base : Nat} {v : Value} {l : List Sl} (h : OwnRows w base v l) {q : Nat} {o : Obj} (hq : w.heap[q]? = some o) (ho : o.isCells = false) (o' : Obj) : OwnRows (w.putObj q o') base v l :=
  ⟨ownsRow_putObj h.1 o' hq ho, fun x hx => ownsRow_putObj (h.2 x hx) o' hq ho⟩

/-- One slice more, out of a row of one: all other blocks stand. -/
theorem wpListIn_push_other {F : Fence} {m0 : Nat} {P : Program} {ops : Array Oper} {rest : List Oper} {o : Oper} {a : Act} {Q : Exit → Act → World → Prop} (hgd : o.guard = none) (s x : Operand) (t : TypeId) (ho : o.op = .call { callee := .builtin .append, args := #[s, x], argTypes := #[t, t] })
    (base : Nat) (i : TypeInfo) (ht : P.underlying t = some (.slice 28)) (hi : P.info? 28 = some i) (hz : i.zero = some (.slice none 0 0)) (hsize : i.size = 1) (hby : i.bytes = 24)
    (v : Value) (l : List Sl) (y : Sl) (g : Nat) (w : World) (hown : OwnRows w base v l) (hy : OwnBytes w base y) (hg : Holds w g 28 #[slV y]) (hs : a.eval s = v)
    (hx : a.eval x = .slice (some ⟨g, 0, none⟩) 1 1) (hlen : l.length ≤ 2147483647) (hbase : base ≤ w.heap.size)
    (h : ∀ v' w', OwnRows w' base v' (l ++ [y]) → (∀ (q : Nat) (ob : Obj), w.heap[q]? = some ob → (∀ cs, ob ≠ Obj.cells cs 28 (0, 0)) → w'.heap[q]? = some ob) → Below base w w' → wpListIn F m0 P ops Q rest (a.put o.dst v') w') :
    wpListIn F m0 P ops Q (o :: rest) a w := by
  refine wpListIn_append_own w hgd s x t ho base 28 i (.slice none 0 0) 1 24 ht hi hz hsize hby rfl (by decide) v l.length (l.map slV) hs hown.1 ⟨g, 0, none⟩ 1 1 [slV y] hx rfl
    (fun j u hj => ?_) (by simp [Value.oneCell']) (by unfold maxLen; omega) (by omega) hbase ?_
  · obtain rfl : j = 0 := by
      have := (List.getElem?_eq_some_iff.1 hj).1
      simpa using this
    have h0 := hg.cell 0
    simp at h0 hj
    rw [← hj]
    simpa [Addr.add] using h0
  intro v' w' h1 h2 _
  have hb : ∀ b z, OwnBytes w b z → OwnBytes w' b z := fun b z hz => World.ownsRow.kept hz h2 (own_apart hown.1 hz (by decide))
  refine h v' w' ⟨by simpa using h1, fun z hz => ?_⟩ (fun q ob hq hne => (h2.block q (Array.getElem?_eq_some_iff.1 hq).1 (fun e => ?_)).trans hq) ?_
  · rcases List.mem_append.1 hz with hz | hz
    · exact hb _ _ (hown.2 z hz)
    · obtain rfl : z = y := by simpa using hz
      exact hb _ _ hy
  · rcases hown.1.2 with ⟨h0, _⟩ | ⟨b, cap, cur, h0, _, hb2, _⟩
    · rw [h0] at e; simp [Value.ownBlock] at e
    · rw [h0] at e
      obtain rfl : b = q := by simpa [Value.ownBlock] using e.symm
      rw [hb2] at hq
      injection hq with hq
      exact hne cur hq.symm
  · exact below_of_grown h2 hbase (fun j hj => (hown.1.lt j hj).1)

set_option maxHeartbeats 4000000 in
theorem patMake_is (f : Bool) (P : Option Addr) (c : Nat) (xss : List (List Int)) (w : World) (hn : xss.length ≤ 1000) (hl : xss.flatten.length ≤ 10000) (hB : ∀ i, Bytes (xss.getD i [])) (hP : Arrs w P xss) :
    Calls Try.prog 49 #[.bool f, .slice P xss.length c] w (MakeTells f xss w) := by
  have hS := pat_small hn hl hB
  obtain ⟨As, Cs, hR0⟩ := RowsAt.of_arrs hP
  obtain ⟨h, hh⟩ : ∃ h, w.heap.size = h := ⟨_, rfl⟩
  have hH0 := Holds.new_at 24 #[.bool false, .slice none 0 0] hh
  have hgr0 := grown_alloc (grown_refl w none) (.cells #[.bool false, .slice none 0 0] 24)
  have hsz0 : (w.alloc (.cells #[.bool false, .slice none 0 0] 24)).heap.size = h + 1 := by simp [hh]
  have hT : Hid (∀ v w', (if check f xss = 0 then SetOwn w.heap.size f (makeWords f xss) v w' else v = .agg #[.bool false, .slice none 0 0]) → w.grownBy w' none → MakeTells f xss w (.returned (.tuple #[v, .int .i64 (check f xss)])) w') := hid (fun v w' h1 h2 => ⟨v, rfl, h1, h2⟩)
  replace hH0 := hid hH0
  replace hgr0 := hid hgr0
  replace hS := hid hS
  replace hB := hid hB
  replace hR0 := hid hR0
  replace hP := hid hP
  refine (callsIn_wide (n := 0)).1 ?_
  refine callsIn_of_wp_marks Try.func49 rfl trivial ?_ rfl
  simp only [Try.ntmps49, List.size_toArray, List.length_cons, List.length_nil, Nat.reduceAdd, Nat.reduceSub, Array.replicate_succ, Array.replicate_zero, List.push_toArray, List.append_toArray, List.nil_append, List.cons_append]
  gi_wp2
  refine ⟨trivial, rfl, ?_⟩
  refine (callsIn_wide.2 (look_is f P xss.length c _)).mono ?_
  rintro e w1 ⟨rfl, hg1⟩
  replace hH0 := hid (hH0.out.kept0 hg1)
  replace hgr0 := hid (grown_trans hgr0.out hg1)
  have hht := hid hh
  clear hh hsz0 hg1
  obtain ⟨g, hg⟩ : ∃ g, w1.heap.size = g := ⟨_, rfl⟩
  have hH1 := Holds.new_at 86 #[.slice P xss.length c, .bool f] hg
  replace hH0 := hid (hH0.out.alloc (.cells #[.slice P xss.length c, .bool f] 86))
  have hgr1 := hid (grown_alloc hgr0.out (.cells #[.slice P xss.length c, .bool f] 86))
  have b0 := (hH1.cell 0).trans (show _ = some (Value.slice P xss.length c) from rfl)
  have b1 := (hH1.cell 1).trans (show _ = some (Value.bool f) from rfl)
  replace hH1 := hid hH1
  clear hgr0
  gi_wp2
  refine ⟨trivial, rfl, ?_⟩
  refine (callsIn_wide.2 (fault_is f P c xss _ (by omega) (by omega) hB.out (hP.out.grown hgr1.out))).mono ?_
  rintro e w2 ⟨rfl, hg2⟩
  replace hH0 := hid (hH0.out.kept0 hg2)
  replace hH1 := hid (hH1.out.kept0 hg2)
  replace hgr1 := hid (grown_trans hgr1.out hg2)
  clear b0 b1 hg2
  clear hg
  have hs2 := hH1.out.lt
  generalize hce : check f xss = e0 at hT ⊢
  replace hce := hid hce
  by_cases he : e0 = 0
  · subst he
    have hTm := hid (fun v w' (a : SetOwn w.heap.size f (makeWords f xss) v w') b => hT.out v w' (by rw [if_pos rfl]; exact a) b)
    obtain ⟨s, hs⟩ : ∃ s, w2.heap.size = s := ⟨_, rfl⟩
    have hhs : h < s := by have := hH0.out.lt; omega
    have b0 := ((hH1.out.alloc (.cells #[.bool f, .slice none 0 0] 24)).cell 0).trans (show _ = some (Value.slice P xss.length c) from rfl)
    have b1 := ((hH1.out.alloc (.cells #[.bool f, .slice none 0 0] 24)).cell 1).trans (show _ = some (Value.bool f) from rfl)
    have hset := hid (Holds.new_at 24 #[.bool f, .slice none 0 0] hs)
    have hres := hid (hH0.out.alloc (.cells #[.bool f, .slice none 0 0] 24))
    have hgr3 := hid (grown_alloc hgr1.out (.cells #[.bool f, .slice none 0 0] 24))
    have hsz3 : (w2.alloc (.cells #[.bool f, .slice none 0 0] 24)).heap.size = s + 1 := by simp [hs]
    replace hsz3 := hid hsz3
    clear hH0 hH1 hgr1 hT
    gi_wp2
    refine ⟨trivial, rfl, ?_⟩
    refine (callsIn_wide.2 (told_is f P xss.length c _)).mono ?_
    rintro e w4 ⟨rfl, hlk, hfn, hg4, hsz4⟩
    rw [hsz3.out] at hlk hfn hsz4 ⊢
    replace hset := hid (hset.out.kept0 hg4)
    replace hres := hid (hres.out.kept0 hg4)
    replace hgr3 := hid (grown_trans hgr3.out hg4)
    replace hlk := hid hlk
    replace hfn := hid hfn
    have hsz5 := hid hsz4
    have hst := hid hs
    clear hg4 b0 b1 hs hsz4 hsz3
    gi_wp2
    refine range_wide (gf := 79) rfl (enters_of Try.func79 (by kernel_rfl) rfl) (fun fn rc hrc => ?_)
    replace hrc := hid hrc
    simp only [hsz5.out, Nat.add_assoc, Nat.reduceAdd] at hrc ⊢
    obtain ⟨W1, hW1⟩ : ∃ W1, (w4.alloc (Obj.deferred (some []))).alloc (Obj.loop (rc .ready none)) = W1 := ⟨_, rfl⟩
    rw [hW1]
    have hN : MAt w h h s (s + 1) (s + 2) (s + 3) (s + 4) f P xss.length c rc .ready (makeWords f (xss.take 0)) W1 := by
      have hg : w4.grownBy W1 none := by rw [← hW1]; exact grown_alloc (grown_alloc (grown_refl w4 none) _) _
      refine ⟨grown_trans hgr3.out hg, hres.out.kept0 hg, ⟨none, 0, [], hset.out.kept0 hg, rfl, OwnRows.nil _ _⟩, hlk.out.kept0 hg, hfn.out.kept0 hg, ?_, ?_⟩
      · rw [← hW1]; exact other_alloc (alloc_at _ (by rw [hsz5.out]))
      · rw [← hW1]; exact alloc_at _ (by simp [hsz5.out])
    clear hW1 hres hset hlk hfn hgr3 hsz5
    refine CallsIn.mono (told_in (s + 4) (s + 1) (s + 2) h f P c As Cs xss (by omega) (fun k => by have := (hS.out.2 k).1; omega) hB.out
      (fun k => MAt w h h s (s + 1) (s + 2) (s + 3) (s + 4) f P xss.length c rc .ready (makeWords f (xss.take k))) W1 ?at_ ?gr ?round hN) ?behind
    case at_ =>
      intro k W m
      exact ⟨hR0.out.grown m.gr, m.lk, m.fn, by have := m.gr.size; have := hht.out; omega⟩
    case gr =>
      intro k W W' m hg
      exact m.grown hg
    case round =>
      intro k W A cw hk m hown
      have hzl := foldIf_length f (xss.getD k [])
      have hxl := (hS.out.2 k).1
      have hxt : (xss.getD k []).length ≤ 10000 := by
        have h1 := flatten_take_succ xss k hk
        have h2 := flatten_take_le xss (k + 1)
        rw [h1, List.length_append] at h2
        omega
      have hbz := (hB.out k).foldIf (f := f)
      have hnext := makeWords_next f xss k hk
      have hwh := which_foldIf f (xss.getD k []) (makeWords f (xss.take k))
      rw [← hwh] at hnext
      have hSO := setOf_make f (xss.take k)
      have hwn : (makeWords f (xss.take k)).length ≤ 1000 := by have := hSO.few; rw [List.length_take] at this; omega
      have hwl : (makeWords f (xss.take k)).flatten.length ≤ 10000 := by have := hSO.small; have := flatten_take_le xss k; omega
      have hwb := hid (fun i => ((small_make f xss k (by omega) (fun i => by have := (hS.out.2 i).1; omega) hB.out).2 i).2)
      rw [← hzl] at hxt ⊢
      generalize hxz : foldIf f (xss.getD k []) = zs at hown hxt hbz hnext ⊢
      generalize hws : makeWords f (xss.take k) = ws at m hnext hwn hwl hwb
      generalize hws' : makeWords f (xss.take (k + 1)) = ws' at hnext ⊢
      clear hSO hwh hzl hxl hxz hws hws'
      replace hbz := hid hbz
      have M := hid m
      obtain ⟨A1, cA, l, hset, hlm, hrows⟩ := m.set
      refine round_wide hrc.out M.out.record rfl fun K hK => ?_
      replace hK := hid hK
      gi_wp2
      refine hK.out _ ?_
      clear hK
      clear K
      obtain ⟨Wb, hWb⟩ : ∃ Wb, W.putObj (s + 4) (.loop (rc .busy none)) = Wb := ⟨_, rfl⟩
      have hkb : ∀ q o, q ≠ s + 4 → W.heap[q]? = some o → Wb.heap[q]? = some o := fun q o hq ho => by rw [← hWb]; exact (World.putObj_heap_other hq).trans ho
      have hsetb : Holds Wb s 24 #[.bool f, .slice A1 l.length cA] := hkb _ _ (by omega) hset
      have hrowsb : OwnRows Wb h (.slice A1 l.length cA) l := by rw [← hWb]; exact hrows.put m.record rfl _
      have hownb : OwnBytes Wb h (A, zs, cw) := by rw [← hWb]; exact ownsRow_putObj hown _ m.record rfl
      have hgb : w.grownBy Wb none := by rw [← hWb]; exact grown_put m.gr (by have := hht.out; omega) _
      have mb : MAt w h h s (s + 1) (s + 2) (s + 3) (s + 4) f P xss.length c rc .busy ws Wb :=
        m.to hgb (fun q o ho hq => hkb q o (by omega) ho) ⟨A1, cA, l, hsetb, hlm, hrowsb⟩ (by rw [← hWb]; exact World.putObj_heap_same (Array.getElem?_eq_some_iff.1 m.record).1)
      rw [hWb]
      clear hWb hkb hset hrows hown m M
      have hwsl : l.length = ws.length := by rw [← hlm, List.length_map]
      have hArr : Arrs Wb A1 ws := by rw [← hlm]; exact hrowsb.arrs.2
      have hnumc := hid (patNumber_is f A1 A cA cw ws zs Wb hxt hbz.out hownb.arr hArr hwn hwl hwb.out)
      rw [← hwsl] at hnumc
      replace hwsl := hid hwsl
      have b0 := (hsetb.cell 0).trans (show _ = some (Value.bool f) from rfl)
      have b1 := (hsetb.cell 1).trans (show _ = some (Value.slice A1 l.length cA) from rfl)
      replace hsetb := hid hsetb
      replace hrowsb := hid hrowsb
      replace hownb := hid hownb
      replace mb := hid mb
      replace hlm := hid hlm
      clear hgb hArr
      gi_wp2
      refine ⟨trivial, rfl, ?_⟩
      refine (callsIn_wide.2 hnumc.out).mono ?_
      rintro e w5 ⟨rfl, hg5⟩
      have hset5 := hsetb.out.kept0 hg5
      have hrows5 := hid (hrowsb.out.grown hg5)
      have hown5 := hid (hownb.out.grown hg5)
      have m5 := hid (mb.out.grown hg5)
      clear b0 b1 hsetb hrowsb hownb mb hg5 hnumc
      have c1 := (hset5.cell 1).trans (show _ = some (Value.slice A1 l.length cA) from rfl)
      replace hset5 := hid hset5
      by_cases hw0 : which f zs ws < 0
      · rw [if_pos hw0] at hnext
        have hnum : number f ws zs = (0, false) := by unfold number; rw [if_pos hw0]
        rw [hnum]
        replace hw0 := hid hw0
        replace hnext := hid hnext
        clear hnum
        have hrow6 := hid (OwnRows.grown hrows5.out (World.grownBy_alloc w5 (.cells #[slV (A, zs, cw)] 28) none))
        have hown6 := hid (OwnBytes.grown hown5.out (World.grownBy_alloc w5 (.cells #[slV (A, zs, cw)] 28) none))
        have m6 := hid (m5.out.grown (World.grownBy_alloc w5 (.cells #[slV (A, zs, cw)] 28) none))
        have hset6 := hid (hset5.out.alloc (.cells #[slV (A, zs, cw)] 28))
        have hs6 : Hid (h ≤ (w5.alloc (.cells #[slV (A, zs, cw)] 28)).heap.size) := hid (by have := hset6.out.lt; omega)
        have hone := hid (Holds.new w5 28 #[slV (A, zs, cw)])
        obtain ⟨i3, hi3, hy0, hy1, hy2⟩ := info_parts Try.rowInfo
        clear hown5 hrows5 m5 hset5
        gi_wp2_with (gi_at_builtin; refine wpListIn_push_other rfl _ _ 22 rfl h i3 Try.underlying22 hi3 hy0 hy1 hy2 _ l (A, zs, cw) w5.heap.size _ hrow6.out hown6.out hone.out rfl rfl (by have := hwsl.out; omega) hs6.out ?_; intro v9 w9 hrows9 hkeep9 hB9; obtain ⟨A10, c10, rfl, _, _⟩ := own_form hrows9.1; have M2 : Holds w9 s 24 #[.bool f, .slice A1 l.length cA] := hkeep9 _ _ hset6.out (fun cs e => by injection e with _ e; exact absurd e (by decide)); have n1 := M2.free 1; have o1 := M2.lt; have p1 := (M2.cell 1).trans (show _ = some (Value.slice A1 l.length cA) from rfl); replace M2 := hid M2; replace hrows9 := hid hrows9; replace hkeep9 := hid hkeep9; replace hB9 := hid hB9)
        have rec9 := hkeep9.out _ _ m6.out.record (fun cs e => by cases e)
        have rec10 := other_set (p := ⟨s, 1, none⟩) rec9 (by simp) (.slice A10 (l.length + 1) c10)
        have g9 : w.grownBy w9 none := below_grown (Below.trans (below_of_grown m6.out.gr (Nat.le_refl _) (by simp)) (by rw [hht.out]; exact hB9.out))
        have g10 := grown_put (l := s + 4) (grown_set (p := ⟨s, 1, none⟩) g9 (.inr (by have := hht.out; simp; omega)) (.slice A10 (l.length + 1) c10)) (by have := hht.out; omega) (.loop (rc .ready none))
        have hll : (l ++ [(A, zs, cw)]).length = l.length + 1 := by simp
        have hr9 := hrows9.out
        rw [hll] at hr9
        refine ⟨rec10, m6.out.to g10 (fun q ob ho hq => ?_) ⟨A10, c10, l ++ [(A, zs, cw)], ?_, by rw [hnext.out, ← hlm.out]; simp, ?_⟩ (World.putObj_heap_same (Array.getElem?_eq_some_iff.1 rec10).1)⟩
        · refine (World.putObj_heap_other (by omega)).trans (other_set (p := ⟨s, 1, none⟩) (hkeep9.out _ _ ho (fun cs e => ?_)) (by simp; omega) _)
          subst e
          rcases hq with rfl | rfl | rfl | rfl
          · have := m6.out.res; unfold Holds at this; rw [ho] at this; injection this with this; injection this with _ this; exact absurd this (by decide)
          · have := m6.out.lk; unfold isLook Holds at this; rw [ho] at this; injection this with this; injection this with _ this; exact absurd this (by decide)
          · have := m6.out.fn; unfold isOwnF Holds at this; rw [ho] at this; injection this with this; injection this with _ this; exact absurd this (by decide)
          · have := m6.out.mark; rw [ho] at this; cases this
        · rw [hll]
          exact (show Holds _ _ _ _ from M2.out.set 1 _).put (by omega) _
        · rw [hll]
          exact (hr9.far M2.out (by decide) (by decide) 1 _).put rec10 rfl _
      · rw [if_neg hw0] at hnext
        have hnum : number f ws zs = (which f zs ws, true) := by unfold number; rw [if_neg hw0]
        rw [hnum]
        generalize which f zs ws = K0
        replace hnext := hid hnext
        clear hnum
        gi_wp2
        have hrec := m5.out.record
        refine ⟨hrec, m5.out.to (grown_put m5.out.gr (by have := hht.out; omega) _) (fun q o ho hq => (World.putObj_heap_other (by omega)).trans ho) ⟨A1, cA, l, hset5.out.put (by omega) _, by rw [hnext.out]; exact hlm.out, hrows5.out.put hrec rfl _⟩ (World.putObj_heap_same (Array.getElem?_eq_some_iff.1 hrec).1)⟩
    case behind =>
      rintro e W2 ⟨hv, m⟩
      rw [List.take_length] at m
      refine ⟨hv, .inl ⟨m.record, fun o => ?_⟩⟩
      obtain ⟨A1, cA, l, hset, hlm, hrows⟩ := m.set
      have hset3 := hset.put (l := s + 4) (by omega) o
      have hres3 := m.res.put (l := s + 4) (by omega) o
      have hrows3 := hrows.put m.record rfl o
      have hD := (World.putObj_heap_other (o := o) (r := s + 4) (k := s + 3) (by omega)).trans m.mark
      have hG := grown_put (l := s + 4) m.gr (by have := hht.out; omega) o
      generalize W2.putObj (s + 4) o = W3 at hset3 hres3 hrows3 hD hG ⊢
      clear hset hrows m
      have b0 := (hset3.cell 0).trans (show _ = some (Value.bool f) from rfl)
      have b1 := (hset3.cell 1).trans (show _ = some (Value.slice A1 l.length cA) from rfl)
      have c0 := (hres3.cell 0).trans (show _ = some (Value.bool false) from rfl)
      have c1 := (hres3.cell 1).trans (show _ = some (Value.slice none 0 0) from rfl)
      have f0 := hres3.free 0
      have f1 := hres3.free 1
      have l0 := hres3.lt
      have hS2 : Holds ((W3.setCell ⟨h, 0, none⟩ (.bool f)).setCell ⟨h, 1, none⟩ (.slice A1 l.length cA)) h 24 #[.bool f, .slice A1 l.length cA] := (hres3.set 0 (.bool f)).set 1 (.slice A1 l.length cA)
      have hgs := grown_set (p := ⟨h, 1, none⟩) (grown_set (p := ⟨h, 0, none⟩) hG (.inr (by have := hht.out; simp; omega)) (.bool f)) (.inr (by have := hht.out; simp; omega)) (.slice A1 l.length cA)
      have hown2 := (hrows3.far hres3 (by decide) (by decide) 0 (.bool f)).far (hres3.set 0 (.bool f)) (by decide) (by decide) 1 (.slice A1 l.length cA)
      have hD2 := other_set (p := ⟨h, 1, none⟩) (other_set (p := ⟨h, 0, none⟩) hD (by simp; omega) (.bool f)) (by simp; omega) (.slice A1 l.length cA)
      replace hS2 := hid (hS2.put (l := s + 3) (by omega) (.deferred none))
      replace hgs := hid (grown_put (l := s + 3) hgs (by have := hht.out; omega) (.deferred none))
      replace hown2 := hid (hown2.put hD2 rfl (.deferred none))
      replace hD2 := hid hD2
      clear hset3 hres3 hrows3 hD hG
      gi_wp2
      refine ⟨by simp, .inl ⟨_, _, rfl, run_takeDeferred hD2.out, ?_⟩⟩
      refine ⟨_, make_results rfl rfl hS2.out, hTm.out _ _ ⟨A1, cA, l, rfl, hlm, by rw [hht.out]; exact hown2.out⟩ hgs.out⟩
  · have hne : (e0 != 0) = true := by rw [bne_iff_ne]; exact he
    have c0 := (hH0.out.cell 0).trans (show _ = some (Value.bool false) from rfl)
    have c1 := (hH0.out.cell 1).trans (show _ = some (Value.slice none 0 0) from rfl)
    have f0 := hH0.out.free 0
    have f1 := hH0.out.free 1
    have l0 := hH0.out.lt
    have hS2 := hid ((hH0.out.set 0 (.bool false)).set 1 (.slice none 0 0))
    have hgs := hid (grown_set (p := ⟨h, 1, none⟩) (grown_set (p := ⟨h, 0, none⟩) hgr1.out (.inr (by have := hht.out; simp; omega)) (.bool false)) (.inr (by have := hht.out; simp; omega)) (.slice none 0 0))
    clear hgr1 hH0
    replace he := hid he
    gi_wp2
    refine ⟨_, make_results rfl rfl hS2.out, hT.out _ _ (by rw [if_neg he.out]) hgs.out⟩
end Go.Proofs.Ytojbkhheaondhaa

namespace Go.Proofs.Ytojbkhheaondhaa
open Go.RowKit

/-- An address leads to these cells. -/
def CellsAt (w : World) (A : Option Addr) (vs : List Value) : Prop := vs ≠ [] → ∃ b off, A = some ⟨b, off, none⟩ ∧ b < w.heap.size ∧ ∀ i, i < vs.length → w.cell? ⟨b, off + i, none⟩ = vs[i]?

theorem CellsAt.grown {w w' : World} {A : Option Addr} {vs : List Value} (h : CellsAt w A vs) (hg : w.grownBy w' none) : CellsAt w' A vs := fun hz => by
  obtain ⟨b, off, h1, h2, h3⟩ := h hz
  exact ⟨b, off, h1, Nat.lt_of_lt_of_le h2 hg.size, fun i hi => ((gcell hg).1 b _ h2).trans (h3 i hi)⟩
theorem CellsAt.below {B : Nat} {w w' : World} {A : Option Addr} {vs : List Value} (h : CellsAt w A vs) (hg : w.grownBy w' none) : CellsAt w' A vs := h.grown hg
theorem CellsAt.take {w : World} {A : Option Addr} {vs : List Value} (h : CellsAt w A vs) (n : Nat) : CellsAt w A (vs.take n) := fun hz => by
  obtain ⟨b, off, h1, h2, h3⟩ := h (by intro e; subst e; simp at hz)
  refine ⟨b, off, h1, h2, fun i hi => ?_⟩
  rw [List.length_take] at hi
  rw [h3 i (by omega), List.getElem?_take, if_pos (by omega)]
theorem CellsAt.drop {w : World} {A : Option Addr} {vs : List Value} (h : CellsAt w A vs) {i c : Nat} (hc : vs.length ≤ c) : CellsAt w (if c = i then A else A.map (fun x => x.add i)) (vs.drop i) := fun hz => by
  have hi : i < vs.length := by
    rcases Nat.lt_or_ge i vs.length with h1 | h1
    · exact h1
    · exact absurd (List.drop_eq_nil_of_le h1) hz
  obtain ⟨b, off, rfl, hb, hcell⟩ := h (by intro e; subst e; simp at hi)
  rw [if_neg (by omega)]
  refine ⟨b, off + i, by simp [add_lit], hb, fun j hj => ?_⟩
  simp only [List.length_drop] at hj
  rw [Nat.add_assoc, hcell (i + j) (by omega), List.getElem?_drop]

/-- These cells are slices that read as these lists. -/
def RowLike (xss : List (List Int)) (vs : List Value) (w : World) : Prop := vs.length = xss.length ∧ ∀ i, i < xss.length → ∃ Ai ci, vs[i]? = some (.slice Ai (xss.getD i []).length ci) ∧ Arr w .u8 Ai (xss.getD i [])

theorem RowLike.grown {xss : List (List Int)} {vs : List Value} {w w' : World} (h : RowLike xss vs w) (hg : w.grownBy w' none) : RowLike xss vs w' :=
  ⟨h.1, fun i hi => by obtain ⟨Ai, ci, h1, h2⟩ := h.2 i hi; exact ⟨Ai, ci, h1, h2.grown hg⟩⟩
theorem RowLike.one {x : List Int} {A : Option Addr} {c : Nat} {w : World} (h : Arr w .u8 A x) : RowLike [x] [.slice A x.length c] w :=
  ⟨rfl, fun i hi => by
    have e : i = 0 := by simpa using hi
    subst e
    exact ⟨A, c, rfl, h⟩⟩
theorem RowLike.append {xss yss : List (List Int)} {vs us : List Value} {w : World} (h : RowLike xss vs w) (h' : RowLike yss us w) : RowLike (xss ++ yss) (vs ++ us) w := by
  refine ⟨by rw [List.length_append, List.length_append, h.1, h'.1], fun i hi => ?_⟩
  rw [List.length_append] at hi
  by_cases hx : i < xss.length
  · obtain ⟨Ai, ci, h1, h2⟩ := h.2 i hx
    have e : (xss ++ yss).getD i [] = xss.getD i [] := by simp [List.getD, List.getElem?_append_left hx]
    rw [e]
    exact ⟨Ai, ci, by rw [List.getElem?_append_left (by rw [h.1]; exact hx)]; exact h1, h2⟩
  · obtain ⟨Ai, ci, h1, h2⟩ := h'.2 (i - xss.length) (by omega)
    have e : (xss ++ yss).getD i [] = yss.getD (i - xss.length) [] := by simp [List.getD, List.getElem?_append_right (Nat.le_of_not_lt hx)]
    rw [e]
    exact ⟨Ai, ci, by rw [List.getElem?_append_right (by rw [h.1]; omega), h.1]; exact h1, h2⟩
theorem RowLike.take {xss : List (List Int)} {vs : List Value} {w : World} (h : RowLike xss vs w) (n : Nat) : RowLike (xss.take n) (vs.take n) w := by
  refine ⟨by rw [List.length_take, List.length_take, h.1], fun i hi => ?_⟩
  rw [List.length_take] at hi
  obtain ⟨Ai, ci, h1, h2⟩ := h.2 i (by omega)
  have e : (xss.take n).getD i [] = xss.getD i [] := by simp only [List.getD, List.getElem?_take, if_pos (show i < n by omega)]
  rw [e]
  exact ⟨Ai, ci, by rw [List.getElem?_take, if_pos (by omega)]; exact h1, h2⟩
theorem RowLike.drop {xss : List (List Int)} {vs : List Value} {w : World} (h : RowLike xss vs w) (n : Nat) : RowLike (xss.drop n) (vs.drop n) w := by
  refine ⟨by rw [List.length_drop, List.length_drop, h.1], fun i hi => ?_⟩
  rw [List.length_drop] at hi
  obtain ⟨Ai, ci, h1, h2⟩ := h.2 (n + i) (by omega)
  have e : (xss.drop n).getD i [] = xss.getD (n + i) [] := by simp only [List.getD, List.getElem?_drop]
  rw [e]
  exact ⟨Ai, ci, by rw [List.getElem?_drop]; exact h1, h2⟩
theorem RowLike.oneCell {xss : List (List Int)} {vs : List Value} {w : World} (h : RowLike xss vs w) : ∀ u ∈ vs, u.oneCell' = true := fun u hu => by
  obtain ⟨i, hi⟩ := List.mem_iff_getElem?.1 hu
  have hl : i < vs.length := (List.getElem?_eq_some_iff.1 hi).1
  obtain ⟨Ai, ci, h1, _⟩ := h.2 i (by rw [← h.1]; exact hl)
  rw [hi] at h1
  injection h1 with h1
  subst h1
  rfl

/-- A slice of slices that came in: its cells. -/
theorem cells_of_arrs {w : World} {A : Option Addr} {xss : List (List Int)} (h : Arrs w A xss) : ∃ vs, CellsAt w A vs ∧ RowLike xss vs w := by
  have : ∀ k, ∃ x : Option Addr × Nat, k < xss.length → ∃ b off, A = some ⟨b, off, none⟩ ∧ b < w.heap.size ∧ w.cell? ⟨b, off + k, none⟩ = some (.slice x.1 (xss.getD k []).length x.2) ∧ Arr w .u8 x.1 (xss.getD k []) := fun k => by
    by_cases hk : k < xss.length
    · obtain ⟨b, off, Ai, ci, h1, h2, h3, h4⟩ := h.at_ hk
      exact ⟨(Ai, ci), fun _ => ⟨b, off, h1, h2, h3, h4⟩⟩
    · exact ⟨(none, 0), fun h => absurd h hk⟩
  refine ⟨(List.range xss.length).map fun k => .slice (Classical.choose (this k)).1 (xss.getD k []).length (Classical.choose (this k)).2, fun hz => ?_, by simp, fun i hi => ?_⟩
  · have h0 : 0 < xss.length := by
      by_cases e : xss = []
      · subst e; exact absurd rfl hz
      · exact List.length_pos_iff.2 e
    obtain ⟨b, off, h1, h2, _, _⟩ := Classical.choose_spec (this 0) h0
    refine ⟨b, off, h1, h2, fun i hi => ?_⟩
    have hi' : i < xss.length := by simpa using hi
    obtain ⟨b', off', h1', _, h3', _⟩ := Classical.choose_spec (this i) hi'
    rw [h1] at h1'
    injection h1' with h1'
    injection h1' with e1 e2
    subst e1 e2
    rw [h3']
    simp [hi']
  · obtain ⟨_, _, _, _, _, h4⟩ := Classical.choose_spec (this i) hi
    exact ⟨(Classical.choose (this i)).1, (Classical.choose (this i)).2, by simp [hi], h4⟩

/-- What the call owns, whose cells read as lists. -/
theorem arrs_of_own {w : World} {base n c : Nat} {A : Option Addr} {xss : List (List Int)} {vs : List Value} (h : w.ownsRow base 28 1 (.slice A n c) n vs) (hr : RowLike xss vs w) : Arrs w A xss := fun hz => by
  have hn : vs.length = n := by simpa using h.1
  rcases h.2 with ⟨hv, h0⟩ | ⟨g, cap, cur, hv, _, hg, hnc, hm, hs, ht⟩
  · have : xss = [] := List.eq_nil_of_length_eq_zero (by rw [← hr.1, hn, h0])
    exact absurd this hz
  · injection hv with hv1 hv2 hv3
    subst hv1
    refine ⟨g, 0, rfl, (Array.getElem?_eq_some_iff.1 hg).1, fun i hi => ?_⟩
    obtain ⟨Ai, ci, h1, h2⟩ := hr.2 i hi
    refine ⟨Ai, ci, ?_, h2⟩
    rw [cell_of_row w g (0 + i) cur _ (0, 0) hg, Nat.zero_add]
    have : (cur.toList.take (n * 1))[i]? = some (.slice Ai (xss.getD i []).length ci) := by rw [ht]; exact h1
    rw [List.getElem?_take] at this
    split at this
    · simpa using this
    · cases this

section
variable {P : Program} {ops : Array Oper} {rest : List Oper} {o : Oper} {a : Act} {Q : Exit → Act → World → Prop}

/-- An append whose run is known. -/
theorem wp_append_run {w w' : World} {K : Act → World → Prop} (s x : Operand) (t : TypeId) (ho : o.op = .call { callee := .builtin .append, args := #[s, x], argTypes := #[t, t] }) (v u v' : Value) (hs : a.eval s = v) (hx : a.eval x = u)
    (hrun : (Builtin.append_ #[t, t] o.type #[v, u]).run P w = .ok v' w') (hK : K (a.put o.dst v') w') : o.wp P a w K Q := by
  unfold Oper.wp
  simp [execOp, ho, resolve, invoke, builtin, hs, hx, hrun, Result.andThen]
  exact hK

variable {i : TypeInfo} (ht : P.underlying 22 = some (.slice 28)) (hi : P.info? 28 = some i) (hz : i.zero = some (.slice none 0 0)) (hsize : i.size = 1) (hby : i.bytes = 24)
include ht hi hz hsize hby

/-- Onto a row without room: rows of the call's own; nothing, where nothing is appended. -/
theorem run_rows_new (w : World) (g ty : Nat) (hH : Holds w g 28 #[]) (A : Option Addr) (m c : Nat) (vs : List Value) (hA : CellsAt w A vs) (hm : vs.length = m) (h1 : ∀ u ∈ vs, u.oneCell' = true) (hlen : m ≤ 2147483647) :
    ∃ v' w', (Builtin.append_ #[22, 22] ty #[.slice (some ⟨g, 0, none⟩) 0 0, .slice A m c]).run P w = .ok v' w' ∧ w.grownBy w' none ∧
      ((m = 0 ∧ v' = .slice (some ⟨g, 0, none⟩) 0 0 ∧ w' = w) ∨ (0 < m ∧ ∃ g' c', v' = .slice (some ⟨g', 0, none⟩) m c' ∧ w.heap.size ≤ g' ∧ w'.ownsRow w.heap.size 28 1 v' m vs)) := by
  subst hm
  by_cases h0 : vs = []
  · subst h0
    refine ⟨_, w, ?_, grown_refl w _, .inl ⟨rfl, rfl, rfl⟩⟩
    cases A with
    | none => exact run_append_nothing (P := P) w 0 22 ty 28 i 1 ht hi (.slice (some ⟨g, 0, none⟩) 0 0) 0 [] ⟨rfl, .inr ⟨g, 0, #[], rfl, Nat.zero_le _, hH, Nat.le_refl _, Nat.zero_le _, rfl, rfl⟩⟩ c
    | some ad =>
      have := run_append_room_cells (P := P) w 22 ty 28 i ht hi g 0 0 0 ad 0 c [] (by simp) (by simp) (by simp) (by omega) (by simp) (by simp)
      simpa [World.setCells] using this
  · obtain ⟨b, off, rfl, hb, hc⟩ := hA h0
    have hpos : 0 < vs.length := List.length_pos_iff.2 h0
    obtain ⟨v', w', hrun, hown, hg⟩ := run_append_arg_grows (P := P) w 22 ty 28 i (.slice none 0 0) 1 24 ht hi hz hsize hby rfl (by decide) ⟨g, 0, none⟩ 0 0 [] (by simp) (by simp) ⟨b, off, none⟩ vs.length c vs (by simp)
      (fun j u hj => by
        have hjl : j < vs.length := (List.getElem?_eq_some_iff.1 hj).1
        rw [add_lit, hc j hjl]; exact hj) (by omega) (by unfold maxLen; omega) (by omega)
    rw [Nat.zero_add, List.nil_append] at hown
    refine ⟨v', w', hrun, hg, .inr ⟨hpos, ?_⟩⟩
    rcases hown.2 with ⟨_, he⟩ | ⟨g', cap, cur, rfl, hb', _⟩
    · omega
    · exact ⟨g', cap, rfl, hb', hown⟩

/-- One more onto a row of the call's own: the room is written, or there is new memory. -/
theorem run_rows_one (w : World) (base g n c g6 ty : Nat) (vs : List Value) (W : Value) (hown : w.ownsRow base 28 1 (.slice (some ⟨g, 0, none⟩) n c) n vs) (h6 : Holds w g6 28 #[W]) (h1 : W.oneCell' = true) (hlen : n ≤ 2147483647) (hb : base ≤ w.heap.size) :
    ∃ v' w', (Builtin.append_ #[22, 22] ty #[.slice (some ⟨g, 0, none⟩) n c, .slice (some ⟨g6, 0, none⟩) 1 1]).run P w = .ok v' w' ∧ w'.ownsRow base 28 1 v' (n + 1) (vs ++ [W]) ∧ (∃ g' c', v' = .slice (some ⟨g', 0, none⟩) (n + 1) c' ∧ 0 < c') ∧
      ((n + 1 ≤ c ∧ w' = w.setCell ⟨g, n, none⟩ W) ∨ w.grownBy w' none) := by
  have hcell6 : ∀ j u, [W][j]? = some u → w.cell? ((⟨g6, 0, none⟩ : Addr).add j) = some u := fun j u hj => by
    obtain rfl : j = 0 := by have := (List.getElem?_eq_some_iff.1 hj).1; simpa using this
    rw [add_lit, h6.cell]
    simpa using hj
  by_cases hr : n + 1 ≤ c
  · obtain ⟨w', hrun, hown', hg'⟩ := run_append_fits (P := P) (w := w) base 22 ty 28 i 1 ht hi hsize g n c vs hown ⟨g6, 0, none⟩ 1 1 [W] rfl hcell6 (by simpa using h1) hr
    have hrc := run_append_room_cells (P := P) w 22 ty 28 i ht hi g 0 n c ⟨g6, 0, none⟩ 1 1 [W] (by rw [hsize]; rfl) hcell6 (by simpa using h1) hr
      (fun j hj => by
        obtain rfl : j = 0 := by simpa using hj
        rcases hown.2 with ⟨hv, _⟩ | ⟨g', cap, cur, hv, _, hg, hnc, hm, hs, ht'⟩
        · cases hv
        · injection hv with e1 e2 e3
          injection e1 with e1
          injection e1 with e1
          subst e1 e3
          rw [hsize, cell_of_row w g _ cur _ (0, 0) hg]
          simp; omega)
      (fun j hj => by
        rcases hown.2 with ⟨hv, _⟩ | ⟨g', cap, cur, hv, _, hg, hnc, hm, hs, ht'⟩
        · cases hv
        · injection hv with e1 e2 e3
          injection e1 with e1
          injection e1 with e1
          subst e1
          simp [World.frozen?, hg])
    rw [hsize, Nat.mul_one, Nat.zero_add] at hrc
    have e := hrun.symm.trans hrc
    injection e with _ e
    exact ⟨_, w', hrun, hown', ⟨g, c, rfl, by omega⟩, .inl ⟨hr, e⟩⟩
  · have hgn : ∀ j u, vs[j]? = some u → w.cell? ((⟨g, 0, none⟩ : Addr).add j) = some u := fun j u hj => World.ownsRow.cells hown (by simp [Value.ownBlock]) j u hj
    obtain ⟨v', w', hrun, hown', hg'⟩ := run_append_arg_grows (P := P) w 22 ty 28 i (.slice none 0 0) 1 24 ht hi hz hsize hby rfl (by decide) ⟨g, 0, none⟩ n c vs (by simpa using hown.1) hgn ⟨g6, 0, none⟩ 1 1 [W] rfl hcell6 (by omega) (by unfold maxLen; omega) (by omega)
    refine ⟨v', w', hrun, own_mono hown' hb, ?_, .inr hg'⟩
    rcases hown'.2 with ⟨_, he⟩ | ⟨g', cap, cur, rfl, hb', _, hnc, _⟩
    · omega
    · exact ⟨g', cap, rfl, by omega⟩

/-- Onto rows of the call's own, in a fence. -/
theorem wpListIn_append_cells {F : Fence} {m0 : Nat} (hgd : o.guard = none) (s x : Operand) (ho : o.op = .call { callee := .builtin .append, args := #[s, x], argTypes := #[22, 22] })
    (base : Nat) (v : Value) (n : Nat) (us vs : List Value) (A : Option Addr) (m c : Nat) (w : World) (hown : w.ownsRow base 28 1 v n us) (hA : CellsAt w A vs) (hs : a.eval s = v) (hx : a.eval x = .slice A m c) (hm : vs.length = m) (h1 : ∀ u ∈ vs, u.oneCell' = true)
    (hlen : n + m ≤ 2147483647) (hbase : base ≤ w.heap.size)
    (h : ∀ v' w', w'.ownsRow base 28 1 v' (n + m) (us ++ vs) → w.grownBy w' v.ownBlock → wpListIn F m0 P ops Q rest (a.put o.dst v') w') : wpListIn F m0 P ops Q (o :: rest) a w := by
  subst hm
  cases A with
  | some ad =>
    refine wpListIn_append_own w hgd s x 22 ho base 28 i (.slice none 0 0) 1 24 ht hi hz hsize hby rfl (by decide) v n us hs hown ad vs.length c vs hx (by simp) (fun j u hj => ?_) h1 (by unfold maxLen; omega) (by omega) hbase (fun v' w' a b _ => h v' w' a b)
    have hjl : j < vs.length := (List.getElem?_eq_some_iff.1 hj).1
    obtain ⟨b, off, h0, _, hc⟩ := hA (by intro e; subst e; simp at hjl)
    injection h0 with h0
    subst h0
    rw [add_lit, hc j hjl]; exact hj
  | none =>
    have hvs : vs = [] := by
      by_cases hz' : vs = []
      · exact hz'
      · obtain ⟨_, _, h0, _⟩ := hA hz'
        cases h0
    subst hvs
    refine wpListIn_plain hgd fun K hK => ?_
    have hrun := run_append_nothing (P := P) w base 22 o.type 28 i 1 ht hi v n us hown c
    unfold Oper.wpIn
    refine ⟨?_, ?_⟩
    · simp [Oper.about, ho, resolve, Target.leads, Sem.run_pure]
    · rw [Oper.semAt_plain F _ _ (by rw [ho]; intro c hc'; cases hc')]
      simp only [List.length_nil] at hx
      simp [execOp, ho, resolve, invoke, builtin, hs, hx, hrun, Result.andThen]
      exact hK _ _ (h v w (by simpa using hown) (grown_refl w _))
/-- In no fence. -/
theorem wpList_append_cells (hgd : o.guard = none) (s x : Operand) (ho : o.op = .call { callee := .builtin .append, args := #[s, x], argTypes := #[22, 22] })
    (base : Nat) (v : Value) (n : Nat) (us vs : List Value) (A : Option Addr) (m c : Nat) (w : World) (hown : w.ownsRow base 28 1 v n us) (hA : CellsAt w A vs) (hs : a.eval s = v) (hx : a.eval x = .slice A m c) (hm : vs.length = m) (h1 : ∀ u ∈ vs, u.oneCell' = true)
    (hlen : n + m ≤ 2147483647) (hbase : base ≤ w.heap.size)
    (h : ∀ v' w', w'.ownsRow base 28 1 v' (n + m) (us ++ vs) → w.grownBy w' v.ownBlock → wpList P ops Q rest (a.put o.dst v') w') : wpList P ops Q (o :: rest) a w := by
  subst hm
  cases A with
  | some ad =>
    refine wpList_append_own w hgd s x 22 ho base 28 i (.slice none 0 0) 1 24 ht hi hz hsize hby rfl (by decide) v n us hs hown ad vs.length c vs hx (by simp) (fun j u hj => ?_) h1 (by unfold maxLen; omega) (by omega) hbase (fun v' w' a b _ => h v' w' a b)
    have hjl : j < vs.length := (List.getElem?_eq_some_iff.1 hj).1
    obtain ⟨b, off, h0, _, hc⟩ := hA (by intro e; subst e; simp at hjl)
    injection h0 with h0
    subst h0
    rw [add_lit, hc j hjl]; exact hj
  | none =>
    have hvs : vs = [] := by
      by_cases hz' : vs = []
      · exact hz'
      · obtain ⟨_, _, h0, _⟩ := hA hz'
        cases h0
    subst hvs
    refine wpList_plain hgd fun K hK => ?_
    have hrun := run_append_nothing (P := P) w base 22 o.type 28 i 1 ht hi v n us hown c
    unfold Oper.wp
    simp only [List.length_nil] at hx
    simp [execOp, ho, resolve, invoke, builtin, hs, hx, hrun, Result.andThen]
    exact hK _ _ (h v w (by simpa using hown) (grown_refl w _))
end

/-- A new row without cells. -/
def isNone (base : Nat) : Fact := fun v w => ∃ g, v = .slice (some ⟨g, 0, none⟩) 0 0 ∧ base ≤ g ∧ Holds w g 28 #[]
/-- A row of the call's own, of these cells. -/
def isGrow (base : Nat) (vs : List Value) : Fact := fun v w => ∃ g c, v = .slice (some ⟨g, 0, none⟩) vs.length c ∧ w.ownsRow base 28 1 v vs.length vs ∧ (vs = [] → c = 0)
theorem stable_isNone (base : Nat) : Stable (isNone base) := fun _ _ _ ⟨g, h1, h2, h3⟩ hg => ⟨g, h1, h2, h3.kept0 hg⟩
theorem stable_isGrow (base : Nat) (vs : List Value) : Stable (isGrow base vs) := fun _ _ _ ⟨g, c, h1, h2, h3⟩ hg => ⟨g, c, h1, own_kept0 h2 hg, h3⟩

/-- What has one cell at most is another block than one of two cells at least. -/
theorem holds_apart {w : World} {g j k n : Nat} {t : TypeId} {cs cur : Array Value} {W : Value} (h : Holds w j t cs) (hk : cs.size ≤ 1) (hg : w.heap[g]? = some (.cells cur 28 (0, 0))) (hs : 2 ≤ cur.size) : Holds (w.setCell ⟨g, n, none⟩ W) j t cs := by
  refine h.far (p := ⟨g, n, none⟩) (fun e => ?_) W
  have e' : j = g := e
  subst e'
  unfold Holds at h
  rw [hg] at h
  injection h with h
  injection h with h
  subst h
  omega
theorem kept_isNone {base g n : Nat} {cur : Array Value} {v W : Value} {w : World} (h : isNone base v w) (hg : w.heap[g]? = some (.cells cur 28 (0, 0))) (hs : 2 ≤ cur.size) : isNone base v (w.setCell ⟨g, n, none⟩ W) := by
  obtain ⟨j, h1, h2, h3⟩ := h
  exact ⟨j, h1, h2, holds_apart (k := 0) h3 (by simp) hg hs⟩
theorem kept_isRow {g n : Nat} {cur : Array Value} {v W W' : Value} {w : World} (h : isRowOf 1 #[W'] v w) (hg : w.heap[g]? = some (.cells cur 28 (0, 0))) (hs : 2 ≤ cur.size) : isRowOf 1 #[W'] v (w.setCell ⟨g, n, none⟩ W) := by
  obtain ⟨j, h1, h3⟩ := h
  exact ⟨j, h1, holds_apart (k := 0) h3 (by simp) hg hs⟩
theorem kept_isGrow {base g n : Nat} {cur : Array Value} {v W : Value} {us : List Value} {w : World} (h : isGrow base us v w) (hg : w.heap[g]? = some (.cells cur 28 (0, 0))) (hu : n < us.length → us[n]? = some W) : isGrow base us v (w.setCell ⟨g, n, none⟩ W) := by
  obtain ⟨j, c, h1, h2, h3⟩ := h
  refine ⟨j, c, h1, ?_, h3⟩
  subst h1
  obtain ⟨hl, hr⟩ := h2
  refine ⟨hl, .inr ?_⟩
  rcases hr with ⟨hv, _⟩ | ⟨g', cap, cur', hv, hb, hg', hnc, hm, hs, ht'⟩
  · cases hv
  · injection hv with e1 e2 e3
    injection e1 with e1
    injection e1 with e1
    subst e1 e3
    by_cases hj : j = g
    · subst hj
      rw [hg] at hg'
      injection hg' with hg'
      injection hg' with hg'
      subst hg'
      have hH : Holds w j 28 cur := hg
      refine ⟨j, c, cur.setIfInBounds n W, rfl, hb, hH.set n W, hnc, hm, by simpa using hs, ?_⟩
      rw [Array.toList_setIfInBounds, List.take_set, ht']
      by_cases hn : n < us.length
      · have := hu hn
        have e : us[n] = W := by rw [List.getElem?_eq_getElem hn] at this; injection this
        rw [← e]
        exact List.set_getElem_self hn
      · exact List.set_eq_of_length_le (Nat.le_of_not_lt hn)
    · have hH : Holds w j 28 cur' := hg'
      exact ⟨j, c, cur', rfl, hb, hH.far (p := ⟨g, n, none⟩) hj W, hnc, hm, hs, ht'⟩

/-- Each fact of the list stays. -/
def AllKept (w w' : World) : List Fact → Prop
  | [] => True
  | f :: l => (∀ v, f v w → f v w') ∧ AllKept w w' l
theorem AllKept.nil {w w' : World} : AllKept w w' [] := trivial
theorem AllKept.cons {w w' : World} {f : Fact} {l : List Fact} (h : ∀ v, f v w → f v w') (h' : AllKept w w' l) : AllKept w w' (f :: l) := ⟨h, h'⟩
theorem AllKept.at_ {w w' : World} : ∀ {l : List Fact}, AllKept w w' l → ∀ j v, factAt l j v w → factAt l j v w'
  | [], _, j, v, _ => by simp [factAt]
  | f :: l, h, 0, v, hf => by simpa [factAt] using h.1 v (by simpa [factAt] using hf)
  | f :: l, h, j + 1, v, hf => by have := AllKept.at_ h.2 j v (by simpa [factAt] using hf); simpa [factAt] using this

theorem grown_of_own {w W W' : World} {e n : Nat} {v : Value} {xs : List Value} (h : w.grownBy W none) (hown : W.ownsRow w.heap.size e 1 v n xs) (hg : W.grownBy W' v.ownBlock) : w.grownBy W' none :=
  ⟨hg.os.trans h.os, hg.tape.trans h.tape, hg.output.trans h.output, Nat.le_trans h.size hg.size, fun j hj _ => (hg.block j (Nat.lt_of_lt_of_le hj h.size) (fun e => by
    have := (World.ownsRow.lt hown j e.symm).1; omega)).trans (h.block j hj (by simp))⟩

theorem cells_one (w : World) (V : Value) (t : TypeId) : CellsAt (w.alloc (.cells #[V] t)) (some ⟨w.heap.size, 0, none⟩) [V] := fun _ => ⟨w.heap.size, 0, rfl, by simp, fun i hi => by
  have e : i = 0 := by simpa using hi
  subst e
  simp⟩

theorem getD_all (Q : List Int → Prop) (hn : Q []) {l : List (List Int)} (h : ∀ z ∈ l, Q z) (i : Nat) : Q (l.getD i []) := by
  by_cases hi : i < l.length
  · simp only [List.getD, List.getElem?_eq_getElem hi, Option.getD_some]; exact h _ (List.getElem_mem hi)
  · simp only [List.getD, List.getElem?_eq_none (Nat.le_of_not_lt hi), Option.getD_none]; exact hn
theorem all_getD (Q : List Int → Prop) {l : List (List Int)} (h : ∀ i, Q (l.getD i [])) (z : List Int) (hz : z ∈ l) : Q z := by
  obtain ⟨i, hi, rfl⟩ := List.mem_iff_getElem.1 hz
  have := h i
  simpa [List.getD, hi] using this

end Go.Proofs.Ytojbkhheaondhaa
