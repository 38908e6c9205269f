/- The document's own answer: the set of a list. The document's own answer: a set that may be. -/
import Derived.Test.YtojbkhheaondhaaK15
import Derived.Test.YtojbkhheaondhaaK8
import Derived.OwnWalkIn
set_option linter.unusedSimpArgs false
set_option linter.unusedVariables false
set_option maxRecDepth 100000
namespace Go.Proofs.Ytojbkhheaondhaa
open Go.RowKit PlainLetter PlainPatset

/-- Bytes of the call's own, and one such row, as facts. -/
def isOwn (base : Nat) (zs : List Int) : Fact := fun v w => ∃ A c, v = .slice A zs.length c ∧ OwnBytes w base (A, zs, c)
def isOwn1 (base : Nat) (zs : List Int) : Fact := fun v w => ∃ g A c, v = .slice (some ⟨g, 0, none⟩) 1 1 ∧ Holds w g 28 #[.slice A zs.length c] ∧ OwnBytes w base (A, zs, c)
theorem stable_isOwn (base : Nat) (zs : List Int) : Stable (isOwn base zs) := fun _ _ _ ⟨A, c, h1, h2⟩ hg => ⟨A, c, h1, h2.grown hg⟩
theorem stable_isOwn1 (base : Nat) (zs : List Int) : Stable (isOwn1 base zs) := fun _ _ _ ⟨g, A, c, h1, h2, h3⟩ hg => ⟨g, A, c, h1, h2.kept0 hg, h3.grown hg⟩

theorem OwnRows.far {w : World} {base g : Nat} {v : Value} {l : List Sl} {t : TypeId} {cs : Array Value} (h : OwnRows w base v l) (hH : Holds w g t cs) (h1 : t ≠ 28) (h2 : t ≠ 5) (k : Nat) (u : Value) :
    OwnRows (w.setCell ⟨g, k, none⟩ u) base v l := by
  have e1 : w.grownBy (w.setCell ⟨g, k, none⟩ u) (some g) := grown_set (p := ⟨g, k, none⟩) (grown_refl w _) (.inl rfl) _
  have apart : ∀ {e n : Nat} {v : Value} {xs : List Value} {bs : Nat}, w.ownsRow bs e 1 v n xs → t ≠ e → v.ownBlock = none ∨ v.ownBlock ≠ some g := by
    intro e n v xs bs hr he
    rcases hr.2 with ⟨rfl, _⟩ | ⟨b, cap, cur, rfl, _, hb, _⟩
    · exact .inl rfl
    · refine .inr fun hh2 => ?_
      obtain rfl : b = g := by simpa [Value.ownBlock] using hh2
      have h3 := hH
      unfold Holds at h3
      rw [hb] at h3
      injection h3 with h3
      injection h3 with _ h3
      exact he h3.symm
  exact ⟨h.1.kept e1 (apart h.1 h1), fun x hx => World.ownsRow.kept (h.2 x hx) e1 (apart (h.2 x hx) h2)⟩

/-- One slice more, out of a row of one. -/
theorem wpListIn_push_row_at {F : Fence} {m0 : Nat} {P : Program} {ops : Array Oper} {rest : List Oper} {o : Oper} {a : Act} {Q : Exit → Act → World → Prop} (hgd : o.guard = none) (s x : Operand) (t : TypeId) (ho : o.op = .call { callee := .builtin .append, args := #[s, x], argTypes := #[t, t] })
    (base : Nat) (i : TypeInfo) (ht : P.underlying t = some (.slice 28)) (hi : P.info? 28 = some i) (hz : i.zero = some (.slice none 0 0)) (hsize : i.size = 1) (hby : i.bytes = 24)
    (v : Value) (l : List Sl) (y : Sl) (g : Nat) (w : World) (hown : OwnRows w base v l) (hy : OwnBytes w base y) (hg : Holds w g 28 #[slV y]) (hs : a.eval s = v)
    (hx : a.eval x = .slice (some ⟨g, 0, none⟩) 1 1) (hlen : l.length ≤ 2147483647) (hbase : base ≤ w.heap.size)
    (h : ∀ v' w', OwnRows w' base v' (l ++ [y]) → (∀ b z, OwnBytes w b z → OwnBytes w' b z) → (∀ g t cs, t ≠ 28 → Holds w g t cs → Holds w' g t cs) → Below base w w' → wpListIn F m0 P ops Q rest (a.put o.dst v') w') :
    wpListIn F m0 P ops Q (o :: rest) a w := by
  refine wpListIn_append_own w hgd s x t ho base 28 i (.slice none 0 0) 1 24 ht hi hz hsize hby rfl (by decide) v l.length (l.map slV) hs hown.1 ⟨g, 0, none⟩ 1 1 [slV y] hx rfl
    (fun j u hj => ?_) (by simp [Value.oneCell']) (by unfold maxLen; omega) (by omega) hbase ?_
  · obtain rfl : j = 0 := by
      have := (List.getElem?_eq_some_iff.1 hj).1
      simpa using this
    have h0 := hg.cell 0
    simp at h0 hj
    rw [← hj]
    simpa [Addr.add] using h0
  intro v' w' h1 h2 _
  have hb : ∀ b z, OwnBytes w b z → OwnBytes w' b z := fun b z hz => World.ownsRow.kept hz h2 (own_apart hown.1 hz (by decide))
  refine h v' w' ⟨by simpa using h1, fun z hz => ?_⟩ hb (fun g t cs hte hh => (hh.kept h2 (fun e => ?_))) ?_
  · rcases List.mem_append.1 hz with hz | hz
    · exact hb _ _ (hown.2 z hz)
    · obtain rfl : z = y := by simpa using hz
      exact hb _ _ hy
  · rcases hown.1.2 with ⟨h0, _⟩ | ⟨b, cap, cur, h0, _, hb2, _⟩
    · rw [h0] at e; simp [Value.ownBlock] at e
    · rw [h0] at e
      obtain rfl : b = g := by simpa [Value.ownBlock] using e
      have hh2 := hh
      unfold Holds at hh2
      rw [hb2] at hh2
      injection hh2 with hh2
      injection hh2 with _ hh2
      exact hte hh2.symm
  · exact below_of_grown h2 hbase (fun j hj => (hown.1.lt j hj).1)

theorem Bytes.foldIf {f : Bool} {xs : List Int} (h : Bytes xs) : Bytes (foldIf f xs) := by
  cases f
  · exact h
  · exact h.fold

theorem small_make (f : Bool) (xss : List (List Int)) (i : Nat) (hn : xss.length ≤ 100000) (hl : ∀ i, (xss.getD i []).length ≤ 100000) (hB : ∀ i, Bytes (xss.getD i [])) : Small (makeWords f (xss.take i)) := by
  have s := setOf_make f (xss.take i)
  have hm : ∀ x ∈ xss, x.length ≤ 100000 ∧ Bytes x := by
    intro x hx
    obtain ⟨j, hj, rfl⟩ := List.mem_iff_getElem.1 hx
    have h1 := hl j
    have h2 := hB j
    simp only [List.getD, List.getElem?_eq_getElem hj, Option.getD_some] at h1 h2
    exact ⟨h1, h2⟩
  refine ⟨by have := s.few; have := List.length_take_le i xss; simp at *; omega, fun j => ?_⟩
  by_cases hj : j < (makeWords f (xss.take i)).length
  · obtain ⟨x, hx, he⟩ := (s.mem _).1 (getD_in hj)
    rw [← he, foldIf_length]
    have := hm x (List.mem_of_mem_take hx)
    exact ⟨this.1, this.2.foldIf⟩
  · simp only [List.getD, List.getElem?_eq_none (Nat.le_of_not_lt hj), Option.getD_none]
    exact ⟨by simp, fun k => by simp⟩

theorem makeWords_next (f : Bool) (xss : List (List Int)) (i : Nat) (h : i < xss.length) : makeWords f (xss.take (i + 1)) = if which f (xss.getD i []) (makeWords f (xss.take i)) < 0 then makeWords f (xss.take i) ++ [foldIf f (xss.getD i [])] else makeWords f (xss.take i) := by
  rw [take_getD xss i [] h, makeWords_snoc]

/-- What Make tells: a set of the call's own, or none. -/
def MakeTells (f : Bool) (xss : List (List Int)) (w : World) : Ending → World → Prop := fun e w' =>
  ∃ v, e = .returned (.tuple #[v, .int .i64 (check f xss)]) ∧ (if check f xss = 0 then SetOwn w.heap.size f (makeWords f xss) v w' else v = .agg #[.bool false, .slice none 0 0]) ∧ w.grownBy w' none

set_option maxRecDepth 100000 in
set_option maxHeartbeats 4000000 in
theorem refMake_is (f : Bool) (P : Option Addr) (c : Nat) (xss : List (List Int)) (w : World) (hn : xss.length ≤ 100000) (hl : xss.flatten.length ≤ 100000) (hB : ∀ i, Bytes (xss.getD i [])) (hP : Arrs w P xss) :
    Calls Try.prog 22 #[.bool f, .slice P xss.length c] w (MakeTells f xss w) := by
  obtain ⟨i3, hi3, hy0, hy1, hy2⟩ := info_parts Try.rowInfo
  have hgl : Hid (∀ i, (xss.getD i []).length ≤ 100000) := hid (fun k => by
    by_cases hk : k < xss.length
    · have h1 := flatten_take_succ xss k hk
      have h2 := flatten_take_le xss (k + 1)
      rw [h1, List.length_append] at h2
      omega
    · simp [List.getD, List.getElem?_eq_none (Nat.le_of_not_lt hk)])
  replace hP := hid hP
  replace hB := hid hB
  go_enter Try.func22, Try.ntmps22
  go_wp2_with fail
  have hG0 := hid (grown_alloc (grown_refl w none) (.cells #[.bool false, .slice none 0 0] 24))
  have H0 : Holds (w.alloc (.cells #[.bool false, .slice none 0 0] 24)) w.heap.size 24 #[.bool false, .slice none 0 0] := Holds.new _ _ _
  refine (refCheck_is f P c xss _ hn hl hB.out (hP.out.grown hG0.out)).mono ?_
  rintro e w1 ⟨rfl, hg1⟩
  have hG1 := hid (grown_trans hG0.out hg1)
  have H1 := H0.kept0 hg1
  clear hg1 H0 hG0
  obtain ⟨h, hh⟩ : ∃ h, w.heap.size = h := ⟨_, rfl⟩
  rw [hh] at H1 ⊢
  replace hh := hid hh
  have hT : Hid (∀ v w', (if check f xss = 0 then SetOwn h f (makeWords f xss) v w' else v = .agg #[.bool false, .slice none 0 0]) → w.grownBy w' none → MakeTells f xss w (.returned (.tuple #[v, .int .i64 (check f xss)])) w') := hid (fun v w' a b => ⟨v, rfl, by rw [hh.out]; exact a, b⟩)
  generalize check f xss = e0 at hT ⊢
  have d0 := H1.cell 0
  have d1 := H1.cell 1
  have f0 := H1.free 0
  have f1 := H1.free 1
  have hlt1 := H1.lt
  simp at d0 d1
  by_cases he : e0 = 0
  · subst he
    replace H1 := hid H1
    go_wp2_with fail
    have HA : Holds (w1.alloc (.cells #[.bool f, .slice none 0 0] 24)) h 24 #[.bool false, .slice none 0 0] := H1.out.alloc _
    have HB : Holds (w1.alloc (.cells #[.bool f, .slice none 0 0] 24)) w1.heap.size 24 #[.bool f, .slice none 0 0] := Holds.new _ _ _
    have hG2 : Hid (w.grownBy (w1.alloc (.cells #[.bool f, .slice none 0 0] 24)) none) := hid (grown_alloc hG1.out _)
    have hhi : Hid (w.heap.size ≤ w1.heap.size) := hid hG1.out.size
    have hne12 : Hid (h ≠ w1.heap.size) := hid (Nat.ne_of_lt H1.out.lt)
    clear H1 hG1 d0 d1 f0 f1 hlt1
    obtain ⟨W0, hW0⟩ : ∃ W0, (w1.alloc (.cells #[.bool f, .slice none 0 0] 24)) = W0 := ⟨_, rfl⟩
    rw [hW0] at HA HB hG2 ⊢
    clear hW0
    obtain ⟨h2, hh2⟩ : ∃ h2, w1.heap.size = h2 := ⟨_, rfl⟩
    rw [hh2] at HB hne12 hhi ⊢
    clear hh2
    go_loopw [8] (fun v wr => ∃ (i : Nat) (l : List Sl) (A : Option Addr) (cA : Nat), i ≤ xss.length ∧ v = .int .i64 i ∧ Hid (l.map (·.2.1) = makeWords f (xss.take i)) ∧ OwnRows wr h (.slice A l.length cA) l ∧ Holds wr h2 24 #[.bool f, .slice A l.length cA] ∧ Holds wr h 24 #[.bool false, .slice none 0 0] ∧ w.grownBy wr none) (fun v _ => xss.length - (intOf v).toNat)
    case atStart => exact ⟨0, [], none, 0, by omega, rfl, hid (by simp [makeWords, addWords]), OwnRows.nil _ _, HB, HA, hG2.out⟩
    case round =>
      clear HA HB hG2
      obtain ⟨i, l, A, cA, hi, rfl, hlm, hrows, H2, H1, hG⟩ := hrel
      by_cases hlt : i < xss.length
      · obtain ⟨b, off, Ai, ci, rfl, hb, hcell0, hAi⟩ := hP.out.at_ hlt
        have hcx := hid (((gcell hG).1 b (off + i) hb).trans hcell0)
        have hAx := hid (hAi.grown hG)
        have hbl := hid (Nat.lt_of_lt_of_le hb hG.size)
        have hs := hid hG.size
        rw [hh.out] at hs
        have hxl := hgl.out i
        have hxb := hid (hB.out i)
        have hstep := hid (makeWords_next f xss i hlt)
        have hSm := hid (small_make f xss i hn hgl.out hB.out)
        have hsl : (makeWords f (xss.take i)).length ≤ xss.length := by have := (setOf_make f (xss.take i)).few; have := List.length_take_le i xss; simp at *; omega
        clear hcell0 hAi hb
        generalize xss.getD i [] = x at hcx hAx hxl hxb hstep
        generalize makeWords f (xss.take i) = acc at hlm hstep hSm hsl
        have hll : Hid (l.length = acc.length) := hid (by rw [← hlm.out]; simp)
        rw [hll.out] at hrows H2
        have hArr := hid hrows.arrs.2
        rw [hlm.out] at hArr
        have hd1 := hid (H2.cell 1)
        simp at hd1
        have hl2 := hid H2.lt
        replace H2 := hid H2
        replace H1 := hid H1
        replace hrows := hid hrows
        replace hG := hid hG
        have hb1 : -1 ≤ which f x acc ∧ which f x acc ≤ acc.length := by
          rcases which_spec f x acc with ⟨hk, _⟩ | ⟨k, hk, hk2, _⟩ <;> omega
        obtain ⟨K, hKe⟩ : ∃ K, which f x acc = K := ⟨_, rfl⟩
        rw [hKe] at hb1 hstep
        replace hKe := hid hKe
        have i0' : (0 : Int) ≤ (i : Int) := by omega
        have i1' : (i : Int) < (xss.length : Int) := by omega
        go_upto_region 8 with fail
        apply wp_region_each [isv _, isv _, isv _, isv _, isv _, isv _, isv _, isv (.int .i64 K), isv (.bool (decide (K < 0)))]
          45 [some 24, some 25, some 26, some 27, some 28, some 29, some 30, some 31, some 32]
          [some 24, some 25, some 26, some 27, some 28, some 29, some 30, some 31, some 32]
          [[], [], [], [1, 2], [3], [], [5], [0, 4, 6], [7]]
          [(0, .bool f), (1, .slice (some ⟨b, off, none⟩) xss.length c), (7, .pointer (some ⟨h2, 0, none⟩)), (8, .int .i64 i)] (by kernel_rfl) rfl (by kernel_rfl) rfl rfl (by kernel_rfl) (OutsOk.cons rfl rfl (OutsOk.cons rfl rfl (OutsOk.cons rfl rfl (OutsOk.cons rfl rfl OutsOk.nil)))) ?st ?ob ?fin
        case ob =>
          refine Obs.consv rfl ?o0 (Obs.consv rfl ?o1 (Obs.consv rfl ?o2 (Obs.consv rfl ?o3 (Obs.consv rfl ?o4 (Obs.consv rfl ?o5 (Obs.consv rfl ?o6 (Obs.consv rfl ?o7 (Obs.consv rfl ?o8 Obs.nil))))))))
          case o0 =>
            go_light
            intro ac w' hgw
            have hcxw := ((gcell hgw).1 b (off + i) hbl.out).trans hcx.out
            have hd1w := ((gcell hgw).1 h2 1 hl2.out).trans hd1.out
            replace hgw := hid hgw
            simp only [outThen, preThen, slotIs, factAt, isv, List.getElem?_cons_zero, List.getElem?_cons_succ, Option.getD_some, forall_eq]
            intros
            rename_i hK
            replace hK := hid hK
            simp only [wantedAt]
            go_simp
            exact hK.out _ _ rfl (grown_refl _ _)
          case o1 =>
            go_light
            intro ac w' hgw
            have hcxw := ((gcell hgw).1 b (off + i) hbl.out).trans hcx.out
            have hd1w := ((gcell hgw).1 h2 1 hl2.out).trans hd1.out
            replace hgw := hid hgw
            simp only [outThen, preThen, slotIs, factAt, isv, List.getElem?_cons_zero, List.getElem?_cons_succ, Option.getD_some, forall_eq]
            intros
            rename_i hK
            replace hK := hid hK
            simp only [wantedAt]
            go_simp
            exact hK.out _ _ rfl (grown_refl _ _)
          case o2 =>
            go_light
            intro ac w' hgw
            have hcxw := ((gcell hgw).1 b (off + i) hbl.out).trans hcx.out
            have hd1w := ((gcell hgw).1 h2 1 hl2.out).trans hd1.out
            replace hgw := hid hgw
            simp only [outThen, preThen, slotIs, factAt, isv, List.getElem?_cons_zero, List.getElem?_cons_succ, Option.getD_some, forall_eq]
            intros
            rename_i hK
            replace hK := hid hK
            simp only [wantedAt]
            go_simp
            exact hK.out _ _ rfl (grown_refl _ _)
          case o3 =>
            go_light
            intro ac w' hgw
            have hcxw := ((gcell hgw).1 b (off + i) hbl.out).trans hcx.out
            have hd1w := ((gcell hgw).1 h2 1 hl2.out).trans hd1.out
            replace hgw := hid hgw
            simp only [outThen, preThen, slotIs, factAt, isv, List.getElem?_cons_zero, List.getElem?_cons_succ, Option.getD_some, forall_eq]
            intros
            rename_i hK
            replace hK := hid hK
            simp only [wantedAt]
            go_simp
            exact hK.out _ _ rfl (grown_refl _ _)
          case o4 =>
            go_light
            intro ac w' hgw
            have hcxw := ((gcell hgw).1 b (off + i) hbl.out).trans hcx.out
            have hd1w := ((gcell hgw).1 h2 1 hl2.out).trans hd1.out
            replace hgw := hid hgw
            simp only [outThen, preThen, slotIs, factAt, isv, List.getElem?_cons_zero, List.getElem?_cons_succ, Option.getD_some, forall_eq]
            intros
            rename_i hK
            replace hK := hid hK
            simp only [wantedAt]
            go_simp
            exact hK.out _ _ rfl (grown_refl _ _)
          case o5 =>
            go_light
            intro ac w' hgw
            have hcxw := ((gcell hgw).1 b (off + i) hbl.out).trans hcx.out
            have hd1w := ((gcell hgw).1 h2 1 hl2.out).trans hd1.out
            replace hgw := hid hgw
            simp only [outThen, preThen, slotIs, factAt, isv, List.getElem?_cons_zero, List.getElem?_cons_succ, Option.getD_some, forall_eq]
            intros
            rename_i hK
            replace hK := hid hK
            simp only [wantedAt]
            go_simp
            exact hK.out _ _ rfl (grown_refl _ _)
          case o6 =>
            go_light
            intro ac w' hgw
            have hcxw := ((gcell hgw).1 b (off + i) hbl.out).trans hcx.out
            have hd1w := ((gcell hgw).1 h2 1 hl2.out).trans hd1.out
            replace hgw := hid hgw
            simp only [outThen, preThen, slotIs, factAt, isv, List.getElem?_cons_zero, List.getElem?_cons_succ, Option.getD_some, forall_eq]
            intros
            rename_i hK
            replace hK := hid hK
            simp only [wantedAt]
            go_simp
            exact hK.out _ _ rfl (grown_refl _ _)
          case o7 =>
            go_light
            intro ac w' hgw
            have hcxw := ((gcell hgw).1 b (off + i) hbl.out).trans hcx.out
            have hd1w := ((gcell hgw).1 h2 1 hl2.out).trans hd1.out
            replace hgw := hid hgw
            simp only [outThen, preThen, slotIs, factAt, isv, List.getElem?_cons_zero, List.getElem?_cons_succ, Option.getD_some, forall_eq]
            intros
            rename_i hK
            replace hK := hid hK
            simp only [wantedAt]
            go_simp
            refine (refWhich_is f Ai A ci cA x acc _ (by omega) hxb.out (hAx.out.grown (grown_trans (grown_drew (grown_refl wr none)) hgw.out)) (hArr.out.grown (grown_trans (grown_drew (grown_refl wr none)) hgw.out)) hSm.out).mono ?_
            rintro e w9 ⟨rfl, hg⟩
            exact hK.out _ _ (by rw [hKe.out]) hg
          case o8 =>
            go_light
            intro ac w' hgw
            have hcxw := ((gcell hgw).1 b (off + i) hbl.out).trans hcx.out
            have hd1w := ((gcell hgw).1 h2 1 hl2.out).trans hd1.out
            replace hgw := hid hgw
            simp only [outThen, preThen, slotIs, factAt, isv, List.getElem?_cons_zero, List.getElem?_cons_succ, Option.getD_some, forall_eq]
            intros
            rename_i hK
            replace hK := hid hK
            simp only [wantedAt]
            go_simp
            exact hK.out _ _ (by simp) (grown_refl _ _)
        case st =>
          repeat (first | exact AllStable.nil | (refine AllStable.cons ?_ ?_; focus (first | exact stable_isv _ | exact stable_isOwn _ _ | exact stable_isOwn1 _ _)))
        case fin =>
          intro w3 hgw
          simp only [finalIn, factAt, isv, List.getElem?_cons_zero, List.getElem?_cons_succ, Option.getD_some, forall_eq, slotIs, subj]
          simp only [Act.put, List.setIfInBounds_toArray, List.set_cons_zero, List.set_cons_succ]
          have hgy : Hid (wr.grownBy w3 none) := grown_trans (grown_drew (grown_refl wr none)) hgw
          have hG3 := hid (grown_trans hG.out hgy.out)
          have K1 := hid (H1.out.kept0 hgy.out)
          have K2 := hid (H2.out.kept0 hgy.out)
          have hrows3 := hid (hrows.out.grown hgy.out)
          have hs3 := hid (Nat.le_trans hs.out hgy.out.size)
          have hbl3 := hid (Nat.lt_of_lt_of_le hbl.out hgy.out.size)
          have hl3 := hid K2.out.lt
          have hcx3 := hid (((gcell hgy.out).1 b (off + i) hbl.out).trans hcx.out)
          have hd3 := hid (((gcell hgy.out).1 h2 1 hl2.out).trans hd1.out)
          have hA3 := hid (hAx.out.grown hgy.out)
          clear hgw hcx hd1 hAx hArr hgy
          by_cases hK0 : K < 0
          · have hdt : decide (K < 0) = true := decide_eq_true hK0
            simp only [hdt]
            have hnew := hid (hstep.out.trans (if_pos hK0))
            clear hdt hstep
            go_upto_region 9 with fail
            apply head_plain 9 [isv _, isv _, isv _, isv _, isv _, isv _, isv _, isOwn h (foldIf f x), isOwn1 h (foldIf f x)]
              45 [some 33, some 34, some 35, some 36, some 37, some 38, some 39, some 40, some 41]
              [some 33, some 34, some 35, some 36, some 37, some 38, some 39, some 40, some 41]
              [[], [0], [], [], [], [3, 4], [5], [2, 6], [7]]
              [(0, .bool f), (1, .slice (some ⟨b, off, none⟩) xss.length c), (7, .pointer (some ⟨h2, 0, none⟩)), (8, .int .i64 i)] (by kernel_rfl) rfl (by kernel_rfl) (by kernel_rfl) rfl rfl (by kernel_rfl) (OutsOk.cons rfl rfl (OutsOk.cons rfl rfl (OutsOk.cons rfl rfl (OutsOk.cons rfl rfl OutsOk.nil)))) ?st ?ob ?fin
            case ob =>
              refine Obs.consv rfl ?o0 (Obs.consv rfl ?o1 (Obs.consv rfl ?o2 (Obs.consv rfl ?o3 (Obs.consv rfl ?o4 (Obs.consv rfl ?o5 (Obs.consv rfl ?o6 (Obs.consv rfl ?o7 (Obs.consv rfl ?o8 Obs.nil))))))))
              case o0 =>
                go_light
                intro ac w' hgw
                have hcxw := ((gcell hgw).1 b (off + i) hbl3.out).trans hcx3.out
                have hd1w := ((gcell hgw).1 h2 1 hl3.out).trans hd3.out
                have hszw := hid (Nat.le_trans hs3.out hgw.size)
                replace hgw := hid hgw
                simp only [outThen, preThen, slotIs, factAt, isv, List.getElem?_cons_zero, List.getElem?_cons_succ, Option.getD_some, forall_eq]
                intros
                rename_i hK
                replace hK := hid hK
                simp only [wantedAt]
                go_simp
                exact hK.out _ _ rfl (grown_refl _ _)
              case o1 =>
                go_light
                intro ac w' hgw
                have hcxw := ((gcell hgw).1 b (off + i) hbl3.out).trans hcx3.out
                have hd1w := ((gcell hgw).1 h2 1 hl3.out).trans hd3.out
                have hszw := hid (Nat.le_trans hs3.out hgw.size)
                replace hgw := hid hgw
                simp only [outThen, preThen, slotIs, factAt, isv, List.getElem?_cons_zero, List.getElem?_cons_succ, Option.getD_some, forall_eq]
                intros
                rename_i hK
                replace hK := hid hK
                simp only [wantedAt]
                go_simp
                exact hK.out _ _ rfl (grown_refl _ _)
              case o2 =>
                go_light
                intro ac w' hgw
                have hcxw := ((gcell hgw).1 b (off + i) hbl3.out).trans hcx3.out
                have hd1w := ((gcell hgw).1 h2 1 hl3.out).trans hd3.out
                have hszw := hid (Nat.le_trans hs3.out hgw.size)
                replace hgw := hid hgw
                simp only [outThen, preThen, slotIs, factAt, isv, List.getElem?_cons_zero, List.getElem?_cons_succ, Option.getD_some, forall_eq]
                intros
                rename_i hK
                replace hK := hid hK
                simp only [wantedAt]
                go_simp
                exact hK.out _ _ rfl (grown_refl _ _)
              case o3 =>
                go_light
                intro ac w' hgw
                have hcxw := ((gcell hgw).1 b (off + i) hbl3.out).trans hcx3.out
                have hd1w := ((gcell hgw).1 h2 1 hl3.out).trans hd3.out
                have hszw := hid (Nat.le_trans hs3.out hgw.size)
                replace hgw := hid hgw
                simp only [outThen, preThen, slotIs, factAt, isv, List.getElem?_cons_zero, List.getElem?_cons_succ, Option.getD_some, forall_eq]
                intros
                rename_i hK
                replace hK := hid hK
                simp only [wantedAt]
                go_simp
                exact hK.out _ _ rfl (grown_refl _ _)
              case o4 =>
                go_light
                intro ac w' hgw
                have hcxw := ((gcell hgw).1 b (off + i) hbl3.out).trans hcx3.out
                have hd1w := ((gcell hgw).1 h2 1 hl3.out).trans hd3.out
                have hszw := hid (Nat.le_trans hs3.out hgw.size)
                replace hgw := hid hgw
                simp only [outThen, preThen, slotIs, factAt, isv, List.getElem?_cons_zero, List.getElem?_cons_succ, Option.getD_some, forall_eq]
                intros
                rename_i hK
                replace hK := hid hK
                simp only [wantedAt]
                go_simp
                exact hK.out _ _ rfl (grown_refl _ _)
              case o5 =>
                go_light
                intro ac w' hgw
                have hcxw := ((gcell hgw).1 b (off + i) hbl3.out).trans hcx3.out
                have hd1w := ((gcell hgw).1 h2 1 hl3.out).trans hd3.out
                have hszw := hid (Nat.le_trans hs3.out hgw.size)
                replace hgw := hid hgw
                simp only [outThen, preThen, slotIs, factAt, isv, List.getElem?_cons_zero, List.getElem?_cons_succ, Option.getD_some, forall_eq]
                intros
                rename_i hK
                replace hK := hid hK
                simp only [wantedAt]
                go_simp
                exact hK.out _ _ rfl (grown_refl _ _)
              case o6 =>
                go_light
                intro ac w' hgw
                have hcxw := ((gcell hgw).1 b (off + i) hbl3.out).trans hcx3.out
                have hd1w := ((gcell hgw).1 h2 1 hl3.out).trans hd3.out
                have hszw := hid (Nat.le_trans hs3.out hgw.size)
                replace hgw := hid hgw
                simp only [outThen, preThen, slotIs, factAt, isv, List.getElem?_cons_zero, List.getElem?_cons_succ, Option.getD_some, forall_eq]
                intros
                rename_i hK
                replace hK := hid hK
                simp only [wantedAt]
                go_simp
                exact hK.out _ _ rfl (grown_refl _ _)
              case o7 =>
                go_light
                intro ac w' hgw
                have hcxw := ((gcell hgw).1 b (off + i) hbl3.out).trans hcx3.out
                have hd1w := ((gcell hgw).1 h2 1 hl3.out).trans hd3.out
                have hszw := hid (Nat.le_trans hs3.out hgw.size)
                replace hgw := hid hgw
                simp only [outThen, preThen, slotIs, factAt, isv, List.getElem?_cons_zero, List.getElem?_cons_succ, Option.getD_some, forall_eq]
                intros
                rename_i hK
                replace hK := hid hK
                simp only [wantedAt]
                go_simp
                refine (refText_is f Ai ci x _ (by omega) hxb.out (hA3.out.grown (grown_trans (grown_drew (grown_refl w3 none)) hgw.out))).mono ?_
                rintro e w9 ⟨v9, rfl, hrow, hB⟩
                obtain ⟨A9, c9, rfl, _, _⟩ := own_form hrow
                exact hK.out _ _ ⟨A9, c9, rfl, OwnBytes.mono (x := (A9, foldIf f x, c9)) hrow hszw.out⟩ (below_grown hB)
              case o8 =>
                go_light
                intro ac w' hgw
                have hcxw := ((gcell hgw).1 b (off + i) hbl3.out).trans hcx3.out
                have hd1w := ((gcell hgw).1 h2 1 hl3.out).trans hd3.out
                have hszw := hid (Nat.le_trans hs3.out hgw.size)
                replace hgw := hid hgw
                simp only [outThen, preThen, slotIs, factAt, isv, List.getElem?_cons_zero, List.getElem?_cons_succ, Option.getD_some, forall_eq]
                intros
                rename_i v7 h7 hv7 K hK
                replace hK := hid hK
                obtain ⟨A9, c9, rfl, h9⟩ := h7
                have h9' := hid h9
                clear h9
                simp only [wantedAt]
                go_simp
                exact hK.out _ _ ⟨_, A9, c9, rfl, Holds.new _ _ _, h9'.out.grown (grown_alloc (grown_refl _ _) _)⟩ (grown_alloc (grown_refl _ _) _)
            case st =>
              repeat (first | exact AllStable.nil | (refine AllStable.cons ?_ ?_; focus (first | exact stable_isv _ | exact stable_isOwn _ _ | exact stable_isOwn1 _ _)))
            case fin =>
              intro w8 hgw
              simp only [finalIn, factAt, isv, List.getElem?_cons_zero, List.getElem?_cons_succ, Option.getD_some, forall_eq, slotIs, subj, List.take_succ_cons, List.take_zero]
              rintro v7 ⟨A7, c7, rfl, _⟩ v8 ⟨g8, A9, c9, rfl, hg8, ho8⟩
              simp only [Act.put, List.setIfInBounds_toArray, List.set_cons_zero, List.set_cons_succ, List.drop_succ_cons, List.drop_zero]
              have hgx : Hid (w3.grownBy w8 none) := grown_trans (grown_drew (grown_refl w3 none)) hgw
              have H18 := hid (K1.out.kept0 hgx.out)
              have H28 := hid (K2.out.kept0 hgx.out)
              have hR8 := hid (hrows3.out.grown hgx.out)
              have hs8 := hid (Nat.le_trans hs3.out hgx.out.size)
              have hg8' := hid hg8
              have ho8' := hid ho8
              clear hgw hg8 ho8
              gi_wp2_with (gi_at_builtin; refine wpListIn_push_row_at rfl _ _ 22 rfl h i3 Try.underlying22 hi3 hy0 hy1 hy2 _ l (A9, foldIf f x, c9) g8 w8 hR8.out ho8'.out hg8'.out rfl rfl (by rw [hll.out]; omega) hs8.out ?_; intro v9 w9 hrows9 hkeep9 hhold9 hB9; obtain ⟨A10, c10, rfl, _, _⟩ := own_form hrows9.1; have M1 := hhold9 _ _ _ (by decide) H18.out; have M2 := hhold9 _ _ _ (by decide) H28.out; have m1 := M2.cell 1; have n1 := M2.free 1; have o1 := M2.lt; simp at m1; have hG9 := hid (below_grown (Below.trans (below_of_grown (grown_trans hG3.out hgx.out) (Nat.le_refl _) (by simp)) (by rw [hh.out]; exact hB9))); replace M1 := hid M1; replace M2 := hid M2; replace hrows9 := hid hrows9; clear hkeep9 hhold9 hB9)
              go_wp2_with fail
              go_roundw
              case rel => exact ⟨i + 1, l ++ [(A9, foldIf f x, c9)], A10, c10, by omega, by go_num, hid (by rw [hnew.out, ← hlm.out]; simp), hrows9.out.far M2.out (by decide) (by decide) 1 _, by simpa using M2.out.set 1 _, M1.out.far (by simpa using hne12.out) _, grown_set (p := ⟨h2, 1, none⟩) hG9.out (.inr hhi.out) _⟩
              case measure => simp [intOf]; omega
          · have hdt : decide (K < 0) = false := decide_eq_false hK0
            simp only [hdt]
            have hnew := hid (hstep.out.trans (if_neg hK0))
            clear hdt hstep
            go_wp2_with fail
            go_roundw
            case rel => exact ⟨i + 1, l, A, cA, by omega, by go_num, hid (by rw [hnew.out, hlm.out]), by rw [hll.out]; exact hrows3.out, by rw [hll.out]; exact K2.out, K1.out, hG3.out⟩
            case measure => simp [intOf]; omega
      · obtain rfl : i = xss.length := by omega
        rw [List.take_length] at hlm
        have d0 := H2.cell 0
        have d1 := H2.cell 1
        simp at d0 d1
        have e0 := H1.cell 0
        have e1 := H1.cell 1
        have f0 := H1.free 0
        have f1 := H1.free 1
        have hlt1 := H1.lt
        have hlt2 := H2.lt
        simp at e0 e1
        have hS := (H1.set 0 (.bool f)).set 1 (.slice A l.length cA)
        simp at hS
        have s0 := hS.cell 0
        have s1 := hS.cell 1
        simp at s0 s1
        have hgs := hid (grown_set (p := ⟨h, 1, none⟩) (grown_set (p := ⟨h, 0, none⟩) hG (.inr (by have := hh.out; simp; omega)) (.bool f)) (.inr (by have := hh.out; simp; omega)) (.slice A l.length cA))
        have hown := hid ((hrows.far H1 (by decide) (by decide) 0 (.bool f)).far (H1.set 0 (.bool f)) (by decide) (by decide) 1 (.slice A l.length cA))
        clear H1 H2 hS hG hrows
        go_wp2_with fail
        refine bodyPost_ret (v := .tuple #[.agg #[.bool f, .slice A l.length cA], .int .i64 0]) (by simp [results, Try.results22, go_sem, s0, s1]) rfl (hT.out _ _ (by rw [if_pos trivial]; exact ⟨A, cA, l, rfl, hlm.out, hown.out⟩) hgs.out)
  · have hne : (e0 != 0) = true := by rw [bne_iff_ne]; exact he
    have hS := (H1.set 0 (.bool false)).set 1 (.slice none 0 0)
    simp at hS
    have s0 := hS.cell 0
    have s1 := hS.cell 1
    simp at s0 s1
    have hgs := hid (grown_set (p := ⟨h, 1, none⟩) (grown_set (p := ⟨h, 0, none⟩) hG1.out (.inr (by have := hh.out; simp; omega)) (.bool false)) (.inr (by have := hh.out; simp; omega)) (.slice none 0 0))
    clear H1 hS
    replace he := hid he
    go_wp2_with fail
    refine bodyPost_ret (v := .tuple #[.agg #[.bool false, .slice none 0 0], .int .i64 e0]) (by simp [results, Try.results22, go_sem, s0, s1]) rfl (hT.out _ _ (by rw [if_neg he.out]) hgs.out)
end Go.Proofs.Ytojbkhheaondhaa

namespace Go.Proofs.Ytojbkhheaondhaa
open Go.RowKit PlainLetter PlainPatset

theorem make_small (f : Bool) (xss : List (List Int)) (hn : xss.length ≤ 100000) (hl : ∀ i, (xss.getD i []).length ≤ 100000) (hB : ∀ i, Bytes (xss.getD i [])) : Small (makeWords f xss) := by
  have h := small_make f xss xss.length hn hl hB
  rwa [List.take_length] at h

/-- May it be a set? -/
def right (f : Bool) (xss : List (List Int)) : Bool := decide (check f xss = 0 ∧ makeWords f xss = xss)

set_option maxRecDepth 100000 in
set_option maxHeartbeats 2000000 in
theorem refRight_is (f : Bool) (P : Option Addr) (c : Nat) (xss : List (List Int)) (w : World) (hn : xss.length ≤ 100000) (hl : xss.flatten.length ≤ 100000) (hB : ∀ i, Bytes (xss.getD i [])) (hP : Arrs w P xss) :
    Calls Try.prog 8 #[.agg #[.bool f, .slice P xss.length c]] w fun e w' => e = .returned (.bool (right f xss)) ∧ w.grownBy w' none := by
  have hgl : Hid (∀ i, (xss.getD i []).length ≤ 100000) := hid (fun k => by
    by_cases hk : k < xss.length
    · have h1 := flatten_take_succ xss k hk
      have h2 := flatten_take_le xss (k + 1)
      rw [h1, List.length_append] at h2
      omega
    · simp [List.getD, List.getElem?_eq_none (Nat.le_of_not_lt hk)])
  have hSm := hid (make_small f xss hn hgl.out hB)
  have hr : Hid (right f xss = decide (check f xss = 0 ∧ makeWords f xss = xss)) := hid rfl
  replace hP := hid hP
  replace hB := hid hB
  go_enter Try.func8, Try.ntmps8
  go_wp2_with fail
  have hG0 := hid (grown_alloc (grown_refl w none) (.cells #[.bool f, .slice P xss.length c] 24))
  have H0 : Holds (w.alloc (.cells #[.bool f, .slice P xss.length c] 24)) w.heap.size 24 #[.bool f, .slice P xss.length c] := Holds.new _ _ _
  refine (refMake_is f P c xss _ hn hl hB.out (hP.out.grown hG0.out)).mono ?_
  rintro e w1 ⟨v, rfl, hv, hg1⟩
  have hG1 := hid (grown_trans hG0.out hg1)
  have H1 := H0.kept0 hg1
  clear hg1 H0 hG0
  have d0 := H1.cell 0
  have d1 := H1.cell 1
  have hlt1 := H1.lt
  simp at d0 d1
  obtain ⟨h, hh⟩ : ∃ h, w.heap.size = h := ⟨_, rfl⟩
  rw [hh] at H1 d0 d1 hlt1 ⊢
  replace hh := hid hh
  replace H1 := hid H1
  generalize check f xss = e0 at hv hr ⊢
  by_cases he : e0 = 0
  · subst he
    rw [if_pos rfl] at hv
    obtain ⟨A, cA, l, rfl, hlm, hrows⟩ := hv
    have hArr := hid hrows.arrs.2
    rw [hlm] at hArr
    have hll : l.length = (makeWords f xss).length := by rw [← hlm]; simp
    rw [hll]
    clear hll hlm hrows
    generalize makeWords f xss = acc at hArr hSm hr ⊢
    go_wp2_with fail
    refine (refSetSame_is f f A P cA c acc xss _ hSm.out.1 (hArr.out.grown (grown_alloc (grown_refl w1 none) _)) (hP.out.grown (grown_alloc hG1.out _)) (fun i => (hSm.out.2 i).2) hB.out).mono ?_
    rintro e w3 ⟨rfl, hg3⟩
    have hG3 := hid (grown_trans (grown_alloc hG1.out _) hg3)
    clear hg3
    have hr2 : Hid (right f xss = decide (f = f ∧ acc = xss)) := hid (hr.out.trans (by simp))
    rw [← hr2.out]
    clear hr hSm
    generalize hre : right f xss = r
    go_wp2_with fail
    go_ret
    exact ⟨by rw [hre]; rfl, hG3.out⟩
  · have hne : (e0 == 0) = false := by rw [beq_eq_false_iff_ne]; exact he
    have hr2 : Hid (right f xss = false) := hid (hr.out.trans (decide_eq_false (fun h => he h.1)))
    rw [if_neg he] at hv
    subst hv
    replace he := hid he
    clear hr hSm
    go_wp2_with fail
    go_ret
    exact ⟨by rw [hr2.out]; rfl, grown_alloc hG1.out _⟩
end Go.Proofs.Ytojbkhheaondhaa
