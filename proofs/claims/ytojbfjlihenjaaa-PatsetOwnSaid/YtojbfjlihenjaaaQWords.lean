/- Texts as words, as the law's own helper builds them. -/
import Derived.Test.YtojbfjlihenjaaaQMake
import Derived.Laws.IdiomStrings
set_option linter.unusedSimpArgs false
set_option linter.unusedVariables false
namespace Go.Proofs.Ytojbfjlihenjaaa
open Go.RowKit PlainLetter PlainPatset

/-- Bytes in a block of their own, whatever its spare room. -/
def Strung (w : World) (x : Sl) : Prop := ∃ b C fr, x.1 = some ⟨b, 0, none⟩ ∧ w.heap[b]? = some (.cells C 5 fr) ∧ ∀ i, i < x.2.1.length → C[i]? = some (.int .u8 (x.2.1.getD i 0))

theorem Strung.arr {w : World} {x : Sl} (h : Strung w x) : Arr w .u8 x.1 x.2.1 := fun _ => by
  obtain ⟨b, C, fr, h1, h2, h3⟩ := h
  exact ⟨b, 0, h1, (Array.getElem?_eq_some_iff.1 h2).1, fun i hi => by rw [cell_of_row w b (0 + i) C _ fr h2, Nat.zero_add]; exact h3 i hi⟩
theorem Strung.grown {w w' : World} {x : Sl} (h : Strung w x) (hg : w.grownBy w' none) : Strung w' x := by
  obtain ⟨b, C, fr, h1, h2, h3⟩ := h
  exact ⟨b, C, fr, h1, (hg.block b (Array.getElem?_eq_some_iff.1 h2).1 (by simp)).trans h2, h3⟩
theorem Strung.kept {w w' : World} {x : Sl} {base e n : Nat} {v : Value} {xs : List Value} (h : Strung w x) (ho : w.ownsRow base e 1 v n xs) (he : e ≠ 5) (hg : w.grownBy w' v.ownBlock) : Strung w' x := by
  obtain ⟨b, C, fr, h1, h2, h3⟩ := h
  refine ⟨b, C, fr, h1, (hg.block b (Array.getElem?_eq_some_iff.1 h2).1 fun hb => ?_).trans h2, h3⟩
  rcases ho.2 with ⟨h0, _⟩ | ⟨g, cap, cur, h0, _, hb2, _⟩
  · rw [h0] at hb; simp [Value.ownBlock] at hb
  · rw [h0] at hb
    obtain rfl : b = g := by simpa [Value.ownBlock] using hb
    rw [hb2] at h2
    injection h2 with h2
    injection h2 with _ h2
    exact he h2

/-- The row of slices reads. -/
theorem rows_arrs {w : World} {base n c : Nat} {A : Option Addr} {l : List Sl} (h1 : w.ownsRow base 25 1 (.slice A n c) l.length (l.map slV)) (h2 : ∀ x ∈ l, Arr w .u8 x.1 x.2.1) : n = l.length ∧ Arrs w A (l.map (·.2.1)) := by
  refine ⟨?_, fun hz => ?_⟩
  · obtain ⟨A', c', he, _⟩ := own_form h1
    injection he
  · rcases h1.2 with ⟨hv, h0⟩ | ⟨g, cap, cur, hv, _, hg, hnc, hm, hs, ht⟩
    · have : l = [] := List.eq_nil_of_length_eq_zero h0
      subst this
      exact absurd rfl hz
    · injection hv with hv1 hv2 hv3
      subst hv1
      refine ⟨g, 0, rfl, (Array.getElem?_eq_some_iff.1 hg).1, fun i hi => ?_⟩
      simp only [List.length_map] at hi
      refine ⟨(l[i]).1, (l[i]).2.2, ?_, ?_⟩
      · rw [cell_of_row w g (0 + i) cur _ (0, 0) hg, Nat.zero_add]
        have : (cur.toList.take (l.length * 1))[i]? = some (slV l[i]) := by rw [ht]; simp [hi]
        rw [List.getElem?_take] at this
        split at this
        · simpa [List.getD, hi] using this
        · cases this
      · have := h2 l[i] (List.getElem_mem hi)
        simpa [List.getD, hi] using this

/-- One slice more, of bytes in a block of their own. -/
theorem wpList_push_str {P : Program} {ops : Array Oper} {rest : List Oper} {o : Oper} {a : Act} {Q : Exit → Act → World → Prop} (hgd : o.guard = none) (s x : Operand) (t : TypeId) (ho : o.op = .call { callee := .builtin .append, args := #[s, x], argTypes := #[t, t] })
    (base : Nat) (i : TypeInfo) (ht : P.underlying t = some (.slice 25)) (hi : P.info? 25 = some i) (hz : i.zero = some (.slice none 0 0)) (hsize : i.size = 1) (hby : i.bytes = 24)
    (v : Value) (l : List Sl) (y : Sl) (w : World) (hown : w.ownsRow base 25 1 v l.length (l.map slV)) (hl : ∀ x ∈ l, Strung w x) (hy : Strung w y) (hs : a.eval s = v)
    (hx : a.eval x = .slice (some ⟨w.heap.size, 0, none⟩) 1 1) (hlen : l.length ≤ 2147483647) (hbase : base ≤ w.heap.size)
    (h : ∀ v' w', w'.ownsRow base 25 1 v' (l ++ [y]).length ((l ++ [y]).map slV) → (∀ x ∈ l ++ [y], Strung w' x) → Below base w w' → wpList P ops Q rest (a.put o.dst v') w') :
    wpList P ops Q (o :: rest) a (w.alloc (.cells #[slV y] 25)) := by
  have hown1 := hown.alloc (.cells #[slV y] 25)
  have hga := grown_alloc (grown_refl w none) (.cells #[slV y] 25)
  refine wpList_append_own (w.alloc (.cells #[slV y] 25)) hgd s x t ho base 25 i (.slice none 0 0) 1 24 ht hi hz hsize hby rfl (by decide) v l.length (l.map slV) hs hown1 ⟨w.heap.size, 0, none⟩ 1 1 [slV y] hx rfl
    (cell_one_new _ _ _) (by simp [Value.oneCell']) (by unfold maxLen; omega) (by omega) (by simp; omega) ?_
  intro v' w' h1 h2 _
  refine h v' w' (by simpa using h1) (fun z hz => ?_) ?_
  · have : Strung w z := by
      rcases List.mem_append.1 hz with hz | hz
      · exact hl z hz
      · obtain rfl : z = y := by simpa using hz
        exact hy
    exact (this.grown hga).kept hown1 (by decide) h2
  · exact ((Below.refl base w).alloc hbase _).trans (below_of_grown h2 (by simp; omega) (fun j hj => (hown.lt j hj).1))

/-- A text's bytes, as the program turns them. -/
theorem conv_str (w : World) (x : List Int) (hx : Bytes x) : ∃ c w', (convert 9 25 (.string (strOfNums x))).run Try.prog w = .ok (.slice (some ⟨w.heap.size, 0, none⟩) x.length c) w' ∧ Strung w' (some ⟨w.heap.size, 0, none⟩, x, c) ∧ w.grownBy w' none := by
  have hsz : (strOfNums x).size = x.length := by simp [strOfNums, ByteArray.size]
  have h := run_bytes_of_string (P := Try.prog) w 9 25 5 (strOfNums x) Try.underlying9 Try.underlying25 Try.underlying5
  rw [hsz] at h
  refine ⟨_, _, h, ⟨w.heap.size, _, _, rfl, World.alloc_heap_new w.drew _, fun i hi => ?_⟩, grown_alloc (grown_drew (grown_refl w none)) _⟩
  rw [bytesRow_at _ _ i (by simpa [strOfNums] using hi)]
  have hb := hx i
  simp only [List.getD, List.getElem?_eq_getElem hi, Option.getD_some] at hb ⊢
  simp [strOfNums]
  omega

set_option maxRecDepth 100000 in
set_option maxHeartbeats 2000000 in
theorem words_is (g c : Nat) (xss : List (List Int)) (w : World) (hn : xss.length ≤ 100000) (hB : ∀ i, Bytes (xss.getD i [])) (hH : Holds w g 9 (xss.map fun x => Value.string (strOfNums x)).toArray) :
    Calls Try.prog 28 #[.slice (some ⟨g, 0, none⟩) xss.length c] w fun e w' => ∃ A cA, e = .returned (.slice A xss.length cA) ∧ Arrs w' A xss ∧ w.grownBy w' none := by
  obtain ⟨i3, hi3, hy0, hy1, hy2⟩ := info_parts Try.rowInfo
  have hlt := hH.lt
  replace hB := hid hB
  replace hH := hid hH
  obtain ⟨h, hh⟩ : ∃ h, w.heap.size = h := ⟨_, rfl⟩
  replace hh := hid hh
  go_enter Try.func28, Try.ntmps28
  go_wp2_with fail
  go_loopw [3, 4] (fun u v wr => ∃ (i : Nat) (l : List Sl), i ≤ xss.length ∧ v = .int .i64 i ∧ Hid (l.map (·.2.1) = xss.take i) ∧ wr.ownsRow h 25 1 u l.length (l.map slV) ∧ Hid (∀ x ∈ l, Strung wr x) ∧ w.grownBy wr none) (fun _ v _ => xss.length - (intOf v).toNat)
  case atStart => exact ⟨0, [], by omega, rfl, hid (by simp), World.ownsRow_nil _ _ _ _, hid (fun x hx => by cases hx), grown_refl _ _⟩
  case round =>
    obtain ⟨i, l, hi1, rfl, hlm, hrow, hst, hG⟩ := hrel
    by_cases hil : i < xss.length
    · have hcell := (hH.out.kept0 hG).cell i
      have hxb := hid (hB.out i)
      have hnew := hid (take_getD xss i [] hil)
      simp [hil] at hcell
      have hgx : xss[i] = xss.getD i [] := by simp [List.getD, hil]
      rw [hgx] at hcell
      clear hgx
      generalize xss.getD i [] = x at hcell hxb hnew
      obtain ⟨cc, W1, hconv, hs1, hg1⟩ := conv_str wr x hxb.out
      have hll : Hid (l.length = i) := hid (by have := congrArg List.length hlm.out; simpa [Nat.min_eq_left hi1] using this)
      have hrow1 := hid (own_kept0 hrow hg1)
      have hst1 : Hid (∀ z ∈ l, Strung W1 z) := hid (fun z hz => (hst.out z hz).grown hg1)
      have hS1 := hid hs1
      have hG1 := hid (grown_trans hG hg1)
      have hsz : Hid (h ≤ W1.heap.size) := hid (by rw [← hh.out]; exact hG1.out.size)
      clear hs1 hg1 hG hst hrow
      have i0' : (0 : Int) ≤ (i : Int) := by omega
      have i1' : (i : Int) < (xss.length : Int) := by omega
      go_wp2_with (at_builtin; refine wpList_push_str rfl _ _ 22 rfl h i3 Try.underlying22 hi3 hy0 hy1 hy2 _ l (some ⟨wr.heap.size, 0, none⟩, x, cc) W1 hrow1.out hst1.out hS1.out rfl rfl (by rw [hll.out]; omega) hsz.out ?_; intro v8 w8 hrows8 hst8 hB8)
      have hG8 := hid (below_grown (Below.trans (below_of_grown hG1.out (Nat.le_refl _) (by simp)) (by rw [hh.out]; exact hB8)))
      clear hB8
      replace hrows8 := hid hrows8
      go_wp2_with fail
      go_roundw
      case rel => exact ⟨i + 1, l ++ [(some ⟨wr.heap.size, 0, none⟩, x, cc)], by omega, by go_num, hid (by rw [hnew.out, ← hlm.out]; simp), hrows8.out, hid hst8, hG8.out⟩
      case measure => simp [intOf]; omega
    · obtain rfl : i = xss.length := by omega
      rw [List.take_length] at hlm
      obtain ⟨A, cA, rfl, _, _⟩ := own_form hrow
      have hA := hid (rows_arrs hrow (fun z hz => (hst.out z hz).arr)).2
      rw [hlm.out] at hA
      have hll : l.length = xss.length := by rw [← hlm.out]; simp
      rw [hll]
      replace hG := hid hG
      clear hrow hst hll
      go_wp2_with fail
      go_ret
      exact ⟨A, cA, rfl, hA.out, hG.out⟩
end Go.Proofs.Ytojbfjlihenjaaa
