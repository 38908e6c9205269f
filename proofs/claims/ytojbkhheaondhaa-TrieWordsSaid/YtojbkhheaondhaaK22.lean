/- Slices of slices of bytes, with room for each. The document's own answer: are two lists of numbers, two trees the same?. A tree in memory: what is told of it. Package trie: are there nodes, and lists of one length? Is the first one the root?. -/
import Derived.Test.YtojbkhheaondhaaK20
import Derived.Test.YtojbkhheaondhaaK3
import Derived.Test.YtojbkhheaondhaaK15
import Derived.Test.YtojbkhheaondhaaK4
set_option linter.unusedSimpArgs false
set_option linter.unusedVariables false
set_option maxRecDepth 100000
namespace Go.Proofs.Ytojbkhheaondhaa
open Go.RowKit

/-- A slice of slices of bytes, with room for each. -/
def ArrsR (w : World) (A : Option Addr) (xss : List (List Int)) : Prop :=
  xss ≠ [] → ∃ b off, A = some ⟨b, off, none⟩ ∧ b < w.heap.size ∧ ∀ i, i < xss.length → ∃ Ai ci, w.cell? ⟨b, off + i, none⟩ = some (.slice Ai (xss.getD i []).length ci) ∧ (xss.getD i []).length ≤ ci ∧ ci ≤ maxLen ∧ Arr w .u8 Ai (xss.getD i [])
theorem ArrsR.arrs {w : World} {A : Option Addr} {xss : List (List Int)} (h : ArrsR w A xss) : Arrs w A xss := fun hz => by
  obtain ⟨b, off, h1, h2, h3⟩ := h hz
  exact ⟨b, off, h1, h2, fun i hi => by obtain ⟨Ai, ci, g1, _, _, g2⟩ := h3 i hi; exact ⟨Ai, ci, g1, g2⟩⟩
theorem ArrsR.at_ {w : World} {A : Option Addr} {xss : List (List Int)} (h : ArrsR w A xss) {i : Nat} (hi : i < xss.length) :
    ∃ b off Ai ci, A = some ⟨b, off, none⟩ ∧ b < w.heap.size ∧ w.cell? ⟨b, off + i, none⟩ = some (.slice Ai (xss.getD i []).length ci) ∧ (xss.getD i []).length ≤ ci ∧ ci ≤ maxLen ∧ Arr w .u8 Ai (xss.getD i []) := by
  obtain ⟨b, off, rfl, hb, hc⟩ := h (by intro e; subst e; simp at hi)
  obtain ⟨Ai, ci, h1, h2, h3, h4⟩ := hc i hi
  exact ⟨b, off, Ai, ci, rfl, hb, h1, h2, h3, h4⟩
theorem ArrsR.grown {w w' : World} {A : Option Addr} {xss : List (List Int)} (h : ArrsR w A xss) (hg : w.grownBy w' none) : ArrsR w' A xss := fun hz => by
  obtain ⟨b, off, rfl, hb, hc⟩ := h hz
  exact ⟨b, off, rfl, Nat.lt_of_lt_of_le hb hg.size, fun i hi => by
    obtain ⟨Ai, ci, h1, h2, h3, h4⟩ := hc i hi
    exact ⟨Ai, ci, ((gcell hg).1 b (off + i) hb).trans h1, h2, h3, h4.grown hg⟩⟩

/-- A slice whose length is within its room. -/
def RoomV (v : Value) : Prop := ∃ A n c, v = .slice A n c ∧ n ≤ c ∧ c ≤ maxLen

theorem cells_of_arrsR {w : World} {A : Option Addr} {xss : List (List Int)} (h : ArrsR w A xss) : ∃ vs, CellsAt w A vs ∧ RowLike xss vs w ∧ ∀ u ∈ vs, RoomV u := by
  have : ∀ k, ∃ x : Option Addr × Nat, k < xss.length → ∃ b off, A = some ⟨b, off, none⟩ ∧ b < w.heap.size ∧ w.cell? ⟨b, off + k, none⟩ = some (.slice x.1 (xss.getD k []).length x.2) ∧ (xss.getD k []).length ≤ x.2 ∧ x.2 ≤ maxLen ∧ Arr w .u8 x.1 (xss.getD k []) := fun k => by
    by_cases hk : k < xss.length
    · obtain ⟨b, off, Ai, ci, h1, h2, h3, h4, h5, h6⟩ := h.at_ hk
      exact ⟨(Ai, ci), fun _ => ⟨b, off, h1, h2, h3, h4, h5, h6⟩⟩
    · exact ⟨(none, 0), fun h => absurd h hk⟩
  refine ⟨(List.range xss.length).map fun k => .slice (Classical.choose (this k)).1 (xss.getD k []).length (Classical.choose (this k)).2, fun hz => ?_, ⟨by simp, fun i hi => ?_⟩, fun u hu => ?_⟩
  · have h0 : 0 < xss.length := by
      by_cases e : xss = []
      · subst e; exact absurd rfl hz
      · exact List.length_pos_iff.2 e
    obtain ⟨b, off, h1, h2, _⟩ := Classical.choose_spec (this 0) h0
    refine ⟨b, off, h1, h2, fun i hi => ?_⟩
    have hi' : i < xss.length := by simpa using hi
    obtain ⟨b', off', h1', _, h3', _⟩ := Classical.choose_spec (this i) hi'
    rw [h1] at h1'
    injection h1' with h1'
    injection h1' with e1 e2
    subst e1 e2
    rw [h3']
    simp [hi']
  · obtain ⟨_, _, _, _, _, _, _, h4⟩ := Classical.choose_spec (this i) hi
    exact ⟨(Classical.choose (this i)).1, (Classical.choose (this i)).2, by simp [hi], h4⟩
  · obtain ⟨k, hk, rfl⟩ := List.mem_map.1 hu
    obtain ⟨_, _, _, _, _, h5, h6, _⟩ := Classical.choose_spec (this k) (List.mem_range.1 hk)
    exact ⟨_, _, _, rfl, h5, h6⟩

theorem arrsR_of_own {w : World} {base n c : Nat} {A : Option Addr} {xss : List (List Int)} {vs : List Value} (h : w.ownsRow base 28 1 (.slice A n c) n vs) (hr : RowLike xss vs w) (hv : ∀ u ∈ vs, RoomV u) : ArrsR w A xss := fun hz => by
  obtain ⟨b, off, h1, h2, h3⟩ := arrs_of_own h hr hz
  refine ⟨b, off, h1, h2, fun i hi => ?_⟩
  obtain ⟨Ai, ci, g1, g2⟩ := hr.2 i hi
  obtain ⟨A', n', c', e1, e2, e3⟩ := hv _ (List.mem_of_getElem? g1)
  injection e1 with x1 x2 x3
  subst x1 x2 x3
  refine ⟨Ai, ci, ?_, e2, e3, g2⟩
  rcases h.2 with ⟨q1, q2⟩ | ⟨g, cap, cur, hv', _, hg, hnc, hm, hs, ht⟩
  · have : xss = [] := List.eq_nil_of_length_eq_zero (by rw [← hr.1]; have := h.1; omega)
    exact absurd this hz
  · injection hv' with y1 y2 y3
    rw [h1] at y1
    injection y1 with y1
    injection y1 with y4 y5
    subst y4 y5
    rw [cell_of_row w b (0 + i) cur _ (0, 0) hg, Nat.zero_add]
    have : (cur.toList.take (n * 1))[i]? = some (.slice Ai (xss.getD i []).length ci) := by rw [ht]; exact g1
    rw [List.getElem?_take] at this
    split at this
    · simpa using this
    · cases this

theorem ArrsR.one {w : World} {g : Nat} {t : TypeId} {A : Option Addr} {xs : List Int} {c : Nat} (h : Holds w g t #[.slice A xs.length c]) (hA : Arr w .u8 A xs) (hc : xs.length ≤ c) (hm : c ≤ maxLen) : ArrsR w (some ⟨g, 0, none⟩) [xs] := fun _ =>
  ⟨g, 0, rfl, h.lt, fun i hi => by
    obtain rfl : i = 0 := by simpa using hi
    exact ⟨A, c, (h.cell 0).trans rfl, hc, hm, hA⟩⟩
end Go.Proofs.Ytojbkhheaondhaa

namespace Go.Proofs.Ytojbkhheaondhaa
open Go.RowKit PlainLetter

theorem ints_same {a b : List Int} (hl : a.length = b.length) (h : ∀ j, j < a.length → a.getD j 0 = b.getD j 0) : a = b := by
  refine List.ext_getElem hl (fun i hi hi' => ?_)
  have := h i hi
  simpa [List.getD, hi, hi'] using this

set_option maxRecDepth 100000 in
set_option maxHeartbeats 2000000 in
theorem refInts_is (A B : Option Addr) (c d : Nat) (a b : List Int) (w : World) (hl : a.length ≤ 100000) (hA : Arr w .i64 A a) (hB : Arr w .i64 B b) :
    Calls Try.prog 44 #[.slice A a.length c, .slice B b.length d] w fun e w' => e = .returned (.bool (decide (a = b))) ∧ w.grownBy w' none := by
  by_cases hlen : a.length = b.length
  · rw [← hlen]
    replace hlen := hid hlen
    replace hA := hid hA
    replace hB := hid hB
    go_enter Try.func44, Try.ntmps44
    go_wp2_with fail
    go_loopw [5] (fun i wr => ∃ k : Nat, k ≤ a.length ∧ i = .int .i64 k ∧ w.grownBy wr none ∧ ∀ j, j < k → a.getD j 0 = b.getD j 0) (fun i _ => a.length - (intOf i).toNat)
    case atStart => exact ⟨0, Nat.zero_le _, rfl, grown_refl _ _, fun j hj => absurd hj (Nat.not_lt_zero _)⟩
    case round =>
      obtain ⟨k, hk, rfl, hG, hall⟩ := hrel
      replace hall := hid hall
      by_cases hlt : k < a.length
      · obtain ⟨b1, o1, rfl, _, hc1⟩ := (hA.out.grown hG).at_ hlt
        obtain ⟨b2, o2, rfl, _, hc2⟩ := (hB.out.grown hG).at_ (i := k) (by rw [← hlen.out]; exact hlt)
        have hk1 := hc1 k hlt
        have hk2 := hc2 k (by rw [← hlen.out]; exact hlt)
        have hG' := hid (grown_drew hG)
        clear hA hB hc1 hc2 hG
        obtain ⟨x, hx⟩ : ∃ x, a.getD k 0 = x := ⟨_, rfl⟩
        obtain ⟨y, hy⟩ : ∃ y, b.getD k 0 = y := ⟨_, rfl⟩
        rw [hx] at hk1
        rw [hy] at hk2
        replace hx := hid hx
        replace hy := hid hy
        by_cases hxy : x = y
        · subst hxy
          go_wp2_with fail
          go_still_tail 8, (by kernel_rfl)
          change wpList _ _ _ _ _ wr.drew
          go_wp2_with fail
          go_roundw
          case rel => exact ⟨k + 1, by omega, by go_num, hG'.out, fun j hj => by
            by_cases hjk : j < k
            · exact hall.out j hjk
            · obtain rfl : j = k := by omega
              exact hx.out.trans hy.out.symm⟩
          case measure => simp [intOf]; omega
        · have hne : (x != y) = true := by simp [hxy]
          have hre : Hid (decide (a = b) = false) := hid (decide_eq_false fun e => hxy (by rw [← hx.out, ← hy.out, e]))
          replace hxy := hid hxy
          go_wp2_with fail
          go_still_tail 8, (by kernel_rfl)
          change wpList _ _ _ _ _ wr.drew
          go_wp2_with fail
          go_ret
          exact ⟨by rw [hre.out]; rfl, hG'.out⟩
      · have hre : Hid (decide (a = b) = true) := hid (decide_eq_true (ints_same hlen.out fun j hj => hall.out j (by omega)))
        go_wp2_with fail
        go_ret
        exact ⟨by rw [hre.out]; rfl, hG⟩
  · have hre : Hid (decide (a = b) = false) := hid (decide_eq_false fun e => hlen (by rw [e]))
    have hne : ((a.length : Int) != (b.length : Int)) = true := by simp; omega
    clear hA hB
    go_enter Try.func44, Try.ntmps44
    go_wp2_with fail
    go_ret
    exact ⟨by rw [hre.out]; rfl, grown_refl _ _⟩

/-- A tree in memory. -/
structure TreeAt (w : World) (U D W B : Option Addr) (t : PlainTrie.Tree) : Prop where
  up : Arr w .i64 U t.up
  depth : Arr w .i64 D t.depth
  word : Arr w .i64 W t.word
  byte : Arr w .u8 B t.byte
theorem TreeAt.grown {w w' : World} {U D W B : Option Addr} {t : PlainTrie.Tree} (h : TreeAt w U D W B t) (hg : w.grownBy w' none) : TreeAt w' U D W B t :=
  ⟨h.up.grown hg, h.depth.grown hg, h.word.grown hg, h.byte.grown hg⟩
abbrev treeV (U D W B : Option Addr) (t : PlainTrie.Tree) (cu cd cw cb : Nat) : Value := .agg #[.slice U t.up.length cu, .slice D t.depth.length cd, .slice W t.word.length cw, .slice B t.byte.length cb]

theorem tree_eq (s t : PlainTrie.Tree) : decide (s = t) = (((decide (s.up = t.up) && decide (s.depth = t.depth)) && decide (s.word = t.word)) && decide (s.byte = t.byte)) := by
  obtain ⟨a, b, c, d⟩ := s
  obtain ⟨e, f, g, h⟩ := t
  simp [Bool.and_assoc]

set_option maxRecDepth 100000 in
set_option maxHeartbeats 4000000 in
theorem refTSame_is (U D W B U2 D2 W2 B2 : Option Addr) (cu cd cw cb cu2 cd2 cw2 cb2 : Nat) (s t : PlainTrie.Tree) (w : World) (h1 : s.up.length ≤ 100000) (h2 : s.depth.length ≤ 100000) (h3 : s.word.length ≤ 100000) (hs : Bytes s.byte) (ht : Bytes t.byte)
    (hA : TreeAt w U D W B s) (hB : TreeAt w U2 D2 W2 B2 t) :
    Calls Try.prog 24 #[treeV U D W B s cu cd cw cb, treeV U2 D2 W2 B2 t cu2 cd2 cw2 cb2] w fun e w' => e = .returned (.bool (decide (s = t))) ∧ w.grownBy w' none := by
  have hT := hid (tree_eq s t)
  obtain ⟨u, d, o, b⟩ := s
  obtain ⟨u', d', o', b'⟩ := t
  simp only at h1 h2 h3 hs ht hT
  have hse := hid (str_eq b b' hs ht)
  have hG0 : Hid (w.grownBy ((w.alloc (.cells #[.slice U u.length cu, .slice D d.length cd, .slice W o.length cw, .slice B b.length cb] 30)).alloc (.cells #[.slice U2 u'.length cu2, .slice D2 d'.length cd2, .slice W2 o'.length cw2, .slice B2 b'.length cb2] 30)) none) := grown_alloc (grown_alloc (grown_refl w none) _) _
  have K1 : Hid (Holds ((w.alloc (.cells #[.slice U u.length cu, .slice D d.length cd, .slice W o.length cw, .slice B b.length cb] 30)).alloc (.cells #[.slice U2 u'.length cu2, .slice D2 d'.length cd2, .slice W2 o'.length cw2, .slice B2 b'.length cb2] 30)) w.heap.size 30 #[.slice U u.length cu, .slice D d.length cd, .slice W o.length cw, .slice B b.length cb]) := (Holds.new _ _ _).alloc _
  have K2 : Hid (Holds ((w.alloc (.cells #[.slice U u.length cu, .slice D d.length cd, .slice W o.length cw, .slice B b.length cb] 30)).alloc (.cells #[.slice U2 u'.length cu2, .slice D2 d'.length cd2, .slice W2 o'.length cw2, .slice B2 b'.length cb2] 30)) (w.heap.size + 1) 30 #[.slice U2 u'.length cu2, .slice D2 d'.length cd2, .slice W2 o'.length cw2, .slice B2 b'.length cb2]) := by
    refine Holds.new_at _ _ ?_
    simp
  replace hA := hid hA
  replace hB := hid hB
  replace hs := hid hs
  replace ht := hid ht
  go_enter Try.func24, Try.ntmps24
  go_upto_region 1 with fail
  obtain ⟨W0, hW0⟩ : ∃ W0, (w.alloc (.cells #[.slice U u.length cu, .slice D d.length cd, .slice W o.length cw, .slice B b.length cb] 30)).alloc (.cells #[.slice U2 u'.length cu2, .slice D2 d'.length cd2, .slice W2 o'.length cw2, .slice B2 b'.length cb2] 30) = W0 := ⟨_, rfl⟩
  rw [hW0] at K1 K2 hG0 ⊢
  clear hW0
  obtain ⟨h, hh⟩ : ∃ h, w.heap.size = h := ⟨_, rfl⟩
  rw [hh] at K1 K2 ⊢
  clear hh
  have c0 := K1.out.cell 0
  have c1 := K1.out.cell 1
  have c2 := K1.out.cell 2
  have c3 := K1.out.cell 3
  have d0 := K2.out.cell 0
  have d1 := K2.out.cell 1
  have d2 := K2.out.cell 2
  have d3 := K2.out.cell 3
  simp at c0 c1 c2 c3 d0 d1 d2 d3
  have hA0 := hid (hA.out.grown hG0.out)
  have hB0 := hid (hB.out.grown hG0.out)
  obtain ⟨x1, hx1⟩ : ∃ x, decide (u = u') = x := ⟨_, rfl⟩
  obtain ⟨x2, hx2⟩ : ∃ x, decide (d = d') = x := ⟨_, rfl⟩
  obtain ⟨x3, hx3⟩ : ∃ x, decide (o = o') = x := ⟨_, rfl⟩
  rw [hx1, hx2, hx3] at hT
  replace hx1 := hid hx1
  replace hx2 := hid hx2
  replace hx3 := hid hx3
  clear hA hB
  have t1 : Hid True := trivial
  cases x1 with
  | false =>
    go_wp2_with (go_at_call 44; clear t1; refine (refInts_is U U2 cu cu2 u u' W0 h1 hA0.out.up hB0.out.up).mono ?_; rintro e w1 ⟨rfl, hg⟩; rw [hx1.out]; have g1 := hid hg; clear hg; have f1 := (K1.out.kept0 g1.out).cell 1; have f2 := (K2.out.kept0 g1.out).cell 1; simp at f1 f2; have t2 : Hid True := trivial; clear c0 c1 c2 c3 d0 d1 d2 d3)
    go_ret
    exact ⟨by rw [hT.out]; rfl, grown_trans hG0.out g1.out⟩
  | true =>
    cases x2 with
    | false =>
      go_wp2_with (first
        | (go_at_call 44; clear t1; refine (refInts_is U U2 cu cu2 u u' W0 h1 hA0.out.up hB0.out.up).mono ?_; rintro e w1 ⟨rfl, hg⟩; rw [hx1.out]; have g1 := hid hg; clear hg; have f1 := (K1.out.kept0 g1.out).cell 1; have f2 := (K2.out.kept0 g1.out).cell 1; simp at f1 f2; have t2 : Hid True := trivial; clear c0 c1 c2 c3 d0 d1 d2 d3)
        | (go_at_call 44; clear t2; refine (refInts_is D D2 cd cd2 d d' w1 h2 (hA0.out.grown g1.out).depth (hB0.out.grown g1.out).depth).mono ?_; rintro e w2 ⟨rfl, hg⟩; rw [hx2.out]; have g2 := hid (grown_trans g1.out hg); clear hg; have f3 := (K1.out.kept0 g2.out).cell 2; have f4 := (K2.out.kept0 g2.out).cell 2; simp at f3 f4; have t3 : Hid True := trivial; clear f1 f2))
      go_ret
      exact ⟨by rw [hT.out]; rfl, grown_trans hG0.out g2.out⟩
    | true =>
      cases x3 with
      | false =>
        go_wp2_with (first
          | (go_at_call 44; clear t1; refine (refInts_is U U2 cu cu2 u u' W0 h1 hA0.out.up hB0.out.up).mono ?_; rintro e w1 ⟨rfl, hg⟩; rw [hx1.out]; have g1 := hid hg; clear hg; have f1 := (K1.out.kept0 g1.out).cell 1; have f2 := (K2.out.kept0 g1.out).cell 1; simp at f1 f2; have t2 : Hid True := trivial; clear c0 c1 c2 c3 d0 d1 d2 d3)
          | (go_at_call 44; clear t2; refine (refInts_is D D2 cd cd2 d d' w1 h2 (hA0.out.grown g1.out).depth (hB0.out.grown g1.out).depth).mono ?_; rintro e w2 ⟨rfl, hg⟩; rw [hx2.out]; have g2 := hid (grown_trans g1.out hg); clear hg; have f3 := (K1.out.kept0 g2.out).cell 2; have f4 := (K2.out.kept0 g2.out).cell 2; simp at f3 f4; have t3 : Hid True := trivial; clear f1 f2)
          | (go_at_call 44; clear t3; refine (refInts_is W W2 cw cw2 o o' w2 h3 (hA0.out.grown g2.out).word (hB0.out.grown g2.out).word).mono ?_; rintro e w3 ⟨rfl, hg⟩; rw [hx3.out]; have g3 := hid (grown_trans g2.out hg); clear hg; have f5 := (K1.out.kept0 g3.out).cell 3; have f6 := (K2.out.kept0 g3.out).cell 3; simp at f5 f6; clear f3 f4; have v1 := conv_arr w3 B cb b (hA0.out.grown g3.out).byte; have v2 := conv_arr w3 B2 cb2 b' (hB0.out.grown g3.out).byte; have he := hid hse.out; generalize strOfNums b = sa at v1 he; generalize strOfNums b' = sb at v2 he))
        go_ret
        exact ⟨by rw [hT.out]; rfl, grown_trans hG0.out g3.out⟩
      | true =>
        go_wp2_with (first
          | (go_at_call 44; clear t1; refine (refInts_is U U2 cu cu2 u u' W0 h1 hA0.out.up hB0.out.up).mono ?_; rintro e w1 ⟨rfl, hg⟩; rw [hx1.out]; have g1 := hid hg; clear hg; have f1 := (K1.out.kept0 g1.out).cell 1; have f2 := (K2.out.kept0 g1.out).cell 1; simp at f1 f2; have t2 : Hid True := trivial; clear c0 c1 c2 c3 d0 d1 d2 d3)
          | (go_at_call 44; clear t2; refine (refInts_is D D2 cd cd2 d d' w1 h2 (hA0.out.grown g1.out).depth (hB0.out.grown g1.out).depth).mono ?_; rintro e w2 ⟨rfl, hg⟩; rw [hx2.out]; have g2 := hid (grown_trans g1.out hg); clear hg; have f3 := (K1.out.kept0 g2.out).cell 2; have f4 := (K2.out.kept0 g2.out).cell 2; simp at f3 f4; have t3 : Hid True := trivial; clear f1 f2)
          | (go_at_call 44; clear t3; refine (refInts_is W W2 cw cw2 o o' w2 h3 (hA0.out.grown g2.out).word (hB0.out.grown g2.out).word).mono ?_; rintro e w3 ⟨rfl, hg⟩; rw [hx3.out]; have g3 := hid (grown_trans g2.out hg); clear hg; have f5 := (K1.out.kept0 g3.out).cell 3; have f6 := (K2.out.kept0 g3.out).cell 3; simp at f5 f6; clear f3 f4; have v1 := conv_arr w3 B cb b (hA0.out.grown g3.out).byte; have v2 := conv_arr w3 B2 cb2 b' (hB0.out.grown g3.out).byte; have he := hid hse.out; generalize strOfNums b = sa at v1 he; generalize strOfNums b' = sb at v2 he))
        go_ret
        exact ⟨by rw [hT.out, ← he.out]; rfl, grown_trans hG0.out g3.out⟩

end Go.Proofs.Ytojbkhheaondhaa

namespace Go.Proofs.Ytojbkhheaondhaa
open Go.RowKit PlainLetter

/-- Words of at most 32 bytes, at most 64 of them. -/
def Wds (ws : List (List Int)) : Prop := ws.length ≤ 64 ∧ ∀ x ∈ ws, Bytes x ∧ x.length ≤ 32
theorem climb_all {up byte : List Int} (hb : Bytes byte) : ∀ (f : Nat) (i : Int), Bytes (PlainTrie.climb up byte f i) ∧ (PlainTrie.climb up byte f i).length ≤ f
  | 0, _ => ⟨fun i => by simp [PlainTrie.climb], by simp [PlainTrie.climb]⟩
  | f + 1, i => by
    unfold PlainTrie.climb
    split
    · obtain ⟨h1, h2⟩ := climb_all (up := up) hb f (up.getD i.toNat 0)
      refine ⟨fun j => ?_, by rw [List.length_append, List.length_singleton]; omega⟩
      generalize PlainTrie.climb up byte f (up.getD i.toNat 0) = l at h1
      have h3 := hb i.toNat
      generalize byte.getD i.toNat 0 = y at h3
      rcases Nat.lt_trichotomy j l.length with h | h | h
      · have := h1 j
        simpa [List.getD, List.getElem?_append_left h] using this
      · subst h; simpa [List.getD] using h3
      · simp [List.getD, List.getElem?_append_right (Nat.le_of_lt h), List.getElem?_eq_none (show ([y] : List Int).length ≤ j - l.length by simp; omega)]
    · exact ⟨fun i => by simp, by simp⟩
theorem wordsFrom_all {t : PlainTrie.Tree} (hb : Bytes t.byte) : ∀ f w, (PlainTrie.wordsFrom t f w).length ≤ f ∧ ∀ x ∈ PlainTrie.wordsFrom t f w, Bytes x ∧ x.length ≤ 32
  | 0, _ => by simp [PlainTrie.wordsFrom]
  | f + 1, w => by
    unfold PlainTrie.wordsFrom
    split
    · obtain ⟨h1, h2⟩ := wordsFrom_all hb f (w + 1)
      refine ⟨by simp; omega, fun x hx => ?_⟩
      rcases List.mem_cons.1 hx with rfl | hx
      · exact climb_all hb 32 _
      · exact h2 x hx
    · simp
theorem words_wds {t : PlainTrie.Tree} (hb : Bytes t.byte) : Wds (PlainTrie.words t) := wordsFrom_all hb 64 0
theorem OwnRows.room {w : World} {base n c : Nat} {A : Option Addr} {l : List Sl} (h : OwnRows w base (.slice A n c) l) : ArrsR w A (l.map (·.2.1)) := fun hz => by
  obtain ⟨h1, h2⟩ := h
  rcases h1.2 with ⟨hv, h0⟩ | ⟨g, cap, cur, hv, _, hg, hnc, hm, hs, ht⟩
  · have : l = [] := List.eq_nil_of_length_eq_zero h0
    subst this; exact absurd rfl hz
  · injection hv with hv1 hv2 hv3
    subst hv1
    refine ⟨g, 0, rfl, (Array.getElem?_eq_some_iff.1 hg).1, fun i hi => ?_⟩
    have hi' : i < l.length := by simpa using hi
    have he : (l.map (·.2.1)).getD i [] = l[i].2.1 := by simp [List.getD, hi']
    have hb := h2 l[i] (List.getElem_mem hi')
    obtain ⟨A', c', e1, e2, e3⟩ := own_form hb
    have e1' : Value.slice l[i].1 l[i].2.1.length l[i].2.2 = .slice A' l[i].2.1.length c' := e1
    injection e1' with _ _ e4
    rw [he]
    refine ⟨l[i].1, l[i].2.2, ?_, by rw [e4]; exact e2, by rw [e4]; exact e3, hb.arr⟩
    rw [cell_of_row w g (0 + i) cur _ (0, 0) hg, Nat.zero_add]
    have : (cur.toList.take (l.length * 1))[i]? = some (slV l[i]) := by rw [ht]; simp [hi']
    rw [List.getElem?_take] at this
    split at this
    · simpa using this
    · cases this
theorem own_one (w : World) (base : Nat) (y : Int) (hb : base ≤ w.heap.size) : (w.alloc (.cells #[.int .u8 y] 5)).ownsRow base 5 1 (.slice (some ⟨w.heap.size, 0, none⟩) 1 1) ([y] : List Int).length (([y] : List Int).map (Value.int .u8)) :=
  ⟨rfl, .inr ⟨w.heap.size, 1, #[.int .u8 y], rfl, hb, Holds.new _ _ _, Nat.le_refl _, by unfold maxLen; omega, rfl, rfl⟩⟩
/-- A node's bytes, told in memory of the call's own. -/
def SpellTold (zs : List Int) (w : World) : Ending → World → Prop := fun e w' => ∃ v, e = .returned v ∧ w'.ownsRow w.heap.size 5 1 v zs.length (zs.map (Value.int .u8)) ∧ w.grownBy w' none
/-- A tree's words, told in memory of the call's own. -/
def WordsTold (ws : List (List Int)) (w : World) : Ending → World → Prop := fun e w' => ∃ (A : Option Addr) (c : Nat) (l : List Sl), e = .returned (.slice A l.length c) ∧ l.map (·.2.1) = ws ∧ OwnRows w' w.heap.size (.slice A l.length c) l ∧ w.grownBy w' none
abbrev noTree : PlainTrie.Tree := ⟨[], [], [], []⟩
/-- What Make tells: a set's tree, or none. -/
def TreeTold (yes : Bool) (t : PlainTrie.Tree) (w : World) : Ending → World → Prop := fun e w' =>
  ∃ (U D W B : Option Addr) (cu cd cw cb : Nat) (s : PlainTrie.Tree), e = .returned (.tuple #[treeV U D W B s cu cd cw cb, .int .i64 (if yes = true then 0 else 2)]) ∧ (yes = true → s = t) ∧ (yes = false → s = noTree) ∧ TreeAt w' U D W B s ∧ w.grownBy w' none
/-- A tree that came in. -/
def TreeIn (w : World) (U D W B : Option Addr) (t : PlainTrie.Tree) : Prop := t.up.length ≤ 100000 ∧ t.byte.length ≤ 100000 ∧ t.word.length ≤ 100000 ∧ Bytes t.byte ∧ TreeAt w U D W B t
theorem TreeIn.grown {w w' : World} {U D W B : Option Addr} {t : PlainTrie.Tree} (h : TreeIn w U D W B t) (hg : w.grownBy w' none) : TreeIn w' U D W B t :=
  ⟨h.1, h.2.1, h.2.2.1, h.2.2.2.1, h.2.2.2.2.grown hg⟩
/-- Is there such a node? -/
def there (t : PlainTrie.Tree) (i : Int) : Bool := PlainTrie.right t && decide (0 ≤ i ∧ i < t.up.length)
/-- The node of these bytes. -/
def foundAt (t : PlainTrie.Tree) (ys : List Int) : Int × Bool := if PlainTrie.right t = true ∧ 0 ≤ PlainTrie.place (PlainTrie.nodes (PlainTrie.words t)) ys then (PlainTrie.place (PlainTrie.nodes (PlainTrie.words t)) ys, true) else (0, false)
/-- A node's kid. -/
def kidAt (t : PlainTrie.Tree) (i c : Int) : Int × Bool := if there t i = true then foundAt t (PlainTrie.spell t i ++ [c]) else (0, false)
def SpeltTold (yes : Bool) (zs : List Int) (w : World) : Ending → World → Prop := fun e w' => ∃ A n c, e = .returned (.tuple #[.slice A n c, .bool yes]) ∧ n = zs.length ∧ n ≤ c ∧ c ≤ maxLen ∧ w'.ownsRow w.heap.size 5 1 (.slice A n c) zs.length (zs.map (Value.int .u8)) ∧ w.grownBy w' none
theorem spell_bytes {t : PlainTrie.Tree} (hb : Bytes t.byte) (i : Int) : Bytes (PlainTrie.spell t i) ∧ (PlainTrie.spell t i).length ≤ 32 := climb_all hb 32 i
theorem bytes_snoc {l : List Int} (h1 : Bytes l) {y : Int} (h3 : 0 ≤ y ∧ y ≤ 255) : Bytes (l ++ [y]) := fun j => by
  rcases Nat.lt_trichotomy j l.length with h | h | h
  · have := h1 j
    simpa [List.getD, List.getElem?_append_left h] using this
  · subst h; simpa [List.getD] using h3
  · simp [List.getD, List.getElem?_append_right (Nat.le_of_lt h), List.getElem?_eq_none (show ([y] : List Int).length ≤ j - l.length by simp; omega)]

end Go.Proofs.Ytojbkhheaondhaa

namespace Go.Proofs.Ytojbkhheaondhaa
open Go.RowKit PlainLetter

set_option maxHeartbeats 2000000 in
theorem even_is (U D W B : Option Addr) (cu cd cw cb : Nat) (t : PlainTrie.Tree) (w : World) :
    Calls Try.prog 29 #[treeV U D W B t cu cd cw cb] w fun e w' => e = .returned (.bool (decide (PlainTrie.Even t))) ∧ w.grownBy w' none := by
  obtain ⟨X, hX⟩ : ∃ X, decide (PlainTrie.Even t) = X := ⟨_, rfl⟩
  rw [hX]
  obtain ⟨u, d, o, b⟩ := t
  unfold PlainTrie.Even at hX
  simp only at hX
  have hG0 : Hid (w.grownBy (w.alloc (.cells #[.slice U u.length cu, .slice D d.length cd, .slice W o.length cw, .slice B b.length cb] 30)) none) := grown_alloc (grown_refl w none) _
  have K1 : Hid (Holds (w.alloc (.cells #[.slice U u.length cu, .slice D d.length cd, .slice W o.length cw, .slice B b.length cb] 30)) w.heap.size 30 #[.slice U u.length cu, .slice D d.length cd, .slice W o.length cw, .slice B b.length cb]) := Holds.new _ _ _
  by_cases q0 : 0 < u.length
  · by_cases q1 : u.length ≤ 400
    · by_cases q2 : d.length = u.length
      · by_cases q3 : o.length = u.length
        · by_cases q4 : b.length = u.length
          · have hV : Hid (X = true) := hid (by rw [← hX]; exact decide_eq_true ⟨q0, q1, q2, q3, q4⟩)
            clear hX
            have p0 : (0 : Int) < (u.length : Int) := by omega
            have p1 : (u.length : Int) ≤ 400 := by omega
            have p2 : ((d.length : Int) == (u.length : Int)) = true := by simp; omega
            have p3 : ((o.length : Int) == (u.length : Int)) = true := by simp; omega
            have p4 : ((b.length : Int) == (u.length : Int)) = true := by simp; omega
            clear q0 q1 q2 q3 q4
            go_enter Try.func29, Try.ntmps29
            go_upto_region 1 with fail
            obtain ⟨W0, hW0⟩ : ∃ W0, w.alloc (.cells #[.slice U u.length cu, .slice D d.length cd, .slice W o.length cw, .slice B b.length cb] 30) = W0 := ⟨_, rfl⟩
            rw [hW0] at K1 hG0 ⊢
            clear hW0
            obtain ⟨h, hh⟩ : ∃ h, w.heap.size = h := ⟨_, rfl⟩
            rw [hh] at K1 ⊢
            replace hh := hid hh
            have c0 := (K1.out.cell 0).trans (show _ = some (Value.slice U u.length cu) from rfl)
            have c1 := (K1.out.cell 1).trans (show _ = some (Value.slice D d.length cd) from rfl)
            have c2 := (K1.out.cell 2).trans (show _ = some (Value.slice W o.length cw) from rfl)
            have c3 := (K1.out.cell 3).trans (show _ = some (Value.slice B b.length cb) from rfl)
            go_wp2_with fail
            go_ret
            exact ⟨by rw [hV.out]; rfl, hG0.out⟩

          · have hV : Hid (X = false) := hid (by rw [← hX]; exact decide_eq_false (fun e => by omega))
            clear hX
            have p0 : (0 : Int) < (u.length : Int) := by omega
            have p1 : (u.length : Int) ≤ 400 := by omega
            have p2 : ((d.length : Int) == (u.length : Int)) = true := by simp; omega
            have p3 : ((o.length : Int) == (u.length : Int)) = true := by simp; omega
            have p4 : ((b.length : Int) == (u.length : Int)) = false := by simp; omega
            clear q0 q1 q2 q3 q4
            go_enter Try.func29, Try.ntmps29
            go_upto_region 1 with fail
            obtain ⟨W0, hW0⟩ : ∃ W0, w.alloc (.cells #[.slice U u.length cu, .slice D d.length cd, .slice W o.length cw, .slice B b.length cb] 30) = W0 := ⟨_, rfl⟩
            rw [hW0] at K1 hG0 ⊢
            clear hW0
            obtain ⟨h, hh⟩ : ∃ h, w.heap.size = h := ⟨_, rfl⟩
            rw [hh] at K1 ⊢
            replace hh := hid hh
            have c0 := (K1.out.cell 0).trans (show _ = some (Value.slice U u.length cu) from rfl)
            have c1 := (K1.out.cell 1).trans (show _ = some (Value.slice D d.length cd) from rfl)
            have c2 := (K1.out.cell 2).trans (show _ = some (Value.slice W o.length cw) from rfl)
            have c3 := (K1.out.cell 3).trans (show _ = some (Value.slice B b.length cb) from rfl)
            go_wp2_with fail
            go_ret
            exact ⟨by rw [hV.out]; rfl, hG0.out⟩

        · have hV : Hid (X = false) := hid (by rw [← hX]; exact decide_eq_false (fun e => by omega))
          clear hX
          have p0 : (0 : Int) < (u.length : Int) := by omega
          have p1 : (u.length : Int) ≤ 400 := by omega
          have p2 : ((d.length : Int) == (u.length : Int)) = true := by simp; omega
          have p3 : ((o.length : Int) == (u.length : Int)) = false := by simp; omega
          clear q0 q1 q2 q3
          go_enter Try.func29, Try.ntmps29
          go_upto_region 1 with fail
          obtain ⟨W0, hW0⟩ : ∃ W0, w.alloc (.cells #[.slice U u.length cu, .slice D d.length cd, .slice W o.length cw, .slice B b.length cb] 30) = W0 := ⟨_, rfl⟩
          rw [hW0] at K1 hG0 ⊢
          clear hW0
          obtain ⟨h, hh⟩ : ∃ h, w.heap.size = h := ⟨_, rfl⟩
          rw [hh] at K1 ⊢
          replace hh := hid hh
          have c0 := (K1.out.cell 0).trans (show _ = some (Value.slice U u.length cu) from rfl)
          have c1 := (K1.out.cell 1).trans (show _ = some (Value.slice D d.length cd) from rfl)
          have c2 := (K1.out.cell 2).trans (show _ = some (Value.slice W o.length cw) from rfl)
          have c3 := (K1.out.cell 3).trans (show _ = some (Value.slice B b.length cb) from rfl)
          go_wp2_with fail
          go_ret
          exact ⟨by rw [hV.out]; rfl, hG0.out⟩

      · have hV : Hid (X = false) := hid (by rw [← hX]; exact decide_eq_false (fun e => by omega))
        clear hX
        have p0 : (0 : Int) < (u.length : Int) := by omega
        have p1 : (u.length : Int) ≤ 400 := by omega
        have p2 : ((d.length : Int) == (u.length : Int)) = false := by simp; omega
        clear q0 q1 q2
        go_enter Try.func29, Try.ntmps29
        go_upto_region 1 with fail
        obtain ⟨W0, hW0⟩ : ∃ W0, w.alloc (.cells #[.slice U u.length cu, .slice D d.length cd, .slice W o.length cw, .slice B b.length cb] 30) = W0 := ⟨_, rfl⟩
        rw [hW0] at K1 hG0 ⊢
        clear hW0
        obtain ⟨h, hh⟩ : ∃ h, w.heap.size = h := ⟨_, rfl⟩
        rw [hh] at K1 ⊢
        replace hh := hid hh
        have c0 := (K1.out.cell 0).trans (show _ = some (Value.slice U u.length cu) from rfl)
        have c1 := (K1.out.cell 1).trans (show _ = some (Value.slice D d.length cd) from rfl)
        have c2 := (K1.out.cell 2).trans (show _ = some (Value.slice W o.length cw) from rfl)
        have c3 := (K1.out.cell 3).trans (show _ = some (Value.slice B b.length cb) from rfl)
        go_wp2_with fail
        go_ret
        exact ⟨by rw [hV.out]; rfl, hG0.out⟩

    · have hV : Hid (X = false) := hid (by rw [← hX]; exact decide_eq_false (fun e => by omega))
      clear hX
      have p0 : (0 : Int) < (u.length : Int) := by omega
      have p1 : ¬ ((u.length : Int) ≤ 400) := by omega
      clear q0 q1
      go_enter Try.func29, Try.ntmps29
      go_upto_region 1 with fail
      obtain ⟨W0, hW0⟩ : ∃ W0, w.alloc (.cells #[.slice U u.length cu, .slice D d.length cd, .slice W o.length cw, .slice B b.length cb] 30) = W0 := ⟨_, rfl⟩
      rw [hW0] at K1 hG0 ⊢
      clear hW0
      obtain ⟨h, hh⟩ : ∃ h, w.heap.size = h := ⟨_, rfl⟩
      rw [hh] at K1 ⊢
      replace hh := hid hh
      have c0 := (K1.out.cell 0).trans (show _ = some (Value.slice U u.length cu) from rfl)
      have c1 := (K1.out.cell 1).trans (show _ = some (Value.slice D d.length cd) from rfl)
      have c2 := (K1.out.cell 2).trans (show _ = some (Value.slice W o.length cw) from rfl)
      have c3 := (K1.out.cell 3).trans (show _ = some (Value.slice B b.length cb) from rfl)
      go_wp2_with fail
      go_ret
      exact ⟨by rw [hV.out]; rfl, hG0.out⟩

  · have hV : Hid (X = false) := hid (by rw [← hX]; exact decide_eq_false (fun e => by omega))
    clear hX
    have p0 : ¬ ((0 : Int) < (u.length : Int)) := by omega
    clear q0
    go_enter Try.func29, Try.ntmps29
    go_upto_region 1 with fail
    obtain ⟨W0, hW0⟩ : ∃ W0, w.alloc (.cells #[.slice U u.length cu, .slice D d.length cd, .slice W o.length cw, .slice B b.length cb] 30) = W0 := ⟨_, rfl⟩
    rw [hW0] at K1 hG0 ⊢
    clear hW0
    obtain ⟨h, hh⟩ : ∃ h, w.heap.size = h := ⟨_, rfl⟩
    rw [hh] at K1 ⊢
    replace hh := hid hh
    have c0 := (K1.out.cell 0).trans (show _ = some (Value.slice U u.length cu) from rfl)
    have c1 := (K1.out.cell 1).trans (show _ = some (Value.slice D d.length cd) from rfl)
    have c2 := (K1.out.cell 2).trans (show _ = some (Value.slice W o.length cw) from rfl)
    have c3 := (K1.out.cell 3).trans (show _ = some (Value.slice B b.length cb) from rfl)
    go_wp2_with fail
    go_ret
    exact ⟨by rw [hV.out]; rfl, hG0.out⟩

set_option maxHeartbeats 2000000 in
theorem rooted_is (U D W B : Option Addr) (cu cd cw cb : Nat) (t : PlainTrie.Tree) (w : World) (hE : PlainTrie.Even t) (hT : TreeAt w U D W B t) :
    Calls Try.prog 30 #[treeV U D W B t cu cd cw cb] w fun e w' => e = .returned (.bool (decide (PlainTrie.Rooted t))) ∧ w.grownBy w' none := by
  obtain ⟨X, hX⟩ : ∃ X, decide (PlainTrie.Rooted t) = X := ⟨_, rfl⟩
  rw [hX]
  obtain ⟨u, d, o, b⟩ := t
  replace hX : (X = true) ↔ (u.getD 0 0 = 0 ∧ d.getD 0 0 = 0 ∧ o.getD 0 0 = -1 ∧ b.getD 0 0 = 0) := by rw [← hX]; exact decide_eq_true_iff
  obtain ⟨e0, _, e1, e2, e3⟩ := hE
  simp only at e0 e1 e2 e3
  obtain ⟨b0, o0, hU, l0, k0⟩ := hT.up.at_ (i := 0) e0
  obtain ⟨b1, o1, hD, l1, k1⟩ := hT.depth.at_ (i := 0) (show 0 < d.length by omega)
  obtain ⟨b2, o2, hW, l2, k2⟩ := hT.word.at_ (i := 0) (show 0 < o.length by omega)
  obtain ⟨b3, o3, hB, l3, k3⟩ := hT.byte.at_ (i := 0) (show 0 < b.length by omega)
  subst hU hD hW hB
  replace k0 := hid (k0 0 e0)
  replace k1 := hid (k1 0 (show 0 < d.length by omega))
  replace k2 := hid (k2 0 (show 0 < o.length by omega))
  replace k3 := hid (k3 0 (show 0 < b.length by omega))
  have p0 : (0 : Int) < (u.length : Int) := by omega
  have p1 : (0 : Int) < (d.length : Int) := by omega
  have p2 : (0 : Int) < (o.length : Int) := by omega
  have p3 : (0 : Int) < (b.length : Int) := by omega
  simp only [Nat.add_zero] at k0 k1 k2 k3
  generalize u.getD 0 0 = x0 at hX k0
  generalize d.getD 0 0 = x1 at hX k1
  generalize o.getD 0 0 = x2 at hX k2
  generalize b.getD 0 0 = x3 at hX k3
  clear e0 e1 e2 e3 hT
  replace l0 := hid l0
  replace l1 := hid l1
  replace l2 := hid l2
  replace l3 := hid l3
  have hG0 : Hid (w.grownBy (w.alloc (.cells #[.slice (some ⟨b0, o0, none⟩) u.length cu, .slice (some ⟨b1, o1, none⟩) d.length cd, .slice (some ⟨b2, o2, none⟩) o.length cw, .slice (some ⟨b3, o3, none⟩) b.length cb] 30)) none) := grown_alloc (grown_refl w none) _
  have K1 : Hid (Holds (w.alloc (.cells #[.slice (some ⟨b0, o0, none⟩) u.length cu, .slice (some ⟨b1, o1, none⟩) d.length cd, .slice (some ⟨b2, o2, none⟩) o.length cw, .slice (some ⟨b3, o3, none⟩) b.length cb] 30)) w.heap.size 30 #[.slice (some ⟨b0, o0, none⟩) u.length cu, .slice (some ⟨b1, o1, none⟩) d.length cd, .slice (some ⟨b2, o2, none⟩) o.length cw, .slice (some ⟨b3, o3, none⟩) b.length cb]) := Holds.new _ _ _
  by_cases q0 : x0 = 0
  · by_cases q1 : x1 = 0
    · by_cases q2 : x2 = -1
      · by_cases q3 : x3 = 0
        · have hV : Hid (X = true) := hid (hX.2 ⟨q0, q1, q2, q3⟩)
          clear hX
          subst q0
          subst q1
          subst q2
          subst q3
          go_enter Try.func30, Try.ntmps30
          go_upto_region 1 with fail
          obtain ⟨W0, hW0⟩ : ∃ W0, w.alloc (.cells #[.slice (some ⟨b0, o0, none⟩) u.length cu, .slice (some ⟨b1, o1, none⟩) d.length cd, .slice (some ⟨b2, o2, none⟩) o.length cw, .slice (some ⟨b3, o3, none⟩) b.length cb] 30) = W0 := ⟨_, rfl⟩
          rw [hW0] at K1 hG0 ⊢
          clear hW0
          obtain ⟨h, hh⟩ : ∃ h, w.heap.size = h := ⟨_, rfl⟩
          rw [hh] at K1 ⊢
          replace hh := hid hh
          have c0 := (K1.out.cell 0).trans (show _ = some (Value.slice (some ⟨b0, o0, none⟩) u.length cu) from rfl)
          have c1 := (K1.out.cell 1).trans (show _ = some (Value.slice (some ⟨b1, o1, none⟩) d.length cd) from rfl)
          have c2 := (K1.out.cell 2).trans (show _ = some (Value.slice (some ⟨b2, o2, none⟩) o.length cw) from rfl)
          have c3 := (K1.out.cell 3).trans (show _ = some (Value.slice (some ⟨b3, o3, none⟩) b.length cb) from rfl)
          have k0' := ((gcell hG0.out).1 b0 _ l0.out).trans k0.out
          have k1' := ((gcell hG0.out).1 b1 _ l1.out).trans k1.out
          have k2' := ((gcell hG0.out).1 b2 _ l2.out).trans k2.out
          have k3' := ((gcell hG0.out).1 b3 _ l3.out).trans k3.out
          go_wp2_with fail
          go_ret
          exact ⟨by rw [hV.out]; rfl, hG0.out⟩

        · have hV : Hid (X = false) := hid (by cases X with | false => rfl | true => exact absurd (by first | exact (hX.1 rfl).1 | exact (hX.1 rfl).2.1 | exact (hX.1 rfl).2.2.1 | exact (hX.1 rfl).2.2.2) q3)
          clear hX
          subst q0
          subst q1
          subst q2
          have n3 : (x3 == 0) = false := by simp [q3]
          clear q3
          go_enter Try.func30, Try.ntmps30
          go_upto_region 1 with fail
          obtain ⟨W0, hW0⟩ : ∃ W0, w.alloc (.cells #[.slice (some ⟨b0, o0, none⟩) u.length cu, .slice (some ⟨b1, o1, none⟩) d.length cd, .slice (some ⟨b2, o2, none⟩) o.length cw, .slice (some ⟨b3, o3, none⟩) b.length cb] 30) = W0 := ⟨_, rfl⟩
          rw [hW0] at K1 hG0 ⊢
          clear hW0
          obtain ⟨h, hh⟩ : ∃ h, w.heap.size = h := ⟨_, rfl⟩
          rw [hh] at K1 ⊢
          replace hh := hid hh
          have c0 := (K1.out.cell 0).trans (show _ = some (Value.slice (some ⟨b0, o0, none⟩) u.length cu) from rfl)
          have c1 := (K1.out.cell 1).trans (show _ = some (Value.slice (some ⟨b1, o1, none⟩) d.length cd) from rfl)
          have c2 := (K1.out.cell 2).trans (show _ = some (Value.slice (some ⟨b2, o2, none⟩) o.length cw) from rfl)
          have c3 := (K1.out.cell 3).trans (show _ = some (Value.slice (some ⟨b3, o3, none⟩) b.length cb) from rfl)
          have k0' := ((gcell hG0.out).1 b0 _ l0.out).trans k0.out
          have k1' := ((gcell hG0.out).1 b1 _ l1.out).trans k1.out
          have k2' := ((gcell hG0.out).1 b2 _ l2.out).trans k2.out
          have k3' := ((gcell hG0.out).1 b3 _ l3.out).trans k3.out
          go_wp2_with fail
          go_ret
          exact ⟨by rw [hV.out]; rfl, hG0.out⟩

      · have hV : Hid (X = false) := hid (by cases X with | false => rfl | true => exact absurd (by first | exact (hX.1 rfl).1 | exact (hX.1 rfl).2.1 | exact (hX.1 rfl).2.2.1 | exact (hX.1 rfl).2.2.2) q2)
        clear hX
        subst q0
        subst q1
        have n2 : (x2 == -1) = false := by simp [q2]
        clear q2
        go_enter Try.func30, Try.ntmps30
        go_upto_region 1 with fail
        obtain ⟨W0, hW0⟩ : ∃ W0, w.alloc (.cells #[.slice (some ⟨b0, o0, none⟩) u.length cu, .slice (some ⟨b1, o1, none⟩) d.length cd, .slice (some ⟨b2, o2, none⟩) o.length cw, .slice (some ⟨b3, o3, none⟩) b.length cb] 30) = W0 := ⟨_, rfl⟩
        rw [hW0] at K1 hG0 ⊢
        clear hW0
        obtain ⟨h, hh⟩ : ∃ h, w.heap.size = h := ⟨_, rfl⟩
        rw [hh] at K1 ⊢
        replace hh := hid hh
        have c0 := (K1.out.cell 0).trans (show _ = some (Value.slice (some ⟨b0, o0, none⟩) u.length cu) from rfl)
        have c1 := (K1.out.cell 1).trans (show _ = some (Value.slice (some ⟨b1, o1, none⟩) d.length cd) from rfl)
        have c2 := (K1.out.cell 2).trans (show _ = some (Value.slice (some ⟨b2, o2, none⟩) o.length cw) from rfl)
        have c3 := (K1.out.cell 3).trans (show _ = some (Value.slice (some ⟨b3, o3, none⟩) b.length cb) from rfl)
        have k0' := ((gcell hG0.out).1 b0 _ l0.out).trans k0.out
        have k1' := ((gcell hG0.out).1 b1 _ l1.out).trans k1.out
        have k2' := ((gcell hG0.out).1 b2 _ l2.out).trans k2.out
        have k3' := ((gcell hG0.out).1 b3 _ l3.out).trans k3.out
        go_wp2_with fail
        go_ret
        exact ⟨by rw [hV.out]; rfl, hG0.out⟩

    · have hV : Hid (X = false) := hid (by cases X with | false => rfl | true => exact absurd (by first | exact (hX.1 rfl).1 | exact (hX.1 rfl).2.1 | exact (hX.1 rfl).2.2.1 | exact (hX.1 rfl).2.2.2) q1)
      clear hX
      subst q0
      have n1 : (x1 == 0) = false := by simp [q1]
      clear q1
      go_enter Try.func30, Try.ntmps30
      go_upto_region 1 with fail
      obtain ⟨W0, hW0⟩ : ∃ W0, w.alloc (.cells #[.slice (some ⟨b0, o0, none⟩) u.length cu, .slice (some ⟨b1, o1, none⟩) d.length cd, .slice (some ⟨b2, o2, none⟩) o.length cw, .slice (some ⟨b3, o3, none⟩) b.length cb] 30) = W0 := ⟨_, rfl⟩
      rw [hW0] at K1 hG0 ⊢
      clear hW0
      obtain ⟨h, hh⟩ : ∃ h, w.heap.size = h := ⟨_, rfl⟩
      rw [hh] at K1 ⊢
      replace hh := hid hh
      have c0 := (K1.out.cell 0).trans (show _ = some (Value.slice (some ⟨b0, o0, none⟩) u.length cu) from rfl)
      have c1 := (K1.out.cell 1).trans (show _ = some (Value.slice (some ⟨b1, o1, none⟩) d.length cd) from rfl)
      have c2 := (K1.out.cell 2).trans (show _ = some (Value.slice (some ⟨b2, o2, none⟩) o.length cw) from rfl)
      have c3 := (K1.out.cell 3).trans (show _ = some (Value.slice (some ⟨b3, o3, none⟩) b.length cb) from rfl)
      have k0' := ((gcell hG0.out).1 b0 _ l0.out).trans k0.out
      have k1' := ((gcell hG0.out).1 b1 _ l1.out).trans k1.out
      have k2' := ((gcell hG0.out).1 b2 _ l2.out).trans k2.out
      have k3' := ((gcell hG0.out).1 b3 _ l3.out).trans k3.out
      go_wp2_with fail
      go_ret
      exact ⟨by rw [hV.out]; rfl, hG0.out⟩

  · have hV : Hid (X = false) := hid (by cases X with | false => rfl | true => exact absurd (by first | exact (hX.1 rfl).1 | exact (hX.1 rfl).2.1 | exact (hX.1 rfl).2.2.1 | exact (hX.1 rfl).2.2.2) q0)
    clear hX
    have n0 : (x0 == 0) = false := by simp [q0]
    clear q0
    go_enter Try.func30, Try.ntmps30
    go_upto_region 1 with fail
    obtain ⟨W0, hW0⟩ : ∃ W0, w.alloc (.cells #[.slice (some ⟨b0, o0, none⟩) u.length cu, .slice (some ⟨b1, o1, none⟩) d.length cd, .slice (some ⟨b2, o2, none⟩) o.length cw, .slice (some ⟨b3, o3, none⟩) b.length cb] 30) = W0 := ⟨_, rfl⟩
    rw [hW0] at K1 hG0 ⊢
    clear hW0
    obtain ⟨h, hh⟩ : ∃ h, w.heap.size = h := ⟨_, rfl⟩
    rw [hh] at K1 ⊢
    replace hh := hid hh
    have c0 := (K1.out.cell 0).trans (show _ = some (Value.slice (some ⟨b0, o0, none⟩) u.length cu) from rfl)
    have c1 := (K1.out.cell 1).trans (show _ = some (Value.slice (some ⟨b1, o1, none⟩) d.length cd) from rfl)
    have c2 := (K1.out.cell 2).trans (show _ = some (Value.slice (some ⟨b2, o2, none⟩) o.length cw) from rfl)
    have c3 := (K1.out.cell 3).trans (show _ = some (Value.slice (some ⟨b3, o3, none⟩) b.length cb) from rfl)
    have k0' := ((gcell hG0.out).1 b0 _ l0.out).trans k0.out
    have k1' := ((gcell hG0.out).1 b1 _ l1.out).trans k1.out
    have k2' := ((gcell hG0.out).1 b2 _ l2.out).trans k2.out
    have k3' := ((gcell hG0.out).1 b3 _ l3.out).trans k3.out
    go_wp2_with fail
    go_ret
    exact ⟨by rw [hV.out]; rfl, hG0.out⟩

end Go.Proofs.Ytojbkhheaondhaa
