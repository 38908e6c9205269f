/- Package trie: a tree in memory of its own; are two the same?. -/
import Derived.Test.YtojbkhheaondhaaK22
import Derived.Test.YtojbkhheaondhaaK8
import Derived.Test.YtojbkhheaondhaaK7
import Derived.StillTailTactics
import Derived.Deep.Light
import Derived.Laws.OwnMore
import Derived.Laws.BytesArg
import Derived.Lib.SliceRun
set_option linter.unusedSimpArgs false
set_option linter.unusedVariables false
set_option maxRecDepth 100000
namespace Go.Proofs.Ytojbkhheaondhaa
open Go.RowKit PlainLetter

set_option maxRecDepth 100000 in
set_option maxHeartbeats 2000000 in
theorem eqInts_is (A B : Option Addr) (c d : Nat) (a b : List Int) (w : World) (hl : a.length ≤ 100000) (hA : Arr w .i64 A a) (hB : Arr w .i64 B b) :
    Calls Try.prog 45 #[.slice A a.length c, .slice B b.length d] w fun e w' => e = .returned (.bool (decide (a = b))) ∧ w.grownBy w' none := by
  by_cases hlen : a.length = b.length
  · rw [← hlen]
    replace hlen := hid hlen
    replace hA := hid hA
    replace hB := hid hB
    go_enter Try.func45, Try.ntmps45
    go_wp2_with fail
    go_loopw [13] (fun i wr => ∃ k : Nat, k ≤ a.length ∧ i = .int .i64 k ∧ w.grownBy wr none ∧ ∀ j, j < k → a.getD j 0 = b.getD j 0) (fun i _ => a.length - (intOf i).toNat)
    case atStart => exact ⟨0, Nat.zero_le _, rfl, grown_refl _ _, fun j hj => absurd hj (Nat.not_lt_zero _)⟩
    case round =>
      obtain ⟨k, hk, rfl, hG, hall⟩ := hrel
      replace hall := hid hall
      by_cases hlt : k < a.length
      · obtain ⟨b1, o1, rfl, _, hc1⟩ := (hA.out.grown hG).at_ hlt
        obtain ⟨b2, o2, rfl, _, hc2⟩ := (hB.out.grown hG).at_ (i := k) (by rw [← hlen.out]; exact hlt)
        have hk1 := hc1 k hlt
        have hk2 := hc2 k (by rw [← hlen.out]; exact hlt)
        have hG' := hid (grown_drew hG)
        clear hA hB hc1 hc2 hG
        obtain ⟨x, hx⟩ : ∃ x, a.getD k 0 = x := ⟨_, rfl⟩
        obtain ⟨y, hy⟩ : ∃ y, b.getD k 0 = y := ⟨_, rfl⟩
        rw [hx] at hk1
        rw [hy] at hk2
        replace hx := hid hx
        replace hy := hid hy
        by_cases hxy : x = y
        · subst hxy
          go_wp2_with fail
          go_still_tail 8, (by kernel_rfl)
          change wpList _ _ _ _ _ wr.drew
          go_wp2_with fail
          go_roundw
          case rel => exact ⟨k + 1, by omega, by go_num, hG'.out, fun j hj => by
            by_cases hjk : j < k
            · exact hall.out j hjk
            · obtain rfl : j = k := by omega
              exact hx.out.trans hy.out.symm⟩
          case measure => simp [intOf]; omega
        · have hne : (x != y) = true := by simp [hxy]
          have hre : Hid (decide (a = b) = false) := hid (decide_eq_false fun e => hxy (by rw [← hx.out, ← hy.out, e]))
          replace hxy := hid hxy
          go_wp2_with fail
          go_still_tail 8, (by kernel_rfl)
          change wpList _ _ _ _ _ wr.drew
          go_wp2_with fail
          go_ret
          exact ⟨by rw [hre.out]; rfl, hG'.out⟩
      · have hre : Hid (decide (a = b) = true) := hid (decide_eq_true (ints_same hlen.out fun j hj => hall.out j (by omega)))
        go_wp2_with fail
        go_ret
        exact ⟨by rw [hre.out]; rfl, hG⟩
  · have hre : Hid (decide (a = b) = false) := hid (decide_eq_false fun e => hlen (by rw [e]))
    have hne : ((a.length : Int) != (b.length : Int)) = true := by simp; omega
    clear hA hB
    go_enter Try.func45, Try.ntmps45
    go_wp2_with fail
    go_ret
    exact ⟨by rw [hre.out]; rfl, grown_refl _ _⟩

set_option maxRecDepth 100000 in
set_option maxHeartbeats 2000000 in
theorem eqBytes_is (A B : Option Addr) (c d : Nat) (a b : List Int) (w : World) (hl : a.length ≤ 100000) (hA : Arr w .u8 A a) (hB : Arr w .u8 B b) :
    Calls Try.prog 46 #[.slice A a.length c, .slice B b.length d] w fun e w' => e = .returned (.bool (decide (a = b))) ∧ w.grownBy w' none := by
  by_cases hlen : a.length = b.length
  · rw [← hlen]
    replace hlen := hid hlen
    replace hA := hid hA
    replace hB := hid hB
    go_enter Try.func46, Try.ntmps46
    go_wp2_with fail
    go_loopw [13] (fun i wr => ∃ k : Nat, k ≤ a.length ∧ i = .int .i64 k ∧ w.grownBy wr none ∧ ∀ j, j < k → a.getD j 0 = b.getD j 0) (fun i _ => a.length - (intOf i).toNat)
    case atStart => exact ⟨0, Nat.zero_le _, rfl, grown_refl _ _, fun j hj => absurd hj (Nat.not_lt_zero _)⟩
    case round =>
      obtain ⟨k, hk, rfl, hG, hall⟩ := hrel
      replace hall := hid hall
      by_cases hlt : k < a.length
      · obtain ⟨b1, o1, rfl, _, hc1⟩ := (hA.out.grown hG).at_ hlt
        obtain ⟨b2, o2, rfl, _, hc2⟩ := (hB.out.grown hG).at_ (i := k) (by rw [← hlen.out]; exact hlt)
        have hk1 := hc1 k hlt
        have hk2 := hc2 k (by rw [← hlen.out]; exact hlt)
        have hG' := hid (grown_drew hG)
        clear hA hB hc1 hc2 hG
        obtain ⟨x, hx⟩ : ∃ x, a.getD k 0 = x := ⟨_, rfl⟩
        obtain ⟨y, hy⟩ : ∃ y, b.getD k 0 = y := ⟨_, rfl⟩
        rw [hx] at hk1
        rw [hy] at hk2
        replace hx := hid hx
        replace hy := hid hy
        by_cases hxy : x = y
        · subst hxy
          go_wp2_with fail
          go_still_tail 8, (by kernel_rfl)
          change wpList _ _ _ _ _ wr.drew
          go_wp2_with fail
          go_roundw
          case rel => exact ⟨k + 1, by omega, by go_num, hG'.out, fun j hj => by
            by_cases hjk : j < k
            · exact hall.out j hjk
            · obtain rfl : j = k := by omega
              exact hx.out.trans hy.out.symm⟩
          case measure => simp [intOf]; omega
        · have hne : (x != y) = true := by simp [hxy]
          have hre : Hid (decide (a = b) = false) := hid (decide_eq_false fun e => hxy (by rw [← hx.out, ← hy.out, e]))
          replace hxy := hid hxy
          go_wp2_with fail
          go_still_tail 8, (by kernel_rfl)
          change wpList _ _ _ _ _ wr.drew
          go_wp2_with fail
          go_ret
          exact ⟨by rw [hre.out]; rfl, hG'.out⟩
      · have hre : Hid (decide (a = b) = true) := hid (decide_eq_true (ints_same hlen.out fun j hj => hall.out j (by omega)))
        go_wp2_with fail
        go_ret
        exact ⟨by rw [hre.out]; rfl, hG⟩
  · have hre : Hid (decide (a = b) = false) := hid (decide_eq_false fun e => hlen (by rw [e]))
    have hne : ((a.length : Int) != (b.length : Int)) = true := by simp; omega
    clear hA hB
    go_enter Try.func46, Try.ntmps46
    go_wp2_with fail
    go_ret
    exact ⟨by rw [hre.out]; rfl, grown_refl _ _⟩

set_option maxRecDepth 100000 in
set_option maxHeartbeats 4000000 in
theorem tSame_is (U D W B U2 D2 W2 B2 : Option Addr) (cu cd cw cb cu2 cd2 cw2 cb2 : Nat) (s t : PlainTrie.Tree) (w : World) (h1 : s.up.length ≤ 100000) (h2 : s.depth.length ≤ 100000) (h3 : s.word.length ≤ 100000) (h4 : s.byte.length ≤ 100000)
    (hA : TreeAt w U D W B s) (hB : TreeAt w U2 D2 W2 B2 t) :
    Calls Try.prog 25 #[treeV U D W B s cu cd cw cb, treeV U2 D2 W2 B2 t cu2 cd2 cw2 cb2] w fun e w' => e = .returned (.bool (decide (s = t))) ∧ w.grownBy w' none := by
  have hT := hid (tree_eq s t)
  obtain ⟨u, d, o, b⟩ := s
  obtain ⟨u', d', o', b'⟩ := t
  simp only at h1 h2 h3 h4 hT
  have hG0 : Hid (w.grownBy ((w.alloc (.cells #[.slice U u.length cu, .slice D d.length cd, .slice W o.length cw, .slice B b.length cb] 30)).alloc (.cells #[.slice U2 u'.length cu2, .slice D2 d'.length cd2, .slice W2 o'.length cw2, .slice B2 b'.length cb2] 30)) none) := grown_alloc (grown_alloc (grown_refl w none) _) _
  have K1 : Hid (Holds ((w.alloc (.cells #[.slice U u.length cu, .slice D d.length cd, .slice W o.length cw, .slice B b.length cb] 30)).alloc (.cells #[.slice U2 u'.length cu2, .slice D2 d'.length cd2, .slice W2 o'.length cw2, .slice B2 b'.length cb2] 30)) w.heap.size 30 #[.slice U u.length cu, .slice D d.length cd, .slice W o.length cw, .slice B b.length cb]) := (Holds.new _ _ _).alloc _
  have K2 : Hid (Holds ((w.alloc (.cells #[.slice U u.length cu, .slice D d.length cd, .slice W o.length cw, .slice B b.length cb] 30)).alloc (.cells #[.slice U2 u'.length cu2, .slice D2 d'.length cd2, .slice W2 o'.length cw2, .slice B2 b'.length cb2] 30)) (w.heap.size + 1) 30 #[.slice U2 u'.length cu2, .slice D2 d'.length cd2, .slice W2 o'.length cw2, .slice B2 b'.length cb2]) := by
    refine Holds.new_at _ _ ?_
    simp
  replace hA := hid hA
  replace hB := hid hB
  go_enter Try.func25, Try.ntmps25
  go_upto_region 1 with fail
  obtain ⟨W0, hW0⟩ : ∃ W0, (w.alloc (.cells #[.slice U u.length cu, .slice D d.length cd, .slice W o.length cw, .slice B b.length cb] 30)).alloc (.cells #[.slice U2 u'.length cu2, .slice D2 d'.length cd2, .slice W2 o'.length cw2, .slice B2 b'.length cb2] 30) = W0 := ⟨_, rfl⟩
  rw [hW0] at K1 K2 hG0 ⊢
  clear hW0
  obtain ⟨h, hh⟩ : ∃ h, w.heap.size = h := ⟨_, rfl⟩
  rw [hh] at K1 K2 ⊢
  clear hh
  have c0 := K1.out.cell 0
  have c1 := K1.out.cell 1
  have c2 := K1.out.cell 2
  have c3 := K1.out.cell 3
  have d0 := K2.out.cell 0
  have d1 := K2.out.cell 1
  have d2 := K2.out.cell 2
  have d3 := K2.out.cell 3
  simp at c0 c1 c2 c3 d0 d1 d2 d3
  have hA0 := hid (hA.out.grown hG0.out)
  have hB0 := hid (hB.out.grown hG0.out)
  obtain ⟨x1, hx1⟩ : ∃ x, decide (u = u') = x := ⟨_, rfl⟩
  obtain ⟨x2, hx2⟩ : ∃ x, decide (d = d') = x := ⟨_, rfl⟩
  obtain ⟨x3, hx3⟩ : ∃ x, decide (o = o') = x := ⟨_, rfl⟩
  obtain ⟨x4, hx4⟩ : ∃ x, decide (b = b') = x := ⟨_, rfl⟩
  rw [hx1, hx2, hx3, hx4] at hT
  replace hx1 := hid hx1
  replace hx2 := hid hx2
  replace hx3 := hid hx3
  replace hx4 := hid hx4
  clear hA hB
  have t1 : Hid True := trivial
  cases x1 with
  | false =>
    go_wp2_with (go_at_call 45; clear t1; refine (eqInts_is U U2 cu cu2 u u' W0 h1 hA0.out.up hB0.out.up).mono ?_; rintro e w1 ⟨rfl, hg⟩; rw [hx1.out]; have g1 := hid hg; clear hg; have f1 := (K1.out.kept0 g1.out).cell 1; have f2 := (K2.out.kept0 g1.out).cell 1; simp at f1 f2; have t2 : Hid True := trivial; clear c0 c1 c2 c3 d0 d1 d2 d3)
    go_ret
    exact ⟨by rw [hT.out]; rfl, grown_trans hG0.out g1.out⟩
  | true =>
    cases x2 with
    | false =>
      go_wp2_with (first
        | (go_at_call 45; clear t1; refine (eqInts_is U U2 cu cu2 u u' W0 h1 hA0.out.up hB0.out.up).mono ?_; rintro e w1 ⟨rfl, hg⟩; rw [hx1.out]; have g1 := hid hg; clear hg; have f1 := (K1.out.kept0 g1.out).cell 1; have f2 := (K2.out.kept0 g1.out).cell 1; simp at f1 f2; have t2 : Hid True := trivial; clear c0 c1 c2 c3 d0 d1 d2 d3)
        | (go_at_call 45; clear t2; refine (eqInts_is D D2 cd cd2 d d' w1 h2 (hA0.out.grown g1.out).depth (hB0.out.grown g1.out).depth).mono ?_; rintro e w2 ⟨rfl, hg⟩; rw [hx2.out]; have g2 := hid (grown_trans g1.out hg); clear hg; have f3 := (K1.out.kept0 g2.out).cell 2; have f4 := (K2.out.kept0 g2.out).cell 2; simp at f3 f4; have t3 : Hid True := trivial; clear f1 f2))
      go_ret
      exact ⟨by rw [hT.out]; rfl, grown_trans hG0.out g2.out⟩
    | true =>
      cases x3 with
      | false =>
        go_wp2_with (first
          | (go_at_call 45; clear t1; refine (eqInts_is U U2 cu cu2 u u' W0 h1 hA0.out.up hB0.out.up).mono ?_; rintro e w1 ⟨rfl, hg⟩; rw [hx1.out]; have g1 := hid hg; clear hg; have f1 := (K1.out.kept0 g1.out).cell 1; have f2 := (K2.out.kept0 g1.out).cell 1; simp at f1 f2; have t2 : Hid True := trivial; clear c0 c1 c2 c3 d0 d1 d2 d3)
          | (go_at_call 45; clear t2; refine (eqInts_is D D2 cd cd2 d d' w1 h2 (hA0.out.grown g1.out).depth (hB0.out.grown g1.out).depth).mono ?_; rintro e w2 ⟨rfl, hg⟩; rw [hx2.out]; have g2 := hid (grown_trans g1.out hg); clear hg; have f3 := (K1.out.kept0 g2.out).cell 2; have f4 := (K2.out.kept0 g2.out).cell 2; simp at f3 f4; have t3 : Hid True := trivial; clear f1 f2)
          | (go_at_call 45; clear t3; refine (eqInts_is W W2 cw cw2 o o' w2 h3 (hA0.out.grown g2.out).word (hB0.out.grown g2.out).word).mono ?_; rintro e w3 ⟨rfl, hg⟩; rw [hx3.out]; have g3 := hid (grown_trans g2.out hg); clear hg; have f5 := (K1.out.kept0 g3.out).cell 3; have f6 := (K2.out.kept0 g3.out).cell 3; simp at f5 f6; clear f3 f4; have t4 : Hid True := trivial))
        go_ret
        exact ⟨by rw [hT.out]; rfl, grown_trans hG0.out g3.out⟩
      | true =>
        go_wp2_with (first
          | (go_at_call 45; clear t1; refine (eqInts_is U U2 cu cu2 u u' W0 h1 hA0.out.up hB0.out.up).mono ?_; rintro e w1 ⟨rfl, hg⟩; rw [hx1.out]; have g1 := hid hg; clear hg; have f1 := (K1.out.kept0 g1.out).cell 1; have f2 := (K2.out.kept0 g1.out).cell 1; simp at f1 f2; have t2 : Hid True := trivial; clear c0 c1 c2 c3 d0 d1 d2 d3)
          | (go_at_call 45; clear t2; refine (eqInts_is D D2 cd cd2 d d' w1 h2 (hA0.out.grown g1.out).depth (hB0.out.grown g1.out).depth).mono ?_; rintro e w2 ⟨rfl, hg⟩; rw [hx2.out]; have g2 := hid (grown_trans g1.out hg); clear hg; have f3 := (K1.out.kept0 g2.out).cell 2; have f4 := (K2.out.kept0 g2.out).cell 2; simp at f3 f4; have t3 : Hid True := trivial; clear f1 f2)
          | (go_at_call 45; clear t3; refine (eqInts_is W W2 cw cw2 o o' w2 h3 (hA0.out.grown g2.out).word (hB0.out.grown g2.out).word).mono ?_; rintro e w3 ⟨rfl, hg⟩; rw [hx3.out]; have g3 := hid (grown_trans g2.out hg); clear hg; have f5 := (K1.out.kept0 g3.out).cell 3; have f6 := (K2.out.kept0 g3.out).cell 3; simp at f5 f6; clear f3 f4; have t4 : Hid True := trivial)
          | (go_at_call 46; clear t4; refine (eqBytes_is B B2 cb cb2 b b' w3 h4 (hA0.out.grown g3.out).byte (hB0.out.grown g3.out).byte).mono ?_; rintro e w4 ⟨rfl, hg⟩; rw [hx4.out]; have g4 := hid (grown_trans g3.out hg); clear hg f5 f6))
        go_ret
        exact ⟨by rw [hT.out]; rfl, grown_trans hG0.out g4.out⟩

theorem Try.ownIntInfo : (Try.prog.info? 3).map (fun i => (i.zero, i.size, i.bytes)) = some (some (.int .i64 0), 1, 8) := by kernel_rfl
def ClonedI (zs : List Int) (w : World) : Ending → World → Prop := fun e w' => ∃ v, e = .returned v ∧ w'.ownsRow w.heap.size 3 1 v zs.length (zs.map (Value.int .i64)) ∧ Below w.heap.size w w'
theorem cloneBytes_is (A : Option Addr) (c : Nat) (xs : List Int) (w : World) (hl : xs.length ≤ 100000) (hA : Arr w .u8 A xs) :
    Calls Try.prog 48 #[.slice A xs.length c] w (Owns xs w) := by
  cases A with
  | none =>
    obtain rfl : xs = [] := by
      by_cases hz : xs = []
      · exact hz
      · obtain ⟨_, _, h0, _⟩ := hA hz
        cases h0
    clear hA
    have hnil := fun A n c => Lib.run_eql_slice_nil (P := Try.prog) w 28 5 A n c 0 0 Try.underlying28
    go_enter Try.func48, Try.ntmps48
    go_wp2_with fail
    go_ret
    exact ⟨_, rfl, World.ownsRow_nil _ _ _ _, Below.refl _ _⟩
  | some a =>
    obtain ⟨i0, hi, hz0, hz1, hz2⟩ := info_parts Try.info5
    have hrow := hid (World.ownsRow_made (size := 1) (e := 5) (base := w.heap.size) w #[] 0 (Nat.le_refl _) (by unfold maxLen; omega) rfl)
    have hA1 := hid (hA.grown (grown_alloc (grown_refl w none) (.cells #[] 5)))
    clear hA
    have hnil := fun A n c => Lib.run_eql_slice_nil (P := Try.prog) w 28 5 A n c 0 0 Try.underlying28
    go_enter Try.func48, Try.ntmps48
    go_wp2_with (at_builtin; (refine wpList_append_all rfl _ _ 28 rfl w.heap.size 5 i0 .u8 1 Try.underlying28 hi hz0 hz1 hz2 _ [] xs _ _ _ _ hrow.out hA1.out rfl rfl rfl (by decide) (by simp; omega) (by simp) ?_; intro v7 w7 hrow7 hB7; rw [List.nil_append] at hrow7))
    go_ret
    exact ⟨_, rfl, hrow7, (Below.refl _ _).trans (((Below.refl w.heap.size w).alloc (Nat.le_refl _) _).trans hB7)⟩

theorem cloneInts_is (A : Option Addr) (c : Nat) (xs : List Int) (w : World) (hl : xs.length ≤ 100000) (hA : Arr w .i64 A xs) :
    Calls Try.prog 47 #[.slice A xs.length c] w (ClonedI xs w) := by
  cases A with
  | none =>
    obtain rfl : xs = [] := by
      by_cases hz : xs = []
      · exact hz
      · obtain ⟨_, _, h0, _⟩ := hA hz
        cases h0
    clear hA
    have hnil := fun A n c => Lib.run_eql_slice_nil (P := Try.prog) w 27 3 A n c 0 0 Try.underlying27
    go_enter Try.func47, Try.ntmps47
    go_wp2_with fail
    go_ret
    exact ⟨_, rfl, World.ownsRow_nil _ _ _ _, Below.refl _ _⟩
  | some a =>
    obtain ⟨i0, hi, hz0, hz1, hz2⟩ := info_parts Try.ownIntInfo
    have hrow := hid (World.ownsRow_made (size := 1) (e := 3) (base := w.heap.size) w #[] 0 (Nat.le_refl _) (by unfold maxLen; omega) rfl)
    have hA1 := hid (hA.grown (grown_alloc (grown_refl w none) (.cells #[] 3)))
    clear hA
    have hnil := fun A n c => Lib.run_eql_slice_nil (P := Try.prog) w 27 3 A n c 0 0 Try.underlying27
    go_enter Try.func47, Try.ntmps47
    go_wp2_with (at_builtin; (refine wpList_append_all rfl _ _ 27 rfl w.heap.size 3 i0 .i64 8 Try.underlying27 hi hz0 hz1 hz2 _ [] xs _ _ _ _ hrow.out hA1.out rfl rfl rfl (by decide) (by simp; omega) (by simp) ?_; intro v7 w7 hrow7 hB7; rw [List.nil_append] at hrow7))
    go_ret
    exact ⟨_, rfl, hrow7, (Below.refl _ _).trans (((Below.refl w.heap.size w).alloc (Nat.le_refl _) _).trans hB7)⟩


def isSl (k : IntKind) (zs : List Int) : Fact := fun v w => ∃ A c, v = .slice A zs.length c ∧ zs.length ≤ c ∧ c ≤ maxLen ∧ Arr w k A zs
theorem stable_isSl (k : IntKind) (zs : List Int) : Stable (isSl k zs) := fun _ _ _ ⟨A, c, h1, h2, h3, h4⟩ hg => ⟨A, c, h1, h2, h3, h4.grown hg⟩
def isTreeV (t : PlainTrie.Tree) : Fact := fun v w => ∃ (U D W B : Option Addr) (cu cd cw cb : Nat), v = treeV U D W B t cu cd cw cb ∧ (t.up.length ≤ cu ∧ t.depth.length ≤ cd ∧ t.word.length ≤ cw ∧ t.byte.length ≤ cb) ∧ (cu ≤ maxLen ∧ cd ≤ maxLen ∧ cw ≤ maxLen ∧ cb ≤ maxLen) ∧ TreeAt w U D W B t
theorem stable_isTreeV (t : PlainTrie.Tree) : Stable (isTreeV t) := fun _ _ _ ⟨U, D, W, B, cu, cd, cw, cb, h1, h2, h3, h4⟩ hg => ⟨U, D, W, B, cu, cd, cw, cb, h1, h2, h3, h4.grown hg⟩
theorem Arr.not_block {w : World} {k : IntKind} {A : Option Addr} {zs : List Int} (h : Arr w k A zs) {g : Nat} {t : TypeId} {cs : Array Value} (hH : Holds w g t cs) (hc : ∀ (i : Nat) (z : Int), cs[i]? ≠ some (.int k z)) : ∀ a, zs ≠ [] → A = some a → some g ≠ some a.block := fun a hz hA e => by
  obtain ⟨b, off, h1, h2, h3⟩ := h hz
  rw [hA] at h1
  injection h1 with h1
  subst h1
  injection e with e
  have h4 := h3 0 (List.length_pos_iff.2 hz)
  simp only at e
  rw [← e, hH.cell] at h4
  exact hc _ _ h4
theorem four_slices (k : IntKind) (a b c d : Option Addr × Nat × Nat) : ∀ (i : Nat) (z : Int), (#[Value.slice a.1 a.2.1 a.2.2, Value.slice b.1 b.2.1 b.2.2, Value.slice c.1 c.2.1 c.2.2, Value.slice d.1 d.2.1 d.2.2] : Array Value)[i]? ≠ some (.int k z) := fun i z => by
  match i with
  | 0 => simp
  | 1 => simp
  | 2 => simp
  | 3 => simp
  | _ + 4 => simp
def TreeOwn (t : PlainTrie.Tree) (w : World) : Ending → World → Prop := fun e w' => ∃ v, e = .returned v ∧ isTreeV t v w' ∧ w.grownBy w' none

set_option maxHeartbeats 4000000 in
theorem tOwn_is (U D W B : Option Addr) (cu cd cw cb : Nat) (t : PlainTrie.Tree) (w : World) (h1 : t.up.length ≤ 100000) (h2 : t.depth.length ≤ 100000) (h3 : t.word.length ≤ 100000) (h4 : t.byte.length ≤ 100000) (hT : TreeAt w U D W B t) :
    Calls Try.prog 26 #[treeV U D W B t cu cd cw cb] w (TreeOwn t w) := by
  have hfin : Hid (∀ v w', isTreeV t v w' → w.grownBy w' none → TreeOwn t w (.returned v) w') := hid (fun v w' a b => ⟨v, rfl, a, b⟩)
  obtain ⟨R, hR⟩ : ∃ R, TreeOwn t w = R := ⟨_, rfl⟩
  rw [hR] at hfin ⊢
  clear hR
  have hTa := hid hT
  clear hT
  obtain ⟨u, d, o, b⟩ := t
  simp only at h1 h2 h3 h4
  have hG0 : Hid (w.grownBy ((w.alloc (.cells #[.slice U u.length cu, .slice D d.length cd, .slice W o.length cw, .slice B b.length cb] 30)).alloc (.cells #[.slice none 0 0, .slice none 0 0, .slice none 0 0, .slice none 0 0] 30)) none) := hid (grown_alloc (grown_alloc (grown_refl w none) _) _)
  have K1 : Hid (Holds ((w.alloc (.cells #[.slice U u.length cu, .slice D d.length cd, .slice W o.length cw, .slice B b.length cb] 30)).alloc (.cells #[.slice none 0 0, .slice none 0 0, .slice none 0 0, .slice none 0 0] 30)) w.heap.size 30 #[.slice U u.length cu, .slice D d.length cd, .slice W o.length cw, .slice B b.length cb]) := hid ((Holds.new _ _ _).alloc _)
  have K2 : Hid (Holds ((w.alloc (.cells #[.slice U u.length cu, .slice D d.length cd, .slice W o.length cw, .slice B b.length cb] 30)).alloc (.cells #[.slice none 0 0, .slice none 0 0, .slice none 0 0, .slice none 0 0] 30)) (w.heap.size + 1) 30 #[.slice none 0 0, .slice none 0 0, .slice none 0 0, .slice none 0 0]) := hid (Holds.new_at _ _ (by simp))
  go_enter Try.func26, Try.ntmps26
  go_upto_region 1 with fail
  obtain ⟨W0, hW0⟩ : ∃ W0, ((w.alloc (.cells #[.slice U u.length cu, .slice D d.length cd, .slice W o.length cw, .slice B b.length cb] 30)).alloc (.cells #[.slice none 0 0, .slice none 0 0, .slice none 0 0, .slice none 0 0] 30)) = W0 := ⟨_, rfl⟩
  rw [hW0] at K1 K2 hG0 ⊢
  clear hW0
  obtain ⟨h, hh⟩ : ∃ h, w.heap.size = h := ⟨_, rfl⟩
  rw [hh] at K1 K2 ⊢
  replace hh := hid hh
  have hT0 := hid (hTa.out.grown hG0.out)
  apply head_plain 13 [isv _, isv (.slice U u.length cu), isSl .i64 u, isv _, isv (.slice D d.length cd), isSl .i64 d, isv _, isv (.slice W o.length cw), isSl .i64 o, isv _, isv (.slice B b.length cb), isSl .u8 b, isTreeV ⟨u, d, o, b⟩]
    16 [some 3, some 4, some 5, some 6, some 7, some 8, some 9, some 10, some 11, some 12, some 13, some 14, some 15]
    [some 3, some 4, some 5, some 6, some 7, some 8, some 9, some 10, some 11, some 12, some 13, some 14, some 15]
    [[], [0], [1], [], [3], [4], [], [6], [7], [], [9], [10], [2, 5, 8, 11]]
    [(1, .pointer (some ⟨h, 0, none⟩))] (by kernel_rfl) rfl (by kernel_rfl) (by kernel_rfl) rfl rfl (by kernel_rfl) (OutsOk.cons rfl rfl OutsOk.nil) ?st ?ob ?fin
  case ob =>
    refine Obs.consv rfl ?o0 (Obs.consv rfl ?o1 (Obs.consv rfl ?o2 (Obs.consv rfl ?o3 (Obs.consv rfl ?o4 (Obs.consv rfl ?o5 (Obs.consv rfl ?o6 (Obs.consv rfl ?o7 (Obs.consv rfl ?o8 (Obs.consv rfl ?o9 (Obs.consv rfl ?o10 (Obs.consv rfl ?o11 (Obs.consv rfl ?o12 Obs.nil))))))))))))
    case o0 =>
      go_light
      intro ac w' hgw
      have k1 := K1.out.kept0 (grown_trans (grown_drew (grown_refl W0 none)) hgw)
      have c0 := (k1.cell 0).trans (show _ = some (Value.slice U u.length cu) from rfl)
      have c1 := (k1.cell 1).trans (show _ = some (Value.slice D d.length cd) from rfl)
      have c2 := (k1.cell 2).trans (show _ = some (Value.slice W o.length cw) from rfl)
      have c3 := (k1.cell 3).trans (show _ = some (Value.slice B b.length cb) from rfl)
      have hTw := hid (hT0.out.grown (grown_trans (grown_drew (grown_refl W0 none)) hgw))
      clear k1
      replace hgw := hid hgw
      simp only [outThen, preThen, slotIs, factAt, isv, List.getElem?_cons_zero, List.getElem?_cons_succ, Option.getD_some, forall_eq]
      intros
      rename_i hK
      replace hK := hid hK
      simp only [wantedAt]
      go_simp
      exact hK.out _ _ rfl (grown_refl _ _)
    case o1 =>
      go_light
      intro ac w' hgw
      have k1 := K1.out.kept0 (grown_trans (grown_drew (grown_refl W0 none)) hgw)
      have c0 := (k1.cell 0).trans (show _ = some (Value.slice U u.length cu) from rfl)
      have c1 := (k1.cell 1).trans (show _ = some (Value.slice D d.length cd) from rfl)
      have c2 := (k1.cell 2).trans (show _ = some (Value.slice W o.length cw) from rfl)
      have c3 := (k1.cell 3).trans (show _ = some (Value.slice B b.length cb) from rfl)
      have hTw := hid (hT0.out.grown (grown_trans (grown_drew (grown_refl W0 none)) hgw))
      clear k1
      replace hgw := hid hgw
      simp only [outThen, preThen, slotIs, factAt, isv, List.getElem?_cons_zero, List.getElem?_cons_succ, Option.getD_some, forall_eq]
      intros
      rename_i hK
      replace hK := hid hK
      simp only [wantedAt]
      go_simp
      exact hK.out _ _ rfl (grown_refl _ _)
    case o2 =>
      go_light
      intro ac w' hgw
      have k1 := K1.out.kept0 (grown_trans (grown_drew (grown_refl W0 none)) hgw)
      have c0 := (k1.cell 0).trans (show _ = some (Value.slice U u.length cu) from rfl)
      have c1 := (k1.cell 1).trans (show _ = some (Value.slice D d.length cd) from rfl)
      have c2 := (k1.cell 2).trans (show _ = some (Value.slice W o.length cw) from rfl)
      have c3 := (k1.cell 3).trans (show _ = some (Value.slice B b.length cb) from rfl)
      have hTw := hid (hT0.out.grown (grown_trans (grown_drew (grown_refl W0 none)) hgw))
      clear k1
      replace hgw := hid hgw
      simp only [outThen, preThen, slotIs, factAt, isv, List.getElem?_cons_zero, List.getElem?_cons_succ, Option.getD_some, forall_eq]
      intros
      rename_i hK
      replace hK := hid hK
      simp only [wantedAt]
      go_simp
      refine (cloneInts_is U cu u w' h1 hTw.out.up).mono ?_
      rintro e w3 ⟨v3, rfl, ho, hB⟩
      obtain ⟨A3, m3, rfl, f1, f2⟩ := own_form ho
      exact hK.out _ _ ⟨A3, m3, rfl, f1, f2, Arr.of_own ho⟩ (below_grown hB)
    case o3 =>
      go_light
      intro ac w' hgw
      have k1 := K1.out.kept0 (grown_trans (grown_drew (grown_refl W0 none)) hgw)
      have c0 := (k1.cell 0).trans (show _ = some (Value.slice U u.length cu) from rfl)
      have c1 := (k1.cell 1).trans (show _ = some (Value.slice D d.length cd) from rfl)
      have c2 := (k1.cell 2).trans (show _ = some (Value.slice W o.length cw) from rfl)
      have c3 := (k1.cell 3).trans (show _ = some (Value.slice B b.length cb) from rfl)
      have hTw := hid (hT0.out.grown (grown_trans (grown_drew (grown_refl W0 none)) hgw))
      clear k1
      replace hgw := hid hgw
      simp only [outThen, preThen, slotIs, factAt, isv, List.getElem?_cons_zero, List.getElem?_cons_succ, Option.getD_some, forall_eq]
      intros
      rename_i hK
      replace hK := hid hK
      simp only [wantedAt]
      go_simp
      exact hK.out _ _ rfl (grown_refl _ _)
    case o4 =>
      go_light
      intro ac w' hgw
      have k1 := K1.out.kept0 (grown_trans (grown_drew (grown_refl W0 none)) hgw)
      have c0 := (k1.cell 0).trans (show _ = some (Value.slice U u.length cu) from rfl)
      have c1 := (k1.cell 1).trans (show _ = some (Value.slice D d.length cd) from rfl)
      have c2 := (k1.cell 2).trans (show _ = some (Value.slice W o.length cw) from rfl)
      have c3 := (k1.cell 3).trans (show _ = some (Value.slice B b.length cb) from rfl)
      have hTw := hid (hT0.out.grown (grown_trans (grown_drew (grown_refl W0 none)) hgw))
      clear k1
      replace hgw := hid hgw
      simp only [outThen, preThen, slotIs, factAt, isv, List.getElem?_cons_zero, List.getElem?_cons_succ, Option.getD_some, forall_eq]
      intros
      rename_i hK
      replace hK := hid hK
      simp only [wantedAt]
      go_simp
      exact hK.out _ _ rfl (grown_refl _ _)
    case o5 =>
      go_light
      intro ac w' hgw
      have k1 := K1.out.kept0 (grown_trans (grown_drew (grown_refl W0 none)) hgw)
      have c0 := (k1.cell 0).trans (show _ = some (Value.slice U u.length cu) from rfl)
      have c1 := (k1.cell 1).trans (show _ = some (Value.slice D d.length cd) from rfl)
      have c2 := (k1.cell 2).trans (show _ = some (Value.slice W o.length cw) from rfl)
      have c3 := (k1.cell 3).trans (show _ = some (Value.slice B b.length cb) from rfl)
      have hTw := hid (hT0.out.grown (grown_trans (grown_drew (grown_refl W0 none)) hgw))
      clear k1
      replace hgw := hid hgw
      simp only [outThen, preThen, slotIs, factAt, isv, List.getElem?_cons_zero, List.getElem?_cons_succ, Option.getD_some, forall_eq]
      intros
      rename_i hK
      replace hK := hid hK
      simp only [wantedAt]
      go_simp
      refine (cloneInts_is D cd d w' h2 hTw.out.depth).mono ?_
      rintro e w3 ⟨v3, rfl, ho, hB⟩
      obtain ⟨A3, m3, rfl, f1, f2⟩ := own_form ho
      exact hK.out _ _ ⟨A3, m3, rfl, f1, f2, Arr.of_own ho⟩ (below_grown hB)
    case o6 =>
      go_light
      intro ac w' hgw
      have k1 := K1.out.kept0 (grown_trans (grown_drew (grown_refl W0 none)) hgw)
      have c0 := (k1.cell 0).trans (show _ = some (Value.slice U u.length cu) from rfl)
      have c1 := (k1.cell 1).trans (show _ = some (Value.slice D d.length cd) from rfl)
      have c2 := (k1.cell 2).trans (show _ = some (Value.slice W o.length cw) from rfl)
      have c3 := (k1.cell 3).trans (show _ = some (Value.slice B b.length cb) from rfl)
      have hTw := hid (hT0.out.grown (grown_trans (grown_drew (grown_refl W0 none)) hgw))
      clear k1
      replace hgw := hid hgw
      simp only [outThen, preThen, slotIs, factAt, isv, List.getElem?_cons_zero, List.getElem?_cons_succ, Option.getD_some, forall_eq]
      intros
      rename_i hK
      replace hK := hid hK
      simp only [wantedAt]
      go_simp
      exact hK.out _ _ rfl (grown_refl _ _)
    case o7 =>
      go_light
      intro ac w' hgw
      have k1 := K1.out.kept0 (grown_trans (grown_drew (grown_refl W0 none)) hgw)
      have c0 := (k1.cell 0).trans (show _ = some (Value.slice U u.length cu) from rfl)
      have c1 := (k1.cell 1).trans (show _ = some (Value.slice D d.length cd) from rfl)
      have c2 := (k1.cell 2).trans (show _ = some (Value.slice W o.length cw) from rfl)
      have c3 := (k1.cell 3).trans (show _ = some (Value.slice B b.length cb) from rfl)
      have hTw := hid (hT0.out.grown (grown_trans (grown_drew (grown_refl W0 none)) hgw))
      clear k1
      replace hgw := hid hgw
      simp only [outThen, preThen, slotIs, factAt, isv, List.getElem?_cons_zero, List.getElem?_cons_succ, Option.getD_some, forall_eq]
      intros
      rename_i hK
      replace hK := hid hK
      simp only [wantedAt]
      go_simp
      exact hK.out _ _ rfl (grown_refl _ _)
    case o8 =>
      go_light
      intro ac w' hgw
      have k1 := K1.out.kept0 (grown_trans (grown_drew (grown_refl W0 none)) hgw)
      have c0 := (k1.cell 0).trans (show _ = some (Value.slice U u.length cu) from rfl)
      have c1 := (k1.cell 1).trans (show _ = some (Value.slice D d.length cd) from rfl)
      have c2 := (k1.cell 2).trans (show _ = some (Value.slice W o.length cw) from rfl)
      have c3 := (k1.cell 3).trans (show _ = some (Value.slice B b.length cb) from rfl)
      have hTw := hid (hT0.out.grown (grown_trans (grown_drew (grown_refl W0 none)) hgw))
      clear k1
      replace hgw := hid hgw
      simp only [outThen, preThen, slotIs, factAt, isv, List.getElem?_cons_zero, List.getElem?_cons_succ, Option.getD_some, forall_eq]
      intros
      rename_i hK
      replace hK := hid hK
      simp only [wantedAt]
      go_simp
      refine (cloneInts_is W cw o w' h3 hTw.out.word).mono ?_
      rintro e w3 ⟨v3, rfl, ho, hB⟩
      obtain ⟨A3, m3, rfl, f1, f2⟩ := own_form ho
      exact hK.out _ _ ⟨A3, m3, rfl, f1, f2, Arr.of_own ho⟩ (below_grown hB)
    case o9 =>
      go_light
      intro ac w' hgw
      have k1 := K1.out.kept0 (grown_trans (grown_drew (grown_refl W0 none)) hgw)
      have c0 := (k1.cell 0).trans (show _ = some (Value.slice U u.length cu) from rfl)
      have c1 := (k1.cell 1).trans (show _ = some (Value.slice D d.length cd) from rfl)
      have c2 := (k1.cell 2).trans (show _ = some (Value.slice W o.length cw) from rfl)
      have c3 := (k1.cell 3).trans (show _ = some (Value.slice B b.length cb) from rfl)
      have hTw := hid (hT0.out.grown (grown_trans (grown_drew (grown_refl W0 none)) hgw))
      clear k1
      replace hgw := hid hgw
      simp only [outThen, preThen, slotIs, factAt, isv, List.getElem?_cons_zero, List.getElem?_cons_succ, Option.getD_some, forall_eq]
      intros
      rename_i hK
      replace hK := hid hK
      simp only [wantedAt]
      go_simp
      exact hK.out _ _ rfl (grown_refl _ _)
    case o10 =>
      go_light
      intro ac w' hgw
      have k1 := K1.out.kept0 (grown_trans (grown_drew (grown_refl W0 none)) hgw)
      have c0 := (k1.cell 0).trans (show _ = some (Value.slice U u.length cu) from rfl)
      have c1 := (k1.cell 1).trans (show _ = some (Value.slice D d.length cd) from rfl)
      have c2 := (k1.cell 2).trans (show _ = some (Value.slice W o.length cw) from rfl)
      have c3 := (k1.cell 3).trans (show _ = some (Value.slice B b.length cb) from rfl)
      have hTw := hid (hT0.out.grown (grown_trans (grown_drew (grown_refl W0 none)) hgw))
      clear k1
      replace hgw := hid hgw
      simp only [outThen, preThen, slotIs, factAt, isv, List.getElem?_cons_zero, List.getElem?_cons_succ, Option.getD_some, forall_eq]
      intros
      rename_i hK
      replace hK := hid hK
      simp only [wantedAt]
      go_simp
      exact hK.out _ _ rfl (grown_refl _ _)
    case o11 =>
      go_light
      intro ac w' hgw
      have k1 := K1.out.kept0 (grown_trans (grown_drew (grown_refl W0 none)) hgw)
      have c0 := (k1.cell 0).trans (show _ = some (Value.slice U u.length cu) from rfl)
      have c1 := (k1.cell 1).trans (show _ = some (Value.slice D d.length cd) from rfl)
      have c2 := (k1.cell 2).trans (show _ = some (Value.slice W o.length cw) from rfl)
      have c3 := (k1.cell 3).trans (show _ = some (Value.slice B b.length cb) from rfl)
      have hTw := hid (hT0.out.grown (grown_trans (grown_drew (grown_refl W0 none)) hgw))
      clear k1
      replace hgw := hid hgw
      simp only [outThen, preThen, slotIs, factAt, isv, List.getElem?_cons_zero, List.getElem?_cons_succ, Option.getD_some, forall_eq]
      intros
      rename_i hK
      replace hK := hid hK
      simp only [wantedAt]
      go_simp
      refine (cloneBytes_is B cb b w' h4 hTw.out.byte).mono ?_
      rintro e w3 ⟨v3, rfl, ho, hB⟩
      obtain ⟨A3, m3, rfl, f1, f2⟩ := own_form ho
      exact hK.out _ _ ⟨A3, m3, rfl, f1, f2, Arr.of_own ho⟩ (below_grown hB)
    case o12 =>
      go_light
      intro ac w' hgw
      have k1 := K1.out.kept0 (grown_trans (grown_drew (grown_refl W0 none)) hgw)
      have c0 := (k1.cell 0).trans (show _ = some (Value.slice U u.length cu) from rfl)
      have c1 := (k1.cell 1).trans (show _ = some (Value.slice D d.length cd) from rfl)
      have c2 := (k1.cell 2).trans (show _ = some (Value.slice W o.length cw) from rfl)
      have c3 := (k1.cell 3).trans (show _ = some (Value.slice B b.length cb) from rfl)
      have hTw := hid (hT0.out.grown (grown_trans (grown_drew (grown_refl W0 none)) hgw))
      clear k1
      replace hgw := hid hgw
      simp only [outThen, preThen, slotIs, factAt, isv, List.getElem?_cons_zero, List.getElem?_cons_succ, Option.getD_some, forall_eq]
      intros
      rename_i v1 h1 hv1 v2 h2 hv2 v3 h3 hv3 v4 h4 hv4 K hK
      obtain ⟨A1, m1, rfl, a1, b1, r1⟩ := h1
      obtain ⟨A2, m2, rfl, a2, b2, r2⟩ := h2
      obtain ⟨A3, m3, rfl, a3, b3, r3⟩ := h3
      obtain ⟨A4, m4, rfl, a4, b4, r4⟩ := h4
      have hTr : Hid (TreeAt w' A1 A2 A3 A4 ⟨u, d, o, b⟩) := hid ⟨r1, r2, r3, r4⟩
      replace hK := hid hK
      clear r1 r2 r3 r4
      simp only [wantedAt]
      go_simp
      exact hK.out _ _ ⟨A1, A2, A3, A4, m1, m2, m3, m4, rfl, ⟨a1, a2, a3, a4⟩, ⟨b1, b2, b3, b4⟩, hTr.out⟩ (grown_refl _ _)
  case st =>
    repeat (first | exact AllStable.nil | (refine AllStable.cons ?_ ?_; focus (first | exact stable_isv _ | exact stable_isBytes _ | exact stable_isRow1 _ | exact stable_isRowOf _ _ | exact stable_isSl _ _ | exact stable_isSl _ _ | exact stable_isTreeV _)))
  case fin =>
    intro w8 hgw
    simp only [finalIn, factAt, isv, List.getElem?_cons_zero, List.getElem?_cons_succ, Option.getD_some, forall_eq, slotIs, subj, List.take_succ_cons, List.take_zero]
    rintro v5 - v8 - v11 - v14 - v15 ⟨U', D', W', B', cu', cd', cw', cb', rfl, hr1, hr2, hTr⟩
    simp only [Act.put, List.setIfInBounds_toArray, List.set_cons_zero, List.set_cons_succ, List.drop_succ_cons, List.drop_zero]
    have hgx : W0.grownBy w8 none := grown_trans (grown_drew (grown_refl W0 none)) hgw
    have k2 := K2.out.kept0 hgx
    have a0 := (k2.cell 0).trans (show _ = some (Value.slice none 0 0) from rfl)
    have a1 := (k2.cell 1).trans (show _ = some (Value.slice none 0 0) from rfl)
    have a2 := (k2.cell 2).trans (show _ = some (Value.slice none 0 0) from rfl)
    have a3 := (k2.cell 3).trans (show _ = some (Value.slice none 0 0) from rfl)
    have f0 := k2.free 0
    have f1 := k2.free 1
    have f2 := k2.free 2
    have f3 := k2.free 3
    have l0 := k2.lt
    have hS := hid ((((k2.set 0 (.slice U' u.length cu')).set 1 (.slice D' d.length cd')).set 2 (.slice W' o.length cw')).set 3 (.slice B' b.length cb'))
    have hG8 := hid (grown_trans hG0.out hgx)
    have hGf := hid (grown_set (p := ⟨h + 1, 3, none⟩) (grown_set (p := ⟨h + 1, 2, none⟩) (grown_set (p := ⟨h + 1, 1, none⟩) (grown_set (p := ⟨h + 1, 0, none⟩) (grown_trans hG0.out hgx) (.inr (by have := hh.out; simp; omega)) (.slice U' u.length cu')) (.inr (by have := hh.out; simp; omega)) (.slice D' d.length cd')) (.inr (by have := hh.out; simp; omega)) (.slice W' o.length cw')) (.inr (by have := hh.out; simp; omega)) (.slice B' b.length cb'))
    have hk2 := hid k2
    replace hr1 := hid hr1
    replace hr2 := hid hr2
    replace hTr := hid hTr
    replace hgw := hid hgw
    replace hgx := hid hgx
    clear k2
    gi_wp2
    go_wp2_with fail
    have q0 := (hS.out.cell 0).trans (show _ = some (Value.slice U' u.length cu') from rfl)
    have q1 := (hS.out.cell 1).trans (show _ = some (Value.slice D' d.length cd') from rfl)
    have q2 := (hS.out.cell 2).trans (show _ = some (Value.slice W' o.length cw') from rfl)
    have q3 := (hS.out.cell 3).trans (show _ = some (Value.slice B' b.length cb') from rfl)
    refine bodyPost_ret (v := treeV U' D' W' B' ⟨u, d, o, b⟩ cu' cd' cw' cb') (by simp [results, Try.results26, go_sem, q0, q1, q2, q3]) rfl ?_
    have hgw8 := grown_set (p := ⟨h + 1, 3, none⟩) (grown_set (p := ⟨h + 1, 2, none⟩) (grown_set (p := ⟨h + 1, 1, none⟩) (grown_set (p := ⟨h + 1, 0, none⟩) (grown_refl w8 (some (h + 1))) (.inl rfl) (.slice U' u.length cu')) (.inl rfl) (.slice D' d.length cd')) (.inl rfl) (.slice W' o.length cw')) (.inl rfl) (.slice B' b.length cb')
    exact hfin.out _ _ ⟨U', D', W', B', cu', cd', cw', cb', rfl, hr1.out, hr2.out, hTr.out.up.kept hgw8 (hTr.out.up.not_block hk2.out (four_slices _ (none, 0, 0) (none, 0, 0) (none, 0, 0) (none, 0, 0))), hTr.out.depth.kept hgw8 (hTr.out.depth.not_block hk2.out (four_slices _ (none, 0, 0) (none, 0, 0) (none, 0, 0) (none, 0, 0))), hTr.out.word.kept hgw8 (hTr.out.word.not_block hk2.out (four_slices _ (none, 0, 0) (none, 0, 0) (none, 0, 0) (none, 0, 0))), hTr.out.byte.kept hgw8 (hTr.out.byte.not_block hk2.out (four_slices _ (none, 0, 0) (none, 0, 0) (none, 0, 0) (none, 0, 0)))⟩ hGf.out

end Go.Proofs.Ytojbkhheaondhaa
