/- Package trie: does each node stand below one ahead of it, and do they stand in order?. -/
import Derived.Test.YtojbkhheaondhaaTCmp
import Derived.Test.YtojbkhheaondhaaK4
import Derived.Test.YtojbkhheaondhaaK7
set_option linter.unusedSimpArgs false
set_option linter.unusedVariables false
set_option maxRecDepth 100000
namespace Go.Proofs.Ytojbkhheaondhaa
open Go.RowKit PlainLetter

/-- The depths of the first nodes. -/
theorem depth_bound {t : PlainTrie.Tree} (hr : t.depth.getD 0 0 = 0) {j : Nat} (h : ∀ k, 0 < k → k < j → PlainTrie.RisesAt t k) : ∀ i, i < j → 0 ≤ t.depth.getD i 0 ∧ t.depth.getD i 0 ≤ i := fun i => by
  induction i using Nat.strongRecOn with
  | _ i ih =>
    intro hi
    rcases Nat.eq_zero_or_pos i with e | e
    · subst e; omega
    · obtain ⟨h1, h2, h3, _⟩ := h i e hi
      have := ih (t.up.getD i 0).toNat (by omega) (by omega)
      omega

/-- A row of two numbers of the region's own. -/
def isTwo (x y : Int) : Fact := fun v w => ∃ g, v = .slice (some ⟨g, 0, none⟩) 2 2 ∧ Holds w g 3 #[.int .i64 x, .int .i64 y]
theorem stable_isTwo (x y : Int) : Stable (isTwo x y) := fun _ _ _ ⟨g, h1, h2⟩ hg => ⟨g, h1, h2.kept0 hg⟩
theorem two_arr {x y : Int} {w : World} {g : Nat} (h : Holds w g 3 #[.int .i64 x, .int .i64 y]) : Arr w .i64 (some ⟨g, 0, none⟩) [x, y] := fun _ =>
  ⟨g, 0, rfl, h.lt, fun i hi => by
    rw [h.cell]
    match i, hi with
    | 0, _ => rfl
    | 1, _ => rfl⟩

set_option maxHeartbeats 4000000 in
theorem rising_is (U D W B : Option Addr) (cu cd cw cb : Nat) (t : PlainTrie.Tree) (w : World) (X : Bool) (hX : X = true ↔ PlainTrie.Rising t) (hE : PlainTrie.Even t) (hr : t.depth.getD 0 0 = 0) (hT : TreeAt w U D W B t) :
    Calls Try.prog 31 #[treeV U D W B t cu cd cw cb] w fun e w' => e = .returned (.bool X) ∧ w.grownBy w' none := by
  have hbd := hid (fun (j : Nat) (h : ∀ k, 0 < k → k < j → PlainTrie.RisesAt t k) => depth_bound hr h)
  have hno : Hid (∀ j, 0 < j → j < t.up.length → ¬ PlainTrie.RisesAt t j → X = false) := hid (fun j h0 hj hn => by
    cases X with
    | false => rfl
    | true => exact absurd (hX.1 rfl j h0 hj) hn)
  have hyes : Hid ((∀ j, 0 < j → j < t.up.length → PlainTrie.RisesAt t j) → X = true) := hid hX.2
  have hRA : Hid (∀ j, PlainTrie.RisesAt t j ↔ 0 ≤ t.up.getD j 0 ∧ t.up.getD j 0 < j ∧ t.depth.getD j 0 = t.depth.getD (t.up.getD j 0).toNat 0 + 1 ∧
    (1 < j → t.up.getD (j - 1) 0 < t.up.getD j 0 ∨ t.up.getD (j - 1) 0 = t.up.getD j 0 ∧ t.byte.getD (j - 1) 0 < t.byte.getD j 0)) := hid (fun j => Iff.rfl)
  clear hX hr
  obtain ⟨RA, hRAd⟩ : ∃ RA, PlainTrie.RisesAt t = RA := ⟨_, rfl⟩
  rw [hRAd] at hbd hno hyes hRA
  clear hRAd
  obtain ⟨u, d, o, b⟩ := t
  simp only at hbd hno hyes hRA
  obtain ⟨e0, e1, e2, e3, e4⟩ := hE
  simp only at e0 e1 e2 e3 e4
  have hU := hid hT.up
  have hD := hid hT.depth
  have hB := hid hT.byte
  clear hT
  simp only at hU hD hB
  replace e0 := hid e0
  replace e2 := hid e2
  replace e3 := hid e3
  replace e4 := hid e4
  have hG0 : Hid (w.grownBy (w.alloc (.cells #[.slice U u.length cu, .slice D d.length cd, .slice W o.length cw, .slice B b.length cb] 30)) none) := grown_alloc (grown_refl w none) _
  have K1 : Hid (Holds (w.alloc (.cells #[.slice U u.length cu, .slice D d.length cd, .slice W o.length cw, .slice B b.length cb] 30)) w.heap.size 30 #[.slice U u.length cu, .slice D d.length cd, .slice W o.length cw, .slice B b.length cb]) := Holds.new _ _ _
  go_enter Try.func31, Try.ntmps31
  go_upto_region 1 with fail
  obtain ⟨W0, hW0⟩ : ∃ W0, w.alloc (.cells #[.slice U u.length cu, .slice D d.length cd, .slice W o.length cw, .slice B b.length cb] 30) = W0 := ⟨_, rfl⟩
  rw [hW0] at K1 hG0 ⊢
  clear hW0
  obtain ⟨h, hh⟩ : ∃ h, w.heap.size = h := ⟨_, rfl⟩
  rw [hh] at K1 ⊢
  replace hh := hid hh
  have c0 := (K1.out.cell 0).trans (show _ = some (Value.slice U u.length cu) from rfl)
  have c1 := (K1.out.cell 1).trans (show _ = some (Value.slice D d.length cd) from rfl)
  have c2 := (K1.out.cell 2).trans (show _ = some (Value.slice W o.length cw) from rfl)
  have c3 := (K1.out.cell 3).trans (show _ = some (Value.slice B b.length cb) from rfl)
  have hU0 := hid (hU.out.grown hG0.out)
  have hD0 := hid (hD.out.grown hG0.out)
  have hB0 := hid (hB.out.grown hG0.out)
  clear hU hD hB
  clear c0 c1 c2 c3
  go_wp2_with fail
  go_loopw [3] (fun i wr => ∃ j : Nat, 1 ≤ j ∧ j ≤ u.length ∧ i = .int .i64 j ∧ W0.grownBy wr none ∧ ∀ k, 0 < k → k < j → RA k) (fun i _ => u.length - (intOf i).toNat)
  case atStart => exact ⟨1, Nat.le_refl _, e0.out, rfl, grown_refl _ _, fun k h1 h2 => by omega⟩
  case round =>
    obtain ⟨j, hj1, hj, rfl, hG, hall⟩ := hrel
    have K2 := hid (K1.out.kept0 hG)
    have c0 := (K2.out.cell 0).trans (show _ = some (Value.slice U u.length cu) from rfl)
    by_cases hlt : j < u.length
    · have hbj := hid (hbd.out j hall)
      obtain ⟨bu, ou, rfl, lu, ku⟩ := (hU0.out.grown hG).at_ hlt
      obtain ⟨bd, od, rfl, ld, kd⟩ := (hD0.out.grown hG).at_ (i := j) (by have := e2.out; omega)
      obtain ⟨bb, ob, rfl, lb, kb⟩ := (hB0.out.grown hG).at_ (i := j) (by have := e4.out; omega)
      have c1 := (K2.out.cell 1).trans (show _ = some (Value.slice (some ⟨bd, od, none⟩) d.length cd) from rfl)
      have c3 := (K2.out.cell 3).trans (show _ = some (Value.slice (some ⟨bb, ob, none⟩) b.length cb) from rfl)
      have ku1 := ku j hlt
      have hRj := hid (hRA.out j)
      have kd1 := kd j (by have := e2.out; omega)
      have kb1 := kb j (by have := e4.out; omega)
      have ku0 := ku (j - 1) (by omega)
      have kb0 := kb (j - 1) (by have := e4.out; omega)
      replace ku := hid ku
      replace kd := hid kd
      clear kb
      have hnj := hid (hno.out j (by omega) hlt)
      have q0 : (0 : Int) ≤ (j : Int) := by omega
      have q1 : (j : Int) < (u.length : Int) := by omega
      have q2 : (j : Int) < (d.length : Int) := by have := e2.out; omega
      have q3 : (j : Int) < (b.length : Int) := by have := e4.out; omega
      replace hall := hid hall
      replace hG := hid hG
      replace lu := hid lu
      replace ld := hid ld
      replace lb := hid lb
      generalize u.getD j 0 = p at ku1 hRj
      generalize d.getD j 0 = x at kd1 hRj
      generalize b.getD j 0 = y at kb1 hRj
      generalize u.getD (j - 1) 0 = p0 at ku0 hRj
      generalize b.getD (j - 1) 0 = y0 at kb0 hRj
      replace ku0 := hid ku0
      replace kb0 := hid kb0
      replace kd1 := hid kd1
      replace kb1 := hid kb1
      by_cases h0 : p < 0
      · have hf := hid (hnj.out (fun e => by have := (hRj.out.1 e).1; omega))
        go_upto_region 5 with fail
        clear c0 c1 c3 ku1
        apply wp_region_each [isv (.int .i64 p), isv (.bool true), isv (.bool true), isv undef, isv undef, isv undef, isv (.bool true), isv (.bool true), isv undef, isv undef, isv undef, isv undef, isv undef, isv undef, isv undef, isv undef, isv undef, isv undef, isv undef, isv undef, isv (.bool true)]
          65 [some 17, some 18, some 19, some 20, some 21, some 22, some 23, some 24, some 25, some 26, some 27, some 28, some 29, some 30, some 31, some 32, some 33, some 34, some 35, some 36, some 37]
          [some 17, some 18, some 19, some 20, some 21, some 22, some 23, some 24, some 25, some 26, some 27, some 28, some 29, some 30, some 31, some 32, some 33, some 34, some 35, some 36, some 37]
          [[], [0], [1], [2], [2], [3, 4, 2], [2, 5], [6], [7], [8, 7], [7], [9, 10, 7], [11, 7], [7], [13, 7], [7], [14, 15, 7], [16, 7], [17, 7], [12, 18, 7], [7, 19]]
          [(1, .pointer (some ⟨h, 0, none⟩)), (3, .int .i64 (j : Int)), (4, .int .i64 p)] (by kernel_rfl) rfl (by kernel_rfl) rfl rfl (by kernel_rfl) (OutsOk.cons rfl rfl (OutsOk.cons rfl rfl (OutsOk.cons rfl rfl OutsOk.nil))) ?st ?ob ?fin
        case ob =>
          refine Obs.consv rfl ?o0 (Obs.consv rfl ?o1 (Obs.consv rfl ?o2 (Obs.consv rfl ?o3 (Obs.consv rfl ?o4 (Obs.consv rfl ?o5 (Obs.consv rfl ?o6 (Obs.consv rfl ?o7 (Obs.consv rfl ?o8 (Obs.consv rfl ?o9 (Obs.consv rfl ?o10 (Obs.consv rfl ?o11 (Obs.consv rfl ?o12 (Obs.consv rfl ?o13 (Obs.consv rfl ?o14 (Obs.consv rfl ?o15 (Obs.consv rfl ?o16 (Obs.consv rfl ?o17 (Obs.consv rfl ?o18 (Obs.consv rfl ?o19 (Obs.consv rfl ?o20 Obs.nil))))))))))))))))))))
          case o0 =>
            go_light
            intro ac w' hgw
            have g2 := grown_trans (grown_drew (grown_refl wr none)) hgw
            have k2 := K2.out.kept0 g2
            have c0 := (k2.cell 0).trans (show _ = some (Value.slice (some ⟨bu, ou, none⟩) u.length cu) from rfl)
            have c1 := (k2.cell 1).trans (show _ = some (Value.slice (some ⟨bd, od, none⟩) d.length cd) from rfl)
            have wd1 := ((gcell g2).1 bd _ ld.out).trans kd1.out
            clear k2 g2
            replace hgw := hid hgw
            simp only [outThen, preThen, slotIs, factAt, isv, List.getElem?_cons_zero, List.getElem?_cons_succ, Option.getD_some, forall_eq]
            intros
            rename_i hK
            replace hK := hid hK
            simp only [wantedAt]
            go_simp
            exact hK.out _ _ rfl (grown_refl _ _)
          case o1 =>
            go_light
            intro ac w' hgw
            have g2 := grown_trans (grown_drew (grown_refl wr none)) hgw
            have k2 := K2.out.kept0 g2
            have c0 := (k2.cell 0).trans (show _ = some (Value.slice (some ⟨bu, ou, none⟩) u.length cu) from rfl)
            have c1 := (k2.cell 1).trans (show _ = some (Value.slice (some ⟨bd, od, none⟩) d.length cd) from rfl)
            have wd1 := ((gcell g2).1 bd _ ld.out).trans kd1.out
            clear k2 g2
            replace hgw := hid hgw
            simp only [outThen, preThen, slotIs, factAt, isv, List.getElem?_cons_zero, List.getElem?_cons_succ, Option.getD_some, forall_eq]
            intros
            rename_i hK
            replace hK := hid hK
            simp only [wantedAt]
            go_simp
            exact hK.out _ _ rfl (grown_refl _ _)
          case o2 =>
            go_light
            intro ac w' hgw
            have g2 := grown_trans (grown_drew (grown_refl wr none)) hgw
            have k2 := K2.out.kept0 g2
            have c0 := (k2.cell 0).trans (show _ = some (Value.slice (some ⟨bu, ou, none⟩) u.length cu) from rfl)
            have c1 := (k2.cell 1).trans (show _ = some (Value.slice (some ⟨bd, od, none⟩) d.length cd) from rfl)
            have wd1 := ((gcell g2).1 bd _ ld.out).trans kd1.out
            clear k2 g2
            replace hgw := hid hgw
            simp only [outThen, preThen, slotIs, factAt, isv, List.getElem?_cons_zero, List.getElem?_cons_succ, Option.getD_some, forall_eq]
            intros
            rename_i hK
            replace hK := hid hK
            simp only [wantedAt]
            go_simp
            exact hK.out _ _ rfl (grown_refl _ _)
          case o3 =>
            go_light
            intro ac w' hgw
            have g2 := grown_trans (grown_drew (grown_refl wr none)) hgw
            have k2 := K2.out.kept0 g2
            have c0 := (k2.cell 0).trans (show _ = some (Value.slice (some ⟨bu, ou, none⟩) u.length cu) from rfl)
            have c1 := (k2.cell 1).trans (show _ = some (Value.slice (some ⟨bd, od, none⟩) d.length cd) from rfl)
            have wd1 := ((gcell g2).1 bd _ ld.out).trans kd1.out
            clear k2 g2
            replace hgw := hid hgw
            simp only [outThen, preThen, slotIs, factAt, isv, List.getElem?_cons_zero, List.getElem?_cons_succ, Option.getD_some, forall_eq]
            intros
            rename_i hK
            replace hK := hid hK
            simp only [wantedAt]
            go_simp
            exact hK.out _ _ rfl (grown_refl _ _)
          case o4 =>
            go_light
            intro ac w' hgw
            have g2 := grown_trans (grown_drew (grown_refl wr none)) hgw
            have k2 := K2.out.kept0 g2
            have c0 := (k2.cell 0).trans (show _ = some (Value.slice (some ⟨bu, ou, none⟩) u.length cu) from rfl)
            have c1 := (k2.cell 1).trans (show _ = some (Value.slice (some ⟨bd, od, none⟩) d.length cd) from rfl)
            have wd1 := ((gcell g2).1 bd _ ld.out).trans kd1.out
            clear k2 g2
            replace hgw := hid hgw
            simp only [outThen, preThen, slotIs, factAt, isv, List.getElem?_cons_zero, List.getElem?_cons_succ, Option.getD_some, forall_eq]
            intros
            rename_i hK
            replace hK := hid hK
            simp only [wantedAt]
            go_simp
            exact hK.out _ _ rfl (grown_refl _ _)
          case o5 =>
            go_light
            intro ac w' hgw
            have g2 := grown_trans (grown_drew (grown_refl wr none)) hgw
            have k2 := K2.out.kept0 g2
            have c0 := (k2.cell 0).trans (show _ = some (Value.slice (some ⟨bu, ou, none⟩) u.length cu) from rfl)
            have c1 := (k2.cell 1).trans (show _ = some (Value.slice (some ⟨bd, od, none⟩) d.length cd) from rfl)
            have wd1 := ((gcell g2).1 bd _ ld.out).trans kd1.out
            clear k2 g2
            replace hgw := hid hgw
            simp only [outThen, preThen, slotIs, factAt, isv, List.getElem?_cons_zero, List.getElem?_cons_succ, Option.getD_some, forall_eq]
            intros
            rename_i hK
            replace hK := hid hK
            simp only [wantedAt]
            go_simp
            exact hK.out _ _ rfl (grown_refl _ _)
          case o6 =>
            go_light
            intro ac w' hgw
            have g2 := grown_trans (grown_drew (grown_refl wr none)) hgw
            have k2 := K2.out.kept0 g2
            have c0 := (k2.cell 0).trans (show _ = some (Value.slice (some ⟨bu, ou, none⟩) u.length cu) from rfl)
            have c1 := (k2.cell 1).trans (show _ = some (Value.slice (some ⟨bd, od, none⟩) d.length cd) from rfl)
            have wd1 := ((gcell g2).1 bd _ ld.out).trans kd1.out
            clear k2 g2
            replace hgw := hid hgw
            simp only [outThen, preThen, slotIs, factAt, isv, List.getElem?_cons_zero, List.getElem?_cons_succ, Option.getD_some, forall_eq]
            intros
            rename_i hK
            replace hK := hid hK
            simp only [wantedAt]
            go_simp
            exact hK.out _ _ rfl (grown_refl _ _)
          case o7 =>
            go_light
            intro ac w' hgw
            have g2 := grown_trans (grown_drew (grown_refl wr none)) hgw
            have k2 := K2.out.kept0 g2
            have c0 := (k2.cell 0).trans (show _ = some (Value.slice (some ⟨bu, ou, none⟩) u.length cu) from rfl)
            have c1 := (k2.cell 1).trans (show _ = some (Value.slice (some ⟨bd, od, none⟩) d.length cd) from rfl)
            have wd1 := ((gcell g2).1 bd _ ld.out).trans kd1.out
            clear k2 g2
            replace hgw := hid hgw
            simp only [outThen, preThen, slotIs, factAt, isv, List.getElem?_cons_zero, List.getElem?_cons_succ, Option.getD_some, forall_eq]
            intros
            rename_i hK
            replace hK := hid hK
            simp only [wantedAt]
            go_simp
            exact hK.out _ _ rfl (grown_refl _ _)
          case o8 =>
            go_light
            intro ac w' hgw
            have g2 := grown_trans (grown_drew (grown_refl wr none)) hgw
            have k2 := K2.out.kept0 g2
            have c0 := (k2.cell 0).trans (show _ = some (Value.slice (some ⟨bu, ou, none⟩) u.length cu) from rfl)
            have c1 := (k2.cell 1).trans (show _ = some (Value.slice (some ⟨bd, od, none⟩) d.length cd) from rfl)
            have wd1 := ((gcell g2).1 bd _ ld.out).trans kd1.out
            clear k2 g2
            replace hgw := hid hgw
            simp only [outThen, preThen, slotIs, factAt, isv, List.getElem?_cons_zero, List.getElem?_cons_succ, Option.getD_some, forall_eq]
            intros
            rename_i hK
            replace hK := hid hK
            simp only [wantedAt]
            go_simp
            exact hK.out _ _ rfl (grown_refl _ _)
          case o9 =>
            go_light
            intro ac w' hgw
            have g2 := grown_trans (grown_drew (grown_refl wr none)) hgw
            have k2 := K2.out.kept0 g2
            have c0 := (k2.cell 0).trans (show _ = some (Value.slice (some ⟨bu, ou, none⟩) u.length cu) from rfl)
            have c1 := (k2.cell 1).trans (show _ = some (Value.slice (some ⟨bd, od, none⟩) d.length cd) from rfl)
            have wd1 := ((gcell g2).1 bd _ ld.out).trans kd1.out
            clear k2 g2
            replace hgw := hid hgw
            simp only [outThen, preThen, slotIs, factAt, isv, List.getElem?_cons_zero, List.getElem?_cons_succ, Option.getD_some, forall_eq]
            intros
            rename_i hK
            replace hK := hid hK
            simp only [wantedAt]
            go_simp
            exact hK.out _ _ rfl (grown_refl _ _)
          case o10 =>
            go_light
            intro ac w' hgw
            have g2 := grown_trans (grown_drew (grown_refl wr none)) hgw
            have k2 := K2.out.kept0 g2
            have c0 := (k2.cell 0).trans (show _ = some (Value.slice (some ⟨bu, ou, none⟩) u.length cu) from rfl)
            have c1 := (k2.cell 1).trans (show _ = some (Value.slice (some ⟨bd, od, none⟩) d.length cd) from rfl)
            have wd1 := ((gcell g2).1 bd _ ld.out).trans kd1.out
            clear k2 g2
            replace hgw := hid hgw
            simp only [outThen, preThen, slotIs, factAt, isv, List.getElem?_cons_zero, List.getElem?_cons_succ, Option.getD_some, forall_eq]
            intros
            rename_i hK
            replace hK := hid hK
            simp only [wantedAt]
            go_simp
            exact hK.out _ _ rfl (grown_refl _ _)
          case o11 =>
            go_light
            intro ac w' hgw
            have g2 := grown_trans (grown_drew (grown_refl wr none)) hgw
            have k2 := K2.out.kept0 g2
            have c0 := (k2.cell 0).trans (show _ = some (Value.slice (some ⟨bu, ou, none⟩) u.length cu) from rfl)
            have c1 := (k2.cell 1).trans (show _ = some (Value.slice (some ⟨bd, od, none⟩) d.length cd) from rfl)
            have wd1 := ((gcell g2).1 bd _ ld.out).trans kd1.out
            clear k2 g2
            replace hgw := hid hgw
            simp only [outThen, preThen, slotIs, factAt, isv, List.getElem?_cons_zero, List.getElem?_cons_succ, Option.getD_some, forall_eq]
            intros
            rename_i hK
            replace hK := hid hK
            simp only [wantedAt]
            go_simp
            exact hK.out _ _ rfl (grown_refl _ _)
          case o12 =>
            go_light
            intro ac w' hgw
            have g2 := grown_trans (grown_drew (grown_refl wr none)) hgw
            have k2 := K2.out.kept0 g2
            have c0 := (k2.cell 0).trans (show _ = some (Value.slice (some ⟨bu, ou, none⟩) u.length cu) from rfl)
            have c1 := (k2.cell 1).trans (show _ = some (Value.slice (some ⟨bd, od, none⟩) d.length cd) from rfl)
            have wd1 := ((gcell g2).1 bd _ ld.out).trans kd1.out
            clear k2 g2
            replace hgw := hid hgw
            simp only [outThen, preThen, slotIs, factAt, isv, List.getElem?_cons_zero, List.getElem?_cons_succ, Option.getD_some, forall_eq]
            intros
            rename_i hK
            replace hK := hid hK
            simp only [wantedAt]
            go_simp
            exact hK.out _ _ rfl (grown_refl _ _)
          case o13 =>
            go_light
            intro ac w' hgw
            have g2 := grown_trans (grown_drew (grown_refl wr none)) hgw
            have k2 := K2.out.kept0 g2
            have c0 := (k2.cell 0).trans (show _ = some (Value.slice (some ⟨bu, ou, none⟩) u.length cu) from rfl)
            have c1 := (k2.cell 1).trans (show _ = some (Value.slice (some ⟨bd, od, none⟩) d.length cd) from rfl)
            have wd1 := ((gcell g2).1 bd _ ld.out).trans kd1.out
            clear k2 g2
            replace hgw := hid hgw
            simp only [outThen, preThen, slotIs, factAt, isv, List.getElem?_cons_zero, List.getElem?_cons_succ, Option.getD_some, forall_eq]
            intros
            rename_i hK
            replace hK := hid hK
            simp only [wantedAt]
            go_simp
            exact hK.out _ _ rfl (grown_refl _ _)
          case o14 =>
            go_light
            intro ac w' hgw
            have g2 := grown_trans (grown_drew (grown_refl wr none)) hgw
            have k2 := K2.out.kept0 g2
            have c0 := (k2.cell 0).trans (show _ = some (Value.slice (some ⟨bu, ou, none⟩) u.length cu) from rfl)
            have c1 := (k2.cell 1).trans (show _ = some (Value.slice (some ⟨bd, od, none⟩) d.length cd) from rfl)
            have wd1 := ((gcell g2).1 bd _ ld.out).trans kd1.out
            clear k2 g2
            replace hgw := hid hgw
            simp only [outThen, preThen, slotIs, factAt, isv, List.getElem?_cons_zero, List.getElem?_cons_succ, Option.getD_some, forall_eq]
            intros
            rename_i hK
            replace hK := hid hK
            simp only [wantedAt]
            go_simp
            exact hK.out _ _ rfl (grown_refl _ _)
          case o15 =>
            go_light
            intro ac w' hgw
            have g2 := grown_trans (grown_drew (grown_refl wr none)) hgw
            have k2 := K2.out.kept0 g2
            have c0 := (k2.cell 0).trans (show _ = some (Value.slice (some ⟨bu, ou, none⟩) u.length cu) from rfl)
            have c1 := (k2.cell 1).trans (show _ = some (Value.slice (some ⟨bd, od, none⟩) d.length cd) from rfl)
            have wd1 := ((gcell g2).1 bd _ ld.out).trans kd1.out
            clear k2 g2
            replace hgw := hid hgw
            simp only [outThen, preThen, slotIs, factAt, isv, List.getElem?_cons_zero, List.getElem?_cons_succ, Option.getD_some, forall_eq]
            intros
            rename_i hK
            replace hK := hid hK
            simp only [wantedAt]
            go_simp
            exact hK.out _ _ rfl (grown_refl _ _)
          case o16 =>
            go_light
            intro ac w' hgw
            have g2 := grown_trans (grown_drew (grown_refl wr none)) hgw
            have k2 := K2.out.kept0 g2
            have c0 := (k2.cell 0).trans (show _ = some (Value.slice (some ⟨bu, ou, none⟩) u.length cu) from rfl)
            have c1 := (k2.cell 1).trans (show _ = some (Value.slice (some ⟨bd, od, none⟩) d.length cd) from rfl)
            have wd1 := ((gcell g2).1 bd _ ld.out).trans kd1.out
            clear k2 g2
            replace hgw := hid hgw
            simp only [outThen, preThen, slotIs, factAt, isv, List.getElem?_cons_zero, List.getElem?_cons_succ, Option.getD_some, forall_eq]
            intros
            rename_i hK
            replace hK := hid hK
            simp only [wantedAt]
            go_simp
            exact hK.out _ _ rfl (grown_refl _ _)
          case o17 =>
            go_light
            intro ac w' hgw
            have g2 := grown_trans (grown_drew (grown_refl wr none)) hgw
            have k2 := K2.out.kept0 g2
            have c0 := (k2.cell 0).trans (show _ = some (Value.slice (some ⟨bu, ou, none⟩) u.length cu) from rfl)
            have c1 := (k2.cell 1).trans (show _ = some (Value.slice (some ⟨bd, od, none⟩) d.length cd) from rfl)
            have wd1 := ((gcell g2).1 bd _ ld.out).trans kd1.out
            clear k2 g2
            replace hgw := hid hgw
            simp only [outThen, preThen, slotIs, factAt, isv, List.getElem?_cons_zero, List.getElem?_cons_succ, Option.getD_some, forall_eq]
            intros
            rename_i hK
            replace hK := hid hK
            simp only [wantedAt]
            go_simp
            exact hK.out _ _ rfl (grown_refl _ _)
          case o18 =>
            go_light
            intro ac w' hgw
            have g2 := grown_trans (grown_drew (grown_refl wr none)) hgw
            have k2 := K2.out.kept0 g2
            have c0 := (k2.cell 0).trans (show _ = some (Value.slice (some ⟨bu, ou, none⟩) u.length cu) from rfl)
            have c1 := (k2.cell 1).trans (show _ = some (Value.slice (some ⟨bd, od, none⟩) d.length cd) from rfl)
            have wd1 := ((gcell g2).1 bd _ ld.out).trans kd1.out
            clear k2 g2
            replace hgw := hid hgw
            simp only [outThen, preThen, slotIs, factAt, isv, List.getElem?_cons_zero, List.getElem?_cons_succ, Option.getD_some, forall_eq]
            intros
            rename_i hK
            replace hK := hid hK
            simp only [wantedAt]
            go_simp
            exact hK.out _ _ rfl (grown_refl _ _)
          case o19 =>
            go_light
            intro ac w' hgw
            have g2 := grown_trans (grown_drew (grown_refl wr none)) hgw
            have k2 := K2.out.kept0 g2
            have c0 := (k2.cell 0).trans (show _ = some (Value.slice (some ⟨bu, ou, none⟩) u.length cu) from rfl)
            have c1 := (k2.cell 1).trans (show _ = some (Value.slice (some ⟨bd, od, none⟩) d.length cd) from rfl)
            have wd1 := ((gcell g2).1 bd _ ld.out).trans kd1.out
            clear k2 g2
            replace hgw := hid hgw
            simp only [outThen, preThen, slotIs, factAt, isv, List.getElem?_cons_zero, List.getElem?_cons_succ, Option.getD_some, forall_eq]
            intros
            rename_i hK
            replace hK := hid hK
            simp only [wantedAt]
            go_simp
            exact hK.out _ _ rfl (grown_refl _ _)
          case o20 =>
            go_light
            intro ac w' hgw
            have g2 := grown_trans (grown_drew (grown_refl wr none)) hgw
            have k2 := K2.out.kept0 g2
            have c0 := (k2.cell 0).trans (show _ = some (Value.slice (some ⟨bu, ou, none⟩) u.length cu) from rfl)
            have c1 := (k2.cell 1).trans (show _ = some (Value.slice (some ⟨bd, od, none⟩) d.length cd) from rfl)
            have wd1 := ((gcell g2).1 bd _ ld.out).trans kd1.out
            clear k2 g2
            replace hgw := hid hgw
            simp only [outThen, preThen, slotIs, factAt, isv, List.getElem?_cons_zero, List.getElem?_cons_succ, Option.getD_some, forall_eq]
            intros
            rename_i hK
            replace hK := hid hK
            simp only [wantedAt]
            go_simp
            exact hK.out _ _ rfl (grown_refl _ _)
        case st =>
          repeat (first | exact AllStable.nil | (refine AllStable.cons ?_ ?_; focus (first | exact stable_isv _ | exact stable_isBytes _ | exact stable_isRow1 _ | exact stable_isRowOf _ _ | exact stable_isVar _ | exact stable_isVarOf _ _ _)))
        case fin =>
          intro w3 hgw
          simp only [finalIn, factAt, isv, List.getElem?_cons_zero, List.getElem?_cons_succ, Option.getD_some, forall_eq, slotIs, subj]
          simp only [Act.put, List.setIfInBounds_toArray, List.set_cons_zero, List.set_cons_succ]
          have hg3 := hid (grown_trans (grown_drew (grown_refl wr none)) hgw)
          clear hgw
          go_wp2_with fail
          go_ret
          exact ⟨by rw [hf.out]; rfl, grown_trans hG0.out (grown_trans hG.out hg3.out)⟩
      · by_cases h1 : (j : Int) ≤ p
        · have hf := hid (hnj.out (fun e => by have := (hRj.out.1 e).2.1; omega))
          go_upto_region 5 with fail
          clear c0 c1 c3 ku1
          apply wp_region_each [isv (.int .i64 p), isv (.bool false), isv (.bool false), isv _, isv _, isv (.bool true), isv (.bool true), isv (.bool true), isv undef, isv undef, isv undef, isv undef, isv undef, isv undef, isv undef, isv undef, isv undef, isv undef, isv undef, isv undef, isv (.bool true)]
            65 [some 17, some 18, some 19, some 20, some 21, some 22, some 23, some 24, some 25, some 26, some 27, some 28, some 29, some 30, some 31, some 32, some 33, some 34, some 35, some 36, some 37]
            [some 17, some 18, some 19, some 20, some 21, some 22, some 23, some 24, some 25, some 26, some 27, some 28, some 29, some 30, some 31, some 32, some 33, some 34, some 35, some 36, some 37]
            [[], [0], [1], [2], [2], [3, 4, 2], [2, 5], [6], [7], [8, 7], [7], [9, 10, 7], [11, 7], [7], [13, 7], [7], [14, 15, 7], [16, 7], [17, 7], [12, 18, 7], [7, 19]]
            [(1, .pointer (some ⟨h, 0, none⟩)), (3, .int .i64 (j : Int)), (4, .int .i64 p)] (by kernel_rfl) rfl (by kernel_rfl) rfl rfl (by kernel_rfl) (OutsOk.cons rfl rfl (OutsOk.cons rfl rfl (OutsOk.cons rfl rfl OutsOk.nil))) ?st ?ob ?fin
          case ob =>
            refine Obs.consv rfl ?o0 (Obs.consv rfl ?o1 (Obs.consv rfl ?o2 (Obs.consv rfl ?o3 (Obs.consv rfl ?o4 (Obs.consv rfl ?o5 (Obs.consv rfl ?o6 (Obs.consv rfl ?o7 (Obs.consv rfl ?o8 (Obs.consv rfl ?o9 (Obs.consv rfl ?o10 (Obs.consv rfl ?o11 (Obs.consv rfl ?o12 (Obs.consv rfl ?o13 (Obs.consv rfl ?o14 (Obs.consv rfl ?o15 (Obs.consv rfl ?o16 (Obs.consv rfl ?o17 (Obs.consv rfl ?o18 (Obs.consv rfl ?o19 (Obs.consv rfl ?o20 Obs.nil))))))))))))))))))))
            case o0 =>
              go_light
              intro ac w' hgw
              have g2 := grown_trans (grown_drew (grown_refl wr none)) hgw
              have k2 := K2.out.kept0 g2
              have c0 := (k2.cell 0).trans (show _ = some (Value.slice (some ⟨bu, ou, none⟩) u.length cu) from rfl)
              have c1 := (k2.cell 1).trans (show _ = some (Value.slice (some ⟨bd, od, none⟩) d.length cd) from rfl)
              have wd1 := ((gcell g2).1 bd _ ld.out).trans kd1.out
              clear k2 g2
              replace hgw := hid hgw
              simp only [outThen, preThen, slotIs, factAt, isv, List.getElem?_cons_zero, List.getElem?_cons_succ, Option.getD_some, forall_eq]
              intros
              rename_i hK
              replace hK := hid hK
              simp only [wantedAt]
              go_simp
              exact hK.out _ _ rfl (grown_refl _ _)
            case o1 =>
              go_light
              intro ac w' hgw
              have g2 := grown_trans (grown_drew (grown_refl wr none)) hgw
              have k2 := K2.out.kept0 g2
              have c0 := (k2.cell 0).trans (show _ = some (Value.slice (some ⟨bu, ou, none⟩) u.length cu) from rfl)
              have c1 := (k2.cell 1).trans (show _ = some (Value.slice (some ⟨bd, od, none⟩) d.length cd) from rfl)
              have wd1 := ((gcell g2).1 bd _ ld.out).trans kd1.out
              clear k2 g2
              replace hgw := hid hgw
              simp only [outThen, preThen, slotIs, factAt, isv, List.getElem?_cons_zero, List.getElem?_cons_succ, Option.getD_some, forall_eq]
              intros
              rename_i hK
              replace hK := hid hK
              simp only [wantedAt]
              go_simp
              exact hK.out _ _ rfl (grown_refl _ _)
            case o2 =>
              go_light
              intro ac w' hgw
              have g2 := grown_trans (grown_drew (grown_refl wr none)) hgw
              have k2 := K2.out.kept0 g2
              have c0 := (k2.cell 0).trans (show _ = some (Value.slice (some ⟨bu, ou, none⟩) u.length cu) from rfl)
              have c1 := (k2.cell 1).trans (show _ = some (Value.slice (some ⟨bd, od, none⟩) d.length cd) from rfl)
              have wd1 := ((gcell g2).1 bd _ ld.out).trans kd1.out
              clear k2 g2
              replace hgw := hid hgw
              simp only [outThen, preThen, slotIs, factAt, isv, List.getElem?_cons_zero, List.getElem?_cons_succ, Option.getD_some, forall_eq]
              intros
              rename_i hK
              replace hK := hid hK
              simp only [wantedAt]
              go_simp
              exact hK.out _ _ rfl (grown_refl _ _)
            case o3 =>
              go_light
              intro ac w' hgw
              have g2 := grown_trans (grown_drew (grown_refl wr none)) hgw
              have k2 := K2.out.kept0 g2
              have c0 := (k2.cell 0).trans (show _ = some (Value.slice (some ⟨bu, ou, none⟩) u.length cu) from rfl)
              have c1 := (k2.cell 1).trans (show _ = some (Value.slice (some ⟨bd, od, none⟩) d.length cd) from rfl)
              have wd1 := ((gcell g2).1 bd _ ld.out).trans kd1.out
              clear k2 g2
              replace hgw := hid hgw
              simp only [outThen, preThen, slotIs, factAt, isv, List.getElem?_cons_zero, List.getElem?_cons_succ, Option.getD_some, forall_eq]
              intros
              rename_i hK
              replace hK := hid hK
              simp only [wantedAt]
              go_simp
              exact hK.out _ _ rfl (grown_refl _ _)
            case o4 =>
              go_light
              intro ac w' hgw
              have g2 := grown_trans (grown_drew (grown_refl wr none)) hgw
              have k2 := K2.out.kept0 g2
              have c0 := (k2.cell 0).trans (show _ = some (Value.slice (some ⟨bu, ou, none⟩) u.length cu) from rfl)
              have c1 := (k2.cell 1).trans (show _ = some (Value.slice (some ⟨bd, od, none⟩) d.length cd) from rfl)
              have wd1 := ((gcell g2).1 bd _ ld.out).trans kd1.out
              clear k2 g2
              replace hgw := hid hgw
              simp only [outThen, preThen, slotIs, factAt, isv, List.getElem?_cons_zero, List.getElem?_cons_succ, Option.getD_some, forall_eq]
              intros
              rename_i hK
              replace hK := hid hK
              simp only [wantedAt]
              go_simp
              exact hK.out _ _ rfl (grown_refl _ _)
            case o5 =>
              go_light
              intro ac w' hgw
              have g2 := grown_trans (grown_drew (grown_refl wr none)) hgw
              have k2 := K2.out.kept0 g2
              have c0 := (k2.cell 0).trans (show _ = some (Value.slice (some ⟨bu, ou, none⟩) u.length cu) from rfl)
              have c1 := (k2.cell 1).trans (show _ = some (Value.slice (some ⟨bd, od, none⟩) d.length cd) from rfl)
              have wd1 := ((gcell g2).1 bd _ ld.out).trans kd1.out
              clear k2 g2
              replace hgw := hid hgw
              simp only [outThen, preThen, slotIs, factAt, isv, List.getElem?_cons_zero, List.getElem?_cons_succ, Option.getD_some, forall_eq]
              intros
              rename_i hK
              replace hK := hid hK
              simp only [wantedAt]
              go_simp
              exact hK.out _ _ rfl (grown_refl _ _)
            case o6 =>
              go_light
              intro ac w' hgw
              have g2 := grown_trans (grown_drew (grown_refl wr none)) hgw
              have k2 := K2.out.kept0 g2
              have c0 := (k2.cell 0).trans (show _ = some (Value.slice (some ⟨bu, ou, none⟩) u.length cu) from rfl)
              have c1 := (k2.cell 1).trans (show _ = some (Value.slice (some ⟨bd, od, none⟩) d.length cd) from rfl)
              have wd1 := ((gcell g2).1 bd _ ld.out).trans kd1.out
              clear k2 g2
              replace hgw := hid hgw
              simp only [outThen, preThen, slotIs, factAt, isv, List.getElem?_cons_zero, List.getElem?_cons_succ, Option.getD_some, forall_eq]
              intros
              rename_i hK
              replace hK := hid hK
              simp only [wantedAt]
              go_simp
              exact hK.out _ _ rfl (grown_refl _ _)
            case o7 =>
              go_light
              intro ac w' hgw
              have g2 := grown_trans (grown_drew (grown_refl wr none)) hgw
              have k2 := K2.out.kept0 g2
              have c0 := (k2.cell 0).trans (show _ = some (Value.slice (some ⟨bu, ou, none⟩) u.length cu) from rfl)
              have c1 := (k2.cell 1).trans (show _ = some (Value.slice (some ⟨bd, od, none⟩) d.length cd) from rfl)
              have wd1 := ((gcell g2).1 bd _ ld.out).trans kd1.out
              clear k2 g2
              replace hgw := hid hgw
              simp only [outThen, preThen, slotIs, factAt, isv, List.getElem?_cons_zero, List.getElem?_cons_succ, Option.getD_some, forall_eq]
              intros
              rename_i hK
              replace hK := hid hK
              simp only [wantedAt]
              go_simp
              exact hK.out _ _ rfl (grown_refl _ _)
            case o8 =>
              go_light
              intro ac w' hgw
              have g2 := grown_trans (grown_drew (grown_refl wr none)) hgw
              have k2 := K2.out.kept0 g2
              have c0 := (k2.cell 0).trans (show _ = some (Value.slice (some ⟨bu, ou, none⟩) u.length cu) from rfl)
              have c1 := (k2.cell 1).trans (show _ = some (Value.slice (some ⟨bd, od, none⟩) d.length cd) from rfl)
              have wd1 := ((gcell g2).1 bd _ ld.out).trans kd1.out
              clear k2 g2
              replace hgw := hid hgw
              simp only [outThen, preThen, slotIs, factAt, isv, List.getElem?_cons_zero, List.getElem?_cons_succ, Option.getD_some, forall_eq]
              intros
              rename_i hK
              replace hK := hid hK
              simp only [wantedAt]
              go_simp
              exact hK.out _ _ rfl (grown_refl _ _)
            case o9 =>
              go_light
              intro ac w' hgw
              have g2 := grown_trans (grown_drew (grown_refl wr none)) hgw
              have k2 := K2.out.kept0 g2
              have c0 := (k2.cell 0).trans (show _ = some (Value.slice (some ⟨bu, ou, none⟩) u.length cu) from rfl)
              have c1 := (k2.cell 1).trans (show _ = some (Value.slice (some ⟨bd, od, none⟩) d.length cd) from rfl)
              have wd1 := ((gcell g2).1 bd _ ld.out).trans kd1.out
              clear k2 g2
              replace hgw := hid hgw
              simp only [outThen, preThen, slotIs, factAt, isv, List.getElem?_cons_zero, List.getElem?_cons_succ, Option.getD_some, forall_eq]
              intros
              rename_i hK
              replace hK := hid hK
              simp only [wantedAt]
              go_simp
              exact hK.out _ _ rfl (grown_refl _ _)
            case o10 =>
              go_light
              intro ac w' hgw
              have g2 := grown_trans (grown_drew (grown_refl wr none)) hgw
              have k2 := K2.out.kept0 g2
              have c0 := (k2.cell 0).trans (show _ = some (Value.slice (some ⟨bu, ou, none⟩) u.length cu) from rfl)
              have c1 := (k2.cell 1).trans (show _ = some (Value.slice (some ⟨bd, od, none⟩) d.length cd) from rfl)
              have wd1 := ((gcell g2).1 bd _ ld.out).trans kd1.out
              clear k2 g2
              replace hgw := hid hgw
              simp only [outThen, preThen, slotIs, factAt, isv, List.getElem?_cons_zero, List.getElem?_cons_succ, Option.getD_some, forall_eq]
              intros
              rename_i hK
              replace hK := hid hK
              simp only [wantedAt]
              go_simp
              exact hK.out _ _ rfl (grown_refl _ _)
            case o11 =>
              go_light
              intro ac w' hgw
              have g2 := grown_trans (grown_drew (grown_refl wr none)) hgw
              have k2 := K2.out.kept0 g2
              have c0 := (k2.cell 0).trans (show _ = some (Value.slice (some ⟨bu, ou, none⟩) u.length cu) from rfl)
              have c1 := (k2.cell 1).trans (show _ = some (Value.slice (some ⟨bd, od, none⟩) d.length cd) from rfl)
              have wd1 := ((gcell g2).1 bd _ ld.out).trans kd1.out
              clear k2 g2
              replace hgw := hid hgw
              simp only [outThen, preThen, slotIs, factAt, isv, List.getElem?_cons_zero, List.getElem?_cons_succ, Option.getD_some, forall_eq]
              intros
              rename_i hK
              replace hK := hid hK
              simp only [wantedAt]
              go_simp
              exact hK.out _ _ rfl (grown_refl _ _)
            case o12 =>
              go_light
              intro ac w' hgw
              have g2 := grown_trans (grown_drew (grown_refl wr none)) hgw
              have k2 := K2.out.kept0 g2
              have c0 := (k2.cell 0).trans (show _ = some (Value.slice (some ⟨bu, ou, none⟩) u.length cu) from rfl)
              have c1 := (k2.cell 1).trans (show _ = some (Value.slice (some ⟨bd, od, none⟩) d.length cd) from rfl)
              have wd1 := ((gcell g2).1 bd _ ld.out).trans kd1.out
              clear k2 g2
              replace hgw := hid hgw
              simp only [outThen, preThen, slotIs, factAt, isv, List.getElem?_cons_zero, List.getElem?_cons_succ, Option.getD_some, forall_eq]
              intros
              rename_i hK
              replace hK := hid hK
              simp only [wantedAt]
              go_simp
              exact hK.out _ _ rfl (grown_refl _ _)
            case o13 =>
              go_light
              intro ac w' hgw
              have g2 := grown_trans (grown_drew (grown_refl wr none)) hgw
              have k2 := K2.out.kept0 g2
              have c0 := (k2.cell 0).trans (show _ = some (Value.slice (some ⟨bu, ou, none⟩) u.length cu) from rfl)
              have c1 := (k2.cell 1).trans (show _ = some (Value.slice (some ⟨bd, od, none⟩) d.length cd) from rfl)
              have wd1 := ((gcell g2).1 bd _ ld.out).trans kd1.out
              clear k2 g2
              replace hgw := hid hgw
              simp only [outThen, preThen, slotIs, factAt, isv, List.getElem?_cons_zero, List.getElem?_cons_succ, Option.getD_some, forall_eq]
              intros
              rename_i hK
              replace hK := hid hK
              simp only [wantedAt]
              go_simp
              exact hK.out _ _ rfl (grown_refl _ _)
            case o14 =>
              go_light
              intro ac w' hgw
              have g2 := grown_trans (grown_drew (grown_refl wr none)) hgw
              have k2 := K2.out.kept0 g2
              have c0 := (k2.cell 0).trans (show _ = some (Value.slice (some ⟨bu, ou, none⟩) u.length cu) from rfl)
              have c1 := (k2.cell 1).trans (show _ = some (Value.slice (some ⟨bd, od, none⟩) d.length cd) from rfl)
              have wd1 := ((gcell g2).1 bd _ ld.out).trans kd1.out
              clear k2 g2
              replace hgw := hid hgw
              simp only [outThen, preThen, slotIs, factAt, isv, List.getElem?_cons_zero, List.getElem?_cons_succ, Option.getD_some, forall_eq]
              intros
              rename_i hK
              replace hK := hid hK
              simp only [wantedAt]
              go_simp
              exact hK.out _ _ rfl (grown_refl _ _)
            case o15 =>
              go_light
              intro ac w' hgw
              have g2 := grown_trans (grown_drew (grown_refl wr none)) hgw
              have k2 := K2.out.kept0 g2
              have c0 := (k2.cell 0).trans (show _ = some (Value.slice (some ⟨bu, ou, none⟩) u.length cu) from rfl)
              have c1 := (k2.cell 1).trans (show _ = some (Value.slice (some ⟨bd, od, none⟩) d.length cd) from rfl)
              have wd1 := ((gcell g2).1 bd _ ld.out).trans kd1.out
              clear k2 g2
              replace hgw := hid hgw
              simp only [outThen, preThen, slotIs, factAt, isv, List.getElem?_cons_zero, List.getElem?_cons_succ, Option.getD_some, forall_eq]
              intros
              rename_i hK
              replace hK := hid hK
              simp only [wantedAt]
              go_simp
              exact hK.out _ _ rfl (grown_refl _ _)
            case o16 =>
              go_light
              intro ac w' hgw
              have g2 := grown_trans (grown_drew (grown_refl wr none)) hgw
              have k2 := K2.out.kept0 g2
              have c0 := (k2.cell 0).trans (show _ = some (Value.slice (some ⟨bu, ou, none⟩) u.length cu) from rfl)
              have c1 := (k2.cell 1).trans (show _ = some (Value.slice (some ⟨bd, od, none⟩) d.length cd) from rfl)
              have wd1 := ((gcell g2).1 bd _ ld.out).trans kd1.out
              clear k2 g2
              replace hgw := hid hgw
              simp only [outThen, preThen, slotIs, factAt, isv, List.getElem?_cons_zero, List.getElem?_cons_succ, Option.getD_some, forall_eq]
              intros
              rename_i hK
              replace hK := hid hK
              simp only [wantedAt]
              go_simp
              exact hK.out _ _ rfl (grown_refl _ _)
            case o17 =>
              go_light
              intro ac w' hgw
              have g2 := grown_trans (grown_drew (grown_refl wr none)) hgw
              have k2 := K2.out.kept0 g2
              have c0 := (k2.cell 0).trans (show _ = some (Value.slice (some ⟨bu, ou, none⟩) u.length cu) from rfl)
              have c1 := (k2.cell 1).trans (show _ = some (Value.slice (some ⟨bd, od, none⟩) d.length cd) from rfl)
              have wd1 := ((gcell g2).1 bd _ ld.out).trans kd1.out
              clear k2 g2
              replace hgw := hid hgw
              simp only [outThen, preThen, slotIs, factAt, isv, List.getElem?_cons_zero, List.getElem?_cons_succ, Option.getD_some, forall_eq]
              intros
              rename_i hK
              replace hK := hid hK
              simp only [wantedAt]
              go_simp
              exact hK.out _ _ rfl (grown_refl _ _)
            case o18 =>
              go_light
              intro ac w' hgw
              have g2 := grown_trans (grown_drew (grown_refl wr none)) hgw
              have k2 := K2.out.kept0 g2
              have c0 := (k2.cell 0).trans (show _ = some (Value.slice (some ⟨bu, ou, none⟩) u.length cu) from rfl)
              have c1 := (k2.cell 1).trans (show _ = some (Value.slice (some ⟨bd, od, none⟩) d.length cd) from rfl)
              have wd1 := ((gcell g2).1 bd _ ld.out).trans kd1.out
              clear k2 g2
              replace hgw := hid hgw
              simp only [outThen, preThen, slotIs, factAt, isv, List.getElem?_cons_zero, List.getElem?_cons_succ, Option.getD_some, forall_eq]
              intros
              rename_i hK
              replace hK := hid hK
              simp only [wantedAt]
              go_simp
              exact hK.out _ _ rfl (grown_refl _ _)
            case o19 =>
              go_light
              intro ac w' hgw
              have g2 := grown_trans (grown_drew (grown_refl wr none)) hgw
              have k2 := K2.out.kept0 g2
              have c0 := (k2.cell 0).trans (show _ = some (Value.slice (some ⟨bu, ou, none⟩) u.length cu) from rfl)
              have c1 := (k2.cell 1).trans (show _ = some (Value.slice (some ⟨bd, od, none⟩) d.length cd) from rfl)
              have wd1 := ((gcell g2).1 bd _ ld.out).trans kd1.out
              clear k2 g2
              replace hgw := hid hgw
              simp only [outThen, preThen, slotIs, factAt, isv, List.getElem?_cons_zero, List.getElem?_cons_succ, Option.getD_some, forall_eq]
              intros
              rename_i hK
              replace hK := hid hK
              simp only [wantedAt]
              go_simp
              exact hK.out _ _ rfl (grown_refl _ _)
            case o20 =>
              go_light
              intro ac w' hgw
              have g2 := grown_trans (grown_drew (grown_refl wr none)) hgw
              have k2 := K2.out.kept0 g2
              have c0 := (k2.cell 0).trans (show _ = some (Value.slice (some ⟨bu, ou, none⟩) u.length cu) from rfl)
              have c1 := (k2.cell 1).trans (show _ = some (Value.slice (some ⟨bd, od, none⟩) d.length cd) from rfl)
              have wd1 := ((gcell g2).1 bd _ ld.out).trans kd1.out
              clear k2 g2
              replace hgw := hid hgw
              simp only [outThen, preThen, slotIs, factAt, isv, List.getElem?_cons_zero, List.getElem?_cons_succ, Option.getD_some, forall_eq]
              intros
              rename_i hK
              replace hK := hid hK
              simp only [wantedAt]
              go_simp
              exact hK.out _ _ rfl (grown_refl _ _)
          case st =>
            repeat (first | exact AllStable.nil | (refine AllStable.cons ?_ ?_; focus (first | exact stable_isv _ | exact stable_isBytes _ | exact stable_isRow1 _ | exact stable_isRowOf _ _ | exact stable_isVar _ | exact stable_isVarOf _ _ _)))
          case fin =>
            intro w3 hgw
            simp only [finalIn, factAt, isv, List.getElem?_cons_zero, List.getElem?_cons_succ, Option.getD_some, forall_eq, slotIs, subj]
            simp only [Act.put, List.setIfInBounds_toArray, List.set_cons_zero, List.set_cons_succ]
            have hg3 := hid (grown_trans (grown_drew (grown_refl wr none)) hgw)
            clear hgw
            go_wp2_with fail
            go_ret
            exact ⟨by rw [hf.out]; rfl, grown_trans hG0.out (grown_trans hG.out hg3.out)⟩
        · obtain ⟨m, rfl⟩ := Int.eq_ofNat_of_zero_le (show 0 ≤ p by omega)
          have hm : m < j := by omega
          have hdm := hid (hbj.out m hm)
          have kdp := kd.out m (by have := e2.out; omega)
          rw [Int.toNat_natCast] at hRj
          generalize d.getD m 0 = dp at kdp hdm hRj
          obtain ⟨h2, h3⟩ := hdm.out
          have h4 : dp ≤ 400 := by omega
          replace h3 := hid h3
          replace kdp := hid kdp
          have q4 : (m : Int) < (d.length : Int) := by omega
          have hwp : IntKind.i64.wrap (dp + 1) = dp + 1 := IntWalk.i64_in _ (by omega)
          have q5 : (0 : Int) ≤ (m : Int) := by omega
          by_cases h5 : x = dp + 1
          · have hne : (x != dp + 1) = false := by simp [h5]
            replace h5 := hid h5
            go_upto_region 5 with fail
            clear c0 c1 c3 ku1
            apply wp_region_each [isv (.int .i64 (m : Int)), isv (.bool false), isv (.bool false), isv _, isv _, isv (.bool false), isv (.bool false), isv (.bool false), isv _, isv _, isv _, isv _, isv (.int .i64 x), isv _, isv _, isv _, isv _, isv (.int .i64 dp), isv (.int .i64 (dp + 1)), isv (.bool false), isv (.bool false)]
              65 [some 17, some 18, some 19, some 20, some 21, some 22, some 23, some 24, some 25, some 26, some 27, some 28, some 29, some 30, some 31, some 32, some 33, some 34, some 35, some 36, some 37]
              [some 17, some 18, some 19, some 20, some 21, some 22, some 23, some 24, some 25, some 26, some 27, some 28, some 29, some 30, some 31, some 32, some 33, some 34, some 35, some 36, some 37]
              [[], [0], [1], [2], [2], [3, 4, 2], [2, 5], [6], [7], [8, 7], [7], [9, 10, 7], [11, 7], [7], [13, 7], [7], [14, 15, 7], [16, 7], [17, 7], [12, 18, 7], [7, 19]]
              [(1, .pointer (some ⟨h, 0, none⟩)), (3, .int .i64 (j : Int)), (4, .int .i64 (m : Int))] (by kernel_rfl) rfl (by kernel_rfl) rfl rfl (by kernel_rfl) (OutsOk.cons rfl rfl (OutsOk.cons rfl rfl (OutsOk.cons rfl rfl OutsOk.nil))) ?st ?ob ?fin
            case ob =>
              refine Obs.consv rfl ?o0 (Obs.consv rfl ?o1 (Obs.consv rfl ?o2 (Obs.consv rfl ?o3 (Obs.consv rfl ?o4 (Obs.consv rfl ?o5 (Obs.consv rfl ?o6 (Obs.consv rfl ?o7 (Obs.consv rfl ?o8 (Obs.consv rfl ?o9 (Obs.consv rfl ?o10 (Obs.consv rfl ?o11 (Obs.consv rfl ?o12 (Obs.consv rfl ?o13 (Obs.consv rfl ?o14 (Obs.consv rfl ?o15 (Obs.consv rfl ?o16 (Obs.consv rfl ?o17 (Obs.consv rfl ?o18 (Obs.consv rfl ?o19 (Obs.consv rfl ?o20 Obs.nil))))))))))))))))))))
              case o0 =>
                go_light
                intro ac w' hgw
                have g2 := grown_trans (grown_drew (grown_refl wr none)) hgw
                have k2 := K2.out.kept0 g2
                have c0 := (k2.cell 0).trans (show _ = some (Value.slice (some ⟨bu, ou, none⟩) u.length cu) from rfl)
                have c1 := (k2.cell 1).trans (show _ = some (Value.slice (some ⟨bd, od, none⟩) d.length cd) from rfl)
                have wd1 := ((gcell g2).1 bd _ ld.out).trans kd1.out
                have wdp := ((gcell g2).1 bd _ ld.out).trans kdp.out
                clear k2 g2
                replace hgw := hid hgw
                simp only [outThen, preThen, slotIs, factAt, isv, List.getElem?_cons_zero, List.getElem?_cons_succ, Option.getD_some, forall_eq]
                intros
                rename_i hK
                replace hK := hid hK
                simp only [wantedAt]
                go_simp
                exact hK.out _ _ rfl (grown_refl _ _)
              case o1 =>
                go_light
                intro ac w' hgw
                have g2 := grown_trans (grown_drew (grown_refl wr none)) hgw
                have k2 := K2.out.kept0 g2
                have c0 := (k2.cell 0).trans (show _ = some (Value.slice (some ⟨bu, ou, none⟩) u.length cu) from rfl)
                have c1 := (k2.cell 1).trans (show _ = some (Value.slice (some ⟨bd, od, none⟩) d.length cd) from rfl)
                have wd1 := ((gcell g2).1 bd _ ld.out).trans kd1.out
                have wdp := ((gcell g2).1 bd _ ld.out).trans kdp.out
                clear k2 g2
                replace hgw := hid hgw
                simp only [outThen, preThen, slotIs, factAt, isv, List.getElem?_cons_zero, List.getElem?_cons_succ, Option.getD_some, forall_eq]
                intros
                rename_i hK
                replace hK := hid hK
                simp only [wantedAt]
                go_simp
                exact hK.out _ _ rfl (grown_refl _ _)
              case o2 =>
                go_light
                intro ac w' hgw
                have g2 := grown_trans (grown_drew (grown_refl wr none)) hgw
                have k2 := K2.out.kept0 g2
                have c0 := (k2.cell 0).trans (show _ = some (Value.slice (some ⟨bu, ou, none⟩) u.length cu) from rfl)
                have c1 := (k2.cell 1).trans (show _ = some (Value.slice (some ⟨bd, od, none⟩) d.length cd) from rfl)
                have wd1 := ((gcell g2).1 bd _ ld.out).trans kd1.out
                have wdp := ((gcell g2).1 bd _ ld.out).trans kdp.out
                clear k2 g2
                replace hgw := hid hgw
                simp only [outThen, preThen, slotIs, factAt, isv, List.getElem?_cons_zero, List.getElem?_cons_succ, Option.getD_some, forall_eq]
                intros
                rename_i hK
                replace hK := hid hK
                simp only [wantedAt]
                go_simp
                exact hK.out _ _ rfl (grown_refl _ _)
              case o3 =>
                go_light
                intro ac w' hgw
                have g2 := grown_trans (grown_drew (grown_refl wr none)) hgw
                have k2 := K2.out.kept0 g2
                have c0 := (k2.cell 0).trans (show _ = some (Value.slice (some ⟨bu, ou, none⟩) u.length cu) from rfl)
                have c1 := (k2.cell 1).trans (show _ = some (Value.slice (some ⟨bd, od, none⟩) d.length cd) from rfl)
                have wd1 := ((gcell g2).1 bd _ ld.out).trans kd1.out
                have wdp := ((gcell g2).1 bd _ ld.out).trans kdp.out
                clear k2 g2
                replace hgw := hid hgw
                simp only [outThen, preThen, slotIs, factAt, isv, List.getElem?_cons_zero, List.getElem?_cons_succ, Option.getD_some, forall_eq]
                intros
                rename_i hK
                replace hK := hid hK
                simp only [wantedAt]
                go_simp
                exact hK.out _ _ rfl (grown_refl _ _)
              case o4 =>
                go_light
                intro ac w' hgw
                have g2 := grown_trans (grown_drew (grown_refl wr none)) hgw
                have k2 := K2.out.kept0 g2
                have c0 := (k2.cell 0).trans (show _ = some (Value.slice (some ⟨bu, ou, none⟩) u.length cu) from rfl)
                have c1 := (k2.cell 1).trans (show _ = some (Value.slice (some ⟨bd, od, none⟩) d.length cd) from rfl)
                have wd1 := ((gcell g2).1 bd _ ld.out).trans kd1.out
                have wdp := ((gcell g2).1 bd _ ld.out).trans kdp.out
                clear k2 g2
                replace hgw := hid hgw
                simp only [outThen, preThen, slotIs, factAt, isv, List.getElem?_cons_zero, List.getElem?_cons_succ, Option.getD_some, forall_eq]
                intros
                rename_i hK
                replace hK := hid hK
                simp only [wantedAt]
                go_simp
                exact hK.out _ _ rfl (grown_refl _ _)
              case o5 =>
                go_light
                intro ac w' hgw
                have g2 := grown_trans (grown_drew (grown_refl wr none)) hgw
                have k2 := K2.out.kept0 g2
                have c0 := (k2.cell 0).trans (show _ = some (Value.slice (some ⟨bu, ou, none⟩) u.length cu) from rfl)
                have c1 := (k2.cell 1).trans (show _ = some (Value.slice (some ⟨bd, od, none⟩) d.length cd) from rfl)
                have wd1 := ((gcell g2).1 bd _ ld.out).trans kd1.out
                have wdp := ((gcell g2).1 bd _ ld.out).trans kdp.out
                clear k2 g2
                replace hgw := hid hgw
                simp only [outThen, preThen, slotIs, factAt, isv, List.getElem?_cons_zero, List.getElem?_cons_succ, Option.getD_some, forall_eq]
                intros
                rename_i hK
                replace hK := hid hK
                simp only [wantedAt]
                go_simp
                exact hK.out _ _ rfl (grown_refl _ _)
              case o6 =>
                go_light
                intro ac w' hgw
                have g2 := grown_trans (grown_drew (grown_refl wr none)) hgw
                have k2 := K2.out.kept0 g2
                have c0 := (k2.cell 0).trans (show _ = some (Value.slice (some ⟨bu, ou, none⟩) u.length cu) from rfl)
                have c1 := (k2.cell 1).trans (show _ = some (Value.slice (some ⟨bd, od, none⟩) d.length cd) from rfl)
                have wd1 := ((gcell g2).1 bd _ ld.out).trans kd1.out
                have wdp := ((gcell g2).1 bd _ ld.out).trans kdp.out
                clear k2 g2
                replace hgw := hid hgw
                simp only [outThen, preThen, slotIs, factAt, isv, List.getElem?_cons_zero, List.getElem?_cons_succ, Option.getD_some, forall_eq]
                intros
                rename_i hK
                replace hK := hid hK
                simp only [wantedAt]
                go_simp
                exact hK.out _ _ rfl (grown_refl _ _)
              case o7 =>
                go_light
                intro ac w' hgw
                have g2 := grown_trans (grown_drew (grown_refl wr none)) hgw
                have k2 := K2.out.kept0 g2
                have c0 := (k2.cell 0).trans (show _ = some (Value.slice (some ⟨bu, ou, none⟩) u.length cu) from rfl)
                have c1 := (k2.cell 1).trans (show _ = some (Value.slice (some ⟨bd, od, none⟩) d.length cd) from rfl)
                have wd1 := ((gcell g2).1 bd _ ld.out).trans kd1.out
                have wdp := ((gcell g2).1 bd _ ld.out).trans kdp.out
                clear k2 g2
                replace hgw := hid hgw
                simp only [outThen, preThen, slotIs, factAt, isv, List.getElem?_cons_zero, List.getElem?_cons_succ, Option.getD_some, forall_eq]
                intros
                rename_i hK
                replace hK := hid hK
                simp only [wantedAt]
                go_simp
                exact hK.out _ _ rfl (grown_refl _ _)
              case o8 =>
                go_light
                intro ac w' hgw
                have g2 := grown_trans (grown_drew (grown_refl wr none)) hgw
                have k2 := K2.out.kept0 g2
                have c0 := (k2.cell 0).trans (show _ = some (Value.slice (some ⟨bu, ou, none⟩) u.length cu) from rfl)
                have c1 := (k2.cell 1).trans (show _ = some (Value.slice (some ⟨bd, od, none⟩) d.length cd) from rfl)
                have wd1 := ((gcell g2).1 bd _ ld.out).trans kd1.out
                have wdp := ((gcell g2).1 bd _ ld.out).trans kdp.out
                clear k2 g2
                replace hgw := hid hgw
                simp only [outThen, preThen, slotIs, factAt, isv, List.getElem?_cons_zero, List.getElem?_cons_succ, Option.getD_some, forall_eq]
                intros
                rename_i hK
                replace hK := hid hK
                simp only [wantedAt]
                go_simp
                exact hK.out _ _ rfl (grown_refl _ _)
              case o9 =>
                go_light
                intro ac w' hgw
                have g2 := grown_trans (grown_drew (grown_refl wr none)) hgw
                have k2 := K2.out.kept0 g2
                have c0 := (k2.cell 0).trans (show _ = some (Value.slice (some ⟨bu, ou, none⟩) u.length cu) from rfl)
                have c1 := (k2.cell 1).trans (show _ = some (Value.slice (some ⟨bd, od, none⟩) d.length cd) from rfl)
                have wd1 := ((gcell g2).1 bd _ ld.out).trans kd1.out
                have wdp := ((gcell g2).1 bd _ ld.out).trans kdp.out
                clear k2 g2
                replace hgw := hid hgw
                simp only [outThen, preThen, slotIs, factAt, isv, List.getElem?_cons_zero, List.getElem?_cons_succ, Option.getD_some, forall_eq]
                intros
                rename_i hK
                replace hK := hid hK
                simp only [wantedAt]
                go_simp
                exact hK.out _ _ rfl (grown_refl _ _)
              case o10 =>
                go_light
                intro ac w' hgw
                have g2 := grown_trans (grown_drew (grown_refl wr none)) hgw
                have k2 := K2.out.kept0 g2
                have c0 := (k2.cell 0).trans (show _ = some (Value.slice (some ⟨bu, ou, none⟩) u.length cu) from rfl)
                have c1 := (k2.cell 1).trans (show _ = some (Value.slice (some ⟨bd, od, none⟩) d.length cd) from rfl)
                have wd1 := ((gcell g2).1 bd _ ld.out).trans kd1.out
                have wdp := ((gcell g2).1 bd _ ld.out).trans kdp.out
                clear k2 g2
                replace hgw := hid hgw
                simp only [outThen, preThen, slotIs, factAt, isv, List.getElem?_cons_zero, List.getElem?_cons_succ, Option.getD_some, forall_eq]
                intros
                rename_i hK
                replace hK := hid hK
                simp only [wantedAt]
                go_simp
                exact hK.out _ _ rfl (grown_refl _ _)
              case o11 =>
                go_light
                intro ac w' hgw
                have g2 := grown_trans (grown_drew (grown_refl wr none)) hgw
                have k2 := K2.out.kept0 g2
                have c0 := (k2.cell 0).trans (show _ = some (Value.slice (some ⟨bu, ou, none⟩) u.length cu) from rfl)
                have c1 := (k2.cell 1).trans (show _ = some (Value.slice (some ⟨bd, od, none⟩) d.length cd) from rfl)
                have wd1 := ((gcell g2).1 bd _ ld.out).trans kd1.out
                have wdp := ((gcell g2).1 bd _ ld.out).trans kdp.out
                clear k2 g2
                replace hgw := hid hgw
                simp only [outThen, preThen, slotIs, factAt, isv, List.getElem?_cons_zero, List.getElem?_cons_succ, Option.getD_some, forall_eq]
                intros
                rename_i hK
                replace hK := hid hK
                simp only [wantedAt]
                go_simp
                exact hK.out _ _ rfl (grown_refl _ _)
              case o12 =>
                go_light
                intro ac w' hgw
                have g2 := grown_trans (grown_drew (grown_refl wr none)) hgw
                have k2 := K2.out.kept0 g2
                have c0 := (k2.cell 0).trans (show _ = some (Value.slice (some ⟨bu, ou, none⟩) u.length cu) from rfl)
                have c1 := (k2.cell 1).trans (show _ = some (Value.slice (some ⟨bd, od, none⟩) d.length cd) from rfl)
                have wd1 := ((gcell g2).1 bd _ ld.out).trans kd1.out
                have wdp := ((gcell g2).1 bd _ ld.out).trans kdp.out
                clear k2 g2
                replace hgw := hid hgw
                simp only [outThen, preThen, slotIs, factAt, isv, List.getElem?_cons_zero, List.getElem?_cons_succ, Option.getD_some, forall_eq]
                intros
                rename_i hK
                replace hK := hid hK
                simp only [wantedAt]
                go_simp
                exact hK.out _ _ rfl (grown_refl _ _)
              case o13 =>
                go_light
                intro ac w' hgw
                have g2 := grown_trans (grown_drew (grown_refl wr none)) hgw
                have k2 := K2.out.kept0 g2
                have c0 := (k2.cell 0).trans (show _ = some (Value.slice (some ⟨bu, ou, none⟩) u.length cu) from rfl)
                have c1 := (k2.cell 1).trans (show _ = some (Value.slice (some ⟨bd, od, none⟩) d.length cd) from rfl)
                have wd1 := ((gcell g2).1 bd _ ld.out).trans kd1.out
                have wdp := ((gcell g2).1 bd _ ld.out).trans kdp.out
                clear k2 g2
                replace hgw := hid hgw
                simp only [outThen, preThen, slotIs, factAt, isv, List.getElem?_cons_zero, List.getElem?_cons_succ, Option.getD_some, forall_eq]
                intros
                rename_i hK
                replace hK := hid hK
                simp only [wantedAt]
                go_simp
                exact hK.out _ _ rfl (grown_refl _ _)
              case o14 =>
                go_light
                intro ac w' hgw
                have g2 := grown_trans (grown_drew (grown_refl wr none)) hgw
                have k2 := K2.out.kept0 g2
                have c0 := (k2.cell 0).trans (show _ = some (Value.slice (some ⟨bu, ou, none⟩) u.length cu) from rfl)
                have c1 := (k2.cell 1).trans (show _ = some (Value.slice (some ⟨bd, od, none⟩) d.length cd) from rfl)
                have wd1 := ((gcell g2).1 bd _ ld.out).trans kd1.out
                have wdp := ((gcell g2).1 bd _ ld.out).trans kdp.out
                clear k2 g2
                replace hgw := hid hgw
                simp only [outThen, preThen, slotIs, factAt, isv, List.getElem?_cons_zero, List.getElem?_cons_succ, Option.getD_some, forall_eq]
                intros
                rename_i hK
                replace hK := hid hK
                simp only [wantedAt]
                go_simp
                exact hK.out _ _ rfl (grown_refl _ _)
              case o15 =>
                go_light
                intro ac w' hgw
                have g2 := grown_trans (grown_drew (grown_refl wr none)) hgw
                have k2 := K2.out.kept0 g2
                have c0 := (k2.cell 0).trans (show _ = some (Value.slice (some ⟨bu, ou, none⟩) u.length cu) from rfl)
                have c1 := (k2.cell 1).trans (show _ = some (Value.slice (some ⟨bd, od, none⟩) d.length cd) from rfl)
                have wd1 := ((gcell g2).1 bd _ ld.out).trans kd1.out
                have wdp := ((gcell g2).1 bd _ ld.out).trans kdp.out
                clear k2 g2
                replace hgw := hid hgw
                simp only [outThen, preThen, slotIs, factAt, isv, List.getElem?_cons_zero, List.getElem?_cons_succ, Option.getD_some, forall_eq]
                intros
                rename_i hK
                replace hK := hid hK
                simp only [wantedAt]
                go_simp
                exact hK.out _ _ rfl (grown_refl _ _)
              case o16 =>
                go_light
                intro ac w' hgw
                have g2 := grown_trans (grown_drew (grown_refl wr none)) hgw
                have k2 := K2.out.kept0 g2
                have c0 := (k2.cell 0).trans (show _ = some (Value.slice (some ⟨bu, ou, none⟩) u.length cu) from rfl)
                have c1 := (k2.cell 1).trans (show _ = some (Value.slice (some ⟨bd, od, none⟩) d.length cd) from rfl)
                have wd1 := ((gcell g2).1 bd _ ld.out).trans kd1.out
                have wdp := ((gcell g2).1 bd _ ld.out).trans kdp.out
                clear k2 g2
                replace hgw := hid hgw
                simp only [outThen, preThen, slotIs, factAt, isv, List.getElem?_cons_zero, List.getElem?_cons_succ, Option.getD_some, forall_eq]
                intros
                rename_i hK
                replace hK := hid hK
                simp only [wantedAt]
                go_simp
                exact hK.out _ _ rfl (grown_refl _ _)
              case o17 =>
                go_light
                intro ac w' hgw
                have g2 := grown_trans (grown_drew (grown_refl wr none)) hgw
                have k2 := K2.out.kept0 g2
                have c0 := (k2.cell 0).trans (show _ = some (Value.slice (some ⟨bu, ou, none⟩) u.length cu) from rfl)
                have c1 := (k2.cell 1).trans (show _ = some (Value.slice (some ⟨bd, od, none⟩) d.length cd) from rfl)
                have wd1 := ((gcell g2).1 bd _ ld.out).trans kd1.out
                have wdp := ((gcell g2).1 bd _ ld.out).trans kdp.out
                clear k2 g2
                replace hgw := hid hgw
                simp only [outThen, preThen, slotIs, factAt, isv, List.getElem?_cons_zero, List.getElem?_cons_succ, Option.getD_some, forall_eq]
                intros
                rename_i hK
                replace hK := hid hK
                simp only [wantedAt]
                go_simp
                exact hK.out _ _ rfl (grown_refl _ _)
              case o18 =>
                go_light
                intro ac w' hgw
                have g2 := grown_trans (grown_drew (grown_refl wr none)) hgw
                have k2 := K2.out.kept0 g2
                have c0 := (k2.cell 0).trans (show _ = some (Value.slice (some ⟨bu, ou, none⟩) u.length cu) from rfl)
                have c1 := (k2.cell 1).trans (show _ = some (Value.slice (some ⟨bd, od, none⟩) d.length cd) from rfl)
                have wd1 := ((gcell g2).1 bd _ ld.out).trans kd1.out
                have wdp := ((gcell g2).1 bd _ ld.out).trans kdp.out
                clear k2 g2
                replace hgw := hid hgw
                simp only [outThen, preThen, slotIs, factAt, isv, List.getElem?_cons_zero, List.getElem?_cons_succ, Option.getD_some, forall_eq]
                intros
                rename_i hK
                replace hK := hid hK
                simp only [wantedAt]
                go_simp
                exact hK.out _ _ rfl (grown_refl _ _)
              case o19 =>
                go_light
                intro ac w' hgw
                have g2 := grown_trans (grown_drew (grown_refl wr none)) hgw
                have k2 := K2.out.kept0 g2
                have c0 := (k2.cell 0).trans (show _ = some (Value.slice (some ⟨bu, ou, none⟩) u.length cu) from rfl)
                have c1 := (k2.cell 1).trans (show _ = some (Value.slice (some ⟨bd, od, none⟩) d.length cd) from rfl)
                have wd1 := ((gcell g2).1 bd _ ld.out).trans kd1.out
                have wdp := ((gcell g2).1 bd _ ld.out).trans kdp.out
                clear k2 g2
                replace hgw := hid hgw
                simp only [outThen, preThen, slotIs, factAt, isv, List.getElem?_cons_zero, List.getElem?_cons_succ, Option.getD_some, forall_eq]
                intros
                rename_i hK
                replace hK := hid hK
                simp only [wantedAt]
                go_simp
                exact hK.out _ _ rfl (grown_refl _ _)
              case o20 =>
                go_light
                intro ac w' hgw
                have g2 := grown_trans (grown_drew (grown_refl wr none)) hgw
                have k2 := K2.out.kept0 g2
                have c0 := (k2.cell 0).trans (show _ = some (Value.slice (some ⟨bu, ou, none⟩) u.length cu) from rfl)
                have c1 := (k2.cell 1).trans (show _ = some (Value.slice (some ⟨bd, od, none⟩) d.length cd) from rfl)
                have wd1 := ((gcell g2).1 bd _ ld.out).trans kd1.out
                have wdp := ((gcell g2).1 bd _ ld.out).trans kdp.out
                clear k2 g2
                replace hgw := hid hgw
                simp only [outThen, preThen, slotIs, factAt, isv, List.getElem?_cons_zero, List.getElem?_cons_succ, Option.getD_some, forall_eq]
                intros
                rename_i hK
                replace hK := hid hK
                simp only [wantedAt]
                go_simp
                exact hK.out _ _ rfl (grown_refl _ _)
            case st =>
              repeat (first | exact AllStable.nil | (refine AllStable.cons ?_ ?_; focus (first | exact stable_isv _ | exact stable_isBytes _ | exact stable_isRow1 _ | exact stable_isRowOf _ _ | exact stable_isVar _ | exact stable_isVarOf _ _ _)))
            case fin =>
              intro w3 hgw
              simp only [finalIn, factAt, isv, List.getElem?_cons_zero, List.getElem?_cons_succ, Option.getD_some, forall_eq, slotIs, subj]
              simp only [Act.put, List.setIfInBounds_toArray, List.set_cons_zero, List.set_cons_succ]
              have hg3 := hid (grown_trans (grown_drew (grown_refl wr none)) hgw)
              clear hgw
              have hG4 := hid (grown_trans hG.out hg3.out)
              have K3 := hid (K2.out.kept0 hg3.out)
              have ku0' := hid (((gcell hg3.out).1 bu _ lu.out).trans ku0.out)
              have kb0' := hid (((gcell hg3.out).1 bb _ lb.out).trans kb0.out)
              have kb1' := hid (((gcell hg3.out).1 bb _ lb.out).trans kb1.out)
              have lu' := hid (Nat.lt_of_lt_of_le lu.out hg3.out.size)
              have lb' := hid (Nat.lt_of_lt_of_le lb.out hg3.out.size)
              clear ku0 kb0 kb1 kd1 kdp lu ld lb K2 hG
              by_cases h6 : 1 < j
              · have q6 : (1 : Int) < (j : Int) := by omega
                have q7 : (0 : Int) ≤ (j : Int) - 1 := by omega
                have q10 : (1 : Int) ≤ (j : Int) := by omega
                have q8 : (j : Int) - 1 < (u.length : Int) := by omega
                have q9 : (j : Int) - 1 < (b.length : Int) := by omega
                have ej : ((j : Int) - 1).toNat = j - 1 := by omega
                have hwj : IntKind.i64.wrap ((j : Int) - 1) = (j : Int) - 1 := IntWalk.i64_in _ (by omega)
                by_cases h7 : first0 [cmp3 p0 (m : Int), cmp3 y0 y] < 0
                · have hlex : Hid (RA j) := hid ((hRj.out).2 ⟨by omega, by omega, h5.out, fun _ => by
                    simp only [first0] at h7
                    by_cases ez : cmp3 p0 (m : Int) = 0
                    · rw [if_pos ez] at h7
                      right
                      refine ⟨(cmp3_zero _ _).1 ez, ?_⟩
                      by_cases ez2 : cmp3 y0 y = 0
                      · rw [if_pos ez2] at h7; omega
                      · rw [if_neg ez2] at h7; exact (cmp3_neg _ _).1 h7
                    · rw [if_neg ez] at h7
                      left; exact (cmp3_neg _ _).1 h7⟩)
                  generalize hv : first0 [cmp3 p0 (m : Int), cmp3 y0 y] = v at h7
                  have h8 : ¬ (0 ≤ v) := by omega
                  replace hv := hid hv
                  go_upto_region 7 with fail
                  clear h2 h4
                  apply wp_region_each [isv (.int .i64 (j : Int)), isv (.bool true), isv (.bool true), isv _, isv _, isv _, isv _, isv _, isv (.int .i64 p0), isv (.int .i64 (m : Int)), isv (.int .i64 (cmp3 p0 (m : Int))), isv _, isv _, isv _, isv _, isv _, isv (.int .u8 y0), isv _, isv _, isv _, isv _, isv (.int .u8 y), isv (.int .i64 (cmp3 y0 y)), isTwo (cmp3 p0 (m : Int)) (cmp3 y0 y), isv (.int .i64 v), isv (.bool false), isv (.bool false)]
                    65 [some 38, some 39, some 40, some 41, some 42, some 43, some 44, some 45, some 46, some 47, some 48, some 49, some 50, some 51, some 52, some 53, some 54, some 55, some 56, some 57, some 58, some 59, some 60, some 61, some 62, some 63, some 64]
                    [some 38, some 39, some 40, some 41, some 42, some 43, some 44, some 45, some 46, some 47, some 48, some 49, some 50, some 51, some 52, some 53, some 54, some 55, some 56, some 57, some 58, some 59, some 60, some 61, some 62, some 63, some 64]
                    [[], [0], [1], [2], [3, 2], [2], [5, 2], [4, 6, 2], [7, 2], [2], [8, 9, 2], [2], [11, 2], [2], [13, 2], [12, 14, 2], [15, 2], [2], [17, 2], [2], [18, 19, 2], [20, 2], [16, 21, 2], [10, 22, 2], [23, 2], [24, 2], [2, 25]]
                    [(1, .pointer (some ⟨h, 0, none⟩)), (3, .int .i64 (j : Int)), (4, .int .i64 (m : Int))] (by kernel_rfl) rfl (by kernel_rfl) rfl rfl (by kernel_rfl) (OutsOk.cons rfl rfl (OutsOk.cons rfl rfl (OutsOk.cons rfl rfl OutsOk.nil))) ?st ?ob ?fin
                  case ob =>
                    refine Obs.consv rfl ?o0 (Obs.consv rfl ?o1 (Obs.consv rfl ?o2 (Obs.consv rfl ?o3 (Obs.consv rfl ?o4 (Obs.consv rfl ?o5 (Obs.consv rfl ?o6 (Obs.consv rfl ?o7 (Obs.consv rfl ?o8 (Obs.consv rfl ?o9 (Obs.consv rfl ?o10 (Obs.consv rfl ?o11 (Obs.consv rfl ?o12 (Obs.consv rfl ?o13 (Obs.consv rfl ?o14 (Obs.consv rfl ?o15 (Obs.consv rfl ?o16 (Obs.consv rfl ?o17 (Obs.consv rfl ?o18 (Obs.consv rfl ?o19 (Obs.consv rfl ?o20 (Obs.consv rfl ?o21 (Obs.consv rfl ?o22 (Obs.consv rfl ?o23 (Obs.consv rfl ?o24 (Obs.consv rfl ?o25 (Obs.consv rfl ?o26 Obs.nil))))))))))))))))))))))))))
                    case o0 =>
                      go_light
                      intro ac w' hgw
                      have g2 := grown_trans (grown_drew (grown_refl w3 none)) hgw
                      have k2 := K3.out.kept0 g2
                      have c0 := (k2.cell 0).trans (show _ = some (Value.slice (some ⟨bu, ou, none⟩) u.length cu) from rfl)
                      have c3 := (k2.cell 3).trans (show _ = some (Value.slice (some ⟨bb, ob, none⟩) b.length cb) from rfl)
                      have wu0 := ((gcell g2).1 bu _ lu'.out).trans ku0'.out
                      have wb0 := ((gcell g2).1 bb _ lb'.out).trans kb0'.out
                      have wb1 := ((gcell g2).1 bb _ lb'.out).trans kb1'.out
                      clear k2 g2
                      replace hgw := hid hgw
                      simp only [outThen, preThen, slotIs, factAt, isv, List.getElem?_cons_zero, List.getElem?_cons_succ, Option.getD_some, forall_eq]
                      intros
                      rename_i hK
                      replace hK := hid hK
                      simp only [wantedAt]
                      go_simp
                      exact hK.out _ _ rfl (grown_refl _ _)
                    case o1 =>
                      go_light
                      intro ac w' hgw
                      have g2 := grown_trans (grown_drew (grown_refl w3 none)) hgw
                      have k2 := K3.out.kept0 g2
                      have c0 := (k2.cell 0).trans (show _ = some (Value.slice (some ⟨bu, ou, none⟩) u.length cu) from rfl)
                      have c3 := (k2.cell 3).trans (show _ = some (Value.slice (some ⟨bb, ob, none⟩) b.length cb) from rfl)
                      have wu0 := ((gcell g2).1 bu _ lu'.out).trans ku0'.out
                      have wb0 := ((gcell g2).1 bb _ lb'.out).trans kb0'.out
                      have wb1 := ((gcell g2).1 bb _ lb'.out).trans kb1'.out
                      clear k2 g2
                      replace hgw := hid hgw
                      simp only [outThen, preThen, slotIs, factAt, isv, List.getElem?_cons_zero, List.getElem?_cons_succ, Option.getD_some, forall_eq]
                      intros
                      rename_i hK
                      replace hK := hid hK
                      simp only [wantedAt]
                      go_simp
                      exact hK.out _ _ rfl (grown_refl _ _)
                    case o2 =>
                      go_light
                      intro ac w' hgw
                      have g2 := grown_trans (grown_drew (grown_refl w3 none)) hgw
                      have k2 := K3.out.kept0 g2
                      have c0 := (k2.cell 0).trans (show _ = some (Value.slice (some ⟨bu, ou, none⟩) u.length cu) from rfl)
                      have c3 := (k2.cell 3).trans (show _ = some (Value.slice (some ⟨bb, ob, none⟩) b.length cb) from rfl)
                      have wu0 := ((gcell g2).1 bu _ lu'.out).trans ku0'.out
                      have wb0 := ((gcell g2).1 bb _ lb'.out).trans kb0'.out
                      have wb1 := ((gcell g2).1 bb _ lb'.out).trans kb1'.out
                      clear k2 g2
                      replace hgw := hid hgw
                      simp only [outThen, preThen, slotIs, factAt, isv, List.getElem?_cons_zero, List.getElem?_cons_succ, Option.getD_some, forall_eq]
                      intros
                      rename_i hK
                      replace hK := hid hK
                      simp only [wantedAt]
                      go_simp
                      exact hK.out _ _ rfl (grown_refl _ _)
                    case o3 =>
                      go_light
                      intro ac w' hgw
                      have g2 := grown_trans (grown_drew (grown_refl w3 none)) hgw
                      have k2 := K3.out.kept0 g2
                      have c0 := (k2.cell 0).trans (show _ = some (Value.slice (some ⟨bu, ou, none⟩) u.length cu) from rfl)
                      have c3 := (k2.cell 3).trans (show _ = some (Value.slice (some ⟨bb, ob, none⟩) b.length cb) from rfl)
                      have wu0 := ((gcell g2).1 bu _ lu'.out).trans ku0'.out
                      have wb0 := ((gcell g2).1 bb _ lb'.out).trans kb0'.out
                      have wb1 := ((gcell g2).1 bb _ lb'.out).trans kb1'.out
                      clear k2 g2
                      replace hgw := hid hgw
                      simp only [outThen, preThen, slotIs, factAt, isv, List.getElem?_cons_zero, List.getElem?_cons_succ, Option.getD_some, forall_eq]
                      intros
                      rename_i hK
                      replace hK := hid hK
                      simp only [wantedAt]
                      go_simp
                      exact hK.out _ _ rfl (grown_refl _ _)
                    case o4 =>
                      go_light
                      intro ac w' hgw
                      have g2 := grown_trans (grown_drew (grown_refl w3 none)) hgw
                      have k2 := K3.out.kept0 g2
                      have c0 := (k2.cell 0).trans (show _ = some (Value.slice (some ⟨bu, ou, none⟩) u.length cu) from rfl)
                      have c3 := (k2.cell 3).trans (show _ = some (Value.slice (some ⟨bb, ob, none⟩) b.length cb) from rfl)
                      have wu0 := ((gcell g2).1 bu _ lu'.out).trans ku0'.out
                      have wb0 := ((gcell g2).1 bb _ lb'.out).trans kb0'.out
                      have wb1 := ((gcell g2).1 bb _ lb'.out).trans kb1'.out
                      clear k2 g2
                      replace hgw := hid hgw
                      simp only [outThen, preThen, slotIs, factAt, isv, List.getElem?_cons_zero, List.getElem?_cons_succ, Option.getD_some, forall_eq]
                      intros
                      rename_i hK
                      replace hK := hid hK
                      simp only [wantedAt]
                      go_simp
                      exact hK.out _ _ rfl (grown_refl _ _)
                    case o5 =>
                      go_light
                      intro ac w' hgw
                      have g2 := grown_trans (grown_drew (grown_refl w3 none)) hgw
                      have k2 := K3.out.kept0 g2
                      have c0 := (k2.cell 0).trans (show _ = some (Value.slice (some ⟨bu, ou, none⟩) u.length cu) from rfl)
                      have c3 := (k2.cell 3).trans (show _ = some (Value.slice (some ⟨bb, ob, none⟩) b.length cb) from rfl)
                      have wu0 := ((gcell g2).1 bu _ lu'.out).trans ku0'.out
                      have wb0 := ((gcell g2).1 bb _ lb'.out).trans kb0'.out
                      have wb1 := ((gcell g2).1 bb _ lb'.out).trans kb1'.out
                      clear k2 g2
                      replace hgw := hid hgw
                      simp only [outThen, preThen, slotIs, factAt, isv, List.getElem?_cons_zero, List.getElem?_cons_succ, Option.getD_some, forall_eq]
                      intros
                      rename_i hK
                      replace hK := hid hK
                      simp only [wantedAt]
                      go_simp
                      exact hK.out _ _ rfl (grown_refl _ _)
                    case o6 =>
                      go_light
                      intro ac w' hgw
                      have g2 := grown_trans (grown_drew (grown_refl w3 none)) hgw
                      have k2 := K3.out.kept0 g2
                      have c0 := (k2.cell 0).trans (show _ = some (Value.slice (some ⟨bu, ou, none⟩) u.length cu) from rfl)
                      have c3 := (k2.cell 3).trans (show _ = some (Value.slice (some ⟨bb, ob, none⟩) b.length cb) from rfl)
                      have wu0 := ((gcell g2).1 bu _ lu'.out).trans ku0'.out
                      have wb0 := ((gcell g2).1 bb _ lb'.out).trans kb0'.out
                      have wb1 := ((gcell g2).1 bb _ lb'.out).trans kb1'.out
                      clear k2 g2
                      replace hgw := hid hgw
                      simp only [outThen, preThen, slotIs, factAt, isv, List.getElem?_cons_zero, List.getElem?_cons_succ, Option.getD_some, forall_eq]
                      intros
                      rename_i hK
                      replace hK := hid hK
                      simp only [wantedAt]
                      go_simp
                      exact hK.out _ _ rfl (grown_refl _ _)
                    case o7 =>
                      go_light
                      intro ac w' hgw
                      have g2 := grown_trans (grown_drew (grown_refl w3 none)) hgw
                      have k2 := K3.out.kept0 g2
                      have c0 := (k2.cell 0).trans (show _ = some (Value.slice (some ⟨bu, ou, none⟩) u.length cu) from rfl)
                      have c3 := (k2.cell 3).trans (show _ = some (Value.slice (some ⟨bb, ob, none⟩) b.length cb) from rfl)
                      have wu0 := ((gcell g2).1 bu _ lu'.out).trans ku0'.out
                      have wb0 := ((gcell g2).1 bb _ lb'.out).trans kb0'.out
                      have wb1 := ((gcell g2).1 bb _ lb'.out).trans kb1'.out
                      clear k2 g2
                      replace hgw := hid hgw
                      simp only [outThen, preThen, slotIs, factAt, isv, List.getElem?_cons_zero, List.getElem?_cons_succ, Option.getD_some, forall_eq]
                      intros
                      rename_i hK
                      replace hK := hid hK
                      simp only [wantedAt]
                      go_simp
                      exact hK.out _ _ rfl (grown_refl _ _)
                    case o8 =>
                      go_light
                      intro ac w' hgw
                      have g2 := grown_trans (grown_drew (grown_refl w3 none)) hgw
                      have k2 := K3.out.kept0 g2
                      have c0 := (k2.cell 0).trans (show _ = some (Value.slice (some ⟨bu, ou, none⟩) u.length cu) from rfl)
                      have c3 := (k2.cell 3).trans (show _ = some (Value.slice (some ⟨bb, ob, none⟩) b.length cb) from rfl)
                      have wu0 := ((gcell g2).1 bu _ lu'.out).trans ku0'.out
                      have wb0 := ((gcell g2).1 bb _ lb'.out).trans kb0'.out
                      have wb1 := ((gcell g2).1 bb _ lb'.out).trans kb1'.out
                      clear k2 g2
                      replace hgw := hid hgw
                      simp only [outThen, preThen, slotIs, factAt, isv, List.getElem?_cons_zero, List.getElem?_cons_succ, Option.getD_some, forall_eq]
                      intros
                      rename_i hK
                      replace hK := hid hK
                      simp only [wantedAt]
                      go_simp
                      exact hK.out _ _ rfl (grown_refl _ _)
                    case o9 =>
                      go_light
                      intro ac w' hgw
                      have g2 := grown_trans (grown_drew (grown_refl w3 none)) hgw
                      have k2 := K3.out.kept0 g2
                      have c0 := (k2.cell 0).trans (show _ = some (Value.slice (some ⟨bu, ou, none⟩) u.length cu) from rfl)
                      have c3 := (k2.cell 3).trans (show _ = some (Value.slice (some ⟨bb, ob, none⟩) b.length cb) from rfl)
                      have wu0 := ((gcell g2).1 bu _ lu'.out).trans ku0'.out
                      have wb0 := ((gcell g2).1 bb _ lb'.out).trans kb0'.out
                      have wb1 := ((gcell g2).1 bb _ lb'.out).trans kb1'.out
                      clear k2 g2
                      replace hgw := hid hgw
                      simp only [outThen, preThen, slotIs, factAt, isv, List.getElem?_cons_zero, List.getElem?_cons_succ, Option.getD_some, forall_eq]
                      intros
                      rename_i hK
                      replace hK := hid hK
                      simp only [wantedAt]
                      go_simp
                      exact hK.out _ _ rfl (grown_refl _ _)
                    case o10 =>
                      go_light
                      intro ac w' hgw
                      have g2 := grown_trans (grown_drew (grown_refl w3 none)) hgw
                      have k2 := K3.out.kept0 g2
                      have c0 := (k2.cell 0).trans (show _ = some (Value.slice (some ⟨bu, ou, none⟩) u.length cu) from rfl)
                      have c3 := (k2.cell 3).trans (show _ = some (Value.slice (some ⟨bb, ob, none⟩) b.length cb) from rfl)
                      have wu0 := ((gcell g2).1 bu _ lu'.out).trans ku0'.out
                      have wb0 := ((gcell g2).1 bb _ lb'.out).trans kb0'.out
                      have wb1 := ((gcell g2).1 bb _ lb'.out).trans kb1'.out
                      clear k2 g2
                      replace hgw := hid hgw
                      simp only [outThen, preThen, slotIs, factAt, isv, List.getElem?_cons_zero, List.getElem?_cons_succ, Option.getD_some, forall_eq]
                      intros
                      rename_i hK
                      replace hK := hid hK
                      simp only [wantedAt]
                      go_simp
                      refine (cmpInt_is _ _ w').mono ?_
                      rintro e w4 ⟨rfl, rfl⟩
                      exact hK.out _ _ rfl (grown_refl _ _)
                    case o11 =>
                      go_light
                      intro ac w' hgw
                      have g2 := grown_trans (grown_drew (grown_refl w3 none)) hgw
                      have k2 := K3.out.kept0 g2
                      have c0 := (k2.cell 0).trans (show _ = some (Value.slice (some ⟨bu, ou, none⟩) u.length cu) from rfl)
                      have c3 := (k2.cell 3).trans (show _ = some (Value.slice (some ⟨bb, ob, none⟩) b.length cb) from rfl)
                      have wu0 := ((gcell g2).1 bu _ lu'.out).trans ku0'.out
                      have wb0 := ((gcell g2).1 bb _ lb'.out).trans kb0'.out
                      have wb1 := ((gcell g2).1 bb _ lb'.out).trans kb1'.out
                      clear k2 g2
                      replace hgw := hid hgw
                      simp only [outThen, preThen, slotIs, factAt, isv, List.getElem?_cons_zero, List.getElem?_cons_succ, Option.getD_some, forall_eq]
                      intros
                      rename_i hK
                      replace hK := hid hK
                      simp only [wantedAt]
                      go_simp
                      exact hK.out _ _ rfl (grown_refl _ _)
                    case o12 =>
                      go_light
                      intro ac w' hgw
                      have g2 := grown_trans (grown_drew (grown_refl w3 none)) hgw
                      have k2 := K3.out.kept0 g2
                      have c0 := (k2.cell 0).trans (show _ = some (Value.slice (some ⟨bu, ou, none⟩) u.length cu) from rfl)
                      have c3 := (k2.cell 3).trans (show _ = some (Value.slice (some ⟨bb, ob, none⟩) b.length cb) from rfl)
                      have wu0 := ((gcell g2).1 bu _ lu'.out).trans ku0'.out
                      have wb0 := ((gcell g2).1 bb _ lb'.out).trans kb0'.out
                      have wb1 := ((gcell g2).1 bb _ lb'.out).trans kb1'.out
                      clear k2 g2
                      replace hgw := hid hgw
                      simp only [outThen, preThen, slotIs, factAt, isv, List.getElem?_cons_zero, List.getElem?_cons_succ, Option.getD_some, forall_eq]
                      intros
                      rename_i hK
                      replace hK := hid hK
                      simp only [wantedAt]
                      go_simp
                      exact hK.out _ _ rfl (grown_refl _ _)
                    case o13 =>
                      go_light
                      intro ac w' hgw
                      have g2 := grown_trans (grown_drew (grown_refl w3 none)) hgw
                      have k2 := K3.out.kept0 g2
                      have c0 := (k2.cell 0).trans (show _ = some (Value.slice (some ⟨bu, ou, none⟩) u.length cu) from rfl)
                      have c3 := (k2.cell 3).trans (show _ = some (Value.slice (some ⟨bb, ob, none⟩) b.length cb) from rfl)
                      have wu0 := ((gcell g2).1 bu _ lu'.out).trans ku0'.out
                      have wb0 := ((gcell g2).1 bb _ lb'.out).trans kb0'.out
                      have wb1 := ((gcell g2).1 bb _ lb'.out).trans kb1'.out
                      clear k2 g2
                      replace hgw := hid hgw
                      simp only [outThen, preThen, slotIs, factAt, isv, List.getElem?_cons_zero, List.getElem?_cons_succ, Option.getD_some, forall_eq]
                      intros
                      rename_i hK
                      replace hK := hid hK
                      simp only [wantedAt]
                      go_simp
                      exact hK.out _ _ rfl (grown_refl _ _)
                    case o14 =>
                      go_light
                      intro ac w' hgw
                      have g2 := grown_trans (grown_drew (grown_refl w3 none)) hgw
                      have k2 := K3.out.kept0 g2
                      have c0 := (k2.cell 0).trans (show _ = some (Value.slice (some ⟨bu, ou, none⟩) u.length cu) from rfl)
                      have c3 := (k2.cell 3).trans (show _ = some (Value.slice (some ⟨bb, ob, none⟩) b.length cb) from rfl)
                      have wu0 := ((gcell g2).1 bu _ lu'.out).trans ku0'.out
                      have wb0 := ((gcell g2).1 bb _ lb'.out).trans kb0'.out
                      have wb1 := ((gcell g2).1 bb _ lb'.out).trans kb1'.out
                      clear k2 g2
                      replace hgw := hid hgw
                      simp only [outThen, preThen, slotIs, factAt, isv, List.getElem?_cons_zero, List.getElem?_cons_succ, Option.getD_some, forall_eq]
                      intros
                      rename_i hK
                      replace hK := hid hK
                      simp only [wantedAt]
                      go_simp
                      exact hK.out _ _ rfl (grown_refl _ _)
                    case o15 =>
                      go_light
                      intro ac w' hgw
                      have g2 := grown_trans (grown_drew (grown_refl w3 none)) hgw
                      have k2 := K3.out.kept0 g2
                      have c0 := (k2.cell 0).trans (show _ = some (Value.slice (some ⟨bu, ou, none⟩) u.length cu) from rfl)
                      have c3 := (k2.cell 3).trans (show _ = some (Value.slice (some ⟨bb, ob, none⟩) b.length cb) from rfl)
                      have wu0 := ((gcell g2).1 bu _ lu'.out).trans ku0'.out
                      have wb0 := ((gcell g2).1 bb _ lb'.out).trans kb0'.out
                      have wb1 := ((gcell g2).1 bb _ lb'.out).trans kb1'.out
                      clear k2 g2
                      replace hgw := hid hgw
                      simp only [outThen, preThen, slotIs, factAt, isv, List.getElem?_cons_zero, List.getElem?_cons_succ, Option.getD_some, forall_eq]
                      intros
                      rename_i hK
                      replace hK := hid hK
                      simp only [wantedAt]
                      go_simp
                      exact hK.out _ _ rfl (grown_refl _ _)
                    case o16 =>
                      go_light
                      intro ac w' hgw
                      have g2 := grown_trans (grown_drew (grown_refl w3 none)) hgw
                      have k2 := K3.out.kept0 g2
                      have c0 := (k2.cell 0).trans (show _ = some (Value.slice (some ⟨bu, ou, none⟩) u.length cu) from rfl)
                      have c3 := (k2.cell 3).trans (show _ = some (Value.slice (some ⟨bb, ob, none⟩) b.length cb) from rfl)
                      have wu0 := ((gcell g2).1 bu _ lu'.out).trans ku0'.out
                      have wb0 := ((gcell g2).1 bb _ lb'.out).trans kb0'.out
                      have wb1 := ((gcell g2).1 bb _ lb'.out).trans kb1'.out
                      clear k2 g2
                      replace hgw := hid hgw
                      simp only [outThen, preThen, slotIs, factAt, isv, List.getElem?_cons_zero, List.getElem?_cons_succ, Option.getD_some, forall_eq]
                      intros
                      rename_i hK
                      replace hK := hid hK
                      simp only [wantedAt]
                      go_simp
                      exact hK.out _ _ rfl (grown_refl _ _)
                    case o17 =>
                      go_light
                      intro ac w' hgw
                      have g2 := grown_trans (grown_drew (grown_refl w3 none)) hgw
                      have k2 := K3.out.kept0 g2
                      have c0 := (k2.cell 0).trans (show _ = some (Value.slice (some ⟨bu, ou, none⟩) u.length cu) from rfl)
                      have c3 := (k2.cell 3).trans (show _ = some (Value.slice (some ⟨bb, ob, none⟩) b.length cb) from rfl)
                      have wu0 := ((gcell g2).1 bu _ lu'.out).trans ku0'.out
                      have wb0 := ((gcell g2).1 bb _ lb'.out).trans kb0'.out
                      have wb1 := ((gcell g2).1 bb _ lb'.out).trans kb1'.out
                      clear k2 g2
                      replace hgw := hid hgw
                      simp only [outThen, preThen, slotIs, factAt, isv, List.getElem?_cons_zero, List.getElem?_cons_succ, Option.getD_some, forall_eq]
                      intros
                      rename_i hK
                      replace hK := hid hK
                      simp only [wantedAt]
                      go_simp
                      exact hK.out _ _ rfl (grown_refl _ _)
                    case o18 =>
                      go_light
                      intro ac w' hgw
                      have g2 := grown_trans (grown_drew (grown_refl w3 none)) hgw
                      have k2 := K3.out.kept0 g2
                      have c0 := (k2.cell 0).trans (show _ = some (Value.slice (some ⟨bu, ou, none⟩) u.length cu) from rfl)
                      have c3 := (k2.cell 3).trans (show _ = some (Value.slice (some ⟨bb, ob, none⟩) b.length cb) from rfl)
                      have wu0 := ((gcell g2).1 bu _ lu'.out).trans ku0'.out
                      have wb0 := ((gcell g2).1 bb _ lb'.out).trans kb0'.out
                      have wb1 := ((gcell g2).1 bb _ lb'.out).trans kb1'.out
                      clear k2 g2
                      replace hgw := hid hgw
                      simp only [outThen, preThen, slotIs, factAt, isv, List.getElem?_cons_zero, List.getElem?_cons_succ, Option.getD_some, forall_eq]
                      intros
                      rename_i hK
                      replace hK := hid hK
                      simp only [wantedAt]
                      go_simp
                      exact hK.out _ _ rfl (grown_refl _ _)
                    case o19 =>
                      go_light
                      intro ac w' hgw
                      have g2 := grown_trans (grown_drew (grown_refl w3 none)) hgw
                      have k2 := K3.out.kept0 g2
                      have c0 := (k2.cell 0).trans (show _ = some (Value.slice (some ⟨bu, ou, none⟩) u.length cu) from rfl)
                      have c3 := (k2.cell 3).trans (show _ = some (Value.slice (some ⟨bb, ob, none⟩) b.length cb) from rfl)
                      have wu0 := ((gcell g2).1 bu _ lu'.out).trans ku0'.out
                      have wb0 := ((gcell g2).1 bb _ lb'.out).trans kb0'.out
                      have wb1 := ((gcell g2).1 bb _ lb'.out).trans kb1'.out
                      clear k2 g2
                      replace hgw := hid hgw
                      simp only [outThen, preThen, slotIs, factAt, isv, List.getElem?_cons_zero, List.getElem?_cons_succ, Option.getD_some, forall_eq]
                      intros
                      rename_i hK
                      replace hK := hid hK
                      simp only [wantedAt]
                      go_simp
                      exact hK.out _ _ rfl (grown_refl _ _)
                    case o20 =>
                      go_light
                      intro ac w' hgw
                      have g2 := grown_trans (grown_drew (grown_refl w3 none)) hgw
                      have k2 := K3.out.kept0 g2
                      have c0 := (k2.cell 0).trans (show _ = some (Value.slice (some ⟨bu, ou, none⟩) u.length cu) from rfl)
                      have c3 := (k2.cell 3).trans (show _ = some (Value.slice (some ⟨bb, ob, none⟩) b.length cb) from rfl)
                      have wu0 := ((gcell g2).1 bu _ lu'.out).trans ku0'.out
                      have wb0 := ((gcell g2).1 bb _ lb'.out).trans kb0'.out
                      have wb1 := ((gcell g2).1 bb _ lb'.out).trans kb1'.out
                      clear k2 g2
                      replace hgw := hid hgw
                      simp only [outThen, preThen, slotIs, factAt, isv, List.getElem?_cons_zero, List.getElem?_cons_succ, Option.getD_some, forall_eq]
                      intros
                      rename_i hK
                      replace hK := hid hK
                      simp only [wantedAt]
                      go_simp
                      exact hK.out _ _ rfl (grown_refl _ _)
                    case o21 =>
                      go_light
                      intro ac w' hgw
                      have g2 := grown_trans (grown_drew (grown_refl w3 none)) hgw
                      have k2 := K3.out.kept0 g2
                      have c0 := (k2.cell 0).trans (show _ = some (Value.slice (some ⟨bu, ou, none⟩) u.length cu) from rfl)
                      have c3 := (k2.cell 3).trans (show _ = some (Value.slice (some ⟨bb, ob, none⟩) b.length cb) from rfl)
                      have wu0 := ((gcell g2).1 bu _ lu'.out).trans ku0'.out
                      have wb0 := ((gcell g2).1 bb _ lb'.out).trans kb0'.out
                      have wb1 := ((gcell g2).1 bb _ lb'.out).trans kb1'.out
                      clear k2 g2
                      replace hgw := hid hgw
                      simp only [outThen, preThen, slotIs, factAt, isv, List.getElem?_cons_zero, List.getElem?_cons_succ, Option.getD_some, forall_eq]
                      intros
                      rename_i hK
                      replace hK := hid hK
                      simp only [wantedAt]
                      go_simp
                      exact hK.out _ _ rfl (grown_refl _ _)
                    case o22 =>
                      go_light
                      intro ac w' hgw
                      have g2 := grown_trans (grown_drew (grown_refl w3 none)) hgw
                      have k2 := K3.out.kept0 g2
                      have c0 := (k2.cell 0).trans (show _ = some (Value.slice (some ⟨bu, ou, none⟩) u.length cu) from rfl)
                      have c3 := (k2.cell 3).trans (show _ = some (Value.slice (some ⟨bb, ob, none⟩) b.length cb) from rfl)
                      have wu0 := ((gcell g2).1 bu _ lu'.out).trans ku0'.out
                      have wb0 := ((gcell g2).1 bb _ lb'.out).trans kb0'.out
                      have wb1 := ((gcell g2).1 bb _ lb'.out).trans kb1'.out
                      clear k2 g2
                      replace hgw := hid hgw
                      simp only [outThen, preThen, slotIs, factAt, isv, List.getElem?_cons_zero, List.getElem?_cons_succ, Option.getD_some, forall_eq]
                      intros
                      rename_i hK
                      replace hK := hid hK
                      simp only [wantedAt]
                      go_simp
                      refine (cmpByte_is _ _ w').mono ?_
                      rintro e w4 ⟨rfl, rfl⟩
                      exact hK.out _ _ rfl (grown_refl _ _)
                    case o23 =>
                      go_light
                      intro ac w' hgw
                      have g2 := grown_trans (grown_drew (grown_refl w3 none)) hgw
                      have k2 := K3.out.kept0 g2
                      have c0 := (k2.cell 0).trans (show _ = some (Value.slice (some ⟨bu, ou, none⟩) u.length cu) from rfl)
                      have c3 := (k2.cell 3).trans (show _ = some (Value.slice (some ⟨bb, ob, none⟩) b.length cb) from rfl)
                      have wu0 := ((gcell g2).1 bu _ lu'.out).trans ku0'.out
                      have wb0 := ((gcell g2).1 bb _ lb'.out).trans kb0'.out
                      have wb1 := ((gcell g2).1 bb _ lb'.out).trans kb1'.out
                      clear k2 g2
                      replace hgw := hid hgw
                      simp only [outThen, preThen, slotIs, factAt, isv, List.getElem?_cons_zero, List.getElem?_cons_succ, Option.getD_some, forall_eq]
                      intros
                      rename_i hK
                      replace hK := hid hK
                      simp only [wantedAt]
                      go_simp
                      refine hK.out _ _ ⟨_, rfl, ?_⟩ (grown_alloc (grown_refl _ _) _)
                      exact Holds.new _ _ _
                    case o24 =>
                      go_light
                      intro ac w' hgw
                      have g2 := grown_trans (grown_drew (grown_refl w3 none)) hgw
                      have k2 := K3.out.kept0 g2
                      have c0 := (k2.cell 0).trans (show _ = some (Value.slice (some ⟨bu, ou, none⟩) u.length cu) from rfl)
                      have c3 := (k2.cell 3).trans (show _ = some (Value.slice (some ⟨bb, ob, none⟩) b.length cb) from rfl)
                      have wu0 := ((gcell g2).1 bu _ lu'.out).trans ku0'.out
                      have wb0 := ((gcell g2).1 bb _ lb'.out).trans kb0'.out
                      have wb1 := ((gcell g2).1 bb _ lb'.out).trans kb1'.out
                      clear k2 g2
                      replace hgw := hid hgw
                      simp only [outThen, preThen, slotIs, factAt, isv, List.getElem?_cons_zero, List.getElem?_cons_succ, Option.getD_some, forall_eq]
                      intros
                      rename_i v1 h1 hv1 _ K hK
                      obtain ⟨g, rfl, hg⟩ := h1
                      have hA := two_arr hg
                      replace hK := hid hK
                      simp only [wantedAt]
                      go_simp
                      refine (tcmpOr_is _ 2 _ w' (by simp) hA).mono ?_
                      rintro e w4 ⟨rfl, rfl⟩
                      rw [hv.out]
                      exact hK.out _ _ rfl (grown_refl _ _)
                    case o25 =>
                      go_light
                      intro ac w' hgw
                      have g2 := grown_trans (grown_drew (grown_refl w3 none)) hgw
                      have k2 := K3.out.kept0 g2
                      have c0 := (k2.cell 0).trans (show _ = some (Value.slice (some ⟨bu, ou, none⟩) u.length cu) from rfl)
                      have c3 := (k2.cell 3).trans (show _ = some (Value.slice (some ⟨bb, ob, none⟩) b.length cb) from rfl)
                      have wu0 := ((gcell g2).1 bu _ lu'.out).trans ku0'.out
                      have wb0 := ((gcell g2).1 bb _ lb'.out).trans kb0'.out
                      have wb1 := ((gcell g2).1 bb _ lb'.out).trans kb1'.out
                      clear k2 g2
                      replace hgw := hid hgw
                      simp only [outThen, preThen, slotIs, factAt, isv, List.getElem?_cons_zero, List.getElem?_cons_succ, Option.getD_some, forall_eq]
                      intros
                      rename_i hK
                      replace hK := hid hK
                      simp only [wantedAt]
                      go_simp
                      exact hK.out _ _ rfl (grown_refl _ _)
                    case o26 =>
                      go_light
                      intro ac w' hgw
                      have g2 := grown_trans (grown_drew (grown_refl w3 none)) hgw
                      have k2 := K3.out.kept0 g2
                      have c0 := (k2.cell 0).trans (show _ = some (Value.slice (some ⟨bu, ou, none⟩) u.length cu) from rfl)
                      have c3 := (k2.cell 3).trans (show _ = some (Value.slice (some ⟨bb, ob, none⟩) b.length cb) from rfl)
                      have wu0 := ((gcell g2).1 bu _ lu'.out).trans ku0'.out
                      have wb0 := ((gcell g2).1 bb _ lb'.out).trans kb0'.out
                      have wb1 := ((gcell g2).1 bb _ lb'.out).trans kb1'.out
                      clear k2 g2
                      replace hgw := hid hgw
                      simp only [outThen, preThen, slotIs, factAt, isv, List.getElem?_cons_zero, List.getElem?_cons_succ, Option.getD_some, forall_eq]
                      intros
                      rename_i hK
                      replace hK := hid hK
                      simp only [wantedAt]
                      go_simp
                      exact hK.out _ _ rfl (grown_refl _ _)
                  case st =>
                    repeat (first | exact AllStable.nil | (refine AllStable.cons ?_ ?_; focus (first | exact stable_isv _ | exact stable_isBytes _ | exact stable_isRow1 _ | exact stable_isRowOf _ _ | exact stable_isVar _ | exact stable_isVarOf _ _ _ | exact stable_isTwo _ _)))
                  case fin =>
                    intro w5 hgw
                    simp only [finalIn, factAt, isv, List.getElem?_cons_zero, List.getElem?_cons_succ, Option.getD_some, forall_eq, slotIs, subj]
                    intro v23 h23
                    simp only [Act.put, List.setIfInBounds_toArray, List.set_cons_zero, List.set_cons_succ]
                    have hg5 := hid (grown_trans hG4.out (grown_trans (grown_drew (grown_refl w3 none)) hgw))
                    clear hgw
                    go_wp2_with fail
                    go_roundw
                    case rel => exact ⟨j + 1, by omega, by omega, by go_num, hg5.out, fun k k0 k1 => by
                      by_cases e : k = j
                      · subst e; exact hlex.out
                      · exact hall.out k k0 (by omega)⟩
                    case measure => simp [intOf]; omega
                · have hf := hid (hnj.out (fun e => by
                    have h9 := (hRj.out.1 e).2.2.2 h6
                    apply h7
                    simp only [first0]
                    rcases h9 with h9 | ⟨h9, h10⟩
                    · have := (cmp3_neg p0 (m : Int)).2 h9
                      rw [if_neg (by omega)]
                      exact this
                    · have e1 := (cmp3_zero p0 (m : Int)).2 h9
                      have e2 := (cmp3_neg y0 y).2 h10
                      rw [if_pos e1, if_neg (by omega)]
                      exact e2))
                  generalize hv : first0 [cmp3 p0 (m : Int), cmp3 y0 y] = v at h7
                  have h8 : 0 ≤ v := by omega
                  replace hv := hid hv
                  go_upto_region 7 with fail
                  clear h2 h4
                  apply wp_region_each [isv (.int .i64 (j : Int)), isv (.bool true), isv (.bool true), isv _, isv _, isv _, isv _, isv _, isv (.int .i64 p0), isv (.int .i64 (m : Int)), isv (.int .i64 (cmp3 p0 (m : Int))), isv _, isv _, isv _, isv _, isv _, isv (.int .u8 y0), isv _, isv _, isv _, isv _, isv (.int .u8 y), isv (.int .i64 (cmp3 y0 y)), isTwo (cmp3 p0 (m : Int)) (cmp3 y0 y), isv (.int .i64 v), isv (.bool true), isv (.bool true)]
                    65 [some 38, some 39, some 40, some 41, some 42, some 43, some 44, some 45, some 46, some 47, some 48, some 49, some 50, some 51, some 52, some 53, some 54, some 55, some 56, some 57, some 58, some 59, some 60, some 61, some 62, some 63, some 64]
                    [some 38, some 39, some 40, some 41, some 42, some 43, some 44, some 45, some 46, some 47, some 48, some 49, some 50, some 51, some 52, some 53, some 54, some 55, some 56, some 57, some 58, some 59, some 60, some 61, some 62, some 63, some 64]
                    [[], [0], [1], [2], [3, 2], [2], [5, 2], [4, 6, 2], [7, 2], [2], [8, 9, 2], [2], [11, 2], [2], [13, 2], [12, 14, 2], [15, 2], [2], [17, 2], [2], [18, 19, 2], [20, 2], [16, 21, 2], [10, 22, 2], [23, 2], [24, 2], [2, 25]]
                    [(1, .pointer (some ⟨h, 0, none⟩)), (3, .int .i64 (j : Int)), (4, .int .i64 (m : Int))] (by kernel_rfl) rfl (by kernel_rfl) rfl rfl (by kernel_rfl) (OutsOk.cons rfl rfl (OutsOk.cons rfl rfl (OutsOk.cons rfl rfl OutsOk.nil))) ?st ?ob ?fin
                  case ob =>
                    refine Obs.consv rfl ?o0 (Obs.consv rfl ?o1 (Obs.consv rfl ?o2 (Obs.consv rfl ?o3 (Obs.consv rfl ?o4 (Obs.consv rfl ?o5 (Obs.consv rfl ?o6 (Obs.consv rfl ?o7 (Obs.consv rfl ?o8 (Obs.consv rfl ?o9 (Obs.consv rfl ?o10 (Obs.consv rfl ?o11 (Obs.consv rfl ?o12 (Obs.consv rfl ?o13 (Obs.consv rfl ?o14 (Obs.consv rfl ?o15 (Obs.consv rfl ?o16 (Obs.consv rfl ?o17 (Obs.consv rfl ?o18 (Obs.consv rfl ?o19 (Obs.consv rfl ?o20 (Obs.consv rfl ?o21 (Obs.consv rfl ?o22 (Obs.consv rfl ?o23 (Obs.consv rfl ?o24 (Obs.consv rfl ?o25 (Obs.consv rfl ?o26 Obs.nil))))))))))))))))))))))))))
                    case o0 =>
                      go_light
                      intro ac w' hgw
                      have g2 := grown_trans (grown_drew (grown_refl w3 none)) hgw
                      have k2 := K3.out.kept0 g2
                      have c0 := (k2.cell 0).trans (show _ = some (Value.slice (some ⟨bu, ou, none⟩) u.length cu) from rfl)
                      have c3 := (k2.cell 3).trans (show _ = some (Value.slice (some ⟨bb, ob, none⟩) b.length cb) from rfl)
                      have wu0 := ((gcell g2).1 bu _ lu'.out).trans ku0'.out
                      have wb0 := ((gcell g2).1 bb _ lb'.out).trans kb0'.out
                      have wb1 := ((gcell g2).1 bb _ lb'.out).trans kb1'.out
                      clear k2 g2
                      replace hgw := hid hgw
                      simp only [outThen, preThen, slotIs, factAt, isv, List.getElem?_cons_zero, List.getElem?_cons_succ, Option.getD_some, forall_eq]
                      intros
                      rename_i hK
                      replace hK := hid hK
                      simp only [wantedAt]
                      go_simp
                      exact hK.out _ _ rfl (grown_refl _ _)
                    case o1 =>
                      go_light
                      intro ac w' hgw
                      have g2 := grown_trans (grown_drew (grown_refl w3 none)) hgw
                      have k2 := K3.out.kept0 g2
                      have c0 := (k2.cell 0).trans (show _ = some (Value.slice (some ⟨bu, ou, none⟩) u.length cu) from rfl)
                      have c3 := (k2.cell 3).trans (show _ = some (Value.slice (some ⟨bb, ob, none⟩) b.length cb) from rfl)
                      have wu0 := ((gcell g2).1 bu _ lu'.out).trans ku0'.out
                      have wb0 := ((gcell g2).1 bb _ lb'.out).trans kb0'.out
                      have wb1 := ((gcell g2).1 bb _ lb'.out).trans kb1'.out
                      clear k2 g2
                      replace hgw := hid hgw
                      simp only [outThen, preThen, slotIs, factAt, isv, List.getElem?_cons_zero, List.getElem?_cons_succ, Option.getD_some, forall_eq]
                      intros
                      rename_i hK
                      replace hK := hid hK
                      simp only [wantedAt]
                      go_simp
                      exact hK.out _ _ rfl (grown_refl _ _)
                    case o2 =>
                      go_light
                      intro ac w' hgw
                      have g2 := grown_trans (grown_drew (grown_refl w3 none)) hgw
                      have k2 := K3.out.kept0 g2
                      have c0 := (k2.cell 0).trans (show _ = some (Value.slice (some ⟨bu, ou, none⟩) u.length cu) from rfl)
                      have c3 := (k2.cell 3).trans (show _ = some (Value.slice (some ⟨bb, ob, none⟩) b.length cb) from rfl)
                      have wu0 := ((gcell g2).1 bu _ lu'.out).trans ku0'.out
                      have wb0 := ((gcell g2).1 bb _ lb'.out).trans kb0'.out
                      have wb1 := ((gcell g2).1 bb _ lb'.out).trans kb1'.out
                      clear k2 g2
                      replace hgw := hid hgw
                      simp only [outThen, preThen, slotIs, factAt, isv, List.getElem?_cons_zero, List.getElem?_cons_succ, Option.getD_some, forall_eq]
                      intros
                      rename_i hK
                      replace hK := hid hK
                      simp only [wantedAt]
                      go_simp
                      exact hK.out _ _ rfl (grown_refl _ _)
                    case o3 =>
                      go_light
                      intro ac w' hgw
                      have g2 := grown_trans (grown_drew (grown_refl w3 none)) hgw
                      have k2 := K3.out.kept0 g2
                      have c0 := (k2.cell 0).trans (show _ = some (Value.slice (some ⟨bu, ou, none⟩) u.length cu) from rfl)
                      have c3 := (k2.cell 3).trans (show _ = some (Value.slice (some ⟨bb, ob, none⟩) b.length cb) from rfl)
                      have wu0 := ((gcell g2).1 bu _ lu'.out).trans ku0'.out
                      have wb0 := ((gcell g2).1 bb _ lb'.out).trans kb0'.out
                      have wb1 := ((gcell g2).1 bb _ lb'.out).trans kb1'.out
                      clear k2 g2
                      replace hgw := hid hgw
                      simp only [outThen, preThen, slotIs, factAt, isv, List.getElem?_cons_zero, List.getElem?_cons_succ, Option.getD_some, forall_eq]
                      intros
                      rename_i hK
                      replace hK := hid hK
                      simp only [wantedAt]
                      go_simp
                      exact hK.out _ _ rfl (grown_refl _ _)
                    case o4 =>
                      go_light
                      intro ac w' hgw
                      have g2 := grown_trans (grown_drew (grown_refl w3 none)) hgw
                      have k2 := K3.out.kept0 g2
                      have c0 := (k2.cell 0).trans (show _ = some (Value.slice (some ⟨bu, ou, none⟩) u.length cu) from rfl)
                      have c3 := (k2.cell 3).trans (show _ = some (Value.slice (some ⟨bb, ob, none⟩) b.length cb) from rfl)
                      have wu0 := ((gcell g2).1 bu _ lu'.out).trans ku0'.out
                      have wb0 := ((gcell g2).1 bb _ lb'.out).trans kb0'.out
                      have wb1 := ((gcell g2).1 bb _ lb'.out).trans kb1'.out
                      clear k2 g2
                      replace hgw := hid hgw
                      simp only [outThen, preThen, slotIs, factAt, isv, List.getElem?_cons_zero, List.getElem?_cons_succ, Option.getD_some, forall_eq]
                      intros
                      rename_i hK
                      replace hK := hid hK
                      simp only [wantedAt]
                      go_simp
                      exact hK.out _ _ rfl (grown_refl _ _)
                    case o5 =>
                      go_light
                      intro ac w' hgw
                      have g2 := grown_trans (grown_drew (grown_refl w3 none)) hgw
                      have k2 := K3.out.kept0 g2
                      have c0 := (k2.cell 0).trans (show _ = some (Value.slice (some ⟨bu, ou, none⟩) u.length cu) from rfl)
                      have c3 := (k2.cell 3).trans (show _ = some (Value.slice (some ⟨bb, ob, none⟩) b.length cb) from rfl)
                      have wu0 := ((gcell g2).1 bu _ lu'.out).trans ku0'.out
                      have wb0 := ((gcell g2).1 bb _ lb'.out).trans kb0'.out
                      have wb1 := ((gcell g2).1 bb _ lb'.out).trans kb1'.out
                      clear k2 g2
                      replace hgw := hid hgw
                      simp only [outThen, preThen, slotIs, factAt, isv, List.getElem?_cons_zero, List.getElem?_cons_succ, Option.getD_some, forall_eq]
                      intros
                      rename_i hK
                      replace hK := hid hK
                      simp only [wantedAt]
                      go_simp
                      exact hK.out _ _ rfl (grown_refl _ _)
                    case o6 =>
                      go_light
                      intro ac w' hgw
                      have g2 := grown_trans (grown_drew (grown_refl w3 none)) hgw
                      have k2 := K3.out.kept0 g2
                      have c0 := (k2.cell 0).trans (show _ = some (Value.slice (some ⟨bu, ou, none⟩) u.length cu) from rfl)
                      have c3 := (k2.cell 3).trans (show _ = some (Value.slice (some ⟨bb, ob, none⟩) b.length cb) from rfl)
                      have wu0 := ((gcell g2).1 bu _ lu'.out).trans ku0'.out
                      have wb0 := ((gcell g2).1 bb _ lb'.out).trans kb0'.out
                      have wb1 := ((gcell g2).1 bb _ lb'.out).trans kb1'.out
                      clear k2 g2
                      replace hgw := hid hgw
                      simp only [outThen, preThen, slotIs, factAt, isv, List.getElem?_cons_zero, List.getElem?_cons_succ, Option.getD_some, forall_eq]
                      intros
                      rename_i hK
                      replace hK := hid hK
                      simp only [wantedAt]
                      go_simp
                      exact hK.out _ _ rfl (grown_refl _ _)
                    case o7 =>
                      go_light
                      intro ac w' hgw
                      have g2 := grown_trans (grown_drew (grown_refl w3 none)) hgw
                      have k2 := K3.out.kept0 g2
                      have c0 := (k2.cell 0).trans (show _ = some (Value.slice (some ⟨bu, ou, none⟩) u.length cu) from rfl)
                      have c3 := (k2.cell 3).trans (show _ = some (Value.slice (some ⟨bb, ob, none⟩) b.length cb) from rfl)
                      have wu0 := ((gcell g2).1 bu _ lu'.out).trans ku0'.out
                      have wb0 := ((gcell g2).1 bb _ lb'.out).trans kb0'.out
                      have wb1 := ((gcell g2).1 bb _ lb'.out).trans kb1'.out
                      clear k2 g2
                      replace hgw := hid hgw
                      simp only [outThen, preThen, slotIs, factAt, isv, List.getElem?_cons_zero, List.getElem?_cons_succ, Option.getD_some, forall_eq]
                      intros
                      rename_i hK
                      replace hK := hid hK
                      simp only [wantedAt]
                      go_simp
                      exact hK.out _ _ rfl (grown_refl _ _)
                    case o8 =>
                      go_light
                      intro ac w' hgw
                      have g2 := grown_trans (grown_drew (grown_refl w3 none)) hgw
                      have k2 := K3.out.kept0 g2
                      have c0 := (k2.cell 0).trans (show _ = some (Value.slice (some ⟨bu, ou, none⟩) u.length cu) from rfl)
                      have c3 := (k2.cell 3).trans (show _ = some (Value.slice (some ⟨bb, ob, none⟩) b.length cb) from rfl)
                      have wu0 := ((gcell g2).1 bu _ lu'.out).trans ku0'.out
                      have wb0 := ((gcell g2).1 bb _ lb'.out).trans kb0'.out
                      have wb1 := ((gcell g2).1 bb _ lb'.out).trans kb1'.out
                      clear k2 g2
                      replace hgw := hid hgw
                      simp only [outThen, preThen, slotIs, factAt, isv, List.getElem?_cons_zero, List.getElem?_cons_succ, Option.getD_some, forall_eq]
                      intros
                      rename_i hK
                      replace hK := hid hK
                      simp only [wantedAt]
                      go_simp
                      exact hK.out _ _ rfl (grown_refl _ _)
                    case o9 =>
                      go_light
                      intro ac w' hgw
                      have g2 := grown_trans (grown_drew (grown_refl w3 none)) hgw
                      have k2 := K3.out.kept0 g2
                      have c0 := (k2.cell 0).trans (show _ = some (Value.slice (some ⟨bu, ou, none⟩) u.length cu) from rfl)
                      have c3 := (k2.cell 3).trans (show _ = some (Value.slice (some ⟨bb, ob, none⟩) b.length cb) from rfl)
                      have wu0 := ((gcell g2).1 bu _ lu'.out).trans ku0'.out
                      have wb0 := ((gcell g2).1 bb _ lb'.out).trans kb0'.out
                      have wb1 := ((gcell g2).1 bb _ lb'.out).trans kb1'.out
                      clear k2 g2
                      replace hgw := hid hgw
                      simp only [outThen, preThen, slotIs, factAt, isv, List.getElem?_cons_zero, List.getElem?_cons_succ, Option.getD_some, forall_eq]
                      intros
                      rename_i hK
                      replace hK := hid hK
                      simp only [wantedAt]
                      go_simp
                      exact hK.out _ _ rfl (grown_refl _ _)
                    case o10 =>
                      go_light
                      intro ac w' hgw
                      have g2 := grown_trans (grown_drew (grown_refl w3 none)) hgw
                      have k2 := K3.out.kept0 g2
                      have c0 := (k2.cell 0).trans (show _ = some (Value.slice (some ⟨bu, ou, none⟩) u.length cu) from rfl)
                      have c3 := (k2.cell 3).trans (show _ = some (Value.slice (some ⟨bb, ob, none⟩) b.length cb) from rfl)
                      have wu0 := ((gcell g2).1 bu _ lu'.out).trans ku0'.out
                      have wb0 := ((gcell g2).1 bb _ lb'.out).trans kb0'.out
                      have wb1 := ((gcell g2).1 bb _ lb'.out).trans kb1'.out
                      clear k2 g2
                      replace hgw := hid hgw
                      simp only [outThen, preThen, slotIs, factAt, isv, List.getElem?_cons_zero, List.getElem?_cons_succ, Option.getD_some, forall_eq]
                      intros
                      rename_i hK
                      replace hK := hid hK
                      simp only [wantedAt]
                      go_simp
                      refine (cmpInt_is _ _ w').mono ?_
                      rintro e w4 ⟨rfl, rfl⟩
                      exact hK.out _ _ rfl (grown_refl _ _)
                    case o11 =>
                      go_light
                      intro ac w' hgw
                      have g2 := grown_trans (grown_drew (grown_refl w3 none)) hgw
                      have k2 := K3.out.kept0 g2
                      have c0 := (k2.cell 0).trans (show _ = some (Value.slice (some ⟨bu, ou, none⟩) u.length cu) from rfl)
                      have c3 := (k2.cell 3).trans (show _ = some (Value.slice (some ⟨bb, ob, none⟩) b.length cb) from rfl)
                      have wu0 := ((gcell g2).1 bu _ lu'.out).trans ku0'.out
                      have wb0 := ((gcell g2).1 bb _ lb'.out).trans kb0'.out
                      have wb1 := ((gcell g2).1 bb _ lb'.out).trans kb1'.out
                      clear k2 g2
                      replace hgw := hid hgw
                      simp only [outThen, preThen, slotIs, factAt, isv, List.getElem?_cons_zero, List.getElem?_cons_succ, Option.getD_some, forall_eq]
                      intros
                      rename_i hK
                      replace hK := hid hK
                      simp only [wantedAt]
                      go_simp
                      exact hK.out _ _ rfl (grown_refl _ _)
                    case o12 =>
                      go_light
                      intro ac w' hgw
                      have g2 := grown_trans (grown_drew (grown_refl w3 none)) hgw
                      have k2 := K3.out.kept0 g2
                      have c0 := (k2.cell 0).trans (show _ = some (Value.slice (some ⟨bu, ou, none⟩) u.length cu) from rfl)
                      have c3 := (k2.cell 3).trans (show _ = some (Value.slice (some ⟨bb, ob, none⟩) b.length cb) from rfl)
                      have wu0 := ((gcell g2).1 bu _ lu'.out).trans ku0'.out
                      have wb0 := ((gcell g2).1 bb _ lb'.out).trans kb0'.out
                      have wb1 := ((gcell g2).1 bb _ lb'.out).trans kb1'.out
                      clear k2 g2
                      replace hgw := hid hgw
                      simp only [outThen, preThen, slotIs, factAt, isv, List.getElem?_cons_zero, List.getElem?_cons_succ, Option.getD_some, forall_eq]
                      intros
                      rename_i hK
                      replace hK := hid hK
                      simp only [wantedAt]
                      go_simp
                      exact hK.out _ _ rfl (grown_refl _ _)
                    case o13 =>
                      go_light
                      intro ac w' hgw
                      have g2 := grown_trans (grown_drew (grown_refl w3 none)) hgw
                      have k2 := K3.out.kept0 g2
                      have c0 := (k2.cell 0).trans (show _ = some (Value.slice (some ⟨bu, ou, none⟩) u.length cu) from rfl)
                      have c3 := (k2.cell 3).trans (show _ = some (Value.slice (some ⟨bb, ob, none⟩) b.length cb) from rfl)
                      have wu0 := ((gcell g2).1 bu _ lu'.out).trans ku0'.out
                      have wb0 := ((gcell g2).1 bb _ lb'.out).trans kb0'.out
                      have wb1 := ((gcell g2).1 bb _ lb'.out).trans kb1'.out
                      clear k2 g2
                      replace hgw := hid hgw
                      simp only [outThen, preThen, slotIs, factAt, isv, List.getElem?_cons_zero, List.getElem?_cons_succ, Option.getD_some, forall_eq]
                      intros
                      rename_i hK
                      replace hK := hid hK
                      simp only [wantedAt]
                      go_simp
                      exact hK.out _ _ rfl (grown_refl _ _)
                    case o14 =>
                      go_light
                      intro ac w' hgw
                      have g2 := grown_trans (grown_drew (grown_refl w3 none)) hgw
                      have k2 := K3.out.kept0 g2
                      have c0 := (k2.cell 0).trans (show _ = some (Value.slice (some ⟨bu, ou, none⟩) u.length cu) from rfl)
                      have c3 := (k2.cell 3).trans (show _ = some (Value.slice (some ⟨bb, ob, none⟩) b.length cb) from rfl)
                      have wu0 := ((gcell g2).1 bu _ lu'.out).trans ku0'.out
                      have wb0 := ((gcell g2).1 bb _ lb'.out).trans kb0'.out
                      have wb1 := ((gcell g2).1 bb _ lb'.out).trans kb1'.out
                      clear k2 g2
                      replace hgw := hid hgw
                      simp only [outThen, preThen, slotIs, factAt, isv, List.getElem?_cons_zero, List.getElem?_cons_succ, Option.getD_some, forall_eq]
                      intros
                      rename_i hK
                      replace hK := hid hK
                      simp only [wantedAt]
                      go_simp
                      exact hK.out _ _ rfl (grown_refl _ _)
                    case o15 =>
                      go_light
                      intro ac w' hgw
                      have g2 := grown_trans (grown_drew (grown_refl w3 none)) hgw
                      have k2 := K3.out.kept0 g2
                      have c0 := (k2.cell 0).trans (show _ = some (Value.slice (some ⟨bu, ou, none⟩) u.length cu) from rfl)
                      have c3 := (k2.cell 3).trans (show _ = some (Value.slice (some ⟨bb, ob, none⟩) b.length cb) from rfl)
                      have wu0 := ((gcell g2).1 bu _ lu'.out).trans ku0'.out
                      have wb0 := ((gcell g2).1 bb _ lb'.out).trans kb0'.out
                      have wb1 := ((gcell g2).1 bb _ lb'.out).trans kb1'.out
                      clear k2 g2
                      replace hgw := hid hgw
                      simp only [outThen, preThen, slotIs, factAt, isv, List.getElem?_cons_zero, List.getElem?_cons_succ, Option.getD_some, forall_eq]
                      intros
                      rename_i hK
                      replace hK := hid hK
                      simp only [wantedAt]
                      go_simp
                      exact hK.out _ _ rfl (grown_refl _ _)
                    case o16 =>
                      go_light
                      intro ac w' hgw
                      have g2 := grown_trans (grown_drew (grown_refl w3 none)) hgw
                      have k2 := K3.out.kept0 g2
                      have c0 := (k2.cell 0).trans (show _ = some (Value.slice (some ⟨bu, ou, none⟩) u.length cu) from rfl)
                      have c3 := (k2.cell 3).trans (show _ = some (Value.slice (some ⟨bb, ob, none⟩) b.length cb) from rfl)
                      have wu0 := ((gcell g2).1 bu _ lu'.out).trans ku0'.out
                      have wb0 := ((gcell g2).1 bb _ lb'.out).trans kb0'.out
                      have wb1 := ((gcell g2).1 bb _ lb'.out).trans kb1'.out
                      clear k2 g2
                      replace hgw := hid hgw
                      simp only [outThen, preThen, slotIs, factAt, isv, List.getElem?_cons_zero, List.getElem?_cons_succ, Option.getD_some, forall_eq]
                      intros
                      rename_i hK
                      replace hK := hid hK
                      simp only [wantedAt]
                      go_simp
                      exact hK.out _ _ rfl (grown_refl _ _)
                    case o17 =>
                      go_light
                      intro ac w' hgw
                      have g2 := grown_trans (grown_drew (grown_refl w3 none)) hgw
                      have k2 := K3.out.kept0 g2
                      have c0 := (k2.cell 0).trans (show _ = some (Value.slice (some ⟨bu, ou, none⟩) u.length cu) from rfl)
                      have c3 := (k2.cell 3).trans (show _ = some (Value.slice (some ⟨bb, ob, none⟩) b.length cb) from rfl)
                      have wu0 := ((gcell g2).1 bu _ lu'.out).trans ku0'.out
                      have wb0 := ((gcell g2).1 bb _ lb'.out).trans kb0'.out
                      have wb1 := ((gcell g2).1 bb _ lb'.out).trans kb1'.out
                      clear k2 g2
                      replace hgw := hid hgw
                      simp only [outThen, preThen, slotIs, factAt, isv, List.getElem?_cons_zero, List.getElem?_cons_succ, Option.getD_some, forall_eq]
                      intros
                      rename_i hK
                      replace hK := hid hK
                      simp only [wantedAt]
                      go_simp
                      exact hK.out _ _ rfl (grown_refl _ _)
                    case o18 =>
                      go_light
                      intro ac w' hgw
                      have g2 := grown_trans (grown_drew (grown_refl w3 none)) hgw
                      have k2 := K3.out.kept0 g2
                      have c0 := (k2.cell 0).trans (show _ = some (Value.slice (some ⟨bu, ou, none⟩) u.length cu) from rfl)
                      have c3 := (k2.cell 3).trans (show _ = some (Value.slice (some ⟨bb, ob, none⟩) b.length cb) from rfl)
                      have wu0 := ((gcell g2).1 bu _ lu'.out).trans ku0'.out
                      have wb0 := ((gcell g2).1 bb _ lb'.out).trans kb0'.out
                      have wb1 := ((gcell g2).1 bb _ lb'.out).trans kb1'.out
                      clear k2 g2
                      replace hgw := hid hgw
                      simp only [outThen, preThen, slotIs, factAt, isv, List.getElem?_cons_zero, List.getElem?_cons_succ, Option.getD_some, forall_eq]
                      intros
                      rename_i hK
                      replace hK := hid hK
                      simp only [wantedAt]
                      go_simp
                      exact hK.out _ _ rfl (grown_refl _ _)
                    case o19 =>
                      go_light
                      intro ac w' hgw
                      have g2 := grown_trans (grown_drew (grown_refl w3 none)) hgw
                      have k2 := K3.out.kept0 g2
                      have c0 := (k2.cell 0).trans (show _ = some (Value.slice (some ⟨bu, ou, none⟩) u.length cu) from rfl)
                      have c3 := (k2.cell 3).trans (show _ = some (Value.slice (some ⟨bb, ob, none⟩) b.length cb) from rfl)
                      have wu0 := ((gcell g2).1 bu _ lu'.out).trans ku0'.out
                      have wb0 := ((gcell g2).1 bb _ lb'.out).trans kb0'.out
                      have wb1 := ((gcell g2).1 bb _ lb'.out).trans kb1'.out
                      clear k2 g2
                      replace hgw := hid hgw
                      simp only [outThen, preThen, slotIs, factAt, isv, List.getElem?_cons_zero, List.getElem?_cons_succ, Option.getD_some, forall_eq]
                      intros
                      rename_i hK
                      replace hK := hid hK
                      simp only [wantedAt]
                      go_simp
                      exact hK.out _ _ rfl (grown_refl _ _)
                    case o20 =>
                      go_light
                      intro ac w' hgw
                      have g2 := grown_trans (grown_drew (grown_refl w3 none)) hgw
                      have k2 := K3.out.kept0 g2
                      have c0 := (k2.cell 0).trans (show _ = some (Value.slice (some ⟨bu, ou, none⟩) u.length cu) from rfl)
                      have c3 := (k2.cell 3).trans (show _ = some (Value.slice (some ⟨bb, ob, none⟩) b.length cb) from rfl)
                      have wu0 := ((gcell g2).1 bu _ lu'.out).trans ku0'.out
                      have wb0 := ((gcell g2).1 bb _ lb'.out).trans kb0'.out
                      have wb1 := ((gcell g2).1 bb _ lb'.out).trans kb1'.out
                      clear k2 g2
                      replace hgw := hid hgw
                      simp only [outThen, preThen, slotIs, factAt, isv, List.getElem?_cons_zero, List.getElem?_cons_succ, Option.getD_some, forall_eq]
                      intros
                      rename_i hK
                      replace hK := hid hK
                      simp only [wantedAt]
                      go_simp
                      exact hK.out _ _ rfl (grown_refl _ _)
                    case o21 =>
                      go_light
                      intro ac w' hgw
                      have g2 := grown_trans (grown_drew (grown_refl w3 none)) hgw
                      have k2 := K3.out.kept0 g2
                      have c0 := (k2.cell 0).trans (show _ = some (Value.slice (some ⟨bu, ou, none⟩) u.length cu) from rfl)
                      have c3 := (k2.cell 3).trans (show _ = some (Value.slice (some ⟨bb, ob, none⟩) b.length cb) from rfl)
                      have wu0 := ((gcell g2).1 bu _ lu'.out).trans ku0'.out
                      have wb0 := ((gcell g2).1 bb _ lb'.out).trans kb0'.out
                      have wb1 := ((gcell g2).1 bb _ lb'.out).trans kb1'.out
                      clear k2 g2
                      replace hgw := hid hgw
                      simp only [outThen, preThen, slotIs, factAt, isv, List.getElem?_cons_zero, List.getElem?_cons_succ, Option.getD_some, forall_eq]
                      intros
                      rename_i hK
                      replace hK := hid hK
                      simp only [wantedAt]
                      go_simp
                      exact hK.out _ _ rfl (grown_refl _ _)
                    case o22 =>
                      go_light
                      intro ac w' hgw
                      have g2 := grown_trans (grown_drew (grown_refl w3 none)) hgw
                      have k2 := K3.out.kept0 g2
                      have c0 := (k2.cell 0).trans (show _ = some (Value.slice (some ⟨bu, ou, none⟩) u.length cu) from rfl)
                      have c3 := (k2.cell 3).trans (show _ = some (Value.slice (some ⟨bb, ob, none⟩) b.length cb) from rfl)
                      have wu0 := ((gcell g2).1 bu _ lu'.out).trans ku0'.out
                      have wb0 := ((gcell g2).1 bb _ lb'.out).trans kb0'.out
                      have wb1 := ((gcell g2).1 bb _ lb'.out).trans kb1'.out
                      clear k2 g2
                      replace hgw := hid hgw
                      simp only [outThen, preThen, slotIs, factAt, isv, List.getElem?_cons_zero, List.getElem?_cons_succ, Option.getD_some, forall_eq]
                      intros
                      rename_i hK
                      replace hK := hid hK
                      simp only [wantedAt]
                      go_simp
                      refine (cmpByte_is _ _ w').mono ?_
                      rintro e w4 ⟨rfl, rfl⟩
                      exact hK.out _ _ rfl (grown_refl _ _)
                    case o23 =>
                      go_light
                      intro ac w' hgw
                      have g2 := grown_trans (grown_drew (grown_refl w3 none)) hgw
                      have k2 := K3.out.kept0 g2
                      have c0 := (k2.cell 0).trans (show _ = some (Value.slice (some ⟨bu, ou, none⟩) u.length cu) from rfl)
                      have c3 := (k2.cell 3).trans (show _ = some (Value.slice (some ⟨bb, ob, none⟩) b.length cb) from rfl)
                      have wu0 := ((gcell g2).1 bu _ lu'.out).trans ku0'.out
                      have wb0 := ((gcell g2).1 bb _ lb'.out).trans kb0'.out
                      have wb1 := ((gcell g2).1 bb _ lb'.out).trans kb1'.out
                      clear k2 g2
                      replace hgw := hid hgw
                      simp only [outThen, preThen, slotIs, factAt, isv, List.getElem?_cons_zero, List.getElem?_cons_succ, Option.getD_some, forall_eq]
                      intros
                      rename_i hK
                      replace hK := hid hK
                      simp only [wantedAt]
                      go_simp
                      refine hK.out _ _ ⟨_, rfl, ?_⟩ (grown_alloc (grown_refl _ _) _)
                      exact Holds.new _ _ _
                    case o24 =>
                      go_light
                      intro ac w' hgw
                      have g2 := grown_trans (grown_drew (grown_refl w3 none)) hgw
                      have k2 := K3.out.kept0 g2
                      have c0 := (k2.cell 0).trans (show _ = some (Value.slice (some ⟨bu, ou, none⟩) u.length cu) from rfl)
                      have c3 := (k2.cell 3).trans (show _ = some (Value.slice (some ⟨bb, ob, none⟩) b.length cb) from rfl)
                      have wu0 := ((gcell g2).1 bu _ lu'.out).trans ku0'.out
                      have wb0 := ((gcell g2).1 bb _ lb'.out).trans kb0'.out
                      have wb1 := ((gcell g2).1 bb _ lb'.out).trans kb1'.out
                      clear k2 g2
                      replace hgw := hid hgw
                      simp only [outThen, preThen, slotIs, factAt, isv, List.getElem?_cons_zero, List.getElem?_cons_succ, Option.getD_some, forall_eq]
                      intros
                      rename_i v1 h1 hv1 _ K hK
                      obtain ⟨g, rfl, hg⟩ := h1
                      have hA := two_arr hg
                      replace hK := hid hK
                      simp only [wantedAt]
                      go_simp
                      refine (tcmpOr_is _ 2 _ w' (by simp) hA).mono ?_
                      rintro e w4 ⟨rfl, rfl⟩
                      rw [hv.out]
                      exact hK.out _ _ rfl (grown_refl _ _)
                    case o25 =>
                      go_light
                      intro ac w' hgw
                      have g2 := grown_trans (grown_drew (grown_refl w3 none)) hgw
                      have k2 := K3.out.kept0 g2
                      have c0 := (k2.cell 0).trans (show _ = some (Value.slice (some ⟨bu, ou, none⟩) u.length cu) from rfl)
                      have c3 := (k2.cell 3).trans (show _ = some (Value.slice (some ⟨bb, ob, none⟩) b.length cb) from rfl)
                      have wu0 := ((gcell g2).1 bu _ lu'.out).trans ku0'.out
                      have wb0 := ((gcell g2).1 bb _ lb'.out).trans kb0'.out
                      have wb1 := ((gcell g2).1 bb _ lb'.out).trans kb1'.out
                      clear k2 g2
                      replace hgw := hid hgw
                      simp only [outThen, preThen, slotIs, factAt, isv, List.getElem?_cons_zero, List.getElem?_cons_succ, Option.getD_some, forall_eq]
                      intros
                      rename_i hK
                      replace hK := hid hK
                      simp only [wantedAt]
                      go_simp
                      exact hK.out _ _ rfl (grown_refl _ _)
                    case o26 =>
                      go_light
                      intro ac w' hgw
                      have g2 := grown_trans (grown_drew (grown_refl w3 none)) hgw
                      have k2 := K3.out.kept0 g2
                      have c0 := (k2.cell 0).trans (show _ = some (Value.slice (some ⟨bu, ou, none⟩) u.length cu) from rfl)
                      have c3 := (k2.cell 3).trans (show _ = some (Value.slice (some ⟨bb, ob, none⟩) b.length cb) from rfl)
                      have wu0 := ((gcell g2).1 bu _ lu'.out).trans ku0'.out
                      have wb0 := ((gcell g2).1 bb _ lb'.out).trans kb0'.out
                      have wb1 := ((gcell g2).1 bb _ lb'.out).trans kb1'.out
                      clear k2 g2
                      replace hgw := hid hgw
                      simp only [outThen, preThen, slotIs, factAt, isv, List.getElem?_cons_zero, List.getElem?_cons_succ, Option.getD_some, forall_eq]
                      intros
                      rename_i hK
                      replace hK := hid hK
                      simp only [wantedAt]
                      go_simp
                      exact hK.out _ _ rfl (grown_refl _ _)
                  case st =>
                    repeat (first | exact AllStable.nil | (refine AllStable.cons ?_ ?_; focus (first | exact stable_isv _ | exact stable_isBytes _ | exact stable_isRow1 _ | exact stable_isRowOf _ _ | exact stable_isVar _ | exact stable_isVarOf _ _ _ | exact stable_isTwo _ _)))
                  case fin =>
                    intro w5 hgw
                    simp only [finalIn, factAt, isv, List.getElem?_cons_zero, List.getElem?_cons_succ, Option.getD_some, forall_eq, slotIs, subj]
                    intro v23 h23
                    simp only [Act.put, List.setIfInBounds_toArray, List.set_cons_zero, List.set_cons_succ]
                    have hg5 := hid (grown_trans hG4.out (grown_trans (grown_drew (grown_refl w3 none)) hgw))
                    clear hgw
                    go_wp2_with fail
                    go_ret
                    exact ⟨by rw [hf.out]; rfl, grown_trans hG0.out hg5.out⟩
              · have hlex : Hid (RA j) := hid ((hRj.out).2 ⟨by omega, by omega, h5.out, fun e => absurd e h6⟩)
                have q6 : ¬ ((1 : Int) < (j : Int)) := by omega
                go_upto_region 7 with fail
                clear h2 h4
                apply wp_region_each [isv (.int .i64 (j : Int)), isv (.bool false), isv (.bool false), isv undef, isv undef, isv undef, isv undef, isv undef, isv undef, isv undef, isv undef, isv undef, isv undef, isv undef, isv undef, isv undef, isv undef, isv undef, isv undef, isv undef, isv undef, isv undef, isv undef, isv undef, isv undef, isv undef, isv (.bool false)]
                  65 [some 38, some 39, some 40, some 41, some 42, some 43, some 44, some 45, some 46, some 47, some 48, some 49, some 50, some 51, some 52, some 53, some 54, some 55, some 56, some 57, some 58, some 59, some 60, some 61, some 62, some 63, some 64]
                  [some 38, some 39, some 40, some 41, some 42, some 43, some 44, some 45, some 46, some 47, some 48, some 49, some 50, some 51, some 52, some 53, some 54, some 55, some 56, some 57, some 58, some 59, some 60, some 61, some 62, some 63, some 64]
                  [[], [0], [1], [2], [3, 2], [2], [5, 2], [4, 6, 2], [7, 2], [2], [8, 9, 2], [2], [11, 2], [2], [13, 2], [12, 14, 2], [15, 2], [2], [17, 2], [2], [18, 19, 2], [20, 2], [16, 21, 2], [10, 22, 2], [23, 2], [24, 2], [2, 25]]
                  [(1, .pointer (some ⟨h, 0, none⟩)), (3, .int .i64 (j : Int)), (4, .int .i64 (m : Int))] (by kernel_rfl) rfl (by kernel_rfl) rfl rfl (by kernel_rfl) (OutsOk.cons rfl rfl (OutsOk.cons rfl rfl (OutsOk.cons rfl rfl OutsOk.nil))) ?st ?ob ?fin
                case ob =>
                  refine Obs.consv rfl ?o0 (Obs.consv rfl ?o1 (Obs.consv rfl ?o2 (Obs.consv rfl ?o3 (Obs.consv rfl ?o4 (Obs.consv rfl ?o5 (Obs.consv rfl ?o6 (Obs.consv rfl ?o7 (Obs.consv rfl ?o8 (Obs.consv rfl ?o9 (Obs.consv rfl ?o10 (Obs.consv rfl ?o11 (Obs.consv rfl ?o12 (Obs.consv rfl ?o13 (Obs.consv rfl ?o14 (Obs.consv rfl ?o15 (Obs.consv rfl ?o16 (Obs.consv rfl ?o17 (Obs.consv rfl ?o18 (Obs.consv rfl ?o19 (Obs.consv rfl ?o20 (Obs.consv rfl ?o21 (Obs.consv rfl ?o22 (Obs.consv rfl ?o23 (Obs.consv rfl ?o24 (Obs.consv rfl ?o25 (Obs.consv rfl ?o26 Obs.nil))))))))))))))))))))))))))
                  case o0 =>
                    go_light
                    intro ac w' hgw
                    have g2 := grown_trans (grown_drew (grown_refl w3 none)) hgw
                    have k2 := K3.out.kept0 g2
                    have c0 := (k2.cell 0).trans (show _ = some (Value.slice (some ⟨bu, ou, none⟩) u.length cu) from rfl)
                    have c3 := (k2.cell 3).trans (show _ = some (Value.slice (some ⟨bb, ob, none⟩) b.length cb) from rfl)
                    have wu0 := ((gcell g2).1 bu _ lu'.out).trans ku0'.out
                    have wb0 := ((gcell g2).1 bb _ lb'.out).trans kb0'.out
                    have wb1 := ((gcell g2).1 bb _ lb'.out).trans kb1'.out
                    clear k2 g2
                    replace hgw := hid hgw
                    simp only [outThen, preThen, slotIs, factAt, isv, List.getElem?_cons_zero, List.getElem?_cons_succ, Option.getD_some, forall_eq]
                    intros
                    rename_i hK
                    replace hK := hid hK
                    simp only [wantedAt]
                    go_simp
                    exact hK.out _ _ rfl (grown_refl _ _)
                  case o1 =>
                    go_light
                    intro ac w' hgw
                    have g2 := grown_trans (grown_drew (grown_refl w3 none)) hgw
                    have k2 := K3.out.kept0 g2
                    have c0 := (k2.cell 0).trans (show _ = some (Value.slice (some ⟨bu, ou, none⟩) u.length cu) from rfl)
                    have c3 := (k2.cell 3).trans (show _ = some (Value.slice (some ⟨bb, ob, none⟩) b.length cb) from rfl)
                    have wu0 := ((gcell g2).1 bu _ lu'.out).trans ku0'.out
                    have wb0 := ((gcell g2).1 bb _ lb'.out).trans kb0'.out
                    have wb1 := ((gcell g2).1 bb _ lb'.out).trans kb1'.out
                    clear k2 g2
                    replace hgw := hid hgw
                    simp only [outThen, preThen, slotIs, factAt, isv, List.getElem?_cons_zero, List.getElem?_cons_succ, Option.getD_some, forall_eq]
                    intros
                    rename_i hK
                    replace hK := hid hK
                    simp only [wantedAt]
                    go_simp
                    exact hK.out _ _ rfl (grown_refl _ _)
                  case o2 =>
                    go_light
                    intro ac w' hgw
                    have g2 := grown_trans (grown_drew (grown_refl w3 none)) hgw
                    have k2 := K3.out.kept0 g2
                    have c0 := (k2.cell 0).trans (show _ = some (Value.slice (some ⟨bu, ou, none⟩) u.length cu) from rfl)
                    have c3 := (k2.cell 3).trans (show _ = some (Value.slice (some ⟨bb, ob, none⟩) b.length cb) from rfl)
                    have wu0 := ((gcell g2).1 bu _ lu'.out).trans ku0'.out
                    have wb0 := ((gcell g2).1 bb _ lb'.out).trans kb0'.out
                    have wb1 := ((gcell g2).1 bb _ lb'.out).trans kb1'.out
                    clear k2 g2
                    replace hgw := hid hgw
                    simp only [outThen, preThen, slotIs, factAt, isv, List.getElem?_cons_zero, List.getElem?_cons_succ, Option.getD_some, forall_eq]
                    intros
                    rename_i hK
                    replace hK := hid hK
                    simp only [wantedAt]
                    go_simp
                    exact hK.out _ _ rfl (grown_refl _ _)
                  case o3 =>
                    go_light
                    intro ac w' hgw
                    have g2 := grown_trans (grown_drew (grown_refl w3 none)) hgw
                    have k2 := K3.out.kept0 g2
                    have c0 := (k2.cell 0).trans (show _ = some (Value.slice (some ⟨bu, ou, none⟩) u.length cu) from rfl)
                    have c3 := (k2.cell 3).trans (show _ = some (Value.slice (some ⟨bb, ob, none⟩) b.length cb) from rfl)
                    have wu0 := ((gcell g2).1 bu _ lu'.out).trans ku0'.out
                    have wb0 := ((gcell g2).1 bb _ lb'.out).trans kb0'.out
                    have wb1 := ((gcell g2).1 bb _ lb'.out).trans kb1'.out
                    clear k2 g2
                    replace hgw := hid hgw
                    simp only [outThen, preThen, slotIs, factAt, isv, List.getElem?_cons_zero, List.getElem?_cons_succ, Option.getD_some, forall_eq]
                    intros
                    rename_i hK
                    replace hK := hid hK
                    simp only [wantedAt]
                    go_simp
                    exact hK.out _ _ rfl (grown_refl _ _)
                  case o4 =>
                    go_light
                    intro ac w' hgw
                    have g2 := grown_trans (grown_drew (grown_refl w3 none)) hgw
                    have k2 := K3.out.kept0 g2
                    have c0 := (k2.cell 0).trans (show _ = some (Value.slice (some ⟨bu, ou, none⟩) u.length cu) from rfl)
                    have c3 := (k2.cell 3).trans (show _ = some (Value.slice (some ⟨bb, ob, none⟩) b.length cb) from rfl)
                    have wu0 := ((gcell g2).1 bu _ lu'.out).trans ku0'.out
                    have wb0 := ((gcell g2).1 bb _ lb'.out).trans kb0'.out
                    have wb1 := ((gcell g2).1 bb _ lb'.out).trans kb1'.out
                    clear k2 g2
                    replace hgw := hid hgw
                    simp only [outThen, preThen, slotIs, factAt, isv, List.getElem?_cons_zero, List.getElem?_cons_succ, Option.getD_some, forall_eq]
                    intros
                    rename_i hK
                    replace hK := hid hK
                    simp only [wantedAt]
                    go_simp
                    exact hK.out _ _ rfl (grown_refl _ _)
                  case o5 =>
                    go_light
                    intro ac w' hgw
                    have g2 := grown_trans (grown_drew (grown_refl w3 none)) hgw
                    have k2 := K3.out.kept0 g2
                    have c0 := (k2.cell 0).trans (show _ = some (Value.slice (some ⟨bu, ou, none⟩) u.length cu) from rfl)
                    have c3 := (k2.cell 3).trans (show _ = some (Value.slice (some ⟨bb, ob, none⟩) b.length cb) from rfl)
                    have wu0 := ((gcell g2).1 bu _ lu'.out).trans ku0'.out
                    have wb0 := ((gcell g2).1 bb _ lb'.out).trans kb0'.out
                    have wb1 := ((gcell g2).1 bb _ lb'.out).trans kb1'.out
                    clear k2 g2
                    replace hgw := hid hgw
                    simp only [outThen, preThen, slotIs, factAt, isv, List.getElem?_cons_zero, List.getElem?_cons_succ, Option.getD_some, forall_eq]
                    intros
                    rename_i hK
                    replace hK := hid hK
                    simp only [wantedAt]
                    go_simp
                    exact hK.out _ _ rfl (grown_refl _ _)
                  case o6 =>
                    go_light
                    intro ac w' hgw
                    have g2 := grown_trans (grown_drew (grown_refl w3 none)) hgw
                    have k2 := K3.out.kept0 g2
                    have c0 := (k2.cell 0).trans (show _ = some (Value.slice (some ⟨bu, ou, none⟩) u.length cu) from rfl)
                    have c3 := (k2.cell 3).trans (show _ = some (Value.slice (some ⟨bb, ob, none⟩) b.length cb) from rfl)
                    have wu0 := ((gcell g2).1 bu _ lu'.out).trans ku0'.out
                    have wb0 := ((gcell g2).1 bb _ lb'.out).trans kb0'.out
                    have wb1 := ((gcell g2).1 bb _ lb'.out).trans kb1'.out
                    clear k2 g2
                    replace hgw := hid hgw
                    simp only [outThen, preThen, slotIs, factAt, isv, List.getElem?_cons_zero, List.getElem?_cons_succ, Option.getD_some, forall_eq]
                    intros
                    rename_i hK
                    replace hK := hid hK
                    simp only [wantedAt]
                    go_simp
                    exact hK.out _ _ rfl (grown_refl _ _)
                  case o7 =>
                    go_light
                    intro ac w' hgw
                    have g2 := grown_trans (grown_drew (grown_refl w3 none)) hgw
                    have k2 := K3.out.kept0 g2
                    have c0 := (k2.cell 0).trans (show _ = some (Value.slice (some ⟨bu, ou, none⟩) u.length cu) from rfl)
                    have c3 := (k2.cell 3).trans (show _ = some (Value.slice (some ⟨bb, ob, none⟩) b.length cb) from rfl)
                    have wu0 := ((gcell g2).1 bu _ lu'.out).trans ku0'.out
                    have wb0 := ((gcell g2).1 bb _ lb'.out).trans kb0'.out
                    have wb1 := ((gcell g2).1 bb _ lb'.out).trans kb1'.out
                    clear k2 g2
                    replace hgw := hid hgw
                    simp only [outThen, preThen, slotIs, factAt, isv, List.getElem?_cons_zero, List.getElem?_cons_succ, Option.getD_some, forall_eq]
                    intros
                    rename_i hK
                    replace hK := hid hK
                    simp only [wantedAt]
                    go_simp
                    exact hK.out _ _ rfl (grown_refl _ _)
                  case o8 =>
                    go_light
                    intro ac w' hgw
                    have g2 := grown_trans (grown_drew (grown_refl w3 none)) hgw
                    have k2 := K3.out.kept0 g2
                    have c0 := (k2.cell 0).trans (show _ = some (Value.slice (some ⟨bu, ou, none⟩) u.length cu) from rfl)
                    have c3 := (k2.cell 3).trans (show _ = some (Value.slice (some ⟨bb, ob, none⟩) b.length cb) from rfl)
                    have wu0 := ((gcell g2).1 bu _ lu'.out).trans ku0'.out
                    have wb0 := ((gcell g2).1 bb _ lb'.out).trans kb0'.out
                    have wb1 := ((gcell g2).1 bb _ lb'.out).trans kb1'.out
                    clear k2 g2
                    replace hgw := hid hgw
                    simp only [outThen, preThen, slotIs, factAt, isv, List.getElem?_cons_zero, List.getElem?_cons_succ, Option.getD_some, forall_eq]
                    intros
                    rename_i hK
                    replace hK := hid hK
                    simp only [wantedAt]
                    go_simp
                    exact hK.out _ _ rfl (grown_refl _ _)
                  case o9 =>
                    go_light
                    intro ac w' hgw
                    have g2 := grown_trans (grown_drew (grown_refl w3 none)) hgw
                    have k2 := K3.out.kept0 g2
                    have c0 := (k2.cell 0).trans (show _ = some (Value.slice (some ⟨bu, ou, none⟩) u.length cu) from rfl)
                    have c3 := (k2.cell 3).trans (show _ = some (Value.slice (some ⟨bb, ob, none⟩) b.length cb) from rfl)
                    have wu0 := ((gcell g2).1 bu _ lu'.out).trans ku0'.out
                    have wb0 := ((gcell g2).1 bb _ lb'.out).trans kb0'.out
                    have wb1 := ((gcell g2).1 bb _ lb'.out).trans kb1'.out
                    clear k2 g2
                    replace hgw := hid hgw
                    simp only [outThen, preThen, slotIs, factAt, isv, List.getElem?_cons_zero, List.getElem?_cons_succ, Option.getD_some, forall_eq]
                    intros
                    rename_i hK
                    replace hK := hid hK
                    simp only [wantedAt]
                    go_simp
                    exact hK.out _ _ rfl (grown_refl _ _)
                  case o10 =>
                    go_light
                    intro ac w' hgw
                    have g2 := grown_trans (grown_drew (grown_refl w3 none)) hgw
                    have k2 := K3.out.kept0 g2
                    have c0 := (k2.cell 0).trans (show _ = some (Value.slice (some ⟨bu, ou, none⟩) u.length cu) from rfl)
                    have c3 := (k2.cell 3).trans (show _ = some (Value.slice (some ⟨bb, ob, none⟩) b.length cb) from rfl)
                    have wu0 := ((gcell g2).1 bu _ lu'.out).trans ku0'.out
                    have wb0 := ((gcell g2).1 bb _ lb'.out).trans kb0'.out
                    have wb1 := ((gcell g2).1 bb _ lb'.out).trans kb1'.out
                    clear k2 g2
                    replace hgw := hid hgw
                    simp only [outThen, preThen, slotIs, factAt, isv, List.getElem?_cons_zero, List.getElem?_cons_succ, Option.getD_some, forall_eq]
                    intros
                    rename_i hK
                    replace hK := hid hK
                    simp only [wantedAt]
                    go_simp
                    exact hK.out _ _ rfl (grown_refl _ _)
                  case o11 =>
                    go_light
                    intro ac w' hgw
                    have g2 := grown_trans (grown_drew (grown_refl w3 none)) hgw
                    have k2 := K3.out.kept0 g2
                    have c0 := (k2.cell 0).trans (show _ = some (Value.slice (some ⟨bu, ou, none⟩) u.length cu) from rfl)
                    have c3 := (k2.cell 3).trans (show _ = some (Value.slice (some ⟨bb, ob, none⟩) b.length cb) from rfl)
                    have wu0 := ((gcell g2).1 bu _ lu'.out).trans ku0'.out
                    have wb0 := ((gcell g2).1 bb _ lb'.out).trans kb0'.out
                    have wb1 := ((gcell g2).1 bb _ lb'.out).trans kb1'.out
                    clear k2 g2
                    replace hgw := hid hgw
                    simp only [outThen, preThen, slotIs, factAt, isv, List.getElem?_cons_zero, List.getElem?_cons_succ, Option.getD_some, forall_eq]
                    intros
                    rename_i hK
                    replace hK := hid hK
                    simp only [wantedAt]
                    go_simp
                    exact hK.out _ _ rfl (grown_refl _ _)
                  case o12 =>
                    go_light
                    intro ac w' hgw
                    have g2 := grown_trans (grown_drew (grown_refl w3 none)) hgw
                    have k2 := K3.out.kept0 g2
                    have c0 := (k2.cell 0).trans (show _ = some (Value.slice (some ⟨bu, ou, none⟩) u.length cu) from rfl)
                    have c3 := (k2.cell 3).trans (show _ = some (Value.slice (some ⟨bb, ob, none⟩) b.length cb) from rfl)
                    have wu0 := ((gcell g2).1 bu _ lu'.out).trans ku0'.out
                    have wb0 := ((gcell g2).1 bb _ lb'.out).trans kb0'.out
                    have wb1 := ((gcell g2).1 bb _ lb'.out).trans kb1'.out
                    clear k2 g2
                    replace hgw := hid hgw
                    simp only [outThen, preThen, slotIs, factAt, isv, List.getElem?_cons_zero, List.getElem?_cons_succ, Option.getD_some, forall_eq]
                    intros
                    rename_i hK
                    replace hK := hid hK
                    simp only [wantedAt]
                    go_simp
                    exact hK.out _ _ rfl (grown_refl _ _)
                  case o13 =>
                    go_light
                    intro ac w' hgw
                    have g2 := grown_trans (grown_drew (grown_refl w3 none)) hgw
                    have k2 := K3.out.kept0 g2
                    have c0 := (k2.cell 0).trans (show _ = some (Value.slice (some ⟨bu, ou, none⟩) u.length cu) from rfl)
                    have c3 := (k2.cell 3).trans (show _ = some (Value.slice (some ⟨bb, ob, none⟩) b.length cb) from rfl)
                    have wu0 := ((gcell g2).1 bu _ lu'.out).trans ku0'.out
                    have wb0 := ((gcell g2).1 bb _ lb'.out).trans kb0'.out
                    have wb1 := ((gcell g2).1 bb _ lb'.out).trans kb1'.out
                    clear k2 g2
                    replace hgw := hid hgw
                    simp only [outThen, preThen, slotIs, factAt, isv, List.getElem?_cons_zero, List.getElem?_cons_succ, Option.getD_some, forall_eq]
                    intros
                    rename_i hK
                    replace hK := hid hK
                    simp only [wantedAt]
                    go_simp
                    exact hK.out _ _ rfl (grown_refl _ _)
                  case o14 =>
                    go_light
                    intro ac w' hgw
                    have g2 := grown_trans (grown_drew (grown_refl w3 none)) hgw
                    have k2 := K3.out.kept0 g2
                    have c0 := (k2.cell 0).trans (show _ = some (Value.slice (some ⟨bu, ou, none⟩) u.length cu) from rfl)
                    have c3 := (k2.cell 3).trans (show _ = some (Value.slice (some ⟨bb, ob, none⟩) b.length cb) from rfl)
                    have wu0 := ((gcell g2).1 bu _ lu'.out).trans ku0'.out
                    have wb0 := ((gcell g2).1 bb _ lb'.out).trans kb0'.out
                    have wb1 := ((gcell g2).1 bb _ lb'.out).trans kb1'.out
                    clear k2 g2
                    replace hgw := hid hgw
                    simp only [outThen, preThen, slotIs, factAt, isv, List.getElem?_cons_zero, List.getElem?_cons_succ, Option.getD_some, forall_eq]
                    intros
                    rename_i hK
                    replace hK := hid hK
                    simp only [wantedAt]
                    go_simp
                    exact hK.out _ _ rfl (grown_refl _ _)
                  case o15 =>
                    go_light
                    intro ac w' hgw
                    have g2 := grown_trans (grown_drew (grown_refl w3 none)) hgw
                    have k2 := K3.out.kept0 g2
                    have c0 := (k2.cell 0).trans (show _ = some (Value.slice (some ⟨bu, ou, none⟩) u.length cu) from rfl)
                    have c3 := (k2.cell 3).trans (show _ = some (Value.slice (some ⟨bb, ob, none⟩) b.length cb) from rfl)
                    have wu0 := ((gcell g2).1 bu _ lu'.out).trans ku0'.out
                    have wb0 := ((gcell g2).1 bb _ lb'.out).trans kb0'.out
                    have wb1 := ((gcell g2).1 bb _ lb'.out).trans kb1'.out
                    clear k2 g2
                    replace hgw := hid hgw
                    simp only [outThen, preThen, slotIs, factAt, isv, List.getElem?_cons_zero, List.getElem?_cons_succ, Option.getD_some, forall_eq]
                    intros
                    rename_i hK
                    replace hK := hid hK
                    simp only [wantedAt]
                    go_simp
                    exact hK.out _ _ rfl (grown_refl _ _)
                  case o16 =>
                    go_light
                    intro ac w' hgw
                    have g2 := grown_trans (grown_drew (grown_refl w3 none)) hgw
                    have k2 := K3.out.kept0 g2
                    have c0 := (k2.cell 0).trans (show _ = some (Value.slice (some ⟨bu, ou, none⟩) u.length cu) from rfl)
                    have c3 := (k2.cell 3).trans (show _ = some (Value.slice (some ⟨bb, ob, none⟩) b.length cb) from rfl)
                    have wu0 := ((gcell g2).1 bu _ lu'.out).trans ku0'.out
                    have wb0 := ((gcell g2).1 bb _ lb'.out).trans kb0'.out
                    have wb1 := ((gcell g2).1 bb _ lb'.out).trans kb1'.out
                    clear k2 g2
                    replace hgw := hid hgw
                    simp only [outThen, preThen, slotIs, factAt, isv, List.getElem?_cons_zero, List.getElem?_cons_succ, Option.getD_some, forall_eq]
                    intros
                    rename_i hK
                    replace hK := hid hK
                    simp only [wantedAt]
                    go_simp
                    exact hK.out _ _ rfl (grown_refl _ _)
                  case o17 =>
                    go_light
                    intro ac w' hgw
                    have g2 := grown_trans (grown_drew (grown_refl w3 none)) hgw
                    have k2 := K3.out.kept0 g2
                    have c0 := (k2.cell 0).trans (show _ = some (Value.slice (some ⟨bu, ou, none⟩) u.length cu) from rfl)
                    have c3 := (k2.cell 3).trans (show _ = some (Value.slice (some ⟨bb, ob, none⟩) b.length cb) from rfl)
                    have wu0 := ((gcell g2).1 bu _ lu'.out).trans ku0'.out
                    have wb0 := ((gcell g2).1 bb _ lb'.out).trans kb0'.out
                    have wb1 := ((gcell g2).1 bb _ lb'.out).trans kb1'.out
                    clear k2 g2
                    replace hgw := hid hgw
                    simp only [outThen, preThen, slotIs, factAt, isv, List.getElem?_cons_zero, List.getElem?_cons_succ, Option.getD_some, forall_eq]
                    intros
                    rename_i hK
                    replace hK := hid hK
                    simp only [wantedAt]
                    go_simp
                    exact hK.out _ _ rfl (grown_refl _ _)
                  case o18 =>
                    go_light
                    intro ac w' hgw
                    have g2 := grown_trans (grown_drew (grown_refl w3 none)) hgw
                    have k2 := K3.out.kept0 g2
                    have c0 := (k2.cell 0).trans (show _ = some (Value.slice (some ⟨bu, ou, none⟩) u.length cu) from rfl)
                    have c3 := (k2.cell 3).trans (show _ = some (Value.slice (some ⟨bb, ob, none⟩) b.length cb) from rfl)
                    have wu0 := ((gcell g2).1 bu _ lu'.out).trans ku0'.out
                    have wb0 := ((gcell g2).1 bb _ lb'.out).trans kb0'.out
                    have wb1 := ((gcell g2).1 bb _ lb'.out).trans kb1'.out
                    clear k2 g2
                    replace hgw := hid hgw
                    simp only [outThen, preThen, slotIs, factAt, isv, List.getElem?_cons_zero, List.getElem?_cons_succ, Option.getD_some, forall_eq]
                    intros
                    rename_i hK
                    replace hK := hid hK
                    simp only [wantedAt]
                    go_simp
                    exact hK.out _ _ rfl (grown_refl _ _)
                  case o19 =>
                    go_light
                    intro ac w' hgw
                    have g2 := grown_trans (grown_drew (grown_refl w3 none)) hgw
                    have k2 := K3.out.kept0 g2
                    have c0 := (k2.cell 0).trans (show _ = some (Value.slice (some ⟨bu, ou, none⟩) u.length cu) from rfl)
                    have c3 := (k2.cell 3).trans (show _ = some (Value.slice (some ⟨bb, ob, none⟩) b.length cb) from rfl)
                    have wu0 := ((gcell g2).1 bu _ lu'.out).trans ku0'.out
                    have wb0 := ((gcell g2).1 bb _ lb'.out).trans kb0'.out
                    have wb1 := ((gcell g2).1 bb _ lb'.out).trans kb1'.out
                    clear k2 g2
                    replace hgw := hid hgw
                    simp only [outThen, preThen, slotIs, factAt, isv, List.getElem?_cons_zero, List.getElem?_cons_succ, Option.getD_some, forall_eq]
                    intros
                    rename_i hK
                    replace hK := hid hK
                    simp only [wantedAt]
                    go_simp
                    exact hK.out _ _ rfl (grown_refl _ _)
                  case o20 =>
                    go_light
                    intro ac w' hgw
                    have g2 := grown_trans (grown_drew (grown_refl w3 none)) hgw
                    have k2 := K3.out.kept0 g2
                    have c0 := (k2.cell 0).trans (show _ = some (Value.slice (some ⟨bu, ou, none⟩) u.length cu) from rfl)
                    have c3 := (k2.cell 3).trans (show _ = some (Value.slice (some ⟨bb, ob, none⟩) b.length cb) from rfl)
                    have wu0 := ((gcell g2).1 bu _ lu'.out).trans ku0'.out
                    have wb0 := ((gcell g2).1 bb _ lb'.out).trans kb0'.out
                    have wb1 := ((gcell g2).1 bb _ lb'.out).trans kb1'.out
                    clear k2 g2
                    replace hgw := hid hgw
                    simp only [outThen, preThen, slotIs, factAt, isv, List.getElem?_cons_zero, List.getElem?_cons_succ, Option.getD_some, forall_eq]
                    intros
                    rename_i hK
                    replace hK := hid hK
                    simp only [wantedAt]
                    go_simp
                    exact hK.out _ _ rfl (grown_refl _ _)
                  case o21 =>
                    go_light
                    intro ac w' hgw
                    have g2 := grown_trans (grown_drew (grown_refl w3 none)) hgw
                    have k2 := K3.out.kept0 g2
                    have c0 := (k2.cell 0).trans (show _ = some (Value.slice (some ⟨bu, ou, none⟩) u.length cu) from rfl)
                    have c3 := (k2.cell 3).trans (show _ = some (Value.slice (some ⟨bb, ob, none⟩) b.length cb) from rfl)
                    have wu0 := ((gcell g2).1 bu _ lu'.out).trans ku0'.out
                    have wb0 := ((gcell g2).1 bb _ lb'.out).trans kb0'.out
                    have wb1 := ((gcell g2).1 bb _ lb'.out).trans kb1'.out
                    clear k2 g2
                    replace hgw := hid hgw
                    simp only [outThen, preThen, slotIs, factAt, isv, List.getElem?_cons_zero, List.getElem?_cons_succ, Option.getD_some, forall_eq]
                    intros
                    rename_i hK
                    replace hK := hid hK
                    simp only [wantedAt]
                    go_simp
                    exact hK.out _ _ rfl (grown_refl _ _)
                  case o22 =>
                    go_light
                    intro ac w' hgw
                    have g2 := grown_trans (grown_drew (grown_refl w3 none)) hgw
                    have k2 := K3.out.kept0 g2
                    have c0 := (k2.cell 0).trans (show _ = some (Value.slice (some ⟨bu, ou, none⟩) u.length cu) from rfl)
                    have c3 := (k2.cell 3).trans (show _ = some (Value.slice (some ⟨bb, ob, none⟩) b.length cb) from rfl)
                    have wu0 := ((gcell g2).1 bu _ lu'.out).trans ku0'.out
                    have wb0 := ((gcell g2).1 bb _ lb'.out).trans kb0'.out
                    have wb1 := ((gcell g2).1 bb _ lb'.out).trans kb1'.out
                    clear k2 g2
                    replace hgw := hid hgw
                    simp only [outThen, preThen, slotIs, factAt, isv, List.getElem?_cons_zero, List.getElem?_cons_succ, Option.getD_some, forall_eq]
                    intros
                    rename_i hK
                    replace hK := hid hK
                    simp only [wantedAt]
                    go_simp
                    exact hK.out _ _ rfl (grown_refl _ _)
                  case o23 =>
                    go_light
                    intro ac w' hgw
                    have g2 := grown_trans (grown_drew (grown_refl w3 none)) hgw
                    have k2 := K3.out.kept0 g2
                    have c0 := (k2.cell 0).trans (show _ = some (Value.slice (some ⟨bu, ou, none⟩) u.length cu) from rfl)
                    have c3 := (k2.cell 3).trans (show _ = some (Value.slice (some ⟨bb, ob, none⟩) b.length cb) from rfl)
                    have wu0 := ((gcell g2).1 bu _ lu'.out).trans ku0'.out
                    have wb0 := ((gcell g2).1 bb _ lb'.out).trans kb0'.out
                    have wb1 := ((gcell g2).1 bb _ lb'.out).trans kb1'.out
                    clear k2 g2
                    replace hgw := hid hgw
                    simp only [outThen, preThen, slotIs, factAt, isv, List.getElem?_cons_zero, List.getElem?_cons_succ, Option.getD_some, forall_eq]
                    intros
                    rename_i hK
                    replace hK := hid hK
                    simp only [wantedAt]
                    go_simp
                    exact hK.out _ _ rfl (grown_refl _ _)
                  case o24 =>
                    go_light
                    intro ac w' hgw
                    have g2 := grown_trans (grown_drew (grown_refl w3 none)) hgw
                    have k2 := K3.out.kept0 g2
                    have c0 := (k2.cell 0).trans (show _ = some (Value.slice (some ⟨bu, ou, none⟩) u.length cu) from rfl)
                    have c3 := (k2.cell 3).trans (show _ = some (Value.slice (some ⟨bb, ob, none⟩) b.length cb) from rfl)
                    have wu0 := ((gcell g2).1 bu _ lu'.out).trans ku0'.out
                    have wb0 := ((gcell g2).1 bb _ lb'.out).trans kb0'.out
                    have wb1 := ((gcell g2).1 bb _ lb'.out).trans kb1'.out
                    clear k2 g2
                    replace hgw := hid hgw
                    simp only [outThen, preThen, slotIs, factAt, isv, List.getElem?_cons_zero, List.getElem?_cons_succ, Option.getD_some, forall_eq]
                    intros
                    rename_i hK
                    replace hK := hid hK
                    simp only [wantedAt]
                    go_simp
                    exact hK.out _ _ rfl (grown_refl _ _)
                  case o25 =>
                    go_light
                    intro ac w' hgw
                    have g2 := grown_trans (grown_drew (grown_refl w3 none)) hgw
                    have k2 := K3.out.kept0 g2
                    have c0 := (k2.cell 0).trans (show _ = some (Value.slice (some ⟨bu, ou, none⟩) u.length cu) from rfl)
                    have c3 := (k2.cell 3).trans (show _ = some (Value.slice (some ⟨bb, ob, none⟩) b.length cb) from rfl)
                    have wu0 := ((gcell g2).1 bu _ lu'.out).trans ku0'.out
                    have wb0 := ((gcell g2).1 bb _ lb'.out).trans kb0'.out
                    have wb1 := ((gcell g2).1 bb _ lb'.out).trans kb1'.out
                    clear k2 g2
                    replace hgw := hid hgw
                    simp only [outThen, preThen, slotIs, factAt, isv, List.getElem?_cons_zero, List.getElem?_cons_succ, Option.getD_some, forall_eq]
                    intros
                    rename_i hK
                    replace hK := hid hK
                    simp only [wantedAt]
                    go_simp
                    exact hK.out _ _ rfl (grown_refl _ _)
                  case o26 =>
                    go_light
                    intro ac w' hgw
                    have g2 := grown_trans (grown_drew (grown_refl w3 none)) hgw
                    have k2 := K3.out.kept0 g2
                    have c0 := (k2.cell 0).trans (show _ = some (Value.slice (some ⟨bu, ou, none⟩) u.length cu) from rfl)
                    have c3 := (k2.cell 3).trans (show _ = some (Value.slice (some ⟨bb, ob, none⟩) b.length cb) from rfl)
                    have wu0 := ((gcell g2).1 bu _ lu'.out).trans ku0'.out
                    have wb0 := ((gcell g2).1 bb _ lb'.out).trans kb0'.out
                    have wb1 := ((gcell g2).1 bb _ lb'.out).trans kb1'.out
                    clear k2 g2
                    replace hgw := hid hgw
                    simp only [outThen, preThen, slotIs, factAt, isv, List.getElem?_cons_zero, List.getElem?_cons_succ, Option.getD_some, forall_eq]
                    intros
                    rename_i hK
                    replace hK := hid hK
                    simp only [wantedAt]
                    go_simp
                    exact hK.out _ _ rfl (grown_refl _ _)
                case st =>
                  repeat (first | exact AllStable.nil | (refine AllStable.cons ?_ ?_; focus (first | exact stable_isv _ | exact stable_isBytes _ | exact stable_isRow1 _ | exact stable_isRowOf _ _ | exact stable_isVar _ | exact stable_isVarOf _ _ _ | exact stable_isTwo _ _)))
                case fin =>
                  intro w5 hgw
                  simp only [finalIn, factAt, isv, List.getElem?_cons_zero, List.getElem?_cons_succ, Option.getD_some, forall_eq, slotIs, subj]
                  simp only [Act.put, List.setIfInBounds_toArray, List.set_cons_zero, List.set_cons_succ]
                  have hg5 := hid (grown_trans hG4.out (grown_trans (grown_drew (grown_refl w3 none)) hgw))
                  clear hgw
                  go_wp2_with fail
                  go_roundw
                  case rel => exact ⟨j + 1, by omega, by omega, by go_num, hg5.out, fun k k0 k1 => by
                    by_cases e : k = j
                    · subst e; exact hlex.out
                    · exact hall.out k k0 (by omega)⟩
                  case measure => simp [intOf]; omega
          · have hne : (x != dp + 1) = true := by simp [h5]
            have hf := hid (hnj.out (fun e => h5 (hRj.out.1 e).2.2.1))
            replace h5 := hid h5
            go_upto_region 5 with fail
            clear c0 c1 c3 ku1
            apply wp_region_each [isv (.int .i64 (m : Int)), isv (.bool false), isv (.bool false), isv _, isv _, isv (.bool false), isv (.bool false), isv (.bool false), isv _, isv _, isv _, isv _, isv (.int .i64 x), isv _, isv _, isv _, isv _, isv (.int .i64 dp), isv (.int .i64 (dp + 1)), isv (.bool true), isv (.bool true)]
              65 [some 17, some 18, some 19, some 20, some 21, some 22, some 23, some 24, some 25, some 26, some 27, some 28, some 29, some 30, some 31, some 32, some 33, some 34, some 35, some 36, some 37]
              [some 17, some 18, some 19, some 20, some 21, some 22, some 23, some 24, some 25, some 26, some 27, some 28, some 29, some 30, some 31, some 32, some 33, some 34, some 35, some 36, some 37]
              [[], [0], [1], [2], [2], [3, 4, 2], [2, 5], [6], [7], [8, 7], [7], [9, 10, 7], [11, 7], [7], [13, 7], [7], [14, 15, 7], [16, 7], [17, 7], [12, 18, 7], [7, 19]]
              [(1, .pointer (some ⟨h, 0, none⟩)), (3, .int .i64 (j : Int)), (4, .int .i64 (m : Int))] (by kernel_rfl) rfl (by kernel_rfl) rfl rfl (by kernel_rfl) (OutsOk.cons rfl rfl (OutsOk.cons rfl rfl (OutsOk.cons rfl rfl OutsOk.nil))) ?st ?ob ?fin
            case ob =>
              refine Obs.consv rfl ?o0 (Obs.consv rfl ?o1 (Obs.consv rfl ?o2 (Obs.consv rfl ?o3 (Obs.consv rfl ?o4 (Obs.consv rfl ?o5 (Obs.consv rfl ?o6 (Obs.consv rfl ?o7 (Obs.consv rfl ?o8 (Obs.consv rfl ?o9 (Obs.consv rfl ?o10 (Obs.consv rfl ?o11 (Obs.consv rfl ?o12 (Obs.consv rfl ?o13 (Obs.consv rfl ?o14 (Obs.consv rfl ?o15 (Obs.consv rfl ?o16 (Obs.consv rfl ?o17 (Obs.consv rfl ?o18 (Obs.consv rfl ?o19 (Obs.consv rfl ?o20 Obs.nil))))))))))))))))))))
              case o0 =>
                go_light
                intro ac w' hgw
                have g2 := grown_trans (grown_drew (grown_refl wr none)) hgw
                have k2 := K2.out.kept0 g2
                have c0 := (k2.cell 0).trans (show _ = some (Value.slice (some ⟨bu, ou, none⟩) u.length cu) from rfl)
                have c1 := (k2.cell 1).trans (show _ = some (Value.slice (some ⟨bd, od, none⟩) d.length cd) from rfl)
                have wd1 := ((gcell g2).1 bd _ ld.out).trans kd1.out
                have wdp := ((gcell g2).1 bd _ ld.out).trans kdp.out
                clear k2 g2
                replace hgw := hid hgw
                simp only [outThen, preThen, slotIs, factAt, isv, List.getElem?_cons_zero, List.getElem?_cons_succ, Option.getD_some, forall_eq]
                intros
                rename_i hK
                replace hK := hid hK
                simp only [wantedAt]
                go_simp
                exact hK.out _ _ rfl (grown_refl _ _)
              case o1 =>
                go_light
                intro ac w' hgw
                have g2 := grown_trans (grown_drew (grown_refl wr none)) hgw
                have k2 := K2.out.kept0 g2
                have c0 := (k2.cell 0).trans (show _ = some (Value.slice (some ⟨bu, ou, none⟩) u.length cu) from rfl)
                have c1 := (k2.cell 1).trans (show _ = some (Value.slice (some ⟨bd, od, none⟩) d.length cd) from rfl)
                have wd1 := ((gcell g2).1 bd _ ld.out).trans kd1.out
                have wdp := ((gcell g2).1 bd _ ld.out).trans kdp.out
                clear k2 g2
                replace hgw := hid hgw
                simp only [outThen, preThen, slotIs, factAt, isv, List.getElem?_cons_zero, List.getElem?_cons_succ, Option.getD_some, forall_eq]
                intros
                rename_i hK
                replace hK := hid hK
                simp only [wantedAt]
                go_simp
                exact hK.out _ _ rfl (grown_refl _ _)
              case o2 =>
                go_light
                intro ac w' hgw
                have g2 := grown_trans (grown_drew (grown_refl wr none)) hgw
                have k2 := K2.out.kept0 g2
                have c0 := (k2.cell 0).trans (show _ = some (Value.slice (some ⟨bu, ou, none⟩) u.length cu) from rfl)
                have c1 := (k2.cell 1).trans (show _ = some (Value.slice (some ⟨bd, od, none⟩) d.length cd) from rfl)
                have wd1 := ((gcell g2).1 bd _ ld.out).trans kd1.out
                have wdp := ((gcell g2).1 bd _ ld.out).trans kdp.out
                clear k2 g2
                replace hgw := hid hgw
                simp only [outThen, preThen, slotIs, factAt, isv, List.getElem?_cons_zero, List.getElem?_cons_succ, Option.getD_some, forall_eq]
                intros
                rename_i hK
                replace hK := hid hK
                simp only [wantedAt]
                go_simp
                exact hK.out _ _ rfl (grown_refl _ _)
              case o3 =>
                go_light
                intro ac w' hgw
                have g2 := grown_trans (grown_drew (grown_refl wr none)) hgw
                have k2 := K2.out.kept0 g2
                have c0 := (k2.cell 0).trans (show _ = some (Value.slice (some ⟨bu, ou, none⟩) u.length cu) from rfl)
                have c1 := (k2.cell 1).trans (show _ = some (Value.slice (some ⟨bd, od, none⟩) d.length cd) from rfl)
                have wd1 := ((gcell g2).1 bd _ ld.out).trans kd1.out
                have wdp := ((gcell g2).1 bd _ ld.out).trans kdp.out
                clear k2 g2
                replace hgw := hid hgw
                simp only [outThen, preThen, slotIs, factAt, isv, List.getElem?_cons_zero, List.getElem?_cons_succ, Option.getD_some, forall_eq]
                intros
                rename_i hK
                replace hK := hid hK
                simp only [wantedAt]
                go_simp
                exact hK.out _ _ rfl (grown_refl _ _)
              case o4 =>
                go_light
                intro ac w' hgw
                have g2 := grown_trans (grown_drew (grown_refl wr none)) hgw
                have k2 := K2.out.kept0 g2
                have c0 := (k2.cell 0).trans (show _ = some (Value.slice (some ⟨bu, ou, none⟩) u.length cu) from rfl)
                have c1 := (k2.cell 1).trans (show _ = some (Value.slice (some ⟨bd, od, none⟩) d.length cd) from rfl)
                have wd1 := ((gcell g2).1 bd _ ld.out).trans kd1.out
                have wdp := ((gcell g2).1 bd _ ld.out).trans kdp.out
                clear k2 g2
                replace hgw := hid hgw
                simp only [outThen, preThen, slotIs, factAt, isv, List.getElem?_cons_zero, List.getElem?_cons_succ, Option.getD_some, forall_eq]
                intros
                rename_i hK
                replace hK := hid hK
                simp only [wantedAt]
                go_simp
                exact hK.out _ _ rfl (grown_refl _ _)
              case o5 =>
                go_light
                intro ac w' hgw
                have g2 := grown_trans (grown_drew (grown_refl wr none)) hgw
                have k2 := K2.out.kept0 g2
                have c0 := (k2.cell 0).trans (show _ = some (Value.slice (some ⟨bu, ou, none⟩) u.length cu) from rfl)
                have c1 := (k2.cell 1).trans (show _ = some (Value.slice (some ⟨bd, od, none⟩) d.length cd) from rfl)
                have wd1 := ((gcell g2).1 bd _ ld.out).trans kd1.out
                have wdp := ((gcell g2).1 bd _ ld.out).trans kdp.out
                clear k2 g2
                replace hgw := hid hgw
                simp only [outThen, preThen, slotIs, factAt, isv, List.getElem?_cons_zero, List.getElem?_cons_succ, Option.getD_some, forall_eq]
                intros
                rename_i hK
                replace hK := hid hK
                simp only [wantedAt]
                go_simp
                exact hK.out _ _ rfl (grown_refl _ _)
              case o6 =>
                go_light
                intro ac w' hgw
                have g2 := grown_trans (grown_drew (grown_refl wr none)) hgw
                have k2 := K2.out.kept0 g2
                have c0 := (k2.cell 0).trans (show _ = some (Value.slice (some ⟨bu, ou, none⟩) u.length cu) from rfl)
                have c1 := (k2.cell 1).trans (show _ = some (Value.slice (some ⟨bd, od, none⟩) d.length cd) from rfl)
                have wd1 := ((gcell g2).1 bd _ ld.out).trans kd1.out
                have wdp := ((gcell g2).1 bd _ ld.out).trans kdp.out
                clear k2 g2
                replace hgw := hid hgw
                simp only [outThen, preThen, slotIs, factAt, isv, List.getElem?_cons_zero, List.getElem?_cons_succ, Option.getD_some, forall_eq]
                intros
                rename_i hK
                replace hK := hid hK
                simp only [wantedAt]
                go_simp
                exact hK.out _ _ rfl (grown_refl _ _)
              case o7 =>
                go_light
                intro ac w' hgw
                have g2 := grown_trans (grown_drew (grown_refl wr none)) hgw
                have k2 := K2.out.kept0 g2
                have c0 := (k2.cell 0).trans (show _ = some (Value.slice (some ⟨bu, ou, none⟩) u.length cu) from rfl)
                have c1 := (k2.cell 1).trans (show _ = some (Value.slice (some ⟨bd, od, none⟩) d.length cd) from rfl)
                have wd1 := ((gcell g2).1 bd _ ld.out).trans kd1.out
                have wdp := ((gcell g2).1 bd _ ld.out).trans kdp.out
                clear k2 g2
                replace hgw := hid hgw
                simp only [outThen, preThen, slotIs, factAt, isv, List.getElem?_cons_zero, List.getElem?_cons_succ, Option.getD_some, forall_eq]
                intros
                rename_i hK
                replace hK := hid hK
                simp only [wantedAt]
                go_simp
                exact hK.out _ _ rfl (grown_refl _ _)
              case o8 =>
                go_light
                intro ac w' hgw
                have g2 := grown_trans (grown_drew (grown_refl wr none)) hgw
                have k2 := K2.out.kept0 g2
                have c0 := (k2.cell 0).trans (show _ = some (Value.slice (some ⟨bu, ou, none⟩) u.length cu) from rfl)
                have c1 := (k2.cell 1).trans (show _ = some (Value.slice (some ⟨bd, od, none⟩) d.length cd) from rfl)
                have wd1 := ((gcell g2).1 bd _ ld.out).trans kd1.out
                have wdp := ((gcell g2).1 bd _ ld.out).trans kdp.out
                clear k2 g2
                replace hgw := hid hgw
                simp only [outThen, preThen, slotIs, factAt, isv, List.getElem?_cons_zero, List.getElem?_cons_succ, Option.getD_some, forall_eq]
                intros
                rename_i hK
                replace hK := hid hK
                simp only [wantedAt]
                go_simp
                exact hK.out _ _ rfl (grown_refl _ _)
              case o9 =>
                go_light
                intro ac w' hgw
                have g2 := grown_trans (grown_drew (grown_refl wr none)) hgw
                have k2 := K2.out.kept0 g2
                have c0 := (k2.cell 0).trans (show _ = some (Value.slice (some ⟨bu, ou, none⟩) u.length cu) from rfl)
                have c1 := (k2.cell 1).trans (show _ = some (Value.slice (some ⟨bd, od, none⟩) d.length cd) from rfl)
                have wd1 := ((gcell g2).1 bd _ ld.out).trans kd1.out
                have wdp := ((gcell g2).1 bd _ ld.out).trans kdp.out
                clear k2 g2
                replace hgw := hid hgw
                simp only [outThen, preThen, slotIs, factAt, isv, List.getElem?_cons_zero, List.getElem?_cons_succ, Option.getD_some, forall_eq]
                intros
                rename_i hK
                replace hK := hid hK
                simp only [wantedAt]
                go_simp
                exact hK.out _ _ rfl (grown_refl _ _)
              case o10 =>
                go_light
                intro ac w' hgw
                have g2 := grown_trans (grown_drew (grown_refl wr none)) hgw
                have k2 := K2.out.kept0 g2
                have c0 := (k2.cell 0).trans (show _ = some (Value.slice (some ⟨bu, ou, none⟩) u.length cu) from rfl)
                have c1 := (k2.cell 1).trans (show _ = some (Value.slice (some ⟨bd, od, none⟩) d.length cd) from rfl)
                have wd1 := ((gcell g2).1 bd _ ld.out).trans kd1.out
                have wdp := ((gcell g2).1 bd _ ld.out).trans kdp.out
                clear k2 g2
                replace hgw := hid hgw
                simp only [outThen, preThen, slotIs, factAt, isv, List.getElem?_cons_zero, List.getElem?_cons_succ, Option.getD_some, forall_eq]
                intros
                rename_i hK
                replace hK := hid hK
                simp only [wantedAt]
                go_simp
                exact hK.out _ _ rfl (grown_refl _ _)
              case o11 =>
                go_light
                intro ac w' hgw
                have g2 := grown_trans (grown_drew (grown_refl wr none)) hgw
                have k2 := K2.out.kept0 g2
                have c0 := (k2.cell 0).trans (show _ = some (Value.slice (some ⟨bu, ou, none⟩) u.length cu) from rfl)
                have c1 := (k2.cell 1).trans (show _ = some (Value.slice (some ⟨bd, od, none⟩) d.length cd) from rfl)
                have wd1 := ((gcell g2).1 bd _ ld.out).trans kd1.out
                have wdp := ((gcell g2).1 bd _ ld.out).trans kdp.out
                clear k2 g2
                replace hgw := hid hgw
                simp only [outThen, preThen, slotIs, factAt, isv, List.getElem?_cons_zero, List.getElem?_cons_succ, Option.getD_some, forall_eq]
                intros
                rename_i hK
                replace hK := hid hK
                simp only [wantedAt]
                go_simp
                exact hK.out _ _ rfl (grown_refl _ _)
              case o12 =>
                go_light
                intro ac w' hgw
                have g2 := grown_trans (grown_drew (grown_refl wr none)) hgw
                have k2 := K2.out.kept0 g2
                have c0 := (k2.cell 0).trans (show _ = some (Value.slice (some ⟨bu, ou, none⟩) u.length cu) from rfl)
                have c1 := (k2.cell 1).trans (show _ = some (Value.slice (some ⟨bd, od, none⟩) d.length cd) from rfl)
                have wd1 := ((gcell g2).1 bd _ ld.out).trans kd1.out
                have wdp := ((gcell g2).1 bd _ ld.out).trans kdp.out
                clear k2 g2
                replace hgw := hid hgw
                simp only [outThen, preThen, slotIs, factAt, isv, List.getElem?_cons_zero, List.getElem?_cons_succ, Option.getD_some, forall_eq]
                intros
                rename_i hK
                replace hK := hid hK
                simp only [wantedAt]
                go_simp
                exact hK.out _ _ rfl (grown_refl _ _)
              case o13 =>
                go_light
                intro ac w' hgw
                have g2 := grown_trans (grown_drew (grown_refl wr none)) hgw
                have k2 := K2.out.kept0 g2
                have c0 := (k2.cell 0).trans (show _ = some (Value.slice (some ⟨bu, ou, none⟩) u.length cu) from rfl)
                have c1 := (k2.cell 1).trans (show _ = some (Value.slice (some ⟨bd, od, none⟩) d.length cd) from rfl)
                have wd1 := ((gcell g2).1 bd _ ld.out).trans kd1.out
                have wdp := ((gcell g2).1 bd _ ld.out).trans kdp.out
                clear k2 g2
                replace hgw := hid hgw
                simp only [outThen, preThen, slotIs, factAt, isv, List.getElem?_cons_zero, List.getElem?_cons_succ, Option.getD_some, forall_eq]
                intros
                rename_i hK
                replace hK := hid hK
                simp only [wantedAt]
                go_simp
                exact hK.out _ _ rfl (grown_refl _ _)
              case o14 =>
                go_light
                intro ac w' hgw
                have g2 := grown_trans (grown_drew (grown_refl wr none)) hgw
                have k2 := K2.out.kept0 g2
                have c0 := (k2.cell 0).trans (show _ = some (Value.slice (some ⟨bu, ou, none⟩) u.length cu) from rfl)
                have c1 := (k2.cell 1).trans (show _ = some (Value.slice (some ⟨bd, od, none⟩) d.length cd) from rfl)
                have wd1 := ((gcell g2).1 bd _ ld.out).trans kd1.out
                have wdp := ((gcell g2).1 bd _ ld.out).trans kdp.out
                clear k2 g2
                replace hgw := hid hgw
                simp only [outThen, preThen, slotIs, factAt, isv, List.getElem?_cons_zero, List.getElem?_cons_succ, Option.getD_some, forall_eq]
                intros
                rename_i hK
                replace hK := hid hK
                simp only [wantedAt]
                go_simp
                exact hK.out _ _ rfl (grown_refl _ _)
              case o15 =>
                go_light
                intro ac w' hgw
                have g2 := grown_trans (grown_drew (grown_refl wr none)) hgw
                have k2 := K2.out.kept0 g2
                have c0 := (k2.cell 0).trans (show _ = some (Value.slice (some ⟨bu, ou, none⟩) u.length cu) from rfl)
                have c1 := (k2.cell 1).trans (show _ = some (Value.slice (some ⟨bd, od, none⟩) d.length cd) from rfl)
                have wd1 := ((gcell g2).1 bd _ ld.out).trans kd1.out
                have wdp := ((gcell g2).1 bd _ ld.out).trans kdp.out
                clear k2 g2
                replace hgw := hid hgw
                simp only [outThen, preThen, slotIs, factAt, isv, List.getElem?_cons_zero, List.getElem?_cons_succ, Option.getD_some, forall_eq]
                intros
                rename_i hK
                replace hK := hid hK
                simp only [wantedAt]
                go_simp
                exact hK.out _ _ rfl (grown_refl _ _)
              case o16 =>
                go_light
                intro ac w' hgw
                have g2 := grown_trans (grown_drew (grown_refl wr none)) hgw
                have k2 := K2.out.kept0 g2
                have c0 := (k2.cell 0).trans (show _ = some (Value.slice (some ⟨bu, ou, none⟩) u.length cu) from rfl)
                have c1 := (k2.cell 1).trans (show _ = some (Value.slice (some ⟨bd, od, none⟩) d.length cd) from rfl)
                have wd1 := ((gcell g2).1 bd _ ld.out).trans kd1.out
                have wdp := ((gcell g2).1 bd _ ld.out).trans kdp.out
                clear k2 g2
                replace hgw := hid hgw
                simp only [outThen, preThen, slotIs, factAt, isv, List.getElem?_cons_zero, List.getElem?_cons_succ, Option.getD_some, forall_eq]
                intros
                rename_i hK
                replace hK := hid hK
                simp only [wantedAt]
                go_simp
                exact hK.out _ _ rfl (grown_refl _ _)
              case o17 =>
                go_light
                intro ac w' hgw
                have g2 := grown_trans (grown_drew (grown_refl wr none)) hgw
                have k2 := K2.out.kept0 g2
                have c0 := (k2.cell 0).trans (show _ = some (Value.slice (some ⟨bu, ou, none⟩) u.length cu) from rfl)
                have c1 := (k2.cell 1).trans (show _ = some (Value.slice (some ⟨bd, od, none⟩) d.length cd) from rfl)
                have wd1 := ((gcell g2).1 bd _ ld.out).trans kd1.out
                have wdp := ((gcell g2).1 bd _ ld.out).trans kdp.out
                clear k2 g2
                replace hgw := hid hgw
                simp only [outThen, preThen, slotIs, factAt, isv, List.getElem?_cons_zero, List.getElem?_cons_succ, Option.getD_some, forall_eq]
                intros
                rename_i hK
                replace hK := hid hK
                simp only [wantedAt]
                go_simp
                exact hK.out _ _ rfl (grown_refl _ _)
              case o18 =>
                go_light
                intro ac w' hgw
                have g2 := grown_trans (grown_drew (grown_refl wr none)) hgw
                have k2 := K2.out.kept0 g2
                have c0 := (k2.cell 0).trans (show _ = some (Value.slice (some ⟨bu, ou, none⟩) u.length cu) from rfl)
                have c1 := (k2.cell 1).trans (show _ = some (Value.slice (some ⟨bd, od, none⟩) d.length cd) from rfl)
                have wd1 := ((gcell g2).1 bd _ ld.out).trans kd1.out
                have wdp := ((gcell g2).1 bd _ ld.out).trans kdp.out
                clear k2 g2
                replace hgw := hid hgw
                simp only [outThen, preThen, slotIs, factAt, isv, List.getElem?_cons_zero, List.getElem?_cons_succ, Option.getD_some, forall_eq]
                intros
                rename_i hK
                replace hK := hid hK
                simp only [wantedAt]
                go_simp
                exact hK.out _ _ rfl (grown_refl _ _)
              case o19 =>
                go_light
                intro ac w' hgw
                have g2 := grown_trans (grown_drew (grown_refl wr none)) hgw
                have k2 := K2.out.kept0 g2
                have c0 := (k2.cell 0).trans (show _ = some (Value.slice (some ⟨bu, ou, none⟩) u.length cu) from rfl)
                have c1 := (k2.cell 1).trans (show _ = some (Value.slice (some ⟨bd, od, none⟩) d.length cd) from rfl)
                have wd1 := ((gcell g2).1 bd _ ld.out).trans kd1.out
                have wdp := ((gcell g2).1 bd _ ld.out).trans kdp.out
                clear k2 g2
                replace hgw := hid hgw
                simp only [outThen, preThen, slotIs, factAt, isv, List.getElem?_cons_zero, List.getElem?_cons_succ, Option.getD_some, forall_eq]
                intros
                rename_i hK
                replace hK := hid hK
                simp only [wantedAt]
                go_simp
                exact hK.out _ _ rfl (grown_refl _ _)
              case o20 =>
                go_light
                intro ac w' hgw
                have g2 := grown_trans (grown_drew (grown_refl wr none)) hgw
                have k2 := K2.out.kept0 g2
                have c0 := (k2.cell 0).trans (show _ = some (Value.slice (some ⟨bu, ou, none⟩) u.length cu) from rfl)
                have c1 := (k2.cell 1).trans (show _ = some (Value.slice (some ⟨bd, od, none⟩) d.length cd) from rfl)
                have wd1 := ((gcell g2).1 bd _ ld.out).trans kd1.out
                have wdp := ((gcell g2).1 bd _ ld.out).trans kdp.out
                clear k2 g2
                replace hgw := hid hgw
                simp only [outThen, preThen, slotIs, factAt, isv, List.getElem?_cons_zero, List.getElem?_cons_succ, Option.getD_some, forall_eq]
                intros
                rename_i hK
                replace hK := hid hK
                simp only [wantedAt]
                go_simp
                exact hK.out _ _ rfl (grown_refl _ _)
            case st =>
              repeat (first | exact AllStable.nil | (refine AllStable.cons ?_ ?_; focus (first | exact stable_isv _ | exact stable_isBytes _ | exact stable_isRow1 _ | exact stable_isRowOf _ _ | exact stable_isVar _ | exact stable_isVarOf _ _ _)))
            case fin =>
              intro w3 hgw
              simp only [finalIn, factAt, isv, List.getElem?_cons_zero, List.getElem?_cons_succ, Option.getD_some, forall_eq, slotIs, subj]
              simp only [Act.put, List.setIfInBounds_toArray, List.set_cons_zero, List.set_cons_succ]
              have hg3 := hid (grown_trans (grown_drew (grown_refl wr none)) hgw)
              clear hgw
              go_wp2_with fail
              go_ret
              exact ⟨by rw [hf.out]; rfl, grown_trans hG0.out (grown_trans hG.out hg3.out)⟩
    · have hV := hid (hyes.out (fun k k0 k1 => hall k k0 (by omega)))
      have hlt' : ¬ ((j : Int) < (u.length : Int)) := by omega
      replace hG := hid hG
      clear hall
      go_wp2_with fail
      go_ret
      exact ⟨by rw [hV.out]; rfl, grown_trans hG0.out hG.out⟩

end Go.Proofs.Ytojbkhheaondhaa
