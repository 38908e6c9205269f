/- Package occ: are two lists of hits the same?. Package occ: the hits between two places. Package occ: lists of hits joined. -/
import Derived.Test.YtmahiodejhakpaaK20
import Derived.Deep.Light
import Derived.StillTailTactics
import Derived.Lib.AppendZerosOnto
set_option linter.unusedSimpArgs false
set_option linter.unusedVariables false
set_option maxRecDepth 100000
namespace Go.Proofs.Ytmahiodejhakpaa
open Go.RowKit PlainLetter PlainPatset PlainOcc

set_option maxRecDepth 100000 in
set_option maxHeartbeats 2000000 in
theorem equalHits_is (P Q : Option Addr) (c d : Nat) (l m : List Hit) (w : World) (hn : l.length ≤ 1099511627776) (hP : Hits w P l) (hQ : Hits w Q m) :
    Calls Try.prog 32 #[.slice P l.length c, .slice Q m.length d] w fun e w' => e = .returned (.bool (decide (l = m))) ∧ w.grownBy w' none := by
  replace hP := hid hP
  replace hQ := hid hQ
  by_cases hlen : l.length = m.length
  · rw [← hlen]
    replace hlen := hid hlen
    go_enter Try.func32, Try.ntmps32
    go_wp2_with fail
    go_loopw [13] (fun i wr => ∃ k : Nat, k ≤ l.length ∧ i = .int .i64 k ∧ w.grownBy wr none ∧ ∀ j, j < k → l.getD j (0, 0) = m.getD j (0, 0)) (fun i _ => l.length - (intOf i).toNat)
    case atStart => exact ⟨0, Nat.zero_le _, rfl, grown_refl _ _, fun j hj => absurd hj (Nat.not_lt_zero _)⟩
    case round =>
      obtain ⟨k, hk0, rfl, hG, hsame⟩ := hrel
      replace hsame := hid hsame
      by_cases hlt : k < l.length
      · obtain ⟨b, off, rfl, hb0, hcell⟩ := hP.out.at_ hlt
        obtain ⟨b2, off2, rfl, hb20, hcell2⟩ := hQ.out.at_ (i := k) (by rw [← hlen.out]; exact hlt)
        obtain ⟨hcx0, hcx1⟩ := hcell k hlt
        obtain ⟨hcy0, hcy1⟩ := hcell2 k (by rw [← hlen.out]; exact hlt)
        clear hcell hcell2
        have hbl : Hid (b < w.heap.size) := hb0
        have hb2l : Hid (b2 < w.heap.size) := hb20
        replace hcx0 := hid hcx0
        replace hcx1 := hid hcx1
        replace hcy0 := hid hcy0
        replace hcy1 := hid hcy1
        replace hG := hid hG
        clear hb0 hb20
        generalize hxs : l.getD k (0, 0) = x at hcx0 hcx1
        generalize hys : m.getD k (0, 0) = y at hcy0 hcy1
        replace hxs := hid hxs
        replace hys := hid hys
        obtain ⟨x1, x2⟩ := x
        obtain ⟨y1, y2⟩ := y
        simp only at hcx0 hcx1 hcy0 hcy1
        have q0 : (0 : Int) ≤ (k : Int) := by omega
        have q1 : (k : Int) < (l.length : Int) := by omega
        go_wp2_with fail
        apply wp_region_each [isv _, isv _, isv _, isv (.agg #[.int .i64 x1, .int .i64 x2]), isv _, isv _, isv _, isv (.agg #[.int .i64 y1, .int .i64 y2]), isv (.bool (!(decide (x1 = y1 ∧ x2 = y2))))]
          26 [some 16, some 17, some 18, some 19, some 20, some 21, some 22, some 23, some 24]
          [some 16, some 17, some 18, some 19, some 20, some 21, some 22, some 23, some 24]
          [[], [], [0, 1], [2], [], [], [4, 5], [6], [3, 7]]
          [(0, .slice (some ⟨b, off, none⟩) l.length c), (1, .slice (some ⟨b2, off2, none⟩) l.length d), (5, .int .i64 k)] (by kernel_rfl) rfl (by kernel_rfl) rfl rfl (by kernel_rfl) (OutsOk.cons rfl rfl (OutsOk.cons rfl rfl (OutsOk.cons rfl rfl OutsOk.nil))) ?st ?ob ?fin
        case ob =>
          refine Obs.consv rfl ?o0 (Obs.consv rfl ?o1 (Obs.consv rfl ?o2 (Obs.consv rfl ?o3 (Obs.consv rfl ?o4 (Obs.consv rfl ?o5 (Obs.consv rfl ?o6 (Obs.consv rfl ?o7 (Obs.consv rfl ?o8 Obs.nil))))))))
          case o0 =>
            go_light
            intro ac w' hgw
            have g2 := grown_trans hG.out (grown_trans (grown_drew (grown_refl wr none)) hgw)
            have hcx0w := ((gcell g2).1 b (off + k * 2) hbl.out).trans hcx0.out
            have hcx1w := ((gcell g2).1 b (off + k * 2 + 1) hbl.out).trans hcx1.out
            have hcy0w := ((gcell g2).1 b2 (off2 + k * 2) hb2l.out).trans hcy0.out
            have hcy1w := ((gcell g2).1 b2 (off2 + k * 2 + 1) hb2l.out).trans hcy1.out
            clear g2
            replace hgw := hid hgw
            simp only [outThen, preThen, slotIs, factAt, isv, List.getElem?_cons_zero, List.getElem?_cons_succ, Option.getD_some, forall_eq]
            intros
            rename_i hK
            replace hK := hid hK
            simp only [wantedAt]
            go_simp
            exact hK.out _ _ rfl (grown_refl _ _)
          case o1 =>
            go_light
            intro ac w' hgw
            have g2 := grown_trans hG.out (grown_trans (grown_drew (grown_refl wr none)) hgw)
            have hcx0w := ((gcell g2).1 b (off + k * 2) hbl.out).trans hcx0.out
            have hcx1w := ((gcell g2).1 b (off + k * 2 + 1) hbl.out).trans hcx1.out
            have hcy0w := ((gcell g2).1 b2 (off2 + k * 2) hb2l.out).trans hcy0.out
            have hcy1w := ((gcell g2).1 b2 (off2 + k * 2 + 1) hb2l.out).trans hcy1.out
            clear g2
            replace hgw := hid hgw
            simp only [outThen, preThen, slotIs, factAt, isv, List.getElem?_cons_zero, List.getElem?_cons_succ, Option.getD_some, forall_eq]
            intros
            rename_i hK
            replace hK := hid hK
            simp only [wantedAt]
            go_simp
            exact hK.out _ _ rfl (grown_refl _ _)
          case o2 =>
            go_light
            intro ac w' hgw
            have g2 := grown_trans hG.out (grown_trans (grown_drew (grown_refl wr none)) hgw)
            have hcx0w := ((gcell g2).1 b (off + k * 2) hbl.out).trans hcx0.out
            have hcx1w := ((gcell g2).1 b (off + k * 2 + 1) hbl.out).trans hcx1.out
            have hcy0w := ((gcell g2).1 b2 (off2 + k * 2) hb2l.out).trans hcy0.out
            have hcy1w := ((gcell g2).1 b2 (off2 + k * 2 + 1) hb2l.out).trans hcy1.out
            clear g2
            replace hgw := hid hgw
            simp only [outThen, preThen, slotIs, factAt, isv, List.getElem?_cons_zero, List.getElem?_cons_succ, Option.getD_some, forall_eq]
            intros
            rename_i hK
            replace hK := hid hK
            simp only [wantedAt]
            go_simp
            exact hK.out _ _ rfl (grown_refl _ _)
          case o3 =>
            go_light
            intro ac w' hgw
            have g2 := grown_trans hG.out (grown_trans (grown_drew (grown_refl wr none)) hgw)
            have hcx0w := ((gcell g2).1 b (off + k * 2) hbl.out).trans hcx0.out
            have hcx1w := ((gcell g2).1 b (off + k * 2 + 1) hbl.out).trans hcx1.out
            have hcy0w := ((gcell g2).1 b2 (off2 + k * 2) hb2l.out).trans hcy0.out
            have hcy1w := ((gcell g2).1 b2 (off2 + k * 2 + 1) hb2l.out).trans hcy1.out
            clear g2
            replace hgw := hid hgw
            simp only [outThen, preThen, slotIs, factAt, isv, List.getElem?_cons_zero, List.getElem?_cons_succ, Option.getD_some, forall_eq]
            intros
            rename_i hK
            replace hK := hid hK
            simp only [wantedAt]
            go_simp
            exact hK.out _ _ rfl (grown_refl _ _)
          case o4 =>
            go_light
            intro ac w' hgw
            have g2 := grown_trans hG.out (grown_trans (grown_drew (grown_refl wr none)) hgw)
            have hcx0w := ((gcell g2).1 b (off + k * 2) hbl.out).trans hcx0.out
            have hcx1w := ((gcell g2).1 b (off + k * 2 + 1) hbl.out).trans hcx1.out
            have hcy0w := ((gcell g2).1 b2 (off2 + k * 2) hb2l.out).trans hcy0.out
            have hcy1w := ((gcell g2).1 b2 (off2 + k * 2 + 1) hb2l.out).trans hcy1.out
            clear g2
            replace hgw := hid hgw
            simp only [outThen, preThen, slotIs, factAt, isv, List.getElem?_cons_zero, List.getElem?_cons_succ, Option.getD_some, forall_eq]
            intros
            rename_i hK
            replace hK := hid hK
            simp only [wantedAt]
            go_simp
            exact hK.out _ _ rfl (grown_refl _ _)
          case o5 =>
            go_light
            intro ac w' hgw
            have g2 := grown_trans hG.out (grown_trans (grown_drew (grown_refl wr none)) hgw)
            have hcx0w := ((gcell g2).1 b (off + k * 2) hbl.out).trans hcx0.out
            have hcx1w := ((gcell g2).1 b (off + k * 2 + 1) hbl.out).trans hcx1.out
            have hcy0w := ((gcell g2).1 b2 (off2 + k * 2) hb2l.out).trans hcy0.out
            have hcy1w := ((gcell g2).1 b2 (off2 + k * 2 + 1) hb2l.out).trans hcy1.out
            clear g2
            replace hgw := hid hgw
            simp only [outThen, preThen, slotIs, factAt, isv, List.getElem?_cons_zero, List.getElem?_cons_succ, Option.getD_some, forall_eq]
            intros
            rename_i hK
            replace hK := hid hK
            simp only [wantedAt]
            go_simp
            exact hK.out _ _ rfl (grown_refl _ _)
          case o6 =>
            go_light
            intro ac w' hgw
            have g2 := grown_trans hG.out (grown_trans (grown_drew (grown_refl wr none)) hgw)
            have hcx0w := ((gcell g2).1 b (off + k * 2) hbl.out).trans hcx0.out
            have hcx1w := ((gcell g2).1 b (off + k * 2 + 1) hbl.out).trans hcx1.out
            have hcy0w := ((gcell g2).1 b2 (off2 + k * 2) hb2l.out).trans hcy0.out
            have hcy1w := ((gcell g2).1 b2 (off2 + k * 2 + 1) hb2l.out).trans hcy1.out
            clear g2
            replace hgw := hid hgw
            simp only [outThen, preThen, slotIs, factAt, isv, List.getElem?_cons_zero, List.getElem?_cons_succ, Option.getD_some, forall_eq]
            intros
            rename_i hK
            replace hK := hid hK
            simp only [wantedAt]
            go_simp
            exact hK.out _ _ rfl (grown_refl _ _)
          case o7 =>
            go_light
            intro ac w' hgw
            have g2 := grown_trans hG.out (grown_trans (grown_drew (grown_refl wr none)) hgw)
            have hcx0w := ((gcell g2).1 b (off + k * 2) hbl.out).trans hcx0.out
            have hcx1w := ((gcell g2).1 b (off + k * 2 + 1) hbl.out).trans hcx1.out
            have hcy0w := ((gcell g2).1 b2 (off2 + k * 2) hb2l.out).trans hcy0.out
            have hcy1w := ((gcell g2).1 b2 (off2 + k * 2 + 1) hb2l.out).trans hcy1.out
            clear g2
            replace hgw := hid hgw
            simp only [outThen, preThen, slotIs, factAt, isv, List.getElem?_cons_zero, List.getElem?_cons_succ, Option.getD_some, forall_eq]
            intros
            rename_i hK
            replace hK := hid hK
            simp only [wantedAt]
            go_simp
            exact hK.out _ _ rfl (grown_refl _ _)
          case o8 =>
            go_light
            intro ac w' hgw
            have g2 := grown_trans hG.out (grown_trans (grown_drew (grown_refl wr none)) hgw)
            have hcx0w := ((gcell g2).1 b (off + k * 2) hbl.out).trans hcx0.out
            have hcx1w := ((gcell g2).1 b (off + k * 2 + 1) hbl.out).trans hcx1.out
            have hcy0w := ((gcell g2).1 b2 (off2 + k * 2) hb2l.out).trans hcy0.out
            have hcy1w := ((gcell g2).1 b2 (off2 + k * 2 + 1) hb2l.out).trans hcy1.out
            clear g2
            replace hgw := hid hgw
            simp only [outThen, preThen, slotIs, factAt, isv, List.getElem?_cons_zero, List.getElem?_cons_succ, Option.getD_some, forall_eq]
            intros
            rename_i hK
            replace hK := hid hK
            simp only [wantedAt]
            go_simp
            have hk := hK.out _ _ rfl (grown_refl _ _)
            by_cases e1 : x1 = y1
            · rw [if_pos e1]
              by_cases e2 : x2 = y2
              · rw [if_pos e2]
                rw [decide_eq_true (⟨e1, e2⟩ : x1 = y1 ∧ x2 = y2)] at hk
                exact hk
              · rw [if_neg e2]
                rw [decide_eq_false (fun h : x1 = y1 ∧ x2 = y2 => e2 h.2)] at hk
                exact hk
            · rw [if_neg e1]
              rw [decide_eq_false (fun h : x1 = y1 ∧ x2 = y2 => e1 h.1)] at hk
              exact hk
        case st =>
          repeat (first | exact AllStable.nil | (refine AllStable.cons ?_ ?_; focus (first | exact stable_isv _ | exact stable_isBytes _ | exact stable_isRow1 _ | exact stable_isRowOf _ _ | exact stable_isArrOf _)))
        case fin =>
          intro w3 hgw
          simp only [finalIn, factAt, isv, List.getElem?_cons_zero, List.getElem?_cons_succ, Option.getD_some, forall_eq, slotIs, subj]
          simp only [Act.put, List.setIfInBounds_toArray, List.set_cons_zero, List.set_cons_succ]
          have hG3 := hid (grown_trans hG.out (grown_trans (grown_drew (grown_refl wr none)) hgw))
          clear hgw hcx0 hcx1 hcy0 hcy1
          by_cases heq : x1 = y1 ∧ x2 = y2
          · have he := hid (show (x1, x2) = (y1, y2) by rw [heq.1, heq.2])
            rw [decide_eq_true heq]
            clear heq
            go_wp2_with fail
            go_roundw
            case rel => exact ⟨k + 1, by omega, by go_num, hG3.out, fun j hj => by
              by_cases hjk : j < k
              · exact hsame.out j hjk
              · obtain rfl : j = k := by omega
                exact hxs.out.trans (he.out.trans hys.out.symm)⟩
            case measure => simp [intOf]; omega
          · rw [decide_eq_false heq]
            have hne : Hid (¬ l = m) := fun h => heq (Prod.mk.inj (hxs.out.symm.trans ((congrArg (fun z : List Hit => z.getD k (0, 0)) h).trans hys.out)))
            clear heq
            go_wp2_with fail
            go_ret
            exact ⟨by show Ending.returned (Value.bool false) = _; simp [hne.out], hG3.out⟩
      · obtain rfl : k = l.length := by omega
        have heq : Hid (l = m) := hits_same hlen.out hsame.out
        replace hG := hid hG
        go_wp2_with fail
        go_ret
        exact ⟨by show Ending.returned (Value.bool true) = _; simp [heq.out], hG.out⟩
  · have hne : Hid (¬ l = m) := fun h => hlen (by rw [h])
    have hn' : ((l.length : Int) != (m.length : Int)) = true := by rw [bne_iff_ne]; omega
    replace hlen := hid hlen
    go_enter Try.func32, Try.ntmps32
    go_wp2_with fail
    go_ret
    exact ⟨by show Ending.returned (Value.bool false) = _; simp [hne.out], grown_refl _ _⟩

theorem occSame_is (P Q : Option Addr) (c d : Nat) (l m : List Hit) (w : World) (hn : l.length ≤ 1000000000) (hP : Hits w P l) (hQ : Hits w Q m) :
    Calls Try.prog 18 #[.slice P l.length c, .slice Q m.length d] w fun e w' => e = .returned (.bool (decide (l = m))) ∧ w.grownBy w' none := by
  have key := hid (equalHits_is P Q c d l m w (by omega) hP hQ)
  replace hP := hid hP
  replace hQ := hid hQ
  generalize decide (l = m) = r at key ⊢
  go_enter Try.func18, Try.ntmps18
  go_wp2_with (go_at_call 32; refine key.out.mono ?_; rintro e w2 ⟨rfl, hg⟩; have hG1 := hid hg; clear hg)
  go_ret
  exact ⟨rfl, hG1.out⟩
end Go.Proofs.Ytmahiodejhakpaa

namespace Go.Proofs.Ytmahiodejhakpaa
open Go.RowKit PlainLetter PlainPatset PlainOcc

section
variable {P : Program} {ops : Array Oper} {rest : List Oper} {o : Oper} {a : Act} {Q : Exit → Act → World → Prop}
/-- One hit more, where the size is another word. -/
theorem wpList_push_hit_at (hgd : o.guard = none) (s x : Operand) (t : TypeId) (ho : o.op = .call { callee := .builtin .append, args := #[s, x], argTypes := #[t, t] })
    (base : Nat) (i : TypeInfo) (ht : P.underlying t = some (.slice 35)) (hi : P.info? 35 = some i) (hz : i.zero = some (.agg #[.int .i64 0, .int .i64 0])) (hsize : i.size = 2) (hby : i.bytes = 16)
    (v : Value) (l : List Hit) (y : Hit) (w : World) (g : Nat) (hg : w.heap.size = g) (hown : OwnHits w base v l) (hs : a.eval s = v)
    (hx : a.eval x = .slice (some ⟨g, 0, none⟩) 1 1) (hlen : l.length ≤ 1099511627776) (hbase : base ≤ w.heap.size)
    (h : ∀ v' w', OwnHits w' base v' (l ++ [y]) → (w.alloc (.cells #[.int .i64 y.1, .int .i64 y.2] 35)).grownBy w' v.ownBlock → Below base w w' → wpList P ops Q rest (a.put o.dst v') w') :
    wpList P ops Q (o :: rest) a (w.alloc (.cells #[.int .i64 y.1, .int .i64 y.2] 35)) := by
  subst hg
  exact wpList_push_hit hgd s x t ho base i ht hi hz hsize hby v l y w hown hs hx hlen hbase h
end

theorem occBetween_is (low high : Int) (P : Option Addr) (c : Nat) (l : List Hit) (w : World) (hn : l.length ≤ 1000000000) (hP : Hits w P l) :
    Calls Try.prog 14 #[.int .i64 low, .int .i64 high, .slice P l.length c] w fun e w' => ∃ v, e = .returned v ∧ OwnHits w' w.heap.size v (between low high l) ∧ w.grownBy w' none := by
  obtain ⟨i0, hi0, hz0, hz1, hz2⟩ := info_parts Try.hitInfo
  replace hP := hid hP
  go_enter Try.func14, Try.ntmps14
  go_wp2_with fail
  go_loopw [7, 12] (fun v i wr => ∃ k : Nat, k ≤ l.length ∧ i = .int .i64 k ∧ OwnHits wr w.heap.size v (between low high (l.take k)) ∧ Below w.heap.size w wr) (fun _ i _ => l.length - (intOf i).toNat)
  case atStart => exact ⟨0, Nat.zero_le _, rfl, by simpa [between] using OwnHits.nil _ _, Below.refl _ _⟩
  case round =>
    obtain ⟨k, hk, rfl, hown, hB⟩ := hrel
    replace hown := hid hown
    have hG := hid (below_grown hB)
    by_cases hlt : k < l.length
    · have hT := hid (between_succ low high l k hlt)
      have hlen : (between low high (l.take k)).length ≤ k := Nat.le_trans (between_len _ _ _) (by simp; omega)
      obtain ⟨b, off, rfl, hb0, hc⟩ := (hP.out.grown hG.out).at_ hlt
      obtain ⟨hx0, hx1⟩ := hc k hlt
      clear hc
      generalize l.getD k (0, 0) = x at hx0 hx1 hT
      obtain ⟨x1, x2⟩ := x
      simp only at hx0 hx1
      generalize between low high (l.take k) = zs at hown hT hlen
      have hz : zs.length ≤ 1099511627776 := by omega
      have hsz : w.heap.size ≤ (wr.alloc (.cells #[.int .i64 x1, .int .i64 x2] 35)).heap.size := by have := hB.size; simp; omega
      have hown1 := hid (hown.out.grown (grown_alloc (grown_refl wr none) (.cells #[.int .i64 x1, .int .i64 x2] 35)))
      have hB1 := hid (hB.alloc hB.size (.cells #[.int .i64 x1, .int .i64 x2] 35))
      clear hown
      replace hlen := hid hlen
      have q0 : (0 : Int) ≤ (k : Int) := by omega
      have q1 : (k : Int) < (l.length : Int) := by omega
      replace hB := hid hB
      by_cases h1 : low < x1
      · by_cases h2 : x1 ≤ high
        · have hT2 := hid (hT.out.trans (by rw [if_pos ⟨h1, h2⟩]))
          clear hT
          go_wp2_with (at_builtin; refine wpList_push_hit_at rfl _ _ 28 rfl w.heap.size i0 Try.underlying28 hi0 hz0 hz1 hz2 _ zs (x1, x2) _ (wr.heap.size + 1) (by simp) hown1.out rfl rfl hz hsz ?_; intro v' w1 hrow1 _ hB2)
          go_roundw
          case rel => exact ⟨k + 1, by omega, by go_num, by rw [hT2.out]; exact hrow1, hB1.out.trans hB2⟩
          case measure => simp [intOf]; omega
        · have hT2 := hid (hT.out.trans ((by rw [if_neg (fun h => h2 h.2)]) : _ = zs ++ []))
          clear hT
          go_wp2_with fail
          go_roundw
          case rel => exact ⟨k + 1, by omega, by go_num, by rw [hT2.out, List.append_nil]; exact hown1.out, hB1.out⟩
          case measure => simp [intOf]; omega
      · have hT2 := hid (hT.out.trans ((by rw [if_neg (fun h => h1 h.1)]) : _ = zs ++ []))
        clear hT
        go_wp2_with fail
        go_roundw
        case rel => exact ⟨k + 1, by omega, by go_num, by rw [hT2.out, List.append_nil]; exact hown1.out, hB1.out⟩
        case measure => simp [intOf]; omega
    · obtain rfl : k = l.length := by omega
      have hown2 := hid (by simpa using hown.out : OwnHits wr w.heap.size _ (between low high l))
      clear hown
      replace hB := hid hB
      go_wp2_with fail
      go_ret
      exact ⟨_, rfl, hown2.out, hG.out⟩
end Go.Proofs.Ytmahiodejhakpaa

namespace Go.Proofs.Ytmahiodejhakpaa
open Go.RowKit PlainLetter PlainPatset PlainOcc

theorem under_hits : Try.prog.underlying 28 = some (.slice 35) := Try.underlying28
theorem under_int : Try.prog.underlying 3 = some (.int .i64) := Try.underlying3

set_option maxHeartbeats 1000000 in
theorem growHits_is (n : Nat) (w : World) (hn : n ≤ 1099511627776) :
    Calls Try.prog 42 #[.slice none 0 0, .int .i64 (n : Nat)] w fun e w' => ∃ v, e = .returned v ∧ OwnHits w' w.heap.size v [] ∧ Below w.heap.size w w' := by
  obtain ⟨i0, hi0, hz0, hz1, hz2⟩ := info_parts Try.hitInfo
  by_cases h0 : n = 0
  · subst h0
    go_enter Try.func42, Try.ntmps42
    go_wp2_with fail
    go_ret
    exact ⟨_, rfl, OwnHits.nil _ _, Below.refl _ _⟩
  · have hrz : ∀ ty, (Builtin.append_ #[28, 3] ty #[.slice none 0 0, .int .i64 (n : Int)]).run Try.prog w =
        .ok (.slice (some ⟨w.heap.size, 0, none⟩) n (grownCap w n 0 35)) (w.drew.alloc (.cells (#[] ++ Builtin.zeroCells #[.int .i64 0, .int .i64 0] n ++ Builtin.zeroCells #[.int .i64 0, .int .i64 0] (grownCap w n 0 35 - n)) 35)) := fun ty => by
      have h := Lib.run_append_grow_zeros (P := Try.prog) w 28 3 ty 35 i0 (.agg #[.int .i64 0, .int .i64 0]) .i64 .i64 under_hits under_int hi0 hz0 none 0 0 [] (run_firstCells_none w.drew i0.size 0 0 0) n (by omega) (by omega) (by omega) (by omega)
        (by rw [hz2]; omega) (by rw [Nat.zero_add]; exact growslice_fits (by omega) (by rw [hz2]; omega))
      rw [Nat.zero_add] at h
      exact h
    have hge : n ≤ grownCap w n 0 35 := grownCap_ge w _ _ _
    have hle : grownCap w n 0 35 ≤ maxLen := grownCap_le_maxLen w _ _ _ (by unfold maxLen; omega)
    obtain ⟨G, hG⟩ : ∃ G, grownCap w n 0 35 = G := ⟨_, rfl⟩
    rw [hG] at hrz hge hle
    clear hG
    obtain ⟨cs, hcs⟩ : ∃ cs, (#[] ++ Builtin.zeroCells #[.int .i64 0, .int .i64 0] n ++ Builtin.zeroCells #[.int .i64 0, .int .i64 0] (G - n) : Array Value) = cs := ⟨_, rfl⟩
    have hsz : cs.size = G * 2 := by
      rw [← hcs]
      simp only [Array.size_append, size_zeroCells, Array.size_empty, List.size_toArray, List.length_cons, List.length_nil]
      omega
    rw [hcs] at hrz
    clear hcs
    have hown : Hid (OwnHits (w.drew.alloc (.cells cs 35)) w.heap.size (.slice (some ⟨w.heap.size, 0, none⟩) 0 G) []) := by
      refine ⟨rfl, .inr ⟨w.heap.size, G, cs, rfl, Nat.le_refl _, ?_, Nat.zero_le _, hle, hsz, by simp [hitCells]⟩⟩
      exact (show Holds (w.drew.alloc (.cells cs 35)) w.drew.heap.size 35 cs from Holds.new _ _ _)
    have hB : Hid (Below w.heap.size w (w.drew.alloc (.cells cs 35))) := below_of_grown (grown_alloc (grown_drew (grown_refl w none)) _) (Nat.le_refl _) (by simp)
    have h1 : ¬ ((n : Int) < 0) := by omega
    have h4 : (0 : Int) < (n : Int) := by omega
    have h5 : IntKind.i64.wrap (n : Int) = (n : Int) := by simp [IntKind.wrap, IntKind.bits, IntKind.signed]; omega
    have hG63 : (G : Int) ≤ 9223372036854775807 := by unfold maxLen at hle; omega
    replace hle := hid hle
    go_enter Try.func42, Try.ntmps42
    go_wp2_with (at_builtin; refine Lib.wpList_append_run _ rfl _ _ _ _ rfl _ _ rfl rfl _ _ (hrz _) ?_)
    go_ret
    exact ⟨_, rfl, hown.out, hB.out⟩

set_option maxHeartbeats 2000000 in
theorem concatHits_is (P : Option Addr) (c : Nat) (ls : List (List Hit)) (w : World) (hn : ls.length ≤ 1099511627776) (hf : ls.flatten.length ≤ 1099511627776) (hP : HitRows w P ls) :
    Calls Try.prog 30 #[.slice P ls.length c] w fun e w' => ∃ v, e = .returned v ∧ OwnHits w' w.heap.size v ls.flatten ∧ w.grownBy w' none := by
  obtain ⟨i0, hi0, hz0, hz1, hz2⟩ := info_parts Try.hitInfo
  replace hP := hid hP
  go_enter Try.func30, Try.ntmps30
  go_wp2_with fail
  go_loopw [3, 11] (fun s i wr => ∃ k : Nat, k ≤ ls.length ∧ i = .int .i64 k ∧ s = .int .i64 ((ls.take k).flatten.length : Nat) ∧ wr = w) (fun _ i _ => ls.length - (intOf i).toNat)
  case atStart => exact ⟨0, Nat.zero_le _, rfl, rfl, rfl⟩
  case round =>
    obtain ⟨k, hk, rfl, rfl, rfl⟩ := hrel
    by_cases hlt : k < ls.length
    · have hT := congrArg List.length (flatten_succ_hits ls k hlt)
      rw [List.length_append] at hT
      have hl1 := flatten_take_le_hits ls (k + 1)
      obtain ⟨b, off, Ai, ci, rfl, hb0, hc, hAi⟩ := hP.out.at_ hlt
      generalize (ls.getD k []).length = m at hc hT
      generalize (ls.take k).flatten.length = n at hT ⊢
      generalize hN : (ls.take (k + 1)).flatten.length = N at hT hl1
      subst hT
      have hw : IntKind.i64.wrap ((n : Int) + (m : Int)) = ((n + m : Nat) : Int) := by simp [IntKind.wrap, IntKind.bits, IntKind.signed]; omega
      have h0 : ¬ (((n + m : Nat) : Int) < 0) := by omega
      replace hl1 := hid hl1
      replace hN := hid hN
      clear hAi
      have q0 : (0 : Int) ≤ (k : Int) := by omega
      have q1 : (k : Int) < (ls.length : Int) := by omega
      go_wp2_with fail
      go_roundw
      case rel => exact ⟨k + 1, by omega, by go_num, by rw [hN.out]; go_num, by first | rfl | trivial⟩
      case measure => simp [intOf]; omega
    · obtain rfl : k = ls.length := by omega
      rw [List.take_length]
      obtain ⟨w0, hw0⟩ : ∃ w0, w0 = wr := ⟨_, rfl⟩
      subst hw0
      have hgr := hid (growHits_is ls.flatten.length w0 hf)
      obtain ⟨F, hF⟩ : ∃ F, ls.flatten.length = F := ⟨_, rfl⟩
      have hFf := hid hF
      rw [hF] at hgr hf ⊢
      clear hF
      obtain ⟨L0, hL0⟩ : ∃ L0, ls.length = L0 := ⟨_, rfl⟩
      rw [hL0]
      go_wp2_with (go_at_call 42; refine hgr.out.mono ?_; rintro e w2 ⟨v2, rfl, hown2, hB2⟩; have hown3 := hid hown2; have hB3 := hid hB2; clear hown2 hB2)
      subst hL0
      go_loopw [6, 27] (fun v i wr => ∃ k : Nat, k ≤ ls.length ∧ i = .int .i64 k ∧ OwnHits wr w0.heap.size v (ls.take k).flatten ∧ Below w0.heap.size w0 wr) (fun _ i _ => ls.length - (intOf i).toNat)
      case atStart => exact ⟨0, Nat.zero_le _, rfl, by simpa using hown3.out, hB3.out⟩
      case round =>
        obtain ⟨k, hk, rfl, hown, hB⟩ := hrel
        clear hown3 hB3
        replace hown := hid hown
        have hG := hid (below_grown hB)
        by_cases hlt : k < ls.length
        · have hT := hid (flatten_succ_hits ls k hlt)
          have hl1 := flatten_take_le_hits ls (k + 1)
          rw [hT.out, List.length_append] at hl1
          obtain ⟨b, off, Ai, ci, rfl, hb0, hc, hAi⟩ := (hP.out.grown hG.out).at_ hlt
          generalize ls.getD k [] = m at hc hAi hT hl1
          generalize (ls.take k).flatten = zs at hown hT hl1
          have hz : zs.length + m.length ≤ 1099511627776 := by have := hFf.out; omega
          have hsz := hB.size
          replace hB := hid hB
          replace hl1 := hid hl1
          replace hAi := hid hAi
          have q0 : (0 : Int) ≤ (k : Int) := by omega
          have q1 : (k : Int) < (ls.length : Int) := by omega
          go_wp2_with (at_builtin; refine wpList_append_hits rfl _ _ 28 rfl w0.heap.size i0 Try.underlying28 hi0 hz0 hz1 hz2 _ zs m Ai _ ci _ hown.out hAi.out rfl rfl rfl hz hsz ?_; intro v' w1 hrow1 _ hB1)
          go_roundw
          case rel => exact ⟨k + 1, by omega, by go_num, by rw [hT.out]; exact hrow1, hB.out.trans hB1⟩
          case measure => simp [intOf]; omega
        · obtain rfl : k = ls.length := by omega
          have hown2 := hid (by simpa using hown.out : OwnHits wr w0.heap.size _ ls.flatten)
          clear hown
          replace hB := hid hB
          go_wp2_with fail
          go_ret
          exact ⟨_, rfl, hown2.out, hG.out⟩

theorem occJoin_is (P : Option Addr) (c : Nat) (ls : List (List Hit)) (w : World) (hn : ls.length ≤ 1099511627776) (hf : ls.flatten.length ≤ 1099511627776) (hP : HitRows w P ls) :
    Calls Try.prog 16 #[.slice P ls.length c] w fun e w' => ∃ v, e = .returned v ∧ OwnHits w' w.heap.size v ls.flatten ∧ w.grownBy w' none := by
  have key := hid (concatHits_is P c ls w hn hf hP)
  clear hP
  go_enter Try.func16, Try.ntmps16
  go_wp2_with (go_at_call 30; refine key.out.mono ?_; rintro e w2 ⟨v, rfl, hv, hg⟩; have hv1 := hid hv; have hG1 := hid hg; clear hv hg)
  go_ret
  exact ⟨_, rfl, hv1.out, hG1.out⟩
end Go.Proofs.Ytmahiodejhakpaa
