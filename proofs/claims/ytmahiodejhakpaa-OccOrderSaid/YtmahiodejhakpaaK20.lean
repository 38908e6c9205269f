/- The document's own answer: are two lists of hits the same?. Of hits the first ones: whether they rise. Hits of the call's own: one more, and all of another list. Hits between two places, one by one; and lists of hits in memory. What all hits tell. -/
import Derived.Test.YtmahiodejhakpaaK19
import Derived.Deep.Light
import Derived.Test.YtmahiodejhakpaaK6
import Derived.Test.YtmahiodejhakpaaPlainOcc
import Derived.Test.YtmahiodejhakpaaK15
set_option linter.unusedSimpArgs false
set_option linter.unusedVariables false
namespace Go.Proofs.Ytmahiodejhakpaa
open Go.RowKit PlainLetter PlainPatset PlainOcc

theorem hits_same {l m : List Hit} (hl : l.length = m.length) (h : ∀ k, k < l.length → l.getD k (0, 0) = m.getD k (0, 0)) : l = m := by
  refine List.ext_getElem hl (fun i hi hi' => ?_)
  have := h i hi
  simpa [List.getD, hi, hi'] using this

set_option maxRecDepth 100000 in
set_option maxHeartbeats 2000000 in
theorem refHitsSame_is (P Q : Option Addr) (c d : Nat) (l m : List Hit) (w : World) (hn : l.length ≤ 1099511627776) (hP : Hits w P l) (hQ : Hits w Q m) :
    Calls Try.prog 15 #[.slice P l.length c, .slice Q m.length d] w fun e w' => e = .returned (.bool (decide (l = m))) ∧ w.grownBy w' none := by
  replace hP := hid hP
  replace hQ := hid hQ
  by_cases hlen : l.length = m.length
  · rw [← hlen]
    replace hlen := hid hlen
    go_enter Try.func15, Try.ntmps15
    go_wp2_with fail
    go_loopw [5] (fun i wr => ∃ k : Nat, k ≤ l.length ∧ i = .int .i64 k ∧ w.grownBy wr none ∧ ∀ j, j < k → l.getD j (0, 0) = m.getD j (0, 0)) (fun i _ => l.length - (intOf i).toNat)
    case atStart => exact ⟨0, Nat.zero_le _, rfl, grown_refl _ _, fun j hj => absurd hj (Nat.not_lt_zero _)⟩
    case round =>
      obtain ⟨k, hk0, rfl, hG, hsame⟩ := hrel
      replace hsame := hid hsame
      by_cases hlt : k < l.length
      · obtain ⟨b, off, rfl, hb0, hcell⟩ := hP.out.at_ hlt
        obtain ⟨b2, off2, rfl, hb20, hcell2⟩ := hQ.out.at_ (i := k) (by rw [← hlen.out]; exact hlt)
        obtain ⟨hcx0, hcx1⟩ := hcell k hlt
        obtain ⟨hcy0, hcy1⟩ := hcell2 k (by rw [← hlen.out]; exact hlt)
        clear hcell hcell2
        have hbl : Hid (b < w.heap.size) := hb0
        have hb2l : Hid (b2 < w.heap.size) := hb20
        replace hcx0 := hid hcx0
        replace hcx1 := hid hcx1
        replace hcy0 := hid hcy0
        replace hcy1 := hid hcy1
        replace hG := hid hG
        clear hb0 hb20
        generalize hxs : l.getD k (0, 0) = x at hcx0 hcx1
        generalize hys : m.getD k (0, 0) = y at hcy0 hcy1
        replace hxs := hid hxs
        replace hys := hid hys
        obtain ⟨x1, x2⟩ := x
        obtain ⟨y1, y2⟩ := y
        simp only at hcx0 hcx1 hcy0 hcy1
        have q0 : (0 : Int) ≤ (k : Int) := by omega
        have q1 : (k : Int) < (l.length : Int) := by omega
        go_wp2_with fail
        apply wp_region_each [isv _, isv _, isv _, isv (.agg #[.int .i64 x1, .int .i64 x2]), isv _, isv _, isv _, isv (.agg #[.int .i64 y1, .int .i64 y2]), isv (.bool (!(decide (x1 = y1 ∧ x2 = y2))))]
          26 [some 17, some 18, some 19, some 20, some 21, some 22, some 23, some 24, some 25]
          [some 17, some 18, some 19, some 20, some 21, some 22, some 23, some 24, some 25]
          [[], [], [0, 1], [2], [], [], [4, 5], [6], [3, 7]]
          [(0, .slice (some ⟨b, off, none⟩) l.length c), (1, .slice (some ⟨b2, off2, none⟩) l.length d), (5, .int .i64 k)] (by kernel_rfl) rfl (by kernel_rfl) rfl rfl (by kernel_rfl) (OutsOk.cons rfl rfl (OutsOk.cons rfl rfl (OutsOk.cons rfl rfl OutsOk.nil))) ?st ?ob ?fin
        case ob =>
          refine Obs.consv rfl ?o0 (Obs.consv rfl ?o1 (Obs.consv rfl ?o2 (Obs.consv rfl ?o3 (Obs.consv rfl ?o4 (Obs.consv rfl ?o5 (Obs.consv rfl ?o6 (Obs.consv rfl ?o7 (Obs.consv rfl ?o8 Obs.nil))))))))
          case o0 =>
            go_light
            intro ac w' hgw
            have g2 := grown_trans hG.out (grown_trans (grown_drew (grown_refl wr none)) hgw)
            have hcx0w := ((gcell g2).1 b (off + k * 2) hbl.out).trans hcx0.out
            have hcx1w := ((gcell g2).1 b (off + k * 2 + 1) hbl.out).trans hcx1.out
            have hcy0w := ((gcell g2).1 b2 (off2 + k * 2) hb2l.out).trans hcy0.out
            have hcy1w := ((gcell g2).1 b2 (off2 + k * 2 + 1) hb2l.out).trans hcy1.out
            clear g2
            replace hgw := hid hgw
            simp only [outThen, preThen, slotIs, factAt, isv, List.getElem?_cons_zero, List.getElem?_cons_succ, Option.getD_some, forall_eq]
            intros
            rename_i hK
            replace hK := hid hK
            simp only [wantedAt]
            go_simp
            exact hK.out _ _ rfl (grown_refl _ _)
          case o1 =>
            go_light
            intro ac w' hgw
            have g2 := grown_trans hG.out (grown_trans (grown_drew (grown_refl wr none)) hgw)
            have hcx0w := ((gcell g2).1 b (off + k * 2) hbl.out).trans hcx0.out
            have hcx1w := ((gcell g2).1 b (off + k * 2 + 1) hbl.out).trans hcx1.out
            have hcy0w := ((gcell g2).1 b2 (off2 + k * 2) hb2l.out).trans hcy0.out
            have hcy1w := ((gcell g2).1 b2 (off2 + k * 2 + 1) hb2l.out).trans hcy1.out
            clear g2
            replace hgw := hid hgw
            simp only [outThen, preThen, slotIs, factAt, isv, List.getElem?_cons_zero, List.getElem?_cons_succ, Option.getD_some, forall_eq]
            intros
            rename_i hK
            replace hK := hid hK
            simp only [wantedAt]
            go_simp
            exact hK.out _ _ rfl (grown_refl _ _)
          case o2 =>
            go_light
            intro ac w' hgw
            have g2 := grown_trans hG.out (grown_trans (grown_drew (grown_refl wr none)) hgw)
            have hcx0w := ((gcell g2).1 b (off + k * 2) hbl.out).trans hcx0.out
            have hcx1w := ((gcell g2).1 b (off + k * 2 + 1) hbl.out).trans hcx1.out
            have hcy0w := ((gcell g2).1 b2 (off2 + k * 2) hb2l.out).trans hcy0.out
            have hcy1w := ((gcell g2).1 b2 (off2 + k * 2 + 1) hb2l.out).trans hcy1.out
            clear g2
            replace hgw := hid hgw
            simp only [outThen, preThen, slotIs, factAt, isv, List.getElem?_cons_zero, List.getElem?_cons_succ, Option.getD_some, forall_eq]
            intros
            rename_i hK
            replace hK := hid hK
            simp only [wantedAt]
            go_simp
            exact hK.out _ _ rfl (grown_refl _ _)
          case o3 =>
            go_light
            intro ac w' hgw
            have g2 := grown_trans hG.out (grown_trans (grown_drew (grown_refl wr none)) hgw)
            have hcx0w := ((gcell g2).1 b (off + k * 2) hbl.out).trans hcx0.out
            have hcx1w := ((gcell g2).1 b (off + k * 2 + 1) hbl.out).trans hcx1.out
            have hcy0w := ((gcell g2).1 b2 (off2 + k * 2) hb2l.out).trans hcy0.out
            have hcy1w := ((gcell g2).1 b2 (off2 + k * 2 + 1) hb2l.out).trans hcy1.out
            clear g2
            replace hgw := hid hgw
            simp only [outThen, preThen, slotIs, factAt, isv, List.getElem?_cons_zero, List.getElem?_cons_succ, Option.getD_some, forall_eq]
            intros
            rename_i hK
            replace hK := hid hK
            simp only [wantedAt]
            go_simp
            exact hK.out _ _ rfl (grown_refl _ _)
          case o4 =>
            go_light
            intro ac w' hgw
            have g2 := grown_trans hG.out (grown_trans (grown_drew (grown_refl wr none)) hgw)
            have hcx0w := ((gcell g2).1 b (off + k * 2) hbl.out).trans hcx0.out
            have hcx1w := ((gcell g2).1 b (off + k * 2 + 1) hbl.out).trans hcx1.out
            have hcy0w := ((gcell g2).1 b2 (off2 + k * 2) hb2l.out).trans hcy0.out
            have hcy1w := ((gcell g2).1 b2 (off2 + k * 2 + 1) hb2l.out).trans hcy1.out
            clear g2
            replace hgw := hid hgw
            simp only [outThen, preThen, slotIs, factAt, isv, List.getElem?_cons_zero, List.getElem?_cons_succ, Option.getD_some, forall_eq]
            intros
            rename_i hK
            replace hK := hid hK
            simp only [wantedAt]
            go_simp
            exact hK.out _ _ rfl (grown_refl _ _)
          case o5 =>
            go_light
            intro ac w' hgw
            have g2 := grown_trans hG.out (grown_trans (grown_drew (grown_refl wr none)) hgw)
            have hcx0w := ((gcell g2).1 b (off + k * 2) hbl.out).trans hcx0.out
            have hcx1w := ((gcell g2).1 b (off + k * 2 + 1) hbl.out).trans hcx1.out
            have hcy0w := ((gcell g2).1 b2 (off2 + k * 2) hb2l.out).trans hcy0.out
            have hcy1w := ((gcell g2).1 b2 (off2 + k * 2 + 1) hb2l.out).trans hcy1.out
            clear g2
            replace hgw := hid hgw
            simp only [outThen, preThen, slotIs, factAt, isv, List.getElem?_cons_zero, List.getElem?_cons_succ, Option.getD_some, forall_eq]
            intros
            rename_i hK
            replace hK := hid hK
            simp only [wantedAt]
            go_simp
            exact hK.out _ _ rfl (grown_refl _ _)
          case o6 =>
            go_light
            intro ac w' hgw
            have g2 := grown_trans hG.out (grown_trans (grown_drew (grown_refl wr none)) hgw)
            have hcx0w := ((gcell g2).1 b (off + k * 2) hbl.out).trans hcx0.out
            have hcx1w := ((gcell g2).1 b (off + k * 2 + 1) hbl.out).trans hcx1.out
            have hcy0w := ((gcell g2).1 b2 (off2 + k * 2) hb2l.out).trans hcy0.out
            have hcy1w := ((gcell g2).1 b2 (off2 + k * 2 + 1) hb2l.out).trans hcy1.out
            clear g2
            replace hgw := hid hgw
            simp only [outThen, preThen, slotIs, factAt, isv, List.getElem?_cons_zero, List.getElem?_cons_succ, Option.getD_some, forall_eq]
            intros
            rename_i hK
            replace hK := hid hK
            simp only [wantedAt]
            go_simp
            exact hK.out _ _ rfl (grown_refl _ _)
          case o7 =>
            go_light
            intro ac w' hgw
            have g2 := grown_trans hG.out (grown_trans (grown_drew (grown_refl wr none)) hgw)
            have hcx0w := ((gcell g2).1 b (off + k * 2) hbl.out).trans hcx0.out
            have hcx1w := ((gcell g2).1 b (off + k * 2 + 1) hbl.out).trans hcx1.out
            have hcy0w := ((gcell g2).1 b2 (off2 + k * 2) hb2l.out).trans hcy0.out
            have hcy1w := ((gcell g2).1 b2 (off2 + k * 2 + 1) hb2l.out).trans hcy1.out
            clear g2
            replace hgw := hid hgw
            simp only [outThen, preThen, slotIs, factAt, isv, List.getElem?_cons_zero, List.getElem?_cons_succ, Option.getD_some, forall_eq]
            intros
            rename_i hK
            replace hK := hid hK
            simp only [wantedAt]
            go_simp
            exact hK.out _ _ rfl (grown_refl _ _)
          case o8 =>
            go_light
            intro ac w' hgw
            have g2 := grown_trans hG.out (grown_trans (grown_drew (grown_refl wr none)) hgw)
            have hcx0w := ((gcell g2).1 b (off + k * 2) hbl.out).trans hcx0.out
            have hcx1w := ((gcell g2).1 b (off + k * 2 + 1) hbl.out).trans hcx1.out
            have hcy0w := ((gcell g2).1 b2 (off2 + k * 2) hb2l.out).trans hcy0.out
            have hcy1w := ((gcell g2).1 b2 (off2 + k * 2 + 1) hb2l.out).trans hcy1.out
            clear g2
            replace hgw := hid hgw
            simp only [outThen, preThen, slotIs, factAt, isv, List.getElem?_cons_zero, List.getElem?_cons_succ, Option.getD_some, forall_eq]
            intros
            rename_i hK
            replace hK := hid hK
            simp only [wantedAt]
            go_simp
            have hk := hK.out _ _ rfl (grown_refl _ _)
            by_cases e1 : x1 = y1
            · rw [if_pos e1]
              by_cases e2 : x2 = y2
              · rw [if_pos e2]
                rw [decide_eq_true (⟨e1, e2⟩ : x1 = y1 ∧ x2 = y2)] at hk
                exact hk
              · rw [if_neg e2]
                rw [decide_eq_false (fun h : x1 = y1 ∧ x2 = y2 => e2 h.2)] at hk
                exact hk
            · rw [if_neg e1]
              rw [decide_eq_false (fun h : x1 = y1 ∧ x2 = y2 => e1 h.1)] at hk
              exact hk
        case st =>
          repeat (first | exact AllStable.nil | (refine AllStable.cons ?_ ?_; focus (first | exact stable_isv _ | exact stable_isBytes _ | exact stable_isRow1 _ | exact stable_isRowOf _ _ | exact stable_isArrOf _)))
        case fin =>
          intro w3 hgw
          simp only [finalIn, factAt, isv, List.getElem?_cons_zero, List.getElem?_cons_succ, Option.getD_some, forall_eq, slotIs, subj]
          simp only [Act.put, List.setIfInBounds_toArray, List.set_cons_zero, List.set_cons_succ]
          have hG3 := hid (grown_trans hG.out (grown_trans (grown_drew (grown_refl wr none)) hgw))
          clear hgw hcx0 hcx1 hcy0 hcy1
          by_cases heq : x1 = y1 ∧ x2 = y2
          · have he := hid (show (x1, x2) = (y1, y2) by rw [heq.1, heq.2])
            rw [decide_eq_true heq]
            clear heq
            go_wp2_with fail
            go_roundw
            case rel => exact ⟨k + 1, by omega, by go_num, hG3.out, fun j hj => by
              by_cases hjk : j < k
              · exact hsame.out j hjk
              · obtain rfl : j = k := by omega
                exact hxs.out.trans (he.out.trans hys.out.symm)⟩
            case measure => simp [intOf]; omega
          · rw [decide_eq_false heq]
            have hne : Hid (¬ l = m) := fun h => heq (Prod.mk.inj (hxs.out.symm.trans ((congrArg (fun z : List Hit => z.getD k (0, 0)) h).trans hys.out)))
            clear heq
            go_wp2_with fail
            go_ret
            exact ⟨by show Ending.returned (Value.bool false) = _; simp [hne.out], hG3.out⟩
      · obtain rfl : k = l.length := by omega
        have heq : Hid (l = m) := hits_same hlen.out hsame.out
        replace hG := hid hG
        go_wp2_with fail
        go_ret
        exact ⟨by show Ending.returned (Value.bool true) = _; simp [heq.out], hG.out⟩
  · have hne : Hid (¬ l = m) := fun h => hlen (by rw [h])
    have hn' : ((l.length : Int) != (m.length : Int)) = true := by rw [bne_iff_ne]; omega
    replace hlen := hid hlen
    go_enter Try.func15, Try.ntmps15
    go_wp2_with fail
    go_ret
    exact ⟨by show Ending.returned (Value.bool false) = _; simp [hne.out], grown_refl _ _⟩

end Go.Proofs.Ytmahiodejhakpaa

namespace Go.Proofs.Ytmahiodejhakpaa
open Go.RowKit PlainLetter PlainPatset PlainOcc

/-- The first k rise. -/
theorem rise_take (ws : List (List Int)) (l : List Hit) (k : Nat) (h0 : 1 ≤ k) (hk : k < l.length) : rise ws (l.take (k + 1)) = (rise ws (l.take k) && less ws (l.getD (k - 1) (0, 0)) (l.getD k (0, 0))) := by
  rw [take_getD l k (0, 0) hk, rise_parts]
  have e : (l.take k).getLast? = some (l.getD (k - 1) (0, 0)) := by
    rw [List.getLast?_eq_getElem?, List.length_take, Nat.min_eq_left (by omega), List.getElem?_take, if_pos (by omega)]
    simp [List.getD, show k - 1 < l.length by omega]
  rw [e]
  simp [rise]

theorem rise_take_false (ws : List (List Int)) (l : List Hit) (k : Nat) (h : rise ws (l.take k) = false) : rise ws l = false := by
  have := rise_parts ws (l.take k) (l.drop k)
  rw [List.take_append_drop, h] at this
  simpa using this

theorem rise_one (ws : List (List Int)) (l : List Hit) (h : l.length ≤ 1) : rise ws l = true := by
  rcases l with _ | ⟨a, _ | ⟨b, l⟩⟩
  · rfl
  · rfl
  · simp at h
end Go.Proofs.Ytmahiodejhakpaa

namespace Go.Proofs.Ytmahiodejhakpaa
open Go.RowKit PlainLetter PlainPatset PlainOcc

theorem Try.hitInfo : (Try.prog.info? 35).map (fun i => (i.zero, i.size, i.bytes)) = some (some (.agg #[.int .i64 0, .int .i64 0]), 2, 16) := by kernel_rfl

/-- The cells of hits. -/
def hitCells : List Hit → List Value
  | [] => []
  | h :: l => .int .i64 h.1 :: .int .i64 h.2 :: hitCells l
theorem hitCells_len : ∀ l, (hitCells l).length = l.length * 2
  | [] => rfl
  | h :: l => by simp only [hitCells, List.length_cons, hitCells_len l]; omega
theorem hitCells_append : ∀ l m, hitCells (l ++ m) = hitCells l ++ hitCells m
  | [], m => rfl
  | h :: l, m => by simp only [hitCells, List.cons_append, hitCells_append l m]
theorem hitCells_get : ∀ (l : List Hit) (i : Nat), i < l.length → (hitCells l)[i * 2]? = some (.int .i64 (l.getD i (0, 0)).1) ∧ (hitCells l)[i * 2 + 1]? = some (.int .i64 (l.getD i (0, 0)).2)
  | [], i, h => by simp at h
  | a :: l, 0, _ => by simp [hitCells]
  | a :: l, i + 1, h => by
    have ih := hitCells_get l i (by simpa using h)
    have e1 : (i + 1) * 2 = i * 2 + 1 + 1 := by omega
    rw [e1]
    simp only [hitCells, List.getElem?_cons_succ]
    simpa using ih
theorem hitCells_one : ∀ (l : List Hit), ∀ u ∈ hitCells l, u.oneCell' = true
  | [], u, h => by simp [hitCells] at h
  | a :: l, u, h => by
    simp only [hitCells, List.mem_cons] at h
    rcases h with rfl | rfl | h
    · rfl
    · rfl
    · exact hitCells_one l u h

theorem hits_cells {w : World} {b off : Nat} {l : List Hit} (h : ∀ i, i < l.length → w.cell? ⟨b, off + i * 2, none⟩ = some (.int .i64 (l.getD i (0, 0)).1) ∧ w.cell? ⟨b, off + i * 2 + 1, none⟩ = some (.int .i64 (l.getD i (0, 0)).2)) (j : Nat) (u : Value) (hj : (hitCells l)[j]? = some u) : w.cell? ((⟨b, off, none⟩ : Addr).add j) = some u := by
  have hl : j < l.length * 2 := by rw [← hitCells_len]; exact (List.getElem?_eq_some_iff.1 hj).1
  rw [add_lit]
  obtain ⟨i, rfl | rfl⟩ : ∃ i, j = i * 2 ∨ j = i * 2 + 1 := ⟨j / 2, by omega⟩
  · have := (hitCells_get l i (by omega)).1
    rw [hj] at this
    rw [(h i (by omega)).1, this]
  · have := (hitCells_get l i (by omega)).2
    rw [hj] at this
    rw [← Nat.add_assoc, (h i (by omega)).2, this]

/-- Hits of the call's own. -/
def OwnHits (w : World) (base : Nat) (v : Value) (l : List Hit) : Prop := w.ownsRow base 35 2 v l.length (hitCells l)
theorem OwnHits.grown {w w' : World} {base : Nat} {v : Value} {l : List Hit} (h : OwnHits w base v l) (hg : w.grownBy w' none) : OwnHits w' base v l :=
  World.ownsRow.kept h hg (by cases v.ownBlock <;> simp)
theorem OwnHits.mono {w : World} {base base' : Nat} {v : Value} {l : List Hit} (h : OwnHits w base v l) (hb : base' ≤ base) : OwnHits w base' v l := own_mono h hb
theorem OwnHits.nil (w : World) (base : Nat) : OwnHits w base (.slice none 0 0) [] := World.ownsRow_nil _ _ _ _
theorem OwnHits.form {w : World} {base : Nat} {v : Value} {l : List Hit} (h : OwnHits w base v l) : ∃ A c, v = .slice A l.length c ∧ Hits w A l ∧ l.length ≤ c ∧ c ≤ maxLen := by
  obtain ⟨hl, h⟩ := h
  rcases h with ⟨rfl, h0⟩ | ⟨g, cap, cur, rfl, _, hg, hnc, hm, hs, ht⟩
  · obtain rfl : l = [] := List.eq_nil_of_length_eq_zero h0
    exact ⟨none, 0, rfl, Hits.nil _ _, by simp, by unfold maxLen; omega⟩
  · refine ⟨some ⟨g, 0, none⟩, cap, rfl, fun _ => ⟨g, 0, rfl, (Array.getElem?_eq_some_iff.1 hg).1, fun i hi => ?_⟩, hnc, hm⟩
    obtain ⟨h1, h2⟩ := hitCells_get l i hi
    rw [← ht, List.getElem?_take] at h1 h2
    rw [if_pos (by omega)] at h1 h2
    rw [cell_of_row w g (0 + i * 2) cur _ (0, 0) hg, cell_of_row w g (0 + i * 2 + 1) cur _ (0, 0) hg, Nat.zero_add]
    exact ⟨by simpa using h1, by simpa using h2⟩

variable {P : Program} {ops : Array Oper} {rest : List Oper} {o : Oper} {a : Act} {Q : Exit → Act → World → Prop}

/-- One hit more. -/
theorem wpList_push_hit (hgd : o.guard = none) (s x : Operand) (t : TypeId) (ho : o.op = .call { callee := .builtin .append, args := #[s, x], argTypes := #[t, t] })
    (base : Nat) (i : TypeInfo) (ht : P.underlying t = some (.slice 35)) (hi : P.info? 35 = some i) (hz : i.zero = some (.agg #[.int .i64 0, .int .i64 0])) (hsize : i.size = 2) (hby : i.bytes = 16)
    (v : Value) (l : List Hit) (y : Hit) (w : World) (hown : OwnHits w base v l) (hs : a.eval s = v)
    (hx : a.eval x = .slice (some ⟨w.heap.size, 0, none⟩) 1 1) (hlen : l.length ≤ 1099511627776) (hbase : base ≤ w.heap.size)
    (h : ∀ v' w', OwnHits w' base v' (l ++ [y]) → (w.alloc (.cells #[.int .i64 y.1, .int .i64 y.2] 35)).grownBy w' v.ownBlock → Below base w w' → wpList P ops Q rest (a.put o.dst v') w') :
    wpList P ops Q (o :: rest) a (w.alloc (.cells #[.int .i64 y.1, .int .i64 y.2] 35)) := by
  refine wpList_append_own (w.alloc (.cells #[.int .i64 y.1, .int .i64 y.2] 35)) hgd s x t ho base 35 i _ 2 16 ht hi hz hsize hby rfl (by decide) v l.length (hitCells l) hs (World.ownsRow.alloc hown _) ⟨w.heap.size, 0, none⟩ 1 1 (hitCells [y]) hx rfl
    ?_ (hitCells_one [y]) (by unfold maxLen; omega) (by omega) (by simp; omega) ?_
  · have hH : Holds (w.alloc (.cells #[.int .i64 y.1, .int .i64 y.2] 35)) w.heap.size 35 #[.int .i64 y.1, .int .i64 y.2] := Holds.new _ _ _
    refine hits_cells (off := 0) fun k hk => ?_
    have hk0 : k = 0 := by simpa using hk
    subst hk0
    exact ⟨by rw [hH.cell]; rfl, by rw [hH.cell]; rfl⟩
  · intro v' w' h1 h2 _
    refine h v' w' (by unfold OwnHits; rw [hitCells_append, List.length_append]; exact h1) h2 ?_
    exact ((Below.refl base w).alloc hbase _).trans (below_of_grown h2 (by simp; omega) (fun j hj => (World.ownsRow.lt hown j hj).1))

/-- All of another list. -/
theorem wpList_append_hits (hgd : o.guard = none) (s x : Operand) (t : TypeId) (ho : o.op = .call { callee := .builtin .append, args := #[s, x], argTypes := #[t, t] })
    (base : Nat) (i : TypeInfo) (ht : P.underlying t = some (.slice 35)) (hi : P.info? 35 = some i) (hz : i.zero = some (.agg #[.int .i64 0, .int .i64 0])) (hsize : i.size = 2) (hby : i.bytes = 16)
    (v : Value) (l m : List Hit) (A : Option Addr) (n c : Nat) (w : World) (hown : OwnHits w base v l) (hA : Hits w A m) (hs : a.eval s = v)
    (hx : a.eval x = .slice A n c) (hn : m.length = n) (hlen : l.length + m.length ≤ 1099511627776) (hbase : base ≤ w.heap.size)
    (h : ∀ v' w', OwnHits w' base v' (l ++ m) → w.grownBy w' v.ownBlock → Below base w w' → wpList P ops Q rest (a.put o.dst v') w') :
    wpList P ops Q (o :: rest) a w := by
  subst hn
  cases A with
  | none =>
    have hm : m = [] := by
      by_cases hz : m = []
      · exact hz
      · obtain ⟨_, _, h0, _⟩ := hA hz
        cases h0
    subst hm
    refine wpList_plain hgd fun K hK => ?_
    have hrun := run_append_nothing (P := P) w base t o.type 35 i 2 ht hi v l.length _ hown c
    unfold Oper.wp
    simp only [List.length_nil] at hx
    simp [execOp, ho, resolve, invoke, builtin, hs, hx, hrun, Result.andThen]
    exact hK _ _ (h v w (by simpa using hown) (grown_refl _ _) (Below.refl _ _))
  | some ad =>
    refine wpList_append_own w hgd s x t ho base 35 i _ 2 16 ht hi hz hsize hby rfl (by decide) v l.length (hitCells l) hs hown ad m.length c (hitCells m) hx (hitCells_len m)
      ?_ (hitCells_one m) (by unfold maxLen; omega) (by omega) hbase ?_
    · intro j u hj
      by_cases hm : m = []
      · subst hm; simp [hitCells] at hj
      · obtain ⟨b, off, h0, hb, hc⟩ := hA hm
        injection h0 with h0
        subst h0
        exact hits_cells hc j u hj
    · intro v' w' h1 h2 _
      refine h v' w' (by unfold OwnHits; rw [hitCells_append, List.length_append]; exact h1) h2 ?_
      exact below_of_grown h2 hbase (fun j hj => (World.ownsRow.lt hown j hj).1)

end Go.Proofs.Ytmahiodejhakpaa

namespace Go.Proofs.Ytmahiodejhakpaa
open Go.RowKit PlainLetter PlainPatset PlainOcc

theorem between_succ (low high : Int) (l : List Hit) (k : Nat) (h : k < l.length) : between low high (l.take (k + 1)) = between low high (l.take k) ++ (if low < (l.getD k (0, 0)).1 ∧ (l.getD k (0, 0)).1 ≤ high then [l.getD k (0, 0)] else []) := by
  rw [take_getD l k (0, 0) h]
  generalize l.getD k (0, 0) = x
  unfold between
  rw [List.filter_append]
  congr 1
  by_cases hx : low < x.1 ∧ x.1 ≤ high
  · rw [if_pos hx]; simp [hx]
  · rw [if_neg hx]; simpa using hx

theorem between_len (low high : Int) (l : List Hit) : (between low high l).length ≤ l.length := List.length_filter_le _ _

/-- A slice of slices of hits reads as these lists. -/
def HitRows (w : World) (A : Option Addr) (ls : List (List Hit)) : Prop :=
  ls ≠ [] → ∃ b off, A = some ⟨b, off, none⟩ ∧ b < w.heap.size ∧ ∀ i, i < ls.length → ∃ Ai ci, w.cell? ⟨b, off + i, none⟩ = some (.slice Ai (ls.getD i []).length ci) ∧ Hits w Ai (ls.getD i [])

theorem HitRows.at_ {w : World} {A : Option Addr} {ls : List (List Hit)} (h : HitRows w A ls) {i : Nat} (hi : i < ls.length) :
    ∃ b off Ai ci, A = some ⟨b, off, none⟩ ∧ b < w.heap.size ∧ w.cell? ⟨b, off + i, none⟩ = some (.slice Ai (ls.getD i []).length ci) ∧ Hits w Ai (ls.getD i []) := by
  obtain ⟨b, off, rfl, hb, hc⟩ := h (by intro e; subst e; simp at hi)
  obtain ⟨Ai, ci, h1, h2⟩ := hc i hi
  exact ⟨b, off, Ai, ci, rfl, hb, h1, h2⟩

theorem HitRows.grown {w w' : World} {A : Option Addr} {ls : List (List Hit)} (h : HitRows w A ls) (hg : w.grownBy w' none) : HitRows w' A ls := fun hz => by
  obtain ⟨b, off, rfl, hb, hc⟩ := h hz
  exact ⟨b, off, rfl, Nat.lt_of_lt_of_le hb hg.size, fun i hi => by
    obtain ⟨Ai, ci, h1, h2⟩ := hc i hi
    exact ⟨Ai, ci, ((gcell hg).1 b _ hb).trans h1, h2.grown hg⟩⟩

theorem flatten_take_le_hits (ls : List (List Hit)) (k : Nat) : (ls.take k).flatten.length ≤ ls.flatten.length := by
  have e : ls.flatten = (ls.take k).flatten ++ (ls.drop k).flatten := by rw [← List.flatten_append, List.take_append_drop]
  rw [e, List.length_append]; omega

theorem flatten_succ_hits (ls : List (List Hit)) (k : Nat) (h : k < ls.length) : (ls.take (k + 1)).flatten = (ls.take k).flatten ++ ls.getD k [] := by
  rw [take_getD ls k [] h]; simp
theorem Hits.drop {w : World} {A : Option Addr} {l : List Hit} (h : Hits w A l) {k c : Nat} (hc : l.length ≤ c) : Hits w (if c = k then A else A.map (fun x => x.add (k * 2))) (l.drop k) := fun hz => by
  have hk : k < l.length := by
    rcases Nat.lt_or_ge k l.length with h1 | h1
    · exact h1
    · exact absurd (List.drop_eq_nil_of_le h1) hz
  obtain ⟨b, off, rfl, hb, hcell⟩ := h.at_ hk
  rw [if_neg (by omega)]
  refine ⟨b, off + k * 2, by simp [add_lit], hb, fun j hj => ?_⟩
  simp only [List.length_drop] at hj
  have := hcell (k + j) (by omega)
  rw [show off + (k + j) * 2 = off + k * 2 + j * 2 by omega] at this
  simpa [List.getD] using this

end Go.Proofs.Ytmahiodejhakpaa

namespace Go.Proofs.Ytmahiodejhakpaa
open Go.RowKit PlainLetter PlainPatset PlainOcc

theorem here_le (f : Bool) (ws : List (List Int)) (text : List Int) (fr : Int) (place : Nat) : ∀ n, (here f ws text fr place n).length ≤ n
  | 0 => by simp [here]
  | n + 1 => by
    have ih := here_le f ws text fr place n
    unfold here
    split
    · rw [put_len]; omega
    · omega

theorem occTo_le (f : Bool) (ws : List (List Int)) (text : List Int) (fr : Int) : ∀ p, (occTo f ws text fr p).length ≤ p * ws.length
  | 0 => by simp [occTo]
  | p + 1 => by
    have ih := occTo_le f ws text fr p
    have h := here_le f ws text fr p ws.length
    unfold occTo
    rw [List.length_append, Nat.succ_mul]
    omega

theorem here_succ (f : Bool) (ws : List (List Int)) (text : List Int) (fr : Int) (place k : Nat) : here f ws text fr place (k + 1) = if stands f text place (ws.getD k []) = true then putHit ws (here f ws text fr place k) (fr + place, (k : Int)) else here f ws text fr place k := rfl

theorem occTo_succ (f : Bool) (ws : List (List Int)) (text : List Int) (fr : Int) (p : Nat) : occTo f ws text fr (p + 1) = occTo f ws text fr p ++ here f ws text fr p ws.length := rfl

/-- What all hits tell. -/
def OccTold (base : Nat) (f : Bool) (xss : List (List Int)) (text : List Int) (fr : Int) (v : Value) (w : World) : Prop :=
  if right f xss = true ∧ 0 ≤ fr ∧ fr ≤ 4611686018427387904 then ∃ u, v = .tuple #[u, .int .i64 0] ∧ OwnHits w base u (occ f xss text fr) else v = .tuple #[.slice none 0 0, .int .i64 2]
theorem right_full {f : Bool} {xss : List (List Int)} (h : right f xss = true) (k : Nat) (hk : k < xss.length) : xss.getD k [] ≠ [] := by
  have h1 := (decide_eq_true_iff.1 h).1
  intro e
  have hm : [] ∈ xss := by
    rw [← e]
    simp [List.getD, hk]
  unfold check at h1
  by_cases a1 : xss = []
  · rw [if_pos a1] at h1; omega
  rw [if_neg a1] at h1
  by_cases a2 : 64 < xss.length
  · rw [if_pos a2] at h1; omega
  rw [if_neg a2, if_pos ⟨[], hm, rfl⟩] at h1
  omega

end Go.Proofs.Ytmahiodejhakpaa
