/- The document's own answer: are two sets the same?. Go's library: bytes.Equal, and slices.EqualFunc with it. -/
import Derived.Test.YtojbkhheaondhaaK14
import Derived.Test.YtojbkhheaondhaaK10
import Derived.Test.YtojbkhheaondhaaK8
import Derived.Deep.Light
set_option linter.unusedSimpArgs false
set_option linter.unusedVariables false
set_option maxRecDepth 100000
namespace Go.Proofs.Ytojbkhheaondhaa
open Go.RowKit PlainLetter PlainPatset

/-- A set of the call's own. -/
def SetOwn (base : Nat) (f : Bool) (ws : List (List Int)) (v : Value) (w : World) : Prop :=
  ∃ (A : Option Addr) (c : Nat) (l : List Sl), v = .agg #[.bool f, .slice A l.length c] ∧ l.map (·.2.1) = ws ∧ OwnRows w base (.slice A l.length c) l

theorem list_same {l m : List (List Int)} (hl : l.length = m.length) (h : ∀ k, k < l.length → l.getD k [] = m.getD k []) : l = m := by
  refine List.ext_getElem hl (fun i hi hi' => ?_)
  have := h i hi
  simpa [List.getD, hi, hi'] using this

set_option maxRecDepth 100000 in
set_option maxHeartbeats 2000000 in
theorem refSetSame_is (f g : Bool) (P Q : Option Addr) (c d : Nat) (xss yss : List (List Int)) (w : World) (hn : xss.length ≤ 100000) (hP : Arrs w P xss) (hQ : Arrs w Q yss) (hx : ∀ i, Bytes (xss.getD i [])) (hy : ∀ i, Bytes (yss.getD i [])) :
    Calls Try.prog 15 #[.agg #[.bool f, .slice P xss.length c], .agg #[.bool g, .slice Q yss.length d]] w fun e w' => e = .returned (.bool (decide (f = g ∧ xss = yss))) ∧ w.grownBy w' none := by
  replace hP := hid hP
  replace hQ := hid hQ
  replace hx := hid hx
  replace hy := hid hy
  by_cases hfg : f = g
  · subst hfg
    by_cases hlen : xss.length = yss.length
    · rw [← hlen]
      replace hlen := hid hlen
      have H1 : Holds ((w.alloc (.cells #[.bool f, .slice P xss.length c] 24)).alloc (.cells #[.bool f, .slice Q xss.length d] 24)) w.heap.size 24 #[.bool f, .slice P xss.length c] := (Holds.new _ _ _).alloc _
      have H2 : Holds ((w.alloc (.cells #[.bool f, .slice P xss.length c] 24)).alloc (.cells #[.bool f, .slice Q xss.length d] 24)) (w.heap.size + 1) 24 #[.bool f, .slice Q xss.length d] := by
        refine Holds.new_at _ _ ?_
        simp
      have hG0 : Hid (w.grownBy ((w.alloc (.cells #[.bool f, .slice P xss.length c] 24)).alloc (.cells #[.bool f, .slice Q xss.length d] 24)) none) := grown_alloc (grown_alloc (grown_refl w none) _) _
      go_enter Try.func15, Try.ntmps15
      go_upto_region 1 with fail
      obtain ⟨W0, hW0⟩ : ∃ W0, (w.alloc (.cells #[.bool f, .slice P xss.length c] 24)).alloc (.cells #[.bool f, .slice Q xss.length d] 24) = W0 := ⟨_, rfl⟩
      rw [hW0] at H1 H2 hG0 ⊢
      clear hW0
      obtain ⟨h, hh⟩ : ∃ h, w.heap.size = h := ⟨_, rfl⟩
      rw [hh] at H1 H2 ⊢
      replace hh := hid hh
      have c0 := H1.cell 0
      have c1 := H1.cell 1
      have d0 := H2.cell 0
      have d1 := H2.cell 1
      simp at c0 c1 d0 d1
      replace H1 := hid H1
      replace H2 := hid H2
      go_wp2_with fail
      go_loopw [5] (fun i wr => ∃ k : Nat, k ≤ xss.length ∧ i = .int .i64 k ∧ W0.grownBy wr none ∧ ∀ j, j < k → xss.getD j [] = yss.getD j []) (fun i _ => xss.length - (intOf i).toNat)
      case atStart => exact ⟨0, Nat.zero_le _, rfl, grown_refl _ _, fun j hj => absurd hj (Nat.not_lt_zero _)⟩
      case round =>
        clear c0 c1 d0 d1
        obtain ⟨k, hk0, rfl, hG, hsame⟩ := hrel
        replace hsame := hid hsame
        have K1 := H1.out.kept0 hG
        have K2 := H2.out.kept0 hG
        have c1 := K1.cell 1
        have d1 := K2.cell 1
        simp at c1 d1
        by_cases hlt : k < xss.length
        · obtain ⟨b, off, Ai, ci, rfl, hb0, hcell0, hAi⟩ := hP.out.at_ hlt
          obtain ⟨b2, off2, Bi, di, rfl, hb20, hcell20, hBi⟩ := hQ.out.at_ (i := k) (by rw [← hlen.out]; exact hlt)
          have hGw := grown_trans hG0.out hG
          have hcx := hid (((gcell hGw).1 b (off + k) hb0).trans hcell0)
          have hcy := hid (((gcell hGw).1 b2 (off2 + k) hb20).trans hcell20)
          have hbl : Hid (b < wr.heap.size) := Nat.lt_of_lt_of_le hb0 hGw.size
          have hb2l : Hid (b2 < wr.heap.size) := Nat.lt_of_lt_of_le hb20 hGw.size
          have hA1 := hid (hAi.grown hGw)
          have hB1 := hid (hBi.grown hGw)
          have hse := hid (str_eq (xss.getD k []) (yss.getD k []) (hx.out k) (hy.out k))
          have hl1 := hid K1.lt
          have hl2 := hid K2.lt
          have hc1 := hid c1
          have hd1 := hid d1
          replace hG := hid hG
          clear hcell0 hcell20 hAi hBi hb0 hb20 hGw K1 K2
          generalize hxs : xss.getD k [] = xs at hcx hA1 hse
          generalize hys : yss.getD k [] = ys at hcy hB1 hse
          replace hxs := hid hxs
          replace hys := hid hys
          have q0 : (0 : Int) ≤ (k : Int) := by omega
          have q1 : (k : Int) < (xss.length : Int) := by omega
          go_wp2_with fail
          apply wp_region_each [isv _, isv _, isv _, isv _, isv _, isv (.string (strOfNums xs)), isv _, isv _, isv _, isv _, isv _, isv (.string (strOfNums ys)), isv _]
            40 [some 27, some 28, some 29, some 30, some 31, some 32, some 33, some 34, some 35, some 36, some 37, some 38, some 39]
            [some 27, some 28, some 29, some 30, some 31, some 32, some 33, some 34, some 35, some 36, some 37, some 38, some 39]
            [[], [0], [], [1, 2], [3], [4], [], [6], [], [7, 8], [9], [10], [5, 11]]
            [(2, .pointer (some ⟨h, 0, none⟩)), (3, .pointer (some ⟨h + 1, 0, none⟩)), (5, .int .i64 k)] (by kernel_rfl) rfl (by kernel_rfl) rfl rfl (by kernel_rfl) (OutsOk.cons rfl rfl (OutsOk.cons rfl rfl (OutsOk.cons rfl rfl OutsOk.nil))) ?st ?ob ?fin
          case ob =>
            refine Obs.consv rfl ?o0 (Obs.consv rfl ?o1 (Obs.consv rfl ?o2 (Obs.consv rfl ?o3 (Obs.consv rfl ?o4 (Obs.consv rfl ?o5 (Obs.consv rfl ?o6 (Obs.consv rfl ?o7 (Obs.consv rfl ?o8 (Obs.consv rfl ?o9 (Obs.consv rfl ?o10 (Obs.consv rfl ?o11 (Obs.consv rfl ?o12 Obs.nil))))))))))))
            case o0 =>
              go_light
              intro ac w' hgw
              have hcxw := ((gcell hgw).1 b (off + k) hbl.out).trans hcx.out
              have hcyw := ((gcell hgw).1 b2 (off2 + k) hb2l.out).trans hcy.out
              have hc1w := ((gcell hgw).1 h 1 hl1.out).trans hc1.out
              have hd1w := ((gcell hgw).1 (h + 1) 1 hl2.out).trans hd1.out
              replace hgw := hid hgw
              simp only [outThen, preThen, slotIs, factAt, isv, List.getElem?_cons_zero, List.getElem?_cons_succ, Option.getD_some, forall_eq]
              intros
              rename_i hK
              replace hK := hid hK
              simp only [wantedAt]
              go_simp
              exact hK.out _ _ rfl (grown_refl _ _)
            case o1 =>
              go_light
              intro ac w' hgw
              have hcxw := ((gcell hgw).1 b (off + k) hbl.out).trans hcx.out
              have hcyw := ((gcell hgw).1 b2 (off2 + k) hb2l.out).trans hcy.out
              have hc1w := ((gcell hgw).1 h 1 hl1.out).trans hc1.out
              have hd1w := ((gcell hgw).1 (h + 1) 1 hl2.out).trans hd1.out
              replace hgw := hid hgw
              simp only [outThen, preThen, slotIs, factAt, isv, List.getElem?_cons_zero, List.getElem?_cons_succ, Option.getD_some, forall_eq]
              intros
              rename_i hK
              replace hK := hid hK
              simp only [wantedAt]
              go_simp
              exact hK.out _ _ rfl (grown_refl _ _)
            case o2 =>
              go_light
              intro ac w' hgw
              have hcxw := ((gcell hgw).1 b (off + k) hbl.out).trans hcx.out
              have hcyw := ((gcell hgw).1 b2 (off2 + k) hb2l.out).trans hcy.out
              have hc1w := ((gcell hgw).1 h 1 hl1.out).trans hc1.out
              have hd1w := ((gcell hgw).1 (h + 1) 1 hl2.out).trans hd1.out
              replace hgw := hid hgw
              simp only [outThen, preThen, slotIs, factAt, isv, List.getElem?_cons_zero, List.getElem?_cons_succ, Option.getD_some, forall_eq]
              intros
              rename_i hK
              replace hK := hid hK
              simp only [wantedAt]
              go_simp
              exact hK.out _ _ rfl (grown_refl _ _)
            case o3 =>
              go_light
              intro ac w' hgw
              have hcxw := ((gcell hgw).1 b (off + k) hbl.out).trans hcx.out
              have hcyw := ((gcell hgw).1 b2 (off2 + k) hb2l.out).trans hcy.out
              have hc1w := ((gcell hgw).1 h 1 hl1.out).trans hc1.out
              have hd1w := ((gcell hgw).1 (h + 1) 1 hl2.out).trans hd1.out
              replace hgw := hid hgw
              simp only [outThen, preThen, slotIs, factAt, isv, List.getElem?_cons_zero, List.getElem?_cons_succ, Option.getD_some, forall_eq]
              intros
              rename_i hK
              replace hK := hid hK
              simp only [wantedAt]
              go_simp
              exact hK.out _ _ rfl (grown_refl _ _)
            case o4 =>
              go_light
              intro ac w' hgw
              have hcxw := ((gcell hgw).1 b (off + k) hbl.out).trans hcx.out
              have hcyw := ((gcell hgw).1 b2 (off2 + k) hb2l.out).trans hcy.out
              have hc1w := ((gcell hgw).1 h 1 hl1.out).trans hc1.out
              have hd1w := ((gcell hgw).1 (h + 1) 1 hl2.out).trans hd1.out
              replace hgw := hid hgw
              simp only [outThen, preThen, slotIs, factAt, isv, List.getElem?_cons_zero, List.getElem?_cons_succ, Option.getD_some, forall_eq]
              intros
              rename_i hK
              replace hK := hid hK
              simp only [wantedAt]
              go_simp
              exact hK.out _ _ rfl (grown_refl _ _)
            case o5 =>
              go_light
              intro ac w' hgw
              have hcxw := ((gcell hgw).1 b (off + k) hbl.out).trans hcx.out
              have hcyw := ((gcell hgw).1 b2 (off2 + k) hb2l.out).trans hcy.out
              have hc1w := ((gcell hgw).1 h 1 hl1.out).trans hc1.out
              have hd1w := ((gcell hgw).1 (h + 1) 1 hl2.out).trans hd1.out
              replace hgw := hid hgw
              simp only [outThen, preThen, slotIs, factAt, isv, List.getElem?_cons_zero, List.getElem?_cons_succ, Option.getD_some, forall_eq]
              intros
              rename_i hK
              replace hK := hid hK
              have cv := conv_arr w' Ai ci xs ((hA1.out.grown (grown_drew (grown_refl wr none))).grown hgw.out)
              simp only [wantedAt]
              go_simp
              exact hK.out _ _ rfl (grown_refl _ _)
            case o6 =>
              go_light
              intro ac w' hgw
              have hcxw := ((gcell hgw).1 b (off + k) hbl.out).trans hcx.out
              have hcyw := ((gcell hgw).1 b2 (off2 + k) hb2l.out).trans hcy.out
              have hc1w := ((gcell hgw).1 h 1 hl1.out).trans hc1.out
              have hd1w := ((gcell hgw).1 (h + 1) 1 hl2.out).trans hd1.out
              replace hgw := hid hgw
              simp only [outThen, preThen, slotIs, factAt, isv, List.getElem?_cons_zero, List.getElem?_cons_succ, Option.getD_some, forall_eq]
              intros
              rename_i hK
              replace hK := hid hK
              simp only [wantedAt]
              go_simp
              exact hK.out _ _ rfl (grown_refl _ _)
            case o7 =>
              go_light
              intro ac w' hgw
              have hcxw := ((gcell hgw).1 b (off + k) hbl.out).trans hcx.out
              have hcyw := ((gcell hgw).1 b2 (off2 + k) hb2l.out).trans hcy.out
              have hc1w := ((gcell hgw).1 h 1 hl1.out).trans hc1.out
              have hd1w := ((gcell hgw).1 (h + 1) 1 hl2.out).trans hd1.out
              replace hgw := hid hgw
              simp only [outThen, preThen, slotIs, factAt, isv, List.getElem?_cons_zero, List.getElem?_cons_succ, Option.getD_some, forall_eq]
              intros
              rename_i hK
              replace hK := hid hK
              simp only [wantedAt]
              go_simp
              exact hK.out _ _ rfl (grown_refl _ _)
            case o8 =>
              go_light
              intro ac w' hgw
              have hcxw := ((gcell hgw).1 b (off + k) hbl.out).trans hcx.out
              have hcyw := ((gcell hgw).1 b2 (off2 + k) hb2l.out).trans hcy.out
              have hc1w := ((gcell hgw).1 h 1 hl1.out).trans hc1.out
              have hd1w := ((gcell hgw).1 (h + 1) 1 hl2.out).trans hd1.out
              replace hgw := hid hgw
              simp only [outThen, preThen, slotIs, factAt, isv, List.getElem?_cons_zero, List.getElem?_cons_succ, Option.getD_some, forall_eq]
              intros
              rename_i hK
              replace hK := hid hK
              simp only [wantedAt]
              go_simp
              exact hK.out _ _ rfl (grown_refl _ _)
            case o9 =>
              go_light
              intro ac w' hgw
              have hcxw := ((gcell hgw).1 b (off + k) hbl.out).trans hcx.out
              have hcyw := ((gcell hgw).1 b2 (off2 + k) hb2l.out).trans hcy.out
              have hc1w := ((gcell hgw).1 h 1 hl1.out).trans hc1.out
              have hd1w := ((gcell hgw).1 (h + 1) 1 hl2.out).trans hd1.out
              replace hgw := hid hgw
              simp only [outThen, preThen, slotIs, factAt, isv, List.getElem?_cons_zero, List.getElem?_cons_succ, Option.getD_some, forall_eq]
              intros
              rename_i hK
              replace hK := hid hK
              simp only [wantedAt]
              go_simp
              exact hK.out _ _ rfl (grown_refl _ _)
            case o10 =>
              go_light
              intro ac w' hgw
              have hcxw := ((gcell hgw).1 b (off + k) hbl.out).trans hcx.out
              have hcyw := ((gcell hgw).1 b2 (off2 + k) hb2l.out).trans hcy.out
              have hc1w := ((gcell hgw).1 h 1 hl1.out).trans hc1.out
              have hd1w := ((gcell hgw).1 (h + 1) 1 hl2.out).trans hd1.out
              replace hgw := hid hgw
              simp only [outThen, preThen, slotIs, factAt, isv, List.getElem?_cons_zero, List.getElem?_cons_succ, Option.getD_some, forall_eq]
              intros
              rename_i hK
              replace hK := hid hK
              simp only [wantedAt]
              go_simp
              exact hK.out _ _ rfl (grown_refl _ _)
            case o11 =>
              go_light
              intro ac w' hgw
              have hcxw := ((gcell hgw).1 b (off + k) hbl.out).trans hcx.out
              have hcyw := ((gcell hgw).1 b2 (off2 + k) hb2l.out).trans hcy.out
              have hc1w := ((gcell hgw).1 h 1 hl1.out).trans hc1.out
              have hd1w := ((gcell hgw).1 (h + 1) 1 hl2.out).trans hd1.out
              replace hgw := hid hgw
              simp only [outThen, preThen, slotIs, factAt, isv, List.getElem?_cons_zero, List.getElem?_cons_succ, Option.getD_some, forall_eq]
              intros
              rename_i hK
              replace hK := hid hK
              have cv := conv_arr w' Bi di ys ((hB1.out.grown (grown_drew (grown_refl wr none))).grown hgw.out)
              simp only [wantedAt]
              go_simp
              exact hK.out _ _ rfl (grown_refl _ _)
            case o12 =>
              go_light
              intro ac w' hgw
              have hcxw := ((gcell hgw).1 b (off + k) hbl.out).trans hcx.out
              have hcyw := ((gcell hgw).1 b2 (off2 + k) hb2l.out).trans hcy.out
              have hc1w := ((gcell hgw).1 h 1 hl1.out).trans hc1.out
              have hd1w := ((gcell hgw).1 (h + 1) 1 hl2.out).trans hd1.out
              replace hgw := hid hgw
              simp only [outThen, preThen, slotIs, factAt, isv, List.getElem?_cons_zero, List.getElem?_cons_succ, Option.getD_some, forall_eq]
              intros
              rename_i hK
              replace hK := hid hK
              simp only [wantedAt]
              go_simp
              exact hK.out _ _ rfl (grown_refl _ _)
          case st =>
            repeat (first | exact AllStable.nil | (refine AllStable.cons ?_ ?_; focus (first | exact stable_isv _ | exact stable_isBytes _ | exact stable_isRow1 _ | exact stable_isRowOf _ _ | exact stable_isArrOf _)))
          case fin =>
            intro w3 hgw
            simp only [finalIn, factAt, isv, List.getElem?_cons_zero, List.getElem?_cons_succ, Option.getD_some, forall_eq, slotIs, subj]
            simp only [Act.put, List.setIfInBounds_toArray, List.set_cons_zero, List.set_cons_succ]
            have hG3 := hid (grown_trans (grown_drew hG.out) hgw)
            clear hgw hcx hcy hA1 hB1
            have he := hse.out
            generalize strOfNums xs = sx at he ⊢
            generalize strOfNums ys = sy at he ⊢
            by_cases heq : xs = ys
            · rw [decide_eq_true heq] at he
              simp only [bne, he, Bool.not_true]
              replace he := hid he
              replace heq := hid heq
              go_wp2_with fail
              go_roundw
              case rel => exact ⟨k + 1, by omega, by go_num, hG3.out, fun j hj => by
                by_cases hjk : j < k
                · exact hsame.out j hjk
                · obtain rfl : j = k := by omega
                  exact hxs.out.trans (heq.out.trans hys.out.symm)⟩
              case measure => simp [intOf]; omega
            · rw [decide_eq_false heq] at he
              simp only [bne, he, Bool.not_false]
              replace he := hid he
              have hne : Hid (¬ xss = yss) := fun h => heq (by rw [← hxs.out, ← hys.out, h])
              replace heq := hid heq
              go_wp2_with fail
              go_ret
              exact ⟨by show Ending.returned (Value.bool false) = _; simp [hne.out], grown_trans hG0.out hG3.out⟩
        · obtain rfl : k = xss.length := by omega
          have heq : Hid (xss = yss) := list_same hlen.out hsame.out
          replace hG := hid hG
          clear K1 K2
          go_wp2_with fail
          go_ret
          exact ⟨by show Ending.returned (Value.bool true) = _; simp [heq.out], grown_trans hG0.out hG.out⟩
    · have hne : Hid (¬ xss = yss) := fun h => hlen (by rw [h])
      have hn' : ((xss.length : Int) != (yss.length : Int)) = true := by rw [bne_iff_ne]; omega
      replace hlen := hid hlen
      go_enter Try.func15, Try.ntmps15
      go_wp2_with fail
      go_ret
      exact ⟨by show Ending.returned (Value.bool false) = _; simp [hne.out], grown_alloc (grown_alloc (grown_refl w none) _) _⟩
  · have hne : Hid (decide (f = g ∧ xss = yss) = false) := decide_eq_false (fun h => hfg h.1)
    have hn' : (f != g) = true := by rw [bne_iff_ne]; exact hfg
    replace hfg := hid hfg
    go_enter Try.func15, Try.ntmps15
    go_wp2_with fail
    go_ret
    exact ⟨by rw [hne.out]; rfl, grown_alloc (grown_alloc (grown_refl w none) _) _⟩

end Go.Proofs.Ytojbkhheaondhaa

namespace Go.Proofs.Ytojbkhheaondhaa
open Go.RowKit PlainLetter

theorem bytesEqual_is (A B : Option Addr) (c d : Nat) (xs ys : List Int) (w : World) (hA : Arr w .u8 A xs) (hB : Arr w .u8 B ys) (hx : Bytes xs) (hy : Bytes ys) :
    Calls Try.prog 64 #[.slice A xs.length c, .slice B ys.length d] w fun e w' => e = .returned (.bool (decide (xs = ys))) ∧ w = w' := by
  have cx := conv_arr w A c xs hA
  have cy := conv_arr w B d ys hB
  have hse := str_eq xs ys hx hy
  generalize strOfNums xs = sx at cx hse
  generalize strOfNums ys = sy at cy hse
  generalize decide (xs = ys) = D at hse ⊢
  replace hse := hid hse
  clear hA hB hx hy
  go_enter Try.func64, Try.ntmps64
  go_wp2_with fail
  go_ret
  exact ⟨by rw [← hse.out]; rfl, rfl⟩

set_option maxHeartbeats 1000000 in
theorem equalFunc_is (A B : Option Addr) (c d : Nat) (xss yss : List (List Int)) (w : World) (hl : xss.length ≤ 9223372036854775807) (hA : Arrs w A xss) (hB : Arrs w B yss) (hx : ∀ i, Bytes (xss.getD i [])) (hy : ∀ i, Bytes (yss.getD i [])) :
    Calls Try.prog 63 #[.slice A xss.length c, .slice B yss.length d, .func (.func 64) #[] #[]] w fun e w' => e = .returned (.bool (decide (xss = yss))) ∧ w = w' := by
  replace hA := hid hA
  replace hB := hid hB
  replace hx := hid hx
  replace hy := hid hy
  by_cases hlen : xss.length = yss.length
  · rw [← hlen]
    replace hlen := hid hlen
    go_enter Try.func63, Try.ntmps63
    go_wp2_with fail
    go_loop [17] (fun i => ∃ k : Nat, k ≤ xss.length ∧ i = .int .i64 k ∧ ∀ j, j < k → xss.getD j [] = yss.getD j []) (fun i => xss.length - (intOf i).toNat)
    case atStart => exact ⟨0, Nat.zero_le _, rfl, fun j hj => absurd hj (Nat.not_lt_zero _)⟩
    case round =>
      obtain ⟨k, hk0, rfl, hsame⟩ := hrel
      replace hsame := hid hsame
      by_cases hlt : k < xss.length
      · obtain ⟨b, off, Ai, ci, rfl, hb0, hcx, hAi⟩ := hA.out.at_ hlt
        obtain ⟨b2, off2, Bi, di, rfl, hb20, hcy, hBi⟩ := hB.out.at_ (i := k) (by rw [← hlen.out]; exact hlt)
        have key := bytesEqual_is Ai Bi ci di (xss.getD k []) (yss.getD k []) w hAi hBi (hx.out k) (hy.out k)
        generalize hxs : xss.getD k [] = xs at hcx key
        generalize hys : yss.getD k [] = ys at hcy key
        replace hxs := hid hxs
        replace hys := hid hys
        replace key := hid key
        clear hAi hBi
        have q0 : (0 : Int) ≤ (k : Int) := by omega
        have q1 : (k : Int) < (xss.length : Int) := by omega
        by_cases heq : xs = ys
        · rw [decide_eq_true heq] at key
          replace heq := hid heq
          go_wp2_with fail
          refine key.out.mono ?_
          rintro e w' ⟨rfl, rfl⟩
          go_wp2_with fail
          go_round
          case rel => exact ⟨k + 1, by omega, by go_num, fun j hj => by
              by_cases hjk : j < k
              · exact hsame.out j hjk
              · obtain rfl : j = k := by omega
                exact hxs.out.trans (heq.out.trans hys.out.symm)⟩
          case measure => simp [intOf]; omega
        · rw [decide_eq_false heq] at key
          have hne : Hid (decide (xss = yss) = false) := decide_eq_false (fun h => heq (by rw [← hxs.out, ← hys.out, h]))
          replace heq := hid heq
          go_wp2_with fail
          refine key.out.mono ?_
          rintro e w' ⟨rfl, rfl⟩
          go_wp2_with fail
          go_ret
          exact ⟨by rw [hne.out]; rfl, rfl⟩
      · obtain rfl : k = xss.length := by omega
        have heq : Hid (decide (xss = yss) = true) := decide_eq_true (list_same hlen.out hsame.out)
        go_wp2_with fail
        go_ret
        exact ⟨by rw [heq.out]; rfl, rfl⟩
  · have hne : Hid (decide (xss = yss) = false) := decide_eq_false (fun h => hlen (by rw [h]))
    have hn : ((xss.length : Int) == (yss.length : Int)) = false := by rw [beq_eq_false_iff_ne]; omega
    have hn' : ((xss.length : Int) != (yss.length : Int)) = true := by rw [bne_iff_ne]; omega
    replace hlen := hid hlen
    go_enter Try.func63, Try.ntmps63
    go_wp2_with fail
    go_ret
    exact ⟨by rw [hne.out]; rfl, rfl⟩

end Go.Proofs.Ytojbkhheaondhaa
