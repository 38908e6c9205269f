/- The document's own answer: bytes with their sum behind them. -/
import Derived.Test.YtghnbfphhmgcpaaPHead
import Derived.Maps.AppendAt
set_option linter.unusedSimpArgs false
set_option linter.unusedVariables false
set_option maxRecDepth 100000
namespace Go.Proofs.Ytghnbfphhmgcpaa
open Go.RowKit Plain PlainSum PlainPacked

set_option maxRecDepth 100000 in
set_option maxHeartbeats 1000000 in
theorem refSummed_is (A : Option Addr) (c : Nat) (bs : List Int) (w : World) (hl : bs.length ≤ 100000) (hb : Bytes bs) (hA : Arr w .u8 A bs) :
    Calls Try.prog 19 #[.slice A bs.length c] w (Owns (summed bs) w) := by
  obtain ⟨i0, hi0, hz0, hz1, hz2⟩ := info_parts Try.info5
  have hrow0 : (w.alloc (.cells #[] 5)).ownsRow w.heap.size 5 1 (.slice (some ⟨w.heap.size, 0, none⟩) 0 0) ([] : List Int).length (([] : List Int).map (Value.int .u8)) :=
    World.ownsRow_made w #[] 0 (Nat.le_refl _) (by simp) (by simp)
  have hA1 := hid (hA.grown (World.grownBy_alloc w (.cells #[] 5) none))
  replace hrow0 := hid hrow0
  replace hA := hid hA
  go_enter Try.func19, Try.ntmps19
  go_upto_region 2 with (at_builtin; refine wpList_append_all rfl _ _ 23 rfl w.heap.size 5 i0 .u8 1 Try.underlying23 hi0 hz0 hz1 hz2 _ [] bs _ _ _ (w.alloc (.cells #[] 5)) hrow0.out hA1.out rfl rfl rfl (by decide) (by simp; omega) (by simp) ?_; intro v' w1 hrow1 hB1)
  rw [List.nil_append] at hrow1
  have hB : Below w.heap.size w w1 := ((Below.refl _ w).alloc (Nat.le_refl _) (.cells #[] 5)).trans hB1
  have hG1 := hid (below_grown hB)
  replace hrow1 := hid hrow1
  replace hB := hid hB
  clear hB1 hA1 hrow0
  go_wp2_with fail
  have hS : Small [bs] := ⟨by simp, fun i => by
    rcases i with _ | i
    · exact ⟨by simp; omega, hb⟩
    · exact ⟨by simp, fun k => by simp⟩⟩
  refine (refOf_is _ 1 [bs] _ (one_new (c := c) (hA.out.grown hG1.out)) hS).mono ?_
  rintro e w2 ⟨rfl, hg⟩
  have hfl : Hid ([bs].flatten = bs) := hid (by simp)
  rw [hfl.out]
  have hg2 := hid (grown_trans (grown_alloc (grown_refl w1 none) _) hg)
  clear hg hS
  have hv := value_bd (feed first bs)
  go_wp2_with fail
  refine (refFour_is _ _ hv.1 hv.2).mono ?_
  rintro e w3 ⟨X, cx, rfl, hcx, hmx, hX, hg⟩
  have hg3 := hid (grown_trans hg2.out hg)
  clear hg hg2
  have hrow3 := hrow1.out.kept hg3.out (by
    cases hv' : v'.ownBlock with
    | none => exact .inl rfl
    | some j => exact .inr (by simp))
  have hsz : w.heap.size ≤ w3.heap.size := Nat.le_trans hB.out.size hg3.out.size
  have hB3 := hid (hB.out.trans (below_of_grown hg3.out hB.out.size (fun j hj => by cases hj)))
  have hl4 : (four (value (feed first bs))).length = 4 := rfl
  rw [hl4]
  have hsum : Hid (summed bs = bs ++ four (value (feed first bs))) := hid rfl
  generalize hff : four (value (feed first bs)) = ff at hX hl4 hsum
  replace hl4 := hid hl4
  go_wp2_with (at_builtin; refine wpList_append_all rfl _ _ 23 rfl w.heap.size 5 i0 .u8 1 Try.underlying23 hi0 hz0 hz1 hz2 _ bs ff _ _ _ _ hrow3 hX rfl rfl hl4.out (by decide) (by rw [hl4.out]; omega) hsz ?_; intro v2 w4 hrow4 hB4)
  go_ret
  exact ⟨v2, rfl, by rw [hsum.out]; exact hrow4, hB3.out.trans hB4⟩

end Go.Proofs.Ytghnbfphhmgcpaa
