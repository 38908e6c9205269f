/- Package sum: the iterator through all bytes of all parts, for a loop body that never breaks. -/
import Derived.Test.YtghnbfphhmgcpaaRefFeed
import Derived.Test.YtghnbfphhmgcpaaTally
import Derived.Shelf.Abstract
import Derived.Shelf.RegionOpen
import Derived.OwnWalkIn
import Derived.TacticsInMore
import Derived.LoopNIn
import Derived.LoopIn
import Derived.Outline
set_option linter.unusedSimpArgs false
set_option linter.unusedVariables false
set_option maxRecDepth 100000
namespace Go.Proofs.Ytghnbfphhmgcpaa
open Go.RowKit PlainSum Go.Shelf
attribute [local go_sem] Oper.semAt_some

theorem all_is (A : Option Addr) (n c : Nat) (w : World) : Calls Try.prog 51 #[.slice A n c] w fun e w' => e = .returned (.func (.func 60) #[] #[.pointer (some ⟨w.heap.size, 0, none⟩)]) ∧ w' = w.alloc (.cells #[.slice A n c] 22) := by
  have hmf : ∀ (fn : Fn) (first cap : Array Value) (w : World), (Instr.makeFunc fn first cap).run Try.prog w = .ok (.func fn first cap) w := fun _ _ _ _ => rfl
  go_enter Try.func51, Try.ntmps51
  go_wp2
  go_ret
  exact ⟨rfl, rfl⟩

set_option maxHeartbeats 1000000 in
theorem all_in (l bx : Nat) (P : Option Addr) (c : Nat) (xss : List (List Int)) (hS : Small xss) (w0 : World) (hA : Arrs w0 P xss) (J : List Int → World → Prop) (W0 : World)
    (hJs : ∀ pre W, J pre W → w0.grownBy W none ∧ Holds W bx 22 #[.slice P xss.length c])
    (hY : ∀ pre y W, J pre W → 0 ≤ y → y ≤ 255 → YieldAt Fence.wide 0 Try.prog l #[.int .u8 y] W (fun e W' => e = .returned (.bool true) ∧ J (pre ++ [y]) W'))
    (h0 : J [] W0) :
    CallsIn Fence.wide 0 Try.prog 60 #[.func (.yield l) #[] #[], .pointer (some ⟨bx, 0, none⟩)] W0 fun e W' => (∃ v, e = .returned v) ∧ J xss.flatten W' := by
  obtain ⟨hS1, hS2⟩ := hS
  replace hS2 := hid hS2
  replace hJs := hid hJs
  replace hY := hid hY
  replace hA := hid hA
  have hc0 := (hJs.out _ _ h0).2.cell 0
  simp at hc0
  refine callsIn_of_wp Try.func60 rfl trivial ?_ rfl
  simp only [Try.ntmps60, List.size_toArray, List.length_cons, List.length_nil, Nat.reduceAdd, Nat.reduceSub, Array.replicate_succ, Array.replicate_zero, List.push_toArray, List.append_toArray, List.nil_append, List.cons_append]
  gi_wp2
  gi_loopw [9] (fun i wr => ∃ k : Nat, k ≤ xss.length ∧ i = .int .i64 k ∧ J (xss.take k).flatten wr) (fun i _ => xss.length - (intOf i).toNat)
  case atStart => exact ⟨0, by omega, rfl, h0⟩
  case round =>
    clear hc0 h0
    obtain ⟨k, hk, rfl, hJ⟩ := hrel
    by_cases hlt : k < xss.length
    · obtain ⟨b, off, Ai, ci, rfl, hb, hcell0, hA0⟩ := hA.out.at_ hlt
      have hG0 := (hJs.out _ _ hJ).1
      have hcell := ((gcell hG0).1 b (off + k) hb).trans hcell0
      have hT := hid (congrArg List.flatten (take_getD xss k [] hlt))
      obtain ⟨hxl, hxb⟩ := hS2.out k
      replace hxb := hid hxb
      replace hA0 := hid hA0
      clear hcell0 hG0
      generalize hxs : xss.getD k [] = xs at hcell hA0 hT hxl hxb
      clear hxs
      gi_wp2
      obtain ⟨wo, rfl⟩ : ∃ wo : World, wo = wr := ⟨_, rfl⟩
      gi_loopw [15] (fun j wx => ∃ m : Nat, m ≤ xs.length ∧ j = .int .i64 m ∧ J ((xss.take k).flatten ++ xs.take m) wx) (fun j _ => xs.length - (intOf j).toNat)
      case atStart => exact ⟨0, by omega, rfl, by simpa using hJ⟩
      case round =>
        clear hJ hcell
        obtain ⟨m, hm, rfl, hJ⟩ := hrel
        by_cases hmt : m < xs.length
        · obtain ⟨b1, off1, rfl, hb1, hc⟩ := (hA0.out.grown (hJs.out _ _ hJ).1).at_ hmt
          have hck := hc m hmt
          obtain ⟨hy0, hy1⟩ := hxb.out m
          have hF := hid (show (xss.take k).flatten ++ xs.take (m + 1) = (xss.take k).flatten ++ xs.take m ++ [xs.getD m 0] by rw [take_getD xs m 0 hmt, List.append_assoc])
          clear hc
          have hy := hY.out _ (xs.getD m 0) _ hJ hy0 hy1
          generalize xs.getD m 0 = y at hck hy0 hy1 hF hy
          replace hJ := hid hJ
          obtain ⟨fn, tmps, assign, body, hyy, hR⟩ := hy
          gi_wp2
          refine ⟨rfl, hR.mono ?_⟩
          rintro e W2 ⟨rfl, hJ2⟩
          gi_wp2
          go_roundw
          case rel => exact ⟨m + 1, by omega, by go_num, by rw [hF.out]; exact hJ2⟩
          case measure => simp [intOf]; omega
        · obtain rfl : m = xs.length := by omega
          rw [List.take_length] at hJ
          gi_wp2
          go_roundw
          case rel => exact ⟨k + 1, by omega, by go_num, by rw [hT.out, List.flatten_append]; simpa using hJ⟩
          case measure => simp [intOf]; omega
    · obtain rfl : k = xss.length := by omega
      rw [List.take_length] at hJ
      gi_wp2
      go_end0
      exact ⟨⟨_, rfl⟩, hJ⟩
end Go.Proofs.Ytghnbfphhmgcpaa
