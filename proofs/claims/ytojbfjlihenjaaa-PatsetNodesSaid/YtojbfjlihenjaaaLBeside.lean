/- Package letter: two texts side by side, for a loop body that may stop; are they the same? -/
import Derived.Test.YtojbfjlihenjaaaLAlike
set_option linter.unusedSimpArgs false
set_option linter.unusedVariables false
namespace Go.Proofs.Ytojbfjlihenjaaa
open Go.RowKit PlainLetter Go.Shelf
attribute [local go_sem] Oper.semAt_some

set_option maxHeartbeats 1000000 in
theorem beside_in (l bx by_ : Nat) (A B : Option Addr) (c d : Nat) (xs ys : List Int) (hl : xs.length = ys.length) (hx : xs.length ≤ 100000) (w0 : World) (hA : Arr w0 .u8 A xs) (hB : Arr w0 .u8 B ys) (J : Nat → World → Prop) (Jx : World → Prop) (W0 : World)
    (hJs : ∀ i W, J i W → w0.grownBy W none ∧ Holds W bx 81 #[.slice A xs.length c] ∧ Holds W by_ 25 #[.slice B ys.length d])
    (hY : ∀ i W, J i W → i < xs.length → YieldAt Fence.wide 0 Try.prog l #[.int .u8 (xs.getD i 0), .int .u8 (ys.getD i 0)] W (fun e W' => (e = .returned (.bool true) ∧ J (i + 1) W') ∨ (e = .returned (.bool false) ∧ Jx W')))
    (h0 : J 0 W0) :
    CallsIn Fence.wide 0 Try.prog 67 #[.func (.yield l) #[] #[], .pointer (some ⟨bx, 0, none⟩), .pointer (some ⟨by_, 0, none⟩)] W0 fun e W' => (∃ v, e = .returned v) ∧ (J xs.length W' ∨ Jx W') := by
  replace hJs := hid hJs
  replace hY := hid hY
  replace hA := hid hA
  replace hB := hid hB
  replace hl := hid hl
  have hc0 := (hJs.out _ _ h0).2.1.cell 0
  simp at hc0
  refine callsIn_of_wp Try.func67 rfl trivial ?_ rfl
  simp only [Try.ntmps67, List.size_toArray, List.length_cons, List.length_nil, Nat.reduceAdd, Nat.reduceSub, Array.replicate_succ, Array.replicate_zero, List.push_toArray, List.append_toArray, List.nil_append, List.cons_append]
  gi_wp2
  gi_loopw [9] (fun i wr => ∃ k : Nat, k ≤ xs.length ∧ i = .int .i64 k ∧ J k wr) (fun i _ => xs.length - (intOf i).toNat)
  case atStart => exact ⟨0, by omega, rfl, h0⟩
  case round =>
    clear hc0 h0
    obtain ⟨k, hk, rfl, hJ⟩ := hrel
    by_cases hlt : k < xs.length
    · obtain ⟨hG0, hX, hY0⟩ := hJs.out _ _ hJ
      have hdb := hY0.cell 0
      simp at hdb
      obtain ⟨b1, off1, rfl, hb1, hc1⟩ := (hA.out.grown hG0).at_ hlt
      obtain ⟨b2, off2, rfl, hb2, hc2⟩ := (hB.out.grown hG0).at_ (i := k) (by rw [← hl.out]; exact hlt)
      have hca := hc1 k hlt
      have hcb := hc2 k (by rw [← hl.out]; exact hlt)
      have hylt : (k : Int) < (ys.length : Int) := by have := hl.out; omega
      have hy := hY.out k _ hJ hlt
      clear hc1 hc2 hG0 hX hY0
      generalize xs.getD k 0 = x at hca hy
      generalize ys.getD k 0 = y at hcb hy
      replace hJ := hid hJ
      obtain ⟨fn, tmps, assign, body, hyy, hR⟩ := hy
      gi_wp2
      refine ⟨rfl, hR.mono ?_⟩
      rintro e W2 (⟨rfl, hJ2⟩ | ⟨rfl, hJ2⟩)
      · gi_wp2
        go_roundw
        case rel => exact ⟨k + 1, by omega, by go_num, hJ2⟩
        case measure => simp [intOf]; omega
      · gi_wp2
        refine bodyPost_ret (results_none rfl _ _ _) rfl ?_
        exact ⟨⟨_, rfl⟩, .inr hJ2⟩
    · obtain rfl : k = xs.length := by omega
      gi_wp2
      go_end0
      exact ⟨⟨_, rfl⟩, .inl hJ⟩
end Go.Proofs.Ytojbfjlihenjaaa
