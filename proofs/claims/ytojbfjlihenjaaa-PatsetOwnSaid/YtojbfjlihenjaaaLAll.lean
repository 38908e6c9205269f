/- Package letter: the iterator through all bytes of all texts, for a loop body that never breaks. -/
import Derived.Test.YtojbfjlihenjaaaLAlike
import Derived.Test.YtojbfjlihenjaaaCollect
set_option linter.unusedSimpArgs false
set_option linter.unusedVariables false
namespace Go.Proofs.Ytojbfjlihenjaaa
open Go.RowKit PlainLetter Go.Shelf
attribute [local go_sem] Oper.semAt_some

set_option maxHeartbeats 1000000 in
theorem letAll_in (l bx : Nat) (P : Option Addr) (c : Nat) (As : Nat → Option Addr) (Cs : Nat → Nat) (xss : List (List Int)) (hn : xss.length ≤ 100000) (hS : ∀ k, (xss.getD k []).length ≤ 100000) (J : List Int → World → Prop) (W0 : World)
    (hJs : ∀ pre W, J pre W → RowsAt W P As Cs xss ∧ Holds W bx 22 #[.slice P xss.length c])
    (hY : ∀ pre y W, J pre W → pre.length < xss.flatten.length → (∃ k m, y = (xss.getD k []).getD m 0) → YieldAt Fence.wide 0 Try.prog l #[.int .u8 y] W (fun e W' => e = .returned (.bool true) ∧ J (pre ++ [y]) W'))
    (h0 : J [] W0) :
    CallsIn Fence.wide 0 Try.prog 63 #[.func (.yield l) #[] #[], .pointer (some ⟨bx, 0, none⟩)] W0 fun e W' => (∃ v, e = .returned v) ∧ J xss.flatten W' := by
  replace hS := hid hS
  replace hJs := hid hJs
  replace hY := hid hY
  have hc0 := (hJs.out _ _ h0).2.cell 0
  simp at hc0
  refine callsIn_of_wp Try.func63 rfl trivial ?_ rfl
  simp only [Try.ntmps63, List.size_toArray, List.length_cons, List.length_nil, Nat.reduceAdd, Nat.reduceSub, Array.replicate_succ, Array.replicate_zero, List.push_toArray, List.append_toArray, List.nil_append, List.cons_append]
  gi_wp2
  gi_loopw [9] (fun i wr => ∃ k : Nat, k ≤ xss.length ∧ i = .int .i64 k ∧ J (xss.take k).flatten wr) (fun i _ => xss.length - (intOf i).toNat)
  case atStart => exact ⟨0, by omega, rfl, h0⟩
  case round =>
    clear hc0 h0
    obtain ⟨k, hk, rfl, hJ⟩ := hrel
    by_cases hlt : k < xss.length
    · obtain ⟨b, off, rfl, hb, hcell, _⟩ := (hJs.out _ _ hJ).1 k hlt
      have hrow : Hid (∀ pre W, J pre W → Arr W .u8 (As k) (xss.getD k [])) := fun pre W h => by
        obtain ⟨_, _, _, _, _, h4⟩ := (hJs.out _ _ h).1 k hlt
        exact h4
      have hT := hid (congrArg List.flatten (take_getD xss k [] hlt))
      have hxl := hS.out k
      have hle : Hid ((xss.take k).flatten.length + (xss.getD k []).length ≤ xss.flatten.length) := by
        have h1 := congrArg (fun l => (List.flatten l).length) (List.take_append_drop (k + 1) xss)
        rw [List.flatten_append, List.length_append, hT.out, List.flatten_append, List.length_append] at h1
        simp only [List.flatten_cons, List.flatten_nil, List.append_nil] at h1
        exact hid (by omega)
      generalize hxs : xss.getD k [] = xs at hcell hrow hT hxl hle
      replace hxs := hid hxs
      gi_wp2
      obtain ⟨wo, rfl⟩ : ∃ wo : World, wo = wr := ⟨_, rfl⟩
      gi_loopw [15] (fun j wx => ∃ m : Nat, m ≤ xs.length ∧ j = .int .i64 m ∧ J ((xss.take k).flatten ++ xs.take m) wx) (fun j _ => xs.length - (intOf j).toNat)
      case atStart => exact ⟨0, by omega, rfl, by simpa using hJ⟩
      case round =>
        clear hJ hcell
        obtain ⟨m, hm, rfl, hJ⟩ := hrel
        by_cases hmt : m < xs.length
        · obtain ⟨b1, off1, hb0, hb1, hc⟩ := (hrow.out _ _ hJ).at_ hmt
          have hck := hc m hmt
          have hF := hid (show (xss.take k).flatten ++ xs.take (m + 1) = (xss.take k).flatten ++ xs.take m ++ [xs.getD m 0] by rw [take_getD xs m 0 hmt, List.append_assoc])
          clear hc
          have hy := hY.out _ (xs.getD m 0) _ hJ (by have := hle.out; rw [List.length_append, List.length_take]; omega) ⟨k, m, by rw [hxs.out]⟩
          generalize xs.getD m 0 = y at hck hF hy
          replace hJ := hid hJ
          replace hb0 := hid hb0
          obtain ⟨fn, tmps, assign, body, hyy, hR⟩ := hy
          rw [hb0.out]
          gi_wp2
          refine ⟨rfl, hR.mono ?_⟩
          rintro e W2 ⟨rfl, hJ2⟩
          gi_wp2
          go_roundw
          case rel => exact ⟨m + 1, by omega, by go_num, by rw [hF.out]; exact hJ2⟩
          case measure => simp [intOf]; omega
        · obtain rfl : m = xs.length := by omega
          rw [List.take_length] at hJ
          gi_wp2
          go_roundw
          case rel => exact ⟨k + 1, by omega, by go_num, by rw [hT.out, List.flatten_append]; simpa using hJ⟩
          case measure => simp [intOf]; omega
    · obtain rfl : k = xss.length := by omega
      rw [List.take_length] at hJ
      gi_wp2
      go_end0
      exact ⟨⟨_, rfl⟩, hJ⟩
end Go.Proofs.Ytojbfjlihenjaaa
