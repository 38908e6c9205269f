/- Go's library: bytes.Equal, and slices.EqualFunc with it. -/
import Derived.Test.YtojbfjlihenjaaaQSame
set_option linter.unusedSimpArgs false
set_option linter.unusedVariables false
set_option maxRecDepth 100000
namespace Go.Proofs.Ytojbfjlihenjaaa
open Go.RowKit PlainLetter

theorem bytesEqual_is (A B : Option Addr) (c d : Nat) (xs ys : List Int) (w : World) (hA : Arr w .u8 A xs) (hB : Arr w .u8 B ys) (hx : Bytes xs) (hy : Bytes ys) :
    Calls Try.prog 39 #[.slice A xs.length c, .slice B ys.length d] w fun e w' => e = .returned (.bool (decide (xs = ys))) ∧ w = w' := by
  have cx := conv_arr w A c xs hA
  have cy := conv_arr w B d ys hB
  have hse := str_eq xs ys hx hy
  generalize strOfNums xs = sx at cx hse
  generalize strOfNums ys = sy at cy hse
  generalize decide (xs = ys) = D at hse ⊢
  replace hse := hid hse
  clear hA hB hx hy
  go_enter Try.func39, Try.ntmps39
  go_wp2_with fail
  go_ret
  exact ⟨by rw [← hse.out]; rfl, rfl⟩

set_option maxHeartbeats 1000000 in
theorem equalFunc_is (A B : Option Addr) (c d : Nat) (xss yss : List (List Int)) (w : World) (hl : xss.length ≤ 9223372036854775807) (hA : Arrs w A xss) (hB : Arrs w B yss) (hx : ∀ i, Bytes (xss.getD i [])) (hy : ∀ i, Bytes (yss.getD i [])) :
    Calls Try.prog 38 #[.slice A xss.length c, .slice B yss.length d, .func (.func 39) #[] #[]] w fun e w' => e = .returned (.bool (decide (xss = yss))) ∧ w = w' := by
  replace hA := hid hA
  replace hB := hid hB
  replace hx := hid hx
  replace hy := hid hy
  by_cases hlen : xss.length = yss.length
  · rw [← hlen]
    replace hlen := hid hlen
    go_enter Try.func38, Try.ntmps38
    go_wp2_with fail
    go_loop [17] (fun i => ∃ k : Nat, k ≤ xss.length ∧ i = .int .i64 k ∧ ∀ j, j < k → xss.getD j [] = yss.getD j []) (fun i => xss.length - (intOf i).toNat)
    case atStart => exact ⟨0, Nat.zero_le _, rfl, fun j hj => absurd hj (Nat.not_lt_zero _)⟩
    case round =>
      obtain ⟨k, hk0, rfl, hsame⟩ := hrel
      replace hsame := hid hsame
      by_cases hlt : k < xss.length
      · obtain ⟨b, off, Ai, ci, rfl, hb0, hcx, hAi⟩ := hA.out.at_ hlt
        obtain ⟨b2, off2, Bi, di, rfl, hb20, hcy, hBi⟩ := hB.out.at_ (i := k) (by rw [← hlen.out]; exact hlt)
        have key := bytesEqual_is Ai Bi ci di (xss.getD k []) (yss.getD k []) w hAi hBi (hx.out k) (hy.out k)
        generalize hxs : xss.getD k [] = xs at hcx key
        generalize hys : yss.getD k [] = ys at hcy key
        replace hxs := hid hxs
        replace hys := hid hys
        replace key := hid key
        clear hAi hBi
        have q0 : (0 : Int) ≤ (k : Int) := by omega
        have q1 : (k : Int) < (xss.length : Int) := by omega
        by_cases heq : xs = ys
        · rw [decide_eq_true heq] at key
          replace heq := hid heq
          go_wp2_with fail
          refine key.out.mono ?_
          rintro e w' ⟨rfl, rfl⟩
          go_wp2_with fail
          go_round
          case rel => exact ⟨k + 1, by omega, by go_num, fun j hj => by
              by_cases hjk : j < k
              · exact hsame.out j hjk
              · obtain rfl : j = k := by omega
                exact hxs.out.trans (heq.out.trans hys.out.symm)⟩
          case measure => simp [intOf]; omega
        · rw [decide_eq_false heq] at key
          have hne : Hid (decide (xss = yss) = false) := decide_eq_false (fun h => heq (by rw [← hxs.out, ← hys.out, h]))
          replace heq := hid heq
          go_wp2_with fail
          refine key.out.mono ?_
          rintro e w' ⟨rfl, rfl⟩
          go_wp2_with fail
          go_ret
          exact ⟨by rw [hne.out]; rfl, rfl⟩
      · obtain rfl : k = xss.length := by omega
        have heq : Hid (decide (xss = yss) = true) := decide_eq_true (list_same hlen.out hsame.out)
        go_wp2_with fail
        go_ret
        exact ⟨by rw [heq.out]; rfl, rfl⟩
  · have hne : Hid (decide (xss = yss) = false) := decide_eq_false (fun h => hlen (by rw [h]))
    have hn : ((xss.length : Int) == (yss.length : Int)) = false := by rw [beq_eq_false_iff_ne]; omega
    have hn' : ((xss.length : Int) != (yss.length : Int)) = true := by rw [bne_iff_ne]; omega
    replace hlen := hid hlen
    go_enter Try.func38, Try.ntmps38
    go_wp2_with fail
    go_ret
    exact ⟨by rw [hne.out]; rfl, rfl⟩

end Go.Proofs.Ytojbfjlihenjaaa
