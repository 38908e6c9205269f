/- The walk of the law DigitSize: it returns true at every input. -/
import Derived.Test.YtdpdomdgmehomaaWakes
import Derived.Test.YtdpdomdgmehomaaAdd
set_option linter.unusedVariables false
namespace Go.Proofs.Ytdpdomdgmehomaa
open Go.RowKit Plain

set_option maxHeartbeats 400000 in
theorem lawSize_no (n : Int) (w : World) (h : n < 0 ∨ 2147483647 < n) : Calls Try.prog 6 #[.int .i64 n] w fun e w' => e = .returned (.bool true) ∧ w.grownBy w' none := by
  have ht : toldB [n] = false := by simp [toldB]; omega
  have htt := hid ht
  have hh := hid h
  clear ht
  rcases h with h | h
  all_goals
    go_enter Try.func6, Try.ntmps6
    go_wp2_with fail
    refine (Put_no n w hh.out).mono ?_
    rintro e w1 ⟨A, c, rfl, _, _, _, hg⟩
    go_wp2_with fail
    refine (Size_no (some ⟨w1.heap.size, 0, none⟩) 1 [n] (w1.alloc (.cells #[.int .i64 n] 3)) (Arr.new1 w1 .i64 n 3) (by simp) htt.out).mono ?_
    rintro e w2 ⟨rfl, rfl⟩
    go_wp2_with (go_at_call 7; refine (wakes_any _).mono ?_; rintro e w' ⟨rfl, hg2⟩)
    go_ret
    exact ⟨rfl, grown_trans (grown_trans hg (World.grownBy_alloc _ _ _)) hg2⟩

/-- The last byte has not its highest bit. -/
theorem enc_last (n : Nat) : ∀ i, i + 1 = (enc n).length → (enc n).getD i 0 < 128 := by
  induction n using Nat.strongRecOn with
  | _ n ih =>
    intro i hi
    by_cases h : n < 128
    · rw [enc_small n h] at hi ⊢
      obtain rfl : i = 0 := by simpa using hi
      simp; omega
    · rw [enc_big n (by omega)] at hi ⊢
      have hp := enc_pos (n / 128)
      cases i with
      | zero => rw [List.length_cons] at hi; omega
      | succ i => simpa using ih (n / 128) (by omega) i (by simpa using hi)

/-- How many bytes are still to be counted. -/
def restLen (m : Nat) : Nat := if 0 < m then (enc m).length else 0

theorem restLen_step (m : Nat) (h : 0 < m) : restLen m = restLen (m / 128) + 1 := by
  unfold restLen
  rw [if_pos h]
  by_cases h1 : m < 128
  · rw [enc_small m h1, if_neg (by omega)]; rfl
  · rw [enc_big m (by omega), if_pos (by omega)]; rfl

theorem enc_len_rest (n : Nat) : (enc n).length = restLen (n / 128) + 1 := by
  by_cases h : 0 < n
  · have := restLen_step n h
    unfold restLen at this ⊢
    rw [if_pos h] at this
    exact this
  · obtain rfl : n = 0 := by omega
    rw [enc_small 0 (by omega)]; rfl

set_option maxHeartbeats 1000000 in
theorem lawSize_yes (n : Int) (w : World) (h0 : 0 ≤ n) (h1 : n ≤ 2147483647) : Calls Try.prog 6 #[.int .i64 n] w fun e w' => e = .returned (.bool true) ∧ w.grownBy w' none := by
  go_enter Try.func6, Try.ntmps6
  go_wp2_with fail
  refine (Put_yes n w h0 h1).mono ?_
  rintro e w1 ⟨A, c, rfl, hc, hd, hA, hg⟩
  go_wp2_with fail
  obtain ⟨N, rfl⟩ := Int.eq_ofNat_of_zero_le h0
  rw [Int.toNat_natCast] at hc hA ⊢
  have h5 := enc_len5 N (by omega)
  have hlen := hid (enc_len_rest N)
  have hp := enc_pos N
  go_loop [7, 8] (fun u m => ∃ (j q : Nat), u = .int .i64 j ∧ m = .int .i64 q ∧ q ≤ 2147483647 ∧ j + restLen q = (enc N).length) (fun _ m => (intOf m).toNat)
  case atStart => exact ⟨1, N / 128, rfl, by simp, by omega, by rw [hlen.out]; omega⟩
  case round =>
    obtain ⟨j, q, rfl, rfl, hq2, hj⟩ := hrel
    by_cases hq : 0 < q
    · have hs := restLen_step q hq
      have hj' : Hid (j + 1 + restLen (q / 128) = (enc N).length) := by show _ = _; omega
      have hj5 : j ≤ 5 := by omega
      clear hj hs
      go_wp2_with fail
      go_round
      case rel => exact ⟨j + 1, q / 128, by go_num, by simp, by omega, hj'.out⟩
      case measure => simp [intOf]; omega
    · obtain rfl : q = 0 := by omega
      have hjl : (enc N).length = j := by simpa [restLen] using hj.symm
      have hty : ∀ w : World, Calls Try.prog 12 #[.slice (some ⟨w.heap.size, 0, none⟩) 1 1] (w.alloc (.cells #[.int .i64 N] 3)) fun e w' => e = .returned (.int .i64 j) ∧ w.alloc (.cells #[.int .i64 N] 3) = w' := fun w => by
        have := Size_yes (some ⟨w.heap.size, 0, none⟩) 1 [(N : Int)] (w.alloc (.cells #[.int .i64 N] 3)) (Arr.new1 w .i64 N 3) (by simp) (by simp [toldB, h1])
        rw [show (encs [(N : Int)]).length = j by rw [encs_cons, encs_nil, List.append_nil, Int.toNat_natCast, hjl]] at this
        exact this
      replace hty := hid hty
      have hbyte : ∀ i, i < j → isByte ((enc N).getD i 0) := fun i hi => enc_byte N _ (by simp [List.getD, show i < (enc N).length by omega])
      have hmid : ∀ i, i + 1 < j → 128 ≤ (enc N).getD i 0 ∧ (enc N).getD i 0 % 128 = (N : Int) / 2 ^ (7 * i) % 128 := fun i hi => by
        have := enc_at N i (by omega)
        rw [if_pos (by omega)] at this
        rw [this, shift_eq _ (by omega), Int.toNat_natCast]
        omega
      have hlast : ∀ i, i + 1 = j → (enc N).getD i 0 < 128 ∧ (enc N).getD i 0 % 128 = (N : Int) / 2 ^ (7 * i) % 128 := fun i hi => by
        have := enc_at N i (by omega)
        rw [if_neg (by omega)] at this
        have hs := enc_last N i (by omega)
        rw [this] at hs
        rw [this, shift_eq _ (by omega), Int.toNat_natCast]
        omega
      replace hbyte := hid hbyte
      replace hmid := hid hmid
      replace hlast := hid hlast
      have hj5 : j ≤ 5 := by omega
      have hj0 : 0 < j := by omega
      replace hjl := hid hjl
      clear hj hlen hp h5
      rw [hjl.out] at hc ⊢
      generalize enc N = l at *
      go_wp2_with fail
      refine (hty.out _).mono ?_
      rintro e w2 ⟨rfl, rfl⟩
      go_wp2_with fail
      have hA1 := hA.grown (World.grownBy_alloc w1 (.cells #[.int .i64 N] 3) none)
      have hG := hid (grown_trans hg (World.grownBy_alloc w1 (.cells #[.int .i64 N] 3) none))
      clear hA hg
      generalize w1.alloc (.cells #[.int .i64 N] 3) = W at *
      go_loop [9] (fun i => ∃ k : Nat, k ≤ j ∧ i = .int .i64 k) (fun i => j - (intOf i).toNat)
      case atStart => exact ⟨0, Nat.zero_le _, rfl⟩
      case round =>
        obtain ⟨k, hk, rfl⟩ := hrel
        by_cases hlt : k < j
        · obtain ⟨b, off, rfl, _, hcell⟩ := hA1.at_ (show k < l.length by rw [hjl.out]; exact hlt)
          have hck := hcell k (by rw [hjl.out]; exact hlt)
          have hb := hbyte.out k hlt
          have hm := hmid.out k
          have hla := hlast.out k
          have e1 : (7 * (k : Int)).toNat = 7 * k := by omega
          clear hcell hA1
          unfold isByte at hb
          generalize l.getD k 0 = y at hck hb hm hla
          have hnn : 0 ≤ (N : Int) / 2 ^ (7 * k) := Int.ediv_nonneg (by omega) (Int.le_of_lt (Int.pow_pos (by omega)))
          by_cases hk1 : k + 1 < j
          · obtain ⟨hm1, hm2⟩ := hm hk1
            have hk2 : (k : Int) < (j : Int) - 1 := by omega
            have hm3 : (y % 128 != ((N : Int) / 2 ^ (7 * k)).tmod 128) = false := by rw [Int.tmod_eq_emod_of_nonneg hnn, hm2]; simp
            clear hm hla hm2 hnn
            go_wp2_with fail
            go_round
            case rel => exact ⟨k + 1, by omega, by go_num⟩
            case measure => simp [intOf]; omega
          · obtain ⟨hm1, hm2⟩ := hla (by omega)
            have hk2 : ¬ (k : Int) < (j : Int) - 1 := by omega
            have hm3 : (y % 128 != ((N : Int) / 2 ^ (7 * k)).tmod 128) = false := by rw [Int.tmod_eq_emod_of_nonneg hnn, hm2]; simp
            clear hm hla hm2 hnn
            go_wp2_with fail
            go_round
            case rel => exact ⟨k + 1, by omega, by go_num⟩
            case measure => simp [intOf]; omega
        · go_wp2_with (go_at_call 7; refine (wakes_any _).mono ?_; rintro e w' ⟨rfl, hg⟩)
          go_ret
          exact ⟨rfl, grown_trans hG.out hg⟩

/-- **The law DigitSize, walked.** -/
theorem size_walk (n : Int) (w : World) : Calls Try.prog 6 #[.int .i64 n] w fun e w' => e = .returned (.bool true) ∧ w.grownBy w' none := by
  by_cases h0 : n < 0
  · exact lawSize_no n w (.inl h0)
  by_cases h1 : 2147483647 < n
  · exact lawSize_no n w (.inr h1)
  · exact lawSize_yes n w (by omega) (by omega)
end Go.Proofs.Ytdpdomdgmehomaa
