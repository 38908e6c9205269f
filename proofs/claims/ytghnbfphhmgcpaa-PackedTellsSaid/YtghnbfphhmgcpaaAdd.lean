/- A number's bytes, put behind a row of the call's own. -/
import Derived.Test.YtghnbfphhmgcpaaPut
import Derived.Test.YtghnbfphhmgcpaaBase
set_option linter.unusedSimpArgs false
set_option linter.unusedVariables false
namespace Go.Proofs.Ytghnbfphhmgcpaa
open Go.RowKit Plain

theorem Try.info3 : (Try.prog.info? 3).map (fun i => (i.zero, i.size, i.bytes)) = some (some (.int .i64 0), 1, 8) := by kernel_rfl

theorem enc_at (n : Nat) : ∀ i, i < (enc n).length → (enc n).getD i 0 = if i + 1 < (enc n).length then 128 + ((n / 128 ^ i : Nat) : Int) % 128 else ((n / 128 ^ i : Nat) : Int) := by
  induction n using Nat.strongRecOn with
  | _ n ih =>
    intro i hi
    by_cases h : n < 128
    · rw [enc_small n h] at hi ⊢
      obtain rfl : i = 0 := by simpa using hi
      simp
    · rw [enc_big n (by omega)] at hi ⊢
      cases i with
      | zero => simp [enc_pos]
      | succ i =>
        have := ih (n / 128) (by omega) i (by simpa using hi)
        simp only [List.getD_cons_succ, List.length_cons]
        rw [this, Nat.div_div_eq_div_mul, Nat.pow_succ, Nat.mul_comm]
        by_cases h1 : i + 1 < (enc (n / 128)).length
        · rw [if_pos h1, if_pos (by omega)]
        · rw [if_neg h1, if_neg (by omega)]

theorem or_128 : ∀ x : Fin 256, bits BinOp.or .u8 (x.val : Int) 128 = 128 + (x.val : Int) % 128 := by decide +kernel

theorem pow_7 (k : Nat) : (2 : Nat) ^ (7 * k) = 128 ^ k := by rw [Nat.pow_mul]

theorem shift_eq (n : Int) (h0 : 0 ≤ n) (k : Nat) : n / 2 ^ (7 * k) = ((n.toNat / 128 ^ k : Nat) : Int) := by
  obtain ⟨m, rfl⟩ := Int.eq_ofNat_of_zero_le h0
  rw [Int.toNat_natCast, ← pow_7, Int.natCast_ediv, Int.natCast_pow]
  rfl

/-- A byte that is not the last one, as the program reckons it. -/
theorem byte_mid (n : Int) (h0 : 0 ≤ n) (k : Nat) (hk : k + 1 < (enc n.toNat).length) : bits BinOp.or .u8 (n / 2 ^ (7 * k) % 256) 128 = (enc n.toNat).getD k 0 := by
  rw [enc_at _ _ (by omega), if_pos hk, shift_eq n h0]
  have := or_128 ⟨n.toNat / 128 ^ k % 256, by omega⟩
  simp only at this
  rw [Int.natCast_emod] at this
  rw [show ((256 : Int)) = ((256 : Nat) : Int) from rfl, this]
  omega

/-- The last byte. -/
theorem byte_last (n : Int) (h0 : 0 ≤ n) (k : Nat) (hk : k + 1 = (enc n.toNat).length) : n / 2 ^ (7 * k) % 256 = (enc n.toNat).getD k 0 := by
  have h := enc_at n.toNat k (by omega)
  rw [if_neg (by omega)] at h
  have hb := enc_byte n.toNat ((enc n.toNat).getD k 0) (by simp [List.getD, show k < (enc n.toNat).length by omega])
  unfold isByte at hb
  rw [shift_eq n h0, ← h]
  omega

theorem snoc_take (xs l : List Int) (k : Nat) (h : k < l.length) : xs ++ l.take k ++ [l.getD k 0] = xs ++ l.take (k + 1) := by
  rw [List.take_succ_eq_append_getElem h, List.append_assoc]
  simp [List.getD, h]

set_option maxHeartbeats 400000 in
theorem add_any (v : Value) (xs : List Int) (n : Int) (base : Nat) (w : World) (hown : w.ownsRow base 5 1 v xs.length (xs.map (Value.int .u8))) (hbs : base ≤ w.heap.size) (hl : xs.length ≤ 100000)
    (h0 : 0 ≤ n) (h1 : n ≤ 2147483647) :
    Calls Try.prog 64 #[v, .int .i64 n] w fun e w' => ∃ v', e = .returned v' ∧ w'.ownsRow base 5 1 v' (xs ++ enc n.toNat).length ((xs ++ enc n.toNat).map (Value.int .u8)) ∧ Below base w w' := by
  have h5 := enc_len5 n.toNat (by omega)
  have hp := enc_pos n.toNat
  obtain ⟨m, hm⟩ : ∃ m, (enc n.toNat).length = m + 1 := ⟨(enc n.toNat).length - 1, by omega⟩
  have hsz : ∀ w, Calls Try.prog 57 #[.int .i64 n] w fun e w' => e = .returned (.int .i64 ((m + 1 : Nat) : Int)) ∧ w = w' := fun w => by rw [← hm]; exact size_any n w h0 h1
  replace hsz := hid hsz
  have hm5 : m ≤ 4 := by omega
  have hmid : ∀ k, k < m → bits BinOp.or .u8 (n / 2 ^ (7 * k) % 256) 128 = (enc n.toNat).getD k 0 := fun k hk => byte_mid n h0 k (by omega)
  replace hmid := hid hmid
  have hlast := hid (byte_last n h0 m hm.symm)
  have hlen := hid hm
  clear hm hp h5
  generalize enc n.toNat = l at hmid hlast hlen ⊢
  obtain ⟨i0, hi, hz0, hz1, hz2⟩ := info_parts Try.info5
  go_enter Try.func64, Try.ntmps64
  go_wp2_with (go_at_call 57; refine (hsz.out _).mono ?_; rintro e w' ⟨rfl, rfl⟩)
  go_loopw [0, 11] (fun u i wr => ∃ k : Nat, k ≤ m ∧ i = .int .i64 k ∧ wr.ownsRow base 5 1 u (xs ++ l.take k).length ((xs ++ l.take k).map (Value.int .u8)) ∧ Below base w wr) (fun _ i _ => m - (intOf i).toNat)
  case atStart => exact ⟨0, by omega, rfl, by simpa using hown, Below.refl _ _⟩
  case round =>
    obtain ⟨k, hk, rfl, hrow, hB⟩ := hrel
    have hxl : (xs ++ l.take k).length ≤ 200000 := by rw [List.length_append, List.length_take]; omega
    by_cases hlt : k < m
    · go_wp2_with (at_builtin; refine wpList_push rfl _ _ 23 rfl base 5 i0 .u8 1 Try.underlying23 hi hz0 hz1 hz2 _ _ _ _ hrow rfl rfl (by decide) (by omega) (by have := hB.size; omega) ?_; intro v' w1 hrow1 hB1)
      rw [hmid.out k hlt, snoc_take _ _ _ (by rw [hlen.out]; omega)] at hrow1
      go_roundw
      case rel => exact ⟨k + 1, by omega, by go_num, hrow1, hB.trans hB1⟩
      case measure => simp [intOf]; omega
    · obtain rfl : k = m := by omega
      go_wp2_with (at_builtin; refine wpList_push rfl _ _ 23 rfl base 5 i0 .u8 1 Try.underlying23 hi hz0 hz1 hz2 _ _ _ _ hrow rfl rfl (by decide) (by omega) (by have := hB.size; omega) ?_; intro v' w1 hrow1 hB1)
      rw [hlast.out, snoc_take _ _ _ (by rw [hlen.out]; omega), List.take_of_length_le (by rw [hlen.out]; omega)] at hrow1
      go_ret
      exact ⟨_, rfl, hrow1, hB.trans hB1⟩
end Go.Proofs.Ytghnbfphhmgcpaa
