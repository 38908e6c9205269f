/- How many bytes numbers have, and their bytes. -/
import Derived.Test.YtghnbfphhmgcpaaTold
import Derived.Test.YtghnbfphhmgcpaaShelf
set_option linter.unusedSimpArgs false
set_option linter.unusedVariables false
namespace Go.Proofs.Ytghnbfphhmgcpaa
open Go.RowKit Plain

theorem bitLenAux_le (f : Nat) : ∀ (x k : Nat), x < 2 ^ f → (Lib.bitLenAux f x ≤ k ↔ x < 2 ^ k) := by
  induction f with
  | zero => intro x k hx; simp [Lib.bitLenAux] at *; subst hx; exact Nat.two_pow_pos k
  | succ f ih =>
    intro x k hx
    unfold Lib.bitLenAux
    by_cases h0 : x = 0
    · subst h0; simp; exact Nat.two_pow_pos k
    · rw [if_neg h0]
      cases k with
      | zero => simp; omega
      | succ k =>
        have := ih (x / 2) k (by rw [Nat.pow_succ] at hx; omega)
        rw [Nat.pow_succ] at *
        omega

theorem size_eq (n : Nat) (h : n ≤ 2147483647) : max 1 ((((Lib.bitLen n : Nat) : Int) + 7 - 1) / 7) = ((enc n).length : Int) := by
  have hb : ∀ k, Lib.bitLen n ≤ k ↔ n < 2 ^ k := fun k => bitLenAux_le 64 n k (by omega)
  have h7 := hb 7
  have h14 := hb 14
  have h21 := hb 21
  have h28 := hb 28
  have h35 := hb 35
  by_cases h1 : n < 128
  · rw [enc_small n h1, List.length_singleton]; omega
  rw [enc_big n (by omega), List.length_cons]
  by_cases h2 : n / 128 < 128
  · rw [enc_small _ h2, List.length_singleton]; omega
  rw [enc_big _ (by omega), List.length_cons]
  by_cases h3 : n / 128 / 128 < 128
  · rw [enc_small _ h3, List.length_singleton]; omega
  rw [enc_big _ (by omega), List.length_cons]
  by_cases h4 : n / 128 / 128 / 128 < 128
  · rw [enc_small _ h4, List.length_singleton]; omega
  rw [enc_big _ (by omega), List.length_cons]
  rw [enc_small _ (by omega), List.length_singleton]; omega

theorem bitLen_small (n : Nat) (h : n ≤ 2147483647) : Lib.bitLen n ≤ 31 := (bitLenAux_le 64 n 31 (by omega)).2 (by omega)

theorem ret_int {a b : Int} (h : a = b) : Ending.returned (.int .i64 a) = .returned (.int .i64 b) := by rw [h]

theorem size_any (n : Int) (w : World) (h0 : 0 ≤ n) (h1 : n ≤ 2147483647) :
    Calls Try.prog 57 #[.int .i64 n] w fun e w' => e = .returned (.int .i64 ((enc n.toNat).length : Int)) ∧ w = w' := by
  have hb := bitLen_small n.toNat (by omega)
  have hs := hid (size_eq n.toNat (by omega))
  go_enter Try.func57, Try.ntmps57
  go_wp2_with (go_at_call 63; refine (Try.bits_Len _ _ (by omega) (by omega)).mono ?_; rintro e w' ⟨rfl, rfl⟩)
  go_ret
  exact ⟨ret_int (by rw [← hs.out]), rfl⟩

theorem encs_take_succ (zs : List Int) (k : Nat) (h : k < zs.length) : (encs (zs.take (k + 1))).length = (encs (zs.take k)).length + (enc (zs.getD k 0).toNat).length := by
  rw [List.take_succ_eq_append_getElem h, encs_snoc, List.length_append]
  simp [List.getD, h]

theorem Size_yes (A : Option Addr) (c : Nat) (zs : List Int) (w : World) (h : Arr w .i64 A zs) (hl : zs.length ≤ 1000) (ht : toldB zs = true) :
    Calls Try.prog 47 #[.slice A zs.length c] w fun e w' => e = .returned (.int .i64 ((encs zs).length : Int)) ∧ w = w' := by
  have htt := hid ht
  clear ht
  go_enter Try.func47, Try.ntmps47
  go_wp2_with (go_at_call 56; refine (mayBeTold_yes _ _ _ _ h hl htt.out).mono ?_; rintro e w' ⟨rfl, rfl⟩)
  go_loop [3, 11] (fun m i => ∃ k : Nat, k ≤ zs.length ∧ i = .int .i64 k ∧ m = .int .i64 ((encs (zs.take k)).length : Int)) (fun _ i => zs.length - (intOf i).toNat)
  case atStart => exact ⟨0, Nat.zero_le _, rfl, rfl⟩
  case round =>
    obtain ⟨k, hk, rfl, rfl⟩ := hrel
    have hle := encs_len (zs.take k) ((toldB_iff _).2 fun n hn => (toldB_iff _).1 htt.out n (List.mem_of_mem_take hn))
    rw [List.length_take] at hle
    by_cases hlt : k < zs.length
    · obtain ⟨b, off, rfl, hb, hc⟩ := h.at_ hlt
      have hck := hc k hlt
      have hr := (toldB_iff zs).1 htt.out (zs.getD k 0) (by simp [List.getD, hlt])
      have hs := hid (encs_take_succ zs k hlt)
      have h5 := enc_len5 (zs.getD k 0).toNat (by omega)
      clear h hc
      generalize zs.getD k 0 = x at hck hr hs h5
      obtain ⟨hx0, hx1⟩ := hr
      go_wp2_with (go_at_call 57; refine (size_any _ _ hx0 hx1).mono ?_; rintro e w' ⟨rfl, rfl⟩)
      go_round
      case rel => exact ⟨k + 1, by omega, by go_num, by rw [hs.out]; go_num⟩
      case measure => simp [intOf]; omega
    · go_wp2
      go_ret
      exact ⟨ret_int (by rw [List.take_of_length_le (by omega)]), rfl⟩

theorem Size_no (A : Option Addr) (c : Nat) (zs : List Int) (w : World) (h : Arr w .i64 A zs) (hl : zs.length ≤ 1000) (ht : toldB zs = false) :
    Calls Try.prog 47 #[.slice A zs.length c] w fun e w' => e = .returned (.int .i64 0) ∧ w = w' := by
  have htt := hid ht
  clear ht
  go_enter Try.func47, Try.ntmps47
  go_wp2_with (go_at_call 56; refine (mayBeTold_no _ _ _ _ h hl htt.out).mono ?_; rintro e w' ⟨rfl, rfl⟩)
  go_ret
  exact ⟨rfl, rfl⟩
end Go.Proofs.Ytghnbfphhmgcpaa
