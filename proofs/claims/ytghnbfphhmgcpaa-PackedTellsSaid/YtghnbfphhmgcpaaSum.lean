/- Package sum: which sums may be, the first one, a sum's value. -/
import Derived.Test.YtghnbfphhmgcpaaRefSum
set_option linter.unusedSimpArgs false
set_option linter.unusedVariables false
namespace Go.Proofs.Ytghnbfphhmgcpaa
open Go.RowKit PlainSum

theorem inRange_yes (n : Int) (w : World) (h0 : 0 ≤ n) (h1 : n ≤ 65520) : Calls Try.prog 59 #[.int .i64 n] w fun e w' => e = .returned (.bool true) ∧ w = w' := by
  have h2 : n < 65521 := by omega
  go_enter Try.func59, Try.ntmps59
  go_wp2
  go_ret
  exact ⟨rfl, rfl⟩

theorem inRange_no (n : Int) (w : World) (h : n < 0 ∨ 65520 < n) : Calls Try.prog 59 #[.int .i64 n] w fun e w' => e = .returned (.bool false) ∧ w = w' := by
  rcases h with h | h
  · have h0 : ¬ 0 ≤ n := by omega
    go_enter Try.func59, Try.ntmps59
    go_wp2
    go_ret
    exact ⟨rfl, rfl⟩
  · have h0 : 0 ≤ n := by omega
    have h2 : ¬ n < 65521 := by omega
    go_enter Try.func59, Try.ntmps59
    go_wp2
    go_ret
    exact ⟨rfl, rfl⟩

theorem sumRight_yes (A B : Int) (w : World) (h : right (A, B) = true) :
    Calls Try.prog 50 #[.agg #[.int .i64 A, .int .i64 B]] w fun e w' => e = .returned (.bool true) ∧ w.grownBy w' none := by
  obtain ⟨h1, h2, h3, h4⟩ := (right_iff _).1 h
  clear h
  simp only at h1 h2 h3 h4
  go_enter Try.func50, Try.ntmps50
  go_wp2_with fail
  refine (inRange_yes A _ h1 h2).mono ?_
  rintro e w1 ⟨rfl, rfl⟩
  go_wp2_with fail
  refine (inRange_yes B _ h3 h4).mono ?_
  rintro e w1 ⟨rfl, rfl⟩
  go_wp2_with fail
  go_ret
  exact ⟨rfl, grown_alloc (grown_refl _ _) _⟩

theorem sumRight_no (A B : Int) (w : World) (h : right (A, B) = false) :
    Calls Try.prog 50 #[.agg #[.int .i64 A, .int .i64 B]] w fun e w' => e = .returned (.bool false) ∧ w.grownBy w' none := by
  have h' : (A < 0 ∨ 65520 < A) ∨ (0 ≤ A ∧ A ≤ 65520 ∧ (B < 0 ∨ 65520 < B)) := by
    have : ¬ (0 ≤ A ∧ A ≤ 65520 ∧ 0 ≤ B ∧ B ≤ 65520) := fun hh => by
      have := (right_iff (A, B)).2 hh
      rw [h] at this
      cases this
    omega
  clear h
  rcases h' with h1 | ⟨h1, h2, h3⟩
  · have H := hid h1
    clear h1
    go_enter Try.func50, Try.ntmps50
    go_wp2_with fail
    refine (inRange_no A _ H.out).mono ?_
    rintro e w1 ⟨rfl, rfl⟩
    go_wp2_with fail
    go_ret
    exact ⟨rfl, grown_alloc (grown_refl _ _) _⟩
  · have H := hid h3
    clear h3
    go_enter Try.func50, Try.ntmps50
    go_wp2_with fail
    refine (inRange_yes A _ h1 h2).mono ?_
    rintro e w1 ⟨rfl, rfl⟩
    go_wp2_with fail
    refine (inRange_no B _ H.out).mono ?_
    rintro e w1 ⟨rfl, rfl⟩
    go_wp2_with fail
    go_ret
    exact ⟨rfl, grown_alloc (grown_refl _ _) _⟩

theorem sumNew_is (w : World) :
    Calls Try.prog 41 #[] w fun e w' => e = .returned (.agg #[.int .i64 1, .int .i64 0]) ∧ w.grownBy w' none := by
  go_enter Try.func41, Try.ntmps41
  go_wp2
  exact bodyPost_ret (v := .agg #[.int .i64 1, .int .i64 0]) (by simp [results, Try.results41, go_sem]) rfl ⟨rfl, grown_alloc (grown_refl _ _) _⟩

theorem or_u32 (a b : Nat) (ha : a < 4294967296) (hb : b < 4294967296) : bits BinOp.or .u32 (a : Int) (b : Int) = ((a ||| b : Nat) : Int) := by
  have hab : a ||| b < 4294967296 := Nat.or_lt_two_pow (n := 32) ha hb
  unfold bits
  have ea : BitVec.ofInt IntKind.u32.bits (a : Int) = BitVec.ofNat 32 a := BitVec.ofInt_natCast 32 a
  have eb : BitVec.ofInt IntKind.u32.bits (b : Int) = BitVec.ofNat 32 b := BitVec.ofInt_natCast 32 b
  simp only [ea, eb]
  show IntKind.u32.wrap (((BitVec.ofNat 32 a ||| BitVec.ofNat 32 b).toNat : Nat) : Int) = _
  rw [BitVec.toNat_or, BitVec.toNat_ofNat, BitVec.toNat_ofNat, Nat.mod_eq_of_lt (by omega), Nat.mod_eq_of_lt (by omega)]
  have : ((a ||| b : Nat) : Int) < 4294967296 := by omega
  simp [IntKind.wrap, IntKind.bits, IntKind.signed]
  omega

theorem or_add (k : Nat) (x y : Int) (hk : k ≤ 32) (h0 : 0 ≤ x) (h1 : x * 2 ^ k < 4294967296) (h2 : 0 ≤ y) (h3 : y < 2 ^ k) : bits BinOp.or .u32 (x * 2 ^ k) y = x * 2 ^ k + y := by
  obtain ⟨m, rfl⟩ := Int.eq_ofNat_of_zero_le h0
  obtain ⟨z, rfl⟩ := Int.eq_ofNat_of_zero_le h2
  have e : ((m : Int) * 2 ^ k) = ((2 ^ k * m : Nat) : Int) := by rw [Int.natCast_mul, Int.natCast_pow, Int.mul_comm]; rfl
  have hz : z < 2 ^ k := by
    have : ((z : Nat) : Int) < ((2 ^ k : Nat) : Int) := by rw [Int.natCast_pow]; exact h3
    omega
  have hp : 2 ^ k ≤ 2 ^ 32 := Nat.pow_le_pow_right (by omega) hk
  rw [e] at h1 ⊢
  rw [or_u32 _ _ (by omega) (by omega), ← Nat.two_pow_add_eq_or_of_lt hz]
  omega

theorem sumValue_is (A B : Int) (w : World) :
    Calls Try.prog 39 #[.agg #[.int .i64 A, .int .i64 B]] w fun e w' => e = .returned (.int .u32 (value (A, B))) ∧ w.grownBy w' none := by
  cases hr : right (A, B) with
  | true =>
    have hv := hid (show value (A, B) = B * 65536 + A from if_pos hr)
    obtain ⟨h1, h2, h3, h4⟩ := (right_iff _).1 hr
    simp only at h1 h2 h3 h4
    go_enter Try.func39, Try.ntmps39
    go_wp2_with fail
    refine (sumRight_yes A B _ hr).mono ?_
    rintro e w1 ⟨rfl, hg1⟩
    obtain ⟨hc, hf⟩ := gcell hg1
    go_wp2
    go_ret
    have ho := or_add 16 B A (by omega) h3 (by omega) h1 (by omega)
    exact ⟨by rw [hv.out]; exact congrArg (fun x => Ending.returned (.int .u32 x)) ho, grown_trans (grown_alloc (grown_refl _ _) _) hg1⟩
  | false =>
    have hv := hid (show value (A, B) = 0 from if_neg (by simp [hr]))
    go_enter Try.func39, Try.ntmps39
    go_wp2_with fail
    refine (sumRight_no A B _ hr).mono ?_
    rintro e w1 ⟨rfl, hg1⟩
    go_wp2
    go_ret
    exact ⟨by rw [hv.out]; rfl, grown_trans (grown_alloc (grown_refl _ _) _) hg1⟩
end Go.Proofs.Ytghnbfphhmgcpaa
