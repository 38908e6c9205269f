/- A number's next seven bits, as the program reckons them; of no program. -/
import Derived.WalkKit
set_option linter.unusedSimpArgs false
set_option linter.unusedVariables false
namespace Go.Proofs.Ytghnbfphhmgcpaa
open Go.RowKit

theorem andNot_128 (y : Int) (h0 : 0 ≤ y) (h1 : y ≤ 255) : bits BinOp.andNot .u8 y 128 = y % 128 := by
  have : ∀ x : Fin 256, bits BinOp.andNot .u8 (x.val : Int) 128 = (x.val : Int) % 128 := by decide +kernel
  have := this ⟨y.toNat, by omega⟩
  simp only [Int.toNat_of_nonneg h0] at this
  exact this

theorem or_i64 (a b : Nat) (ha : a < 4611686018427387904) (hb : b < 4611686018427387904) : bits BinOp.or .i64 (a : Int) (b : Int) = ((a ||| b : Nat) : Int) := by
  have hab : a ||| b < 4611686018427387904 := Nat.or_lt_two_pow (n := 62) ha hb
  unfold bits
  have ea : BitVec.ofInt IntKind.i64.bits (a : Int) = BitVec.ofNat 64 a := BitVec.ofInt_natCast 64 a
  have eb : BitVec.ofInt IntKind.i64.bits (b : Int) = BitVec.ofNat 64 b := BitVec.ofInt_natCast 64 b
  simp only [ea, eb]
  show IntKind.i64.wrap (((BitVec.ofNat 64 a ||| BitVec.ofNat 64 b).toNat : Nat) : Int) = _
  rw [BitVec.toNat_or, BitVec.toNat_ofNat, BitVec.toNat_ofNat, Nat.mod_eq_of_lt (by omega), Nat.mod_eq_of_lt (by omega)]
  exact IntWalk.i64_in _ (by omega)

theorem or_step (acc y : Int) (q : Nat) (hq : q ≤ 4) (h0 : 0 ≤ acc) (h1 : acc < 128 ^ q) (hy0 : 0 ≤ y) (hy1 : y ≤ 255) :
    bits BinOp.or .i64 acc (IntKind.i64.wrap (IntKind.i64.wrap (bits BinOp.andNot .u8 y 128) * 2 ^ (7 * q))) = acc + y % 128 * 128 ^ q := by
  rw [andNot_128 y hy0 hy1, IntWalk.i64_in (y % 128) (by omega)]
  have hp : (2 : Int) ^ (7 * q) = 128 ^ q := by rw [Int.pow_mul]; rfl
  have hpn : (2 : Nat) ^ (7 * q) = 128 ^ q := by rw [Nat.pow_mul]
  have hb : (128 : Int) ^ q ≤ 268435456 := by
    have : q = 0 ∨ q = 1 ∨ q = 2 ∨ q = 3 ∨ q = 4 := by omega
    rcases this with rfl | rfl | rfl | rfl | rfl <;> decide
  have hq0 : (0 : Int) < 128 ^ q := Int.pow_pos (by omega)
  have hbn : (128 : Nat) ^ q ≤ 268435456 := by
    have : ((128 ^ q : Nat) : Int) ≤ 268435456 := by rw [Int.natCast_pow]; exact hb
    omega
  rw [hp]
  obtain ⟨m, rfl⟩ := Int.eq_ofNat_of_zero_le h0
  obtain ⟨z, hz⟩ := Int.eq_ofNat_of_zero_le (show 0 ≤ y % 128 by omega)
  have hz128 : z < 128 := by omega
  rw [hz]
  have hm : m < 128 ^ q := by
    have : ((m : Nat) : Int) < ((128 ^ q : Nat) : Int) := by rw [Int.natCast_pow]; exact h1
    omega
  have hzq : z * 128 ^ q ≤ 127 * 268435456 := Nat.mul_le_mul (by omega) hbn
  have e : ((z : Int) * 128 ^ q) = ((z * 128 ^ q : Nat) : Int) := by rw [Int.natCast_mul, Int.natCast_pow]; rfl
  rw [e, IntWalk.i64_in _ (by omega), or_i64 _ _ (by omega) (by omega), Nat.or_comm, Nat.mul_comm, ← hpn, ← Nat.two_pow_add_eq_or_of_lt (by rw [hpn]; exact hm)]
  omega

end Go.Proofs.Ytghnbfphhmgcpaa
