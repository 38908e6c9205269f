/- The document's own answer: numbers' bytes, how many they are. -/
import Derived.Test.YtghnbfphhmgcpaaProg
import Derived.Test.YtghnbfphhmgcpaaBase
import Derived.Test.YtghnbfphhmgcpaaTelling
import Derived.Test.YtghnbfphhmgcpaaPush
import Derived.Test.YtghnbfphhmgcpaaPlain
set_option linter.unusedSimpArgs false
set_option linter.unusedVariables false
namespace Go.Proofs.Ytghnbfphhmgcpaa
open Go.RowKit Plain

set_option maxRecDepth 100000 in
set_option maxHeartbeats 800000 in
theorem refPut_yes (n : Int) (w : World) (h0 : 0 ≤ n) (h1 : n ≤ 2147483647) : Calls Try.prog 44 #[.int .i64 n] w (Tells .u8 (enc n.toNat) 0 w) := by
  obtain ⟨i0, hi, hz0, hz1, hz2⟩ := info_parts Try.info5
  obtain ⟨N, rfl⟩ := Int.eq_ofNat_of_zero_le h0
  rw [Int.toNat_natCast]
  have h5 := enc_len5 N (by omega)
  go_enter Try.func44, Try.ntmps44
  go_wp2
  go_loopw [0, 4] (fun u v wr => ∃ (q : Nat) (xs : List Int), u = .int .i64 q ∧ (q : Int) ≤ 2147483647 ∧ Hid (xs ++ enc q = enc N) ∧ xs.length ≤ 5 ∧ wr.ownsRow w.heap.size 5 1 v xs.length (xs.map (Value.int .u8)) ∧ Below w.heap.size w wr)
    (fun u _ _ => (intOf u).toNat)
  case atStart => exact ⟨N, [], rfl, by omega, by simp [Hid], by simp, World.ownsRow_nil _ _ _ _, Below.refl _ _⟩
  case round =>
    obtain ⟨q, xs, rfl, hq, hE, hx, hrow, hB⟩ := hrel
    by_cases hlt : 128 ≤ q
    · have hE' : Hid ((xs ++ [128 + (q : Int) % 128]) ++ enc (q / 128) = enc N) := by
        show _ = _
        rw [← hE.out, enc_big q hlt, List.append_assoc]; rfl
      have hx' : (xs ++ [128 + (q : Int) % 128]).length ≤ 5 := by
        have hh := congrArg List.length hE'.out
        have := enc_pos (q / 128)
        rw [List.length_append] at hh
        omega
      clear hE h0 h1
      go_wp2_with (at_builtin; refine wpList_push rfl _ _ 23 rfl w.heap.size 5 i0 .u8 1 Try.underlying23 hi hz0 hz1 hz2 _ _ _ _ hrow rfl rfl (by decide) (by omega) (by have := hB.size; omega) ?_; intro v' w1 hrow1 hB1)
      go_roundw
      case rel => exact ⟨q / 128, xs ++ [128 + (q : Int) % 128], by simp, by omega, hE', hx', hrow1, hB.trans hB1⟩
      case measure => simp [intOf]; omega
    · have hE' : Hid (xs ++ [(q : Int)] = enc N) := by
        show _ = _
        rw [← hE.out, enc_small q (by omega)]
      clear hE h0 h1
      go_wp2_with (at_builtin; refine wpList_push rfl _ _ 23 rfl w.heap.size 5 i0 .u8 1 Try.underlying23 hi hz0 hz1 hz2 _ _ _ _ hrow rfl rfl (by decide) (by omega) (by have := hB.size; omega) ?_; intro v' w1 hrow1 hB1)
      rw [hE'.out] at hrow1
      obtain ⟨A', c', rfl, hc1, hc2⟩ := own_form hrow1
      have hA := hid (Arr.of_own (k := .u8) hrow1)
      go_ret2
      exact ⟨A', c', rfl, hc1, hc2, hA.out, below_grown (hB.trans hB1)⟩

theorem refPut_no (n : Int) (w : World) (h : n < 0 ∨ 2147483647 < n) : Calls Try.prog 44 #[.int .i64 n] w (Tells .u8 [] 2 w) := by
  by_cases h0 : n < 0
  · clear h
    go_enter Try.func44, Try.ntmps44
    go_wp2
    go_ret2
    exact ⟨none, 0, rfl, by simp, by simp, Arr.nil _, grown_refl _ _⟩
  · have h1 : 2147483647 < n := by omega
    clear h
    go_enter Try.func44, Try.ntmps44
    go_wp2
    go_ret2
    exact ⟨none, 0, rfl, by simp, by simp, Arr.nil _, grown_refl _ _⟩

end Go.Proofs.Ytghnbfphhmgcpaa
