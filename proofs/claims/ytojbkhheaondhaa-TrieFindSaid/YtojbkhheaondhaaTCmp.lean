/- Of Go's library: numbers compared, the first that is not 0, the greatest one. -/
import Derived.Test.YtojbkhheaondhaaK22
import Derived.StillTailTactics
import Derived.Deep.Light
set_option linter.unusedSimpArgs false
set_option linter.unusedVariables false
set_option maxRecDepth 100000
namespace Go.Proofs.Ytojbkhheaondhaa
open Go.RowKit

def cmp3 (x y : Int) : Int := if x < y then -1 else if y < x then 1 else 0
theorem cmp3_zero (x y : Int) : cmp3 x y = 0 ↔ x = y := by
  unfold cmp3
  split
  · omega
  · split <;> omega
theorem cmp3_neg (x y : Int) : cmp3 x y < 0 ↔ x < y := by
  unfold cmp3
  split
  · omega
  · split <;> omega
/-- The first that is not 0. -/
def first0 : List Int → Int
  | [] => 0
  | x :: l => if x = 0 then first0 l else x
theorem first0_drop (zs : List Int) (k : Nat) (h : k < zs.length) : first0 (zs.drop k) = if zs.getD k 0 = 0 then first0 (zs.drop (k + 1)) else zs.getD k 0 := by
  rw [List.drop_eq_getElem_cons h, first0]
  simp [List.getD, h]

theorem nanInt_is (x : Int) (w : World) : Calls Try.prog 67 #[.int .i64 x] w fun e w' => e = .returned (.bool false) ∧ w' = w := by
  go_enter Try.func67, Try.ntmps67
  go_wp2_with fail
  go_ret
  exact ⟨by simp, rfl⟩
theorem nanByte_is (x : Int) (w : World) : Calls Try.prog 68 #[.int .u8 x] w fun e w' => e = .returned (.bool false) ∧ w' = w := by
  go_enter Try.func68, Try.ntmps68
  go_wp2_with fail
  go_ret
  exact ⟨by simp, rfl⟩

theorem cmpInt_is (x y : Int) (w : World) : Calls Try.prog 54 #[.int .i64 x, .int .i64 y] w fun e w' => e = .returned (.int .i64 (cmp3 x y)) ∧ w' = w := by
  by_cases h1 : x < y
  · have hV : Hid (cmp3 x y = -1) := hid (by unfold cmp3; rw [if_pos h1])
    go_enter Try.func54, Try.ntmps54
    go_wp2_with (go_at_call 67; refine (nanInt_is _ _).mono ?_; rintro e w1 ⟨rfl, rfl⟩)
    go_ret
    exact ⟨by rw [hV.out]; rfl, rfl⟩
  · by_cases h2 : y < x
    · have hV : Hid (cmp3 x y = 1) := hid (by unfold cmp3; rw [if_neg h1, if_pos h2])
      go_enter Try.func54, Try.ntmps54
      go_wp2_with (go_at_call 67; refine (nanInt_is _ _).mono ?_; rintro e w1 ⟨rfl, rfl⟩)
      go_ret
      exact ⟨by rw [hV.out]; rfl, rfl⟩
    · have hV : Hid (cmp3 x y = 0) := hid (by unfold cmp3; rw [if_neg h1, if_neg h2])
      go_enter Try.func54, Try.ntmps54
      go_wp2_with (go_at_call 67; refine (nanInt_is _ _).mono ?_; rintro e w1 ⟨rfl, rfl⟩)
      go_ret
      exact ⟨by rw [hV.out]; rfl, rfl⟩
theorem cmpByte_is (x y : Int) (w : World) : Calls Try.prog 55 #[.int .u8 x, .int .u8 y] w fun e w' => e = .returned (.int .i64 (cmp3 x y)) ∧ w' = w := by
  by_cases h1 : x < y
  · have hV : Hid (cmp3 x y = -1) := hid (by unfold cmp3; rw [if_pos h1])
    go_enter Try.func55, Try.ntmps55
    go_wp2_with (go_at_call 68; refine (nanByte_is _ _).mono ?_; rintro e w1 ⟨rfl, rfl⟩)
    go_ret
    exact ⟨by rw [hV.out]; rfl, rfl⟩
  · by_cases h2 : y < x
    · have hV : Hid (cmp3 x y = 1) := hid (by unfold cmp3; rw [if_neg h1, if_pos h2])
      go_enter Try.func55, Try.ntmps55
      go_wp2_with (go_at_call 68; refine (nanByte_is _ _).mono ?_; rintro e w1 ⟨rfl, rfl⟩)
      go_ret
      exact ⟨by rw [hV.out]; rfl, rfl⟩
    · have hV : Hid (cmp3 x y = 0) := hid (by unfold cmp3; rw [if_neg h1, if_neg h2])
      go_enter Try.func55, Try.ntmps55
      go_wp2_with (go_at_call 68; refine (nanByte_is _ _).mono ?_; rintro e w1 ⟨rfl, rfl⟩)
      go_ret
      exact ⟨by rw [hV.out]; rfl, rfl⟩

set_option maxHeartbeats 2000000 in
theorem tcmpOr_is (A : Option Addr) (c : Nat) (zs : List Int) (w : World) (hn : zs.length ≤ 1000) (hA : Arr w .i64 A zs) :
    Calls Try.prog 53 #[.slice A zs.length c] w fun e w' => e = .returned (.int .i64 (first0 zs)) ∧ w' = w := by
  replace hA := hid hA
  go_enter Try.func53, Try.ntmps53
  go_wp2_with fail
  go_loopw [8] (fun i wr => ∃ k : Nat, k ≤ zs.length ∧ i = .int .i64 k ∧ wr = w ∧ first0 zs = first0 (zs.drop k)) (fun i _ => zs.length - (intOf i).toNat)
  case atStart => exact ⟨0, Nat.zero_le _, rfl, rfl, rfl⟩
  case round =>
    obtain ⟨k, hk, rfl, rfl, hr⟩ := hrel
    by_cases hlt : k < zs.length
    · obtain ⟨b, off, rfl, hb, hc⟩ := hA.out.at_ hlt
      have hcell := hc k hlt
      have hd := hid (first0_drop zs k hlt)
      clear hc
      generalize zs.getD k 0 = x at hcell hd
      have q0 : (0 : Int) ≤ (k : Int) := by omega
      have q1 : (k : Int) < (zs.length : Int) := by omega
      replace hr := hid hr
      by_cases hx : x = 0
      · subst hx
        go_wp2_with fail
        go_roundw
        case rel => exact ⟨k + 1, by omega, by go_num, by first | rfl | trivial, by rw [hr.out, hd.out, if_pos rfl]⟩
        case measure => simp [intOf]; omega
      · have hne : (x != 0) = true := by simpa using hx
        have hV := hid (hr.out.trans (hd.out.trans (if_neg hx)))
        clear hd hr
        replace hx := hid hx
        go_wp2_with fail
        go_ret
        exact ⟨by rw [hV.out]; rfl, rfl⟩
    · obtain rfl : k = zs.length := by omega
      have hV : Hid (first0 zs = 0) := hid (by rw [hr]; simp [first0])
      clear hr
      go_wp2_with fail
      go_ret
      exact ⟨by rw [hV.out]; rfl, rfl⟩

/-- The greatest of numbers. -/
def maxTo (zs : List Int) : Nat → Int
  | 0 => zs.getD 0 0
  | k + 1 => max (maxTo zs k) (zs.getD k 0)
theorem maxTo_le (zs : List Int) (m : Int) : ∀ k, k ≤ zs.length → 0 < zs.length → (maxTo zs k ≤ m ↔ zs.getD 0 0 ≤ m ∧ ∀ j, j < k → zs.getD j 0 ≤ m)
  | 0, _, _ => by unfold maxTo; exact ⟨fun h => ⟨h, fun j hj => by omega⟩, fun h => h.1⟩
  | k + 1, hk, h0 => by
    have ih := maxTo_le zs m k (by omega) h0
    unfold maxTo
    constructor
    · intro h
      have h1 := ih.1 (by omega)
      refine ⟨h1.1, fun j hj => ?_⟩
      by_cases e : j = k
      · subst e; omega
      · exact h1.2 j (by omega)
    · rintro ⟨h1, h2⟩
      have h3 := ih.2 ⟨h1, fun j hj => h2 j (by omega)⟩
      have h4 := h2 k (by omega)
      omega
set_option maxHeartbeats 2000000 in
theorem tmax_is (A : Option Addr) (c : Nat) (zs : List Int) (w : World) (hn : zs.length ≤ 100000) (h0 : 0 < zs.length) (hA : Arr w .i64 A zs) :
    Calls Try.prog 56 #[.slice A zs.length c] w fun e w' => e = .returned (.int .i64 (maxTo zs zs.length)) ∧ w' = w := by
  obtain ⟨b, off, rfl, hb, hc⟩ := hA.at_ h0
  have hc0 := hc 0 h0
  have hm : maxTo zs 1 = zs.getD 0 0 := by unfold maxTo maxTo; omega
  obtain ⟨M, hM⟩ : ∃ M, maxTo zs zs.length = M := ⟨_, rfl⟩
  rw [hM]
  rw [Nat.add_zero] at hc0
  generalize zs.getD 0 0 = x0 at hc0 hm
  replace hc := hid hc
  replace hA := hid hA
  replace hM := hid hM
  replace hb := hid hb
  have q0 : (0 : Int) < (zs.length : Int) := by omega
  have q1 : ¬ ((zs.length : Int) < 1) := by omega
  replace h0 := hid h0
  replace hm := hid hm
  go_enter Try.func56, Try.ntmps56
  go_wp2_with fail
  go_loopw [3, 4] (fun m i wr => ∃ k : Nat, 1 ≤ k ∧ k ≤ zs.length ∧ i = .int .i64 k ∧ wr = w ∧ m = .int .i64 (maxTo zs k)) (fun _ i _ => zs.length - (intOf i).toNat)
  case atStart => exact ⟨1, Nat.le_refl _, h0.out, rfl, rfl, by rw [hm.out]⟩
  case round =>
    obtain ⟨k, hk1, hk, rfl, rfl, rfl⟩ := hrel
    by_cases hlt : k < zs.length
    · have hcell := hc.out k hlt
      have hs : Hid (maxTo zs (k + 1) = max (maxTo zs k) (zs.getD k 0)) := hid rfl
      generalize zs.getD k 0 = x at hcell hs
      generalize maxTo zs k = m at hs ⊢
      have q2 : (0 : Int) ≤ (k : Int) := by omega
      have q3 : (k : Int) < (zs.length : Int) := by omega
      clear hc0
      go_wp2_with fail
      go_roundw
      case rel => exact ⟨k + 1, by omega, by omega, by go_num, by first | rfl | trivial, by rw [hs.out]; first | rfl | (rw [show max m x = if m < x then x else m by rw [Int.max_def]; split <;> split <;> omega]; done) | (rw [show max m x = if m < x then x else m by rw [Int.max_def]; split <;> split <;> omega]; rfl)⟩
      case measure => simp [intOf]; omega
    · obtain rfl : k = zs.length := by omega
      have hV := hid hM.out
      rw [hV.out]
      clear hc0
      go_wp2_with fail
      go_ret
      exact ⟨rfl, rfl⟩

end Go.Proofs.Ytojbkhheaondhaa
