/- Package sum: numbers in four bytes. -/
import Derived.Test.YtghnbfphhmgcpaaSum
import Derived.Test.YtghnbfphhmgcpaaRefFour
set_option linter.unusedSimpArgs false
set_option linter.unusedVariables false
set_option maxRecDepth 100000
namespace Go.Proofs.Ytghnbfphhmgcpaa
open Go.RowKit PlainSum

theorem sumFour_is (v : Int) (w : World) (h0 : 0 ≤ v) (h1 : v ≤ 4294967295) :
    Calls Try.prog 29 #[.int .u32 v] w (Lays (four v) w) := by
  go_enter Try.func29, Try.ntmps29
  go_wp2
  go_ret
  exact ⟨_, 4, rfl, by simp [four], by decide, Arr.of_holds (Holds.new w 5 _), grown_alloc (grown_refl _ _) _⟩

/-- The first k bytes, the highest first. -/
def upTo (bs : List Int) : Nat → Int
  | 0 => 0
  | k + 1 => upTo bs k * 256 + bs.getD k 0

theorem upTo_bd (bs : List Int) (hb : ∀ k, 0 ≤ bs.getD k 0 ∧ bs.getD k 0 ≤ 255) : ∀ k, 0 ≤ upTo bs k ∧ upTo bs k < 256 ^ k
  | 0 => by simp [upTo]
  | k + 1 => by
    have := upTo_bd bs hb k
    have := hb k
    simp only [upTo, Int.pow_succ]
    omega

theorem upTo_four (bs : List Int) : upTo bs 4 = number bs := by
  simp only [upTo, number]; omega

theorem sumTakeFour_no (A : Option Addr) (c : Nat) (bs : List Int) (w : World) (h : bs.length < 4) :
    Calls Try.prog 24 #[.slice A bs.length c] w fun e w' => (∃ A' c', e = .returned (.tuple #[.int .u32 0, .slice A' 0 c', .int .i64 10])) ∧ w.grownBy w' none := by
  go_enter Try.func24, Try.ntmps24
  go_wp2
  go_ret3
  exact ⟨⟨_, _, rfl⟩, grown_refl _ _⟩

set_option maxHeartbeats 800000 in
theorem sumTakeFour_yes (A : Option Addr) (c : Nat) (bs : List Int) (w : World) (h : 4 ≤ bs.length) (hl : bs.length ≤ 100000) (hc : bs.length ≤ c) (hc2 : c ≤ maxLen) (hb : ∀ k, 0 ≤ bs.getD k 0 ∧ bs.getD k 0 ≤ 255) (hA : Arr w .u8 A bs) :
    Calls Try.prog 24 #[.slice A bs.length c] w (FourLeaves bs w) := by
  obtain ⟨b, off, rfl, hb0, hx⟩ := hA.at_ (i := 0) (by omega)
  replace hb := hid hb
  replace hx := hid hx
  have hA1 := hid (hA.drop (i := 4) hc)
  obtain ⟨i0, hi0, hz0, hz1, hz2⟩ := info_parts Try.info5
  have hrowE : w.ownsRow w.heap.size 5 1 (.slice none 0 0) ([] : List Int).length (([] : List Int).map (Value.int .u8)) := World.ownsRow_nil _ _ _ _
  have hN := hid (upTo_four bs)
  unfold maxLen at hc2
  replace hrowE := hid hrowE
  replace hA := hid hA
  by_cases hc4 : c = 4
  all_goals
    first | rw [if_pos hc4] at hA1 | rw [if_neg hc4] at hA1
    go_enter Try.func24, Try.ntmps24
    go_wp2
    go_loop [2, 13] (fun v i => ∃ k : Nat, k ≤ 4 ∧ i = .int .i64 k ∧ v = .int .u32 (upTo bs k)) (fun _ i => 4 - (intOf i).toNat)
    case atStart => exact ⟨0, by omega, rfl, rfl⟩
    case round =>
      obtain ⟨k, hk, rfl, rfl⟩ := hrel
      by_cases hlt : k < 4
      · have hck := hx.out k (by omega)
        have hy := hb.out k
        have hU := upTo_bd bs hb.out k
        have hS := hid (show upTo bs (k + 1) = upTo bs k * 256 + bs.getD k 0 from rfl)
        have hp : (256 : Int) ^ k ≤ 16777216 := by
          have : k = 0 ∨ k = 1 ∨ k = 2 ∨ k = 3 := by omega
          rcases this with rfl | rfl | rfl | rfl <;> decide
        have hU2 : upTo bs k < 16777216 := by omega
        obtain ⟨hU1, _⟩ := hU
        clear hp
        generalize bs.getD k 0 = y at hck hy hS
        generalize upTo bs k = u at hU1 hU2 hS
        obtain ⟨hy0, hy1⟩ := hy
        have ho := hid (or_add 8 u y (by omega) hU1 (by omega) hy0 (by omega))
        go_wp2
        go_round
        case rel => exact ⟨k + 1, by omega, by go_num, by rw [hS.out]; exact congrArg (Value.int .u32) ho.out⟩
        case measure => simp [intOf]; omega
      · obtain rfl : k = 4 := by omega
        go_wp2_with (at_builtin; refine wpList_append_all rfl _ _ 23 rfl w.heap.size 5 i0 .u8 1 Try.underlying23 hi0 hz0 hz1 hz2 _ [] (bs.drop 4) _ _ _ w hrowE.out hA1.out rfl rfl (by rw [List.length_drop]) (by decide) (by rw [List.length_drop]; simp; omega) (by simp) ?_; intro v' w1 hrow1 hB1)
        rw [List.nil_append] at hrow1
        obtain ⟨A', c', rfl, hc1, hc3⟩ := own_form hrow1
        have hA' := Arr.of_own (k := .u8) hrow1
        go_ret3
        exact ⟨A', c', by rw [← hN.out]; rfl, hc1, hc3, hA', below_grown hB1⟩
end Go.Proofs.Ytghnbfphhmgcpaa
