/- The document's own answer: numbers in four bytes. -/
import Derived.Test.YtghnbfphhmgcpaaRefSum
import Derived.StillTailTactics
set_option linter.unusedSimpArgs false
set_option linter.unusedVariables false
set_option maxRecDepth 100000
namespace Go.Proofs.Ytghnbfphhmgcpaa
open Go.RowKit PlainSum

/-- Bytes of its own are told. -/
def Lays (bs : List Int) (w : World) : Ending → World → Prop := fun e w' =>
  ∃ A c, e = .returned (.slice A bs.length c) ∧ bs.length ≤ c ∧ c ≤ maxLen ∧ Arr w' .u8 A bs ∧ w.grownBy w' none

theorem wrap32 (x : Int) (h0 : 0 ≤ x) (h1 : x ≤ 4294967295) : IntKind.u32.wrap x = x := by simp [IntKind.wrap, IntKind.bits, IntKind.signed]; omega

theorem refFour_is (v : Int) (w : World) (h0 : 0 ≤ v) (h1 : v ≤ 4294967295) :
    Calls Try.prog 21 #[.int .u32 v] w (Lays (four v) w) := by
  go_enter Try.func21, Try.ntmps21
  go_wp2
  go_ret
  exact ⟨_, 4, rfl, by simp [four], by decide, Arr.of_holds (Holds.new w 5 _), grown_alloc (grown_refl _ _) _⟩

/-- What a call leaves that takes a number in four bytes. -/
def FourLeaves (bs : List Int) (w : World) (e : Ending) (w' : World) : Prop :=
  ∃ A c, e = .returned (.tuple #[.int .u32 (number bs), .slice A (bs.drop 4).length c, .int .i64 0]) ∧ (bs.drop 4).length ≤ c ∧ c ≤ maxLen ∧ Arr w' .u8 A (bs.drop 4) ∧ w.grownBy w' none

theorem refTakeFour_no (A : Option Addr) (c : Nat) (bs : List Int) (w : World) (h : bs.length < 4) :
    Calls Try.prog 26 #[.slice A bs.length c] w fun e w' => e = .returned (.tuple #[.int .u32 0, .slice none 0 0, .int .i64 10]) ∧ w.grownBy w' none := by
  go_enter Try.func26, Try.ntmps26
  go_wp2
  go_ret3
  exact ⟨rfl, grown_refl _ _⟩

set_option maxHeartbeats 800000 in
theorem refTakeFour_yes (A : Option Addr) (c : Nat) (bs : List Int) (w : World) (h : 4 ≤ bs.length) (hl : bs.length ≤ 100000) (hc : bs.length ≤ c) (hc2 : c ≤ maxLen) (hb : ∀ k, 0 ≤ bs.getD k 0 ∧ bs.getD k 0 ≤ 255) (hA : Arr w .u8 A bs) :
    Calls Try.prog 26 #[.slice A bs.length c] w (FourLeaves bs w) := by
  obtain ⟨b, off, rfl, hb0, hx⟩ := hA.at_ (i := 0) (by omega)
  have x0 := hx 0 (by omega)
  rw [Nat.add_zero] at x0
  have x1 := hx 1 (by omega)
  have x2 := hx 2 (by omega)
  have x3 := hx 3 (by omega)
  have hN := hid (show number bs = bs.getD 0 0 * 16777216 + bs.getD 1 0 * 65536 + bs.getD 2 0 * 256 + bs.getD 3 0 from rfl)
  have b0 := hb 0
  have b1 := hb 1
  have b2 := hb 2
  have b3 := hb 3
  clear hx hb
  replace hA := hid hA
  generalize bs.getD 0 0 = y0 at x0 hN b0
  generalize bs.getD 1 0 = y1 at x1 hN b1
  generalize bs.getD 2 0 = y2 at x2 hN b2
  generalize bs.getD 3 0 = y3 at x3 hN b3
  have w0 : IntKind.u32.wrap y0 = y0 := wrap32 _ (by omega) (by omega)
  have w1 : IntKind.u32.wrap y1 = y1 := wrap32 _ (by omega) (by omega)
  have w2 : IntKind.u32.wrap y2 = y2 := wrap32 _ (by omega) (by omega)
  have w3 : IntKind.u32.wrap y3 = y3 := wrap32 _ (by omega) (by omega)
  have w4 : IntKind.u32.wrap (y0 * 16777216) = y0 * 16777216 := wrap32 _ (by omega) (by omega)
  have w5 : IntKind.u32.wrap (y1 * 65536) = y1 * 65536 := wrap32 _ (by omega) (by omega)
  have w6 : IntKind.u32.wrap (y2 * 256) = y2 * 256 := wrap32 _ (by omega) (by omega)
  have w7 : IntKind.u32.wrap (y0 * 16777216 + y1 * 65536) = y0 * 16777216 + y1 * 65536 := wrap32 _ (by omega) (by omega)
  have w8 : IntKind.u32.wrap (y0 * 16777216 + y1 * 65536 + y2 * 256) = y0 * 16777216 + y1 * 65536 + y2 * 256 := wrap32 _ (by omega) (by omega)
  have w9 : IntKind.u32.wrap (y0 * 16777216 + y1 * 65536 + y2 * 256 + y3) = y0 * 16777216 + y1 * 65536 + y2 * 256 + y3 := wrap32 _ (by omega) (by omega)
  have hA1 := hid ((hA.out.grown (grown_drew (World.grownBy_alloc w (.cells #[] 5) none))).drop (i := 4) hc)
  obtain ⟨i0, hi0, hz0, hz1, hz2⟩ := info_parts Try.info5
  have hrowE : (w.alloc (.cells #[] 5)).drew.ownsRow w.heap.size 5 1 (.slice (some ⟨w.heap.size, 0, none⟩) 0 0) ([] : List Int).length (([] : List Int).map (Value.int .u8)) :=
    World.ownsRow_made w.drew #[] 0 (Nat.le_refl _) (by simp) (by simp)
  have hB0 : Below w.heap.size w (w.alloc (.cells #[] 5)).drew := ((Below.refl _ w).alloc (Nat.le_refl _) _).drew
  unfold maxLen at hc2
  have l0 : 0 < bs.length := by omega
  have l1 : (1 : Int) < (bs.length : Int) := by omega
  have l2 : (2 : Int) < (bs.length : Int) := by omega
  have l3 : (3 : Int) < (bs.length : Int) := by omega
  replace hrowE := hid hrowE
  replace hB0 := hid hB0
  by_cases hc4 : c = 4
  all_goals
    first | rw [if_pos hc4] at hA1 | rw [if_neg hc4] at hA1
    go_enter Try.func26, Try.ntmps26
    go_wp2
    go_still_tail 22, (by kernel_rfl)
    change wpList _ _ _ _ _ w.drew
    clear l0 l1 l2 l3 w0 w1 w2 w3 w4 w5 w6 w7 w8 w9 x0 x1 x2 x3 b0 b1 b2 b3
    rw [← hN.out]
    go_wp2_with (at_builtin; refine wpList_append_all rfl _ _ 23 rfl w.heap.size 5 i0 .u8 1 Try.underlying23 hi0 hz0 hz1 hz2 _ [] (bs.drop 4) _ _ _ (w.alloc (.cells #[] 5)).drew hrowE.out hA1.out rfl rfl (by rw [List.length_drop]) (by decide) (by rw [List.length_drop]; simp; omega) (by simp) ?_; intro v' w1 hrow1 hB1)
    all_goals
      rw [List.nil_append] at hrow1
      obtain ⟨A', c', rfl, hc1, hc3⟩ := own_form hrow1
      have hA' := Arr.of_own (k := .u8) hrow1
      go_ret3
      exact ⟨A', c', rfl, hc1, hc3, hA', below_grown (hB0.out.trans hB1)⟩
end Go.Proofs.Ytghnbfphhmgcpaa
