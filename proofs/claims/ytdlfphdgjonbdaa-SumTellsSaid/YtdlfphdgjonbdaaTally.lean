/- Package sum: what is summed: a byte comes; many come of which only the sum is known. -/
import Derived.Test.YtdlfphdgjonbdaaSum
import Derived.Test.YtdlfphdgjonbdaaOrder
import Derived.StillTailTactics
set_option linter.unusedVariables false
namespace Go.Proofs.Ytdlfphdgjonbdaa
open Go.RowKit PlainSum

/-- Block g, and no other that was, holds these two now. -/
def Turned (g : Nat) (s : S) (w : World) : Ending → World → Prop := fun e w' => (∃ v, e = .returned v) ∧ Holds w' g 47 #[.int .i64 s.1, .int .i64 s.2] ∧ w.grownBy w' (some g)

theorem add_is (g : Nat) (A B c : Int) (w : World) (hH : Holds w g 47 #[.int .i64 A, .int .i64 B]) (h0 : 0 ≤ A) (h1 : A ≤ 65520) (h2 : 0 ≤ B) (h3 : B ≤ 65520) (h4 : 0 ≤ c) (h5 : c ≤ 255) :
    Calls Try.prog 27 #[.pointer (some ⟨g, 0, none⟩), .int .u8 c] w (Turned g (feed1 (A, B) c) w) := by
  have c0 := hH.cell 0
  have c1 := hH.cell 1
  have f0 := hH.free 0
  have f1 := hH.free 1
  simp at c0 c1
  have hF := hid (show feed1 (A, B) c = ((A + c) % 65521, (B + (A + c) % 65521) % 65521) from rfl)
  have wc : IntKind.i64.wrap c = c := IntWalk.i64_in _ (by omega)
  have hl := hH.lt
  go_enter Try.func27, Try.ntmps27
  go_wp2
  clear wc
  have x0 : 0 ≤ (A + c) % 65521 := by omega
  have x1 : (A + c) % 65521 ≤ 65520 := by omega
  generalize (A + c) % 65521 = x at hF x0 x1 ⊢
  obtain ⟨w1, hw1⟩ : ∃ w1, w.setCell ⟨g, 0, none⟩ (.int .i64 x) = w1 := ⟨_, rfl⟩
  have hH1 : Holds w1 g 47 #[.int .i64 x, .int .i64 B] := hw1 ▸ (by simpa using hH.set 0 (.int .i64 x))
  have hG1 : w.grownBy w1 (some g) := hw1 ▸ grown_set (grown_refl w _) (.inl rfl) _
  rw [hw1]
  clear hw1 hH c0 c1 f0 f1 hl
  have c0 := hH1.cell 0
  have c1 := hH1.cell 1
  have f0 := hH1.free 0
  have f1 := hH1.free 1
  simp at c0 c1
  have hl := hH1.lt
  replace hG1 := hid hG1
  replace hH1 := hid hH1
  go_still_tail 16, (by kernel_rfl)
  change wpList _ _ _ _ _ w1.drew
  go_wp2
  go_end0
  exact ⟨⟨_, rfl⟩, by rw [hF.out]; have := (hH1.out.set 1 (.int .i64 ((B + x) % 65521))).drew; simpa using this, grown_drew (grown_set hG1.out (.inl rfl) _)⟩

theorem behind_is (g : Nat) (A B C D n : Int) (w : World) (hH : Holds w g 47 #[.int .i64 A, .int .i64 B]) (ha : right (A, B) = true) (hb : right (C, D) = true) (h0 : 0 ≤ n) (h1 : n ≤ 2147483647) :
    Calls Try.prog 25 #[.pointer (some ⟨g, 0, none⟩), .agg #[.int .i64 C, .int .i64 D], .int .i64 n] w (Turned g (join (A, B) (C, D) n) w) := by
  obtain ⟨a1, a2, a3, a4⟩ := (right_iff _).1 ha
  obtain ⟨b1, b2, b3, b4⟩ := (right_iff _).1 hb
  simp only at a1 a2 a3 a4 b1 b2 b3 b4
  have c0 := hH.cell 0
  have c1 := hH.cell 1
  have f0 := hH.free 0
  have f1 := hH.free 1
  simp at c0 c1
  have hl := hH.lt
  have hm0 : 0 ≤ n * (A - 1 + 65521) := Int.mul_nonneg h0 (by omega)
  have hm1 : n * (A - 1 + 65521) ≤ 2147483647 * 131040 := Int.mul_le_mul h1 (by omega) (by omega) (by omega)
  have hF := hid (show join (A, B) (C, D) n = ((A - 1 + 65521 + C) % 65521, (B + D + n * (A - 1 + 65521)) % 65521) by
    have : n * (A - 1 + 65521) = n * A - n + n * 65521 := by rw [show A - 1 + 65521 = A + 65520 by omega, Int.mul_add]; omega
    rw [this]
    simp only [join]
    apply Prod.ext <;> simp only <;> omega)
  go_enter Try.func25, Try.ntmps25
  go_wp2
  have x0 : 0 ≤ (A - 1 + 65521 + C) % 65521 := by omega
  have x1 : (A - 1 + 65521 + C) % 65521 ≤ 65520 := by omega
  replace hF := hid hF.out
  generalize (A - 1 + 65521 + C) % 65521 = x at hF x0 x1 ⊢
  obtain ⟨w1, hw1⟩ : ∃ w1, (w.setCell ⟨g, 0, none⟩ (.int .i64 x)).alloc (.cells #[.int .i64 C, .int .i64 D] 23) = w1 := ⟨_, rfl⟩
  have hH1 : Holds w1 g 47 #[.int .i64 x, .int .i64 B] := hw1 ▸ (by have := (hH.set 0 (.int .i64 x)).alloc (.cells #[.int .i64 C, .int .i64 D] 23); simpa using this)
  have hH2 : Holds w1 w.heap.size 23 #[.int .i64 C, .int .i64 D] := hw1 ▸ (by have := Holds.new (w.setCell ⟨g, 0, none⟩ (.int .i64 x)) 23 #[.int .i64 C, .int .i64 D]; simpa using this)
  have hG1 : w.grownBy w1 (some g) := hw1 ▸ grown_alloc (grown_set (grown_refl w _) (.inl rfl) _) _
  rw [hw1]
  clear hw1 hH c0 c1 f0 f1 hl
  have c0 := hH1.cell 0
  have c1 := hH1.cell 1
  have d0 := hH2.cell 0
  have d1 := hH2.cell 1
  have f0 := hH1.free 0
  have f1 := hH1.free 1
  simp at c0 c1 d0 d1
  have hl := hH1.lt
  replace hG1 := hid hG1
  replace hH1 := hid hH1
  clear hH2
  go_still_tail 17, (by kernel_rfl)
  change wpList _ _ _ _ _ w1.drew
  go_wp2
  go_end0
  exact ⟨⟨_, rfl⟩, by rw [hF.out]; have := (hH1.out.set 1 (.int .i64 ((B + D + n * (A - 1 + 65521)) % 65521))).drew; simpa using this, grown_drew (grown_set hG1.out (.inl rfl) _)⟩
end Go.Proofs.Ytdlfphdgjonbdaa
