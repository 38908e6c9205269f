/- Package sum: what is summed: a byte comes; many come of which only the sum is known. -/
import Derived.Test.YtghnbfphhmgcpaaSum
import Derived.Test.YtghnbfphhmgcpaaOrder
import Derived.StillTailTactics
set_option linter.unusedSimpArgs false
set_option linter.unusedVariables false
set_option maxRecDepth 100000
namespace Go.Proofs.Ytghnbfphhmgcpaa
open Go.RowKit PlainSum

/-- Block g, and no other that was, holds these two now. -/
def Turned (g : Nat) (s : S) (w : World) : Ending → World → Prop := fun e w' => (∃ v, e = .returned v) ∧ Holds w' g 85 #[.int .i64 s.1, .int .i64 s.2] ∧ w.grownBy w' (some g)

theorem add_is (g : Nat) (A B c : Int) (w : World) (hH : Holds w g 85 #[.int .i64 A, .int .i64 B]) (h0 : 0 ≤ A) (h1 : A ≤ 65520) (h2 : 0 ≤ B) (h3 : B ≤ 65520) (h4 : 0 ≤ c) (h5 : c ≤ 255) :
    Calls Try.prog 52 #[.pointer (some ⟨g, 0, none⟩), .int .u8 c] w (Turned g (feed1 (A, B) c) w) := by
  have c0 := hH.cell 0
  have c1 := hH.cell 1
  have f0 := hH.free 0
  have f1 := hH.free 1
  simp at c0 c1
  have hF := hid (show feed1 (A, B) c = ((A + c) % 65521, (B + (A + c) % 65521) % 65521) from rfl)
  have wc : IntKind.i64.wrap c = c := IntWalk.i64_in _ (by omega)
  have hl := hH.lt
  go_enter Try.func52, Try.ntmps52
  go_wp2
  clear wc
  have x0 : 0 ≤ (A + c) % 65521 := by omega
  have x1 : (A + c) % 65521 ≤ 65520 := by omega
  generalize (A + c) % 65521 = x at hF x0 x1 ⊢
  obtain ⟨w1, hw1⟩ : ∃ w1, w.setCell ⟨g, 0, none⟩ (.int .i64 x) = w1 := ⟨_, rfl⟩
  have hH1 : Holds w1 g 85 #[.int .i64 x, .int .i64 B] := hw1 ▸ (by simpa using hH.set 0 (.int .i64 x))
  have hG1 : w.grownBy w1 (some g) := hw1 ▸ grown_set (grown_refl w _) (.inl rfl) _
  rw [hw1]
  clear hw1 hH c0 c1 f0 f1 hl
  have c0 := hH1.cell 0
  have c1 := hH1.cell 1
  have f0 := hH1.free 0
  have f1 := hH1.free 1
  simp at c0 c1
  have hl := hH1.lt
  replace hG1 := hid hG1
  replace hH1 := hid hH1
  go_still_tail 16, (by kernel_rfl)
  change wpList _ _ _ _ _ w1.drew
  go_wp2
  go_end0
  exact ⟨⟨_, rfl⟩, by rw [hF.out]; have := (hH1.out.set 1 (.int .i64 ((B + x) % 65521))).drew; simpa using this, grown_drew (grown_set hG1.out (.inl rfl) _)⟩

end Go.Proofs.Ytghnbfphhmgcpaa
