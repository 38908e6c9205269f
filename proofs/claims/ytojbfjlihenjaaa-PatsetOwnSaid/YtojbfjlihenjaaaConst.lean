/- Bytes of a constant text, and new rows, at a known place of memory. -/
import Derived.Test.YtojbfjlihenjaaaBase
import Derived.Lib.SlBytesConst
set_option linter.unusedSimpArgs false
set_option linter.unusedVariables false
namespace Go.Proofs.Ytojbfjlihenjaaa
open Go.RowKit

theorem bytes_at {w : World} {g : Nat} (xs : List Int) (hg : w.heap.size = g) : Arr (w.alloc (.cells (xs.map (Value.int .u8)).toArray 5)) .u8 (some ⟨g, 0, none⟩) xs := by subst hg; exact bytes_new w xs

theorem conv_const (w : World) (g : Nat) (C : Array Value) (n c : Nat) (hg : w.heap.size = g) : (convert 25 25 (.slice (some ⟨g, 0, none⟩) n c)).run Try.prog (w.alloc (.cells C 5)) = .ok (.slice (some ⟨g, 0, none⟩) n c) (w.alloc (.cells C 5 (C.size, C.size + 1))) := by
  subst hg
  exact Lib.run_convert_bytes_const (P := Try.prog) w 25 5 C n c Try.underlying25 Try.underlying5

theorem const_at {w : World} {g : Nat} (xs : List Int) (r : Nat × Nat) (hg : w.heap.size = g) : Arr (w.alloc (.cells (xs.map (Value.int .u8)).toArray 5 r)) .u8 (some ⟨g, 0, none⟩) xs := fun _ => by
  subst hg
  refine ⟨w.heap.size, 0, rfl, by simp, fun i hi => ?_⟩
  rw [Nat.zero_add, cell_of_row _ w.heap.size i _ 5 r (World.alloc_heap_new w _)]
  simp [hi, List.getD]

theorem row_at {w : World} (n : Nat) (l : List (Option Addr × List Int × Nat)) (hA : ∀ x ∈ l, Arr w .u8 x.1 x.2.1) :
    Arrs (w.alloc (.cells (l.map fun x => Value.slice x.1 x.2.1.length x.2.2).toArray 25)) (some ⟨w.heap.size, 0, none⟩) (l.map (·.2.1)) :=
  Arrs.of_holds l (Holds.new w 25 _) (fun x hx => (hA x hx).grown (grown_alloc (grown_refl _ _) _))

end Go.Proofs.Ytojbfjlihenjaaa
