/- Several numbers, taken one behind the other; what stands behind them. -/
import Derived.Test.YtghnbfphhmgcpaaNumber
import Derived.Test.YtghnbfphhmgcpaaAdd
set_option linter.unusedSimpArgs false
set_option linter.unusedVariables false
namespace Go.Proofs.Ytghnbfphhmgcpaa
open Go.RowKit Plain

/-- What taking several numbers has come to. -/
def ToldAll (g : GotAll) (l : List Int) (er : Int) (rest : List Int) : Prop := (g = .good l rest ∧ er = 0) ∨ (g = .bad er ∧ l = [])

def prepend (l : List Int) : GotAll → GotAll
  | .bad e => .bad e
  | .good l' r => .good (l ++ l') r

theorem prepend_nil (g : GotAll) : prepend [] g = g := by cases g <;> rfl

theorem takes_step (m : Nat) (b : List Int) (n : Int) (r l : List Int) (h : take b = .good n r) : prepend l (takes (m + 1) b) = prepend (l ++ [n]) (takes m r) := by
  simp only [takes, h]
  cases takes m r <;> simp [prepend]

theorem takes_stop (m : Nat) (b : List Int) (er : Int) (l : List Int) (h : take b = .bad er) : prepend l (takes (m + 1) b) = .bad er := by
  simp only [takes, h]
  rfl

theorem take_shorter (b : List Int) : ∀ (i : Nat) (acc n : Int) (r : List Int), takeFrom i acc b = .good n r → r.length < b.length := by
  induction b with
  | nil => intro i acc n r h; simp [takeFrom] at h
  | cons c b ih =>
    intro i acc n r h
    simp only [takeFrom] at h
    split at h
    · cases h
    split at h
    · cases h
    split at h
    · cases h
    split at h
    · injection h with _ h; subst h; simp
    · have := ih _ _ _ _ h; simp; omega

theorem take_bad_ne (b : List Int) (er : Int) (h : take b = .bad er) : er ≠ 0 := by
  have := takeFrom_bad b 0 0 er h
  omega

theorem grown_then_below {w w' w'' : World} {row : Option Nat} (h : w.grownBy w' row) (hB : Below w.heap.size w' w'') : w.grownBy w'' row :=
  ⟨hB.os.trans h.os, hB.tape.trans h.tape, hB.output.trans h.output, Nat.le_trans h.size hB.size, fun j hj hr => (hB.block j hj).trans (h.block j hj hr)⟩

theorem Holds.below {w w' : World} {B g : Nat} {t : TypeId} {cs : Array Value} (h : Holds w g t cs) (hB : Below B w w') (hg : g < B) : Holds w' g t cs := (hB.block g hg).trans h

end Go.Proofs.Ytghnbfphhmgcpaa
