/- What calls that tell slices of integers leave; of digit's numbers. -/
import Derived.Test.YtghnbfphhmgcpaaMem
import Derived.Test.YtghnbfphhmgcpaaPlain
set_option linter.unusedSimpArgs false
set_option linter.unusedVariables false
namespace Go.Proofs.Ytghnbfphhmgcpaa
open Go.RowKit Plain

/-- What a call that tells a slice of bytes and an error leaves. -/
def Tells (k : IntKind) (zs : List Int) (er : Int) (w : World) (e : Ending) (w' : World) : Prop :=
  ∃ A c, e = .returned (.tuple #[.slice A zs.length c, .int .i64 er]) ∧ zs.length ≤ c ∧ c ≤ maxLen ∧ Arr w' k A zs ∧ w.grownBy w' none

/-- What a call that tells a slice of integers leaves. -/
def Gives (k : IntKind) (zs : List Int) (w : World) (e : Ending) (w' : World) : Prop :=
  ∃ A c, e = .returned (.slice A zs.length c) ∧ zs.length ≤ c ∧ c ≤ maxLen ∧ Arr w' k A zs ∧ w.grownBy w' none

/-- What Take leaves. -/
def TakeLeaves (b : List Int) (w : World) (e : Ending) (w' : World) : Prop :=
  ∃ (n er : Int) (rest : List Int) (A : Option Addr) (c : Nat), e = .returned (.tuple #[.int .i64 n, .slice A rest.length c, .int .i64 er]) ∧ rest.length ≤ c ∧ c ≤ maxLen ∧ Arr w' .u8 A rest ∧
    w.grownBy w' none ∧ ((take b = .good n rest ∧ er = 0) ∨ (take b = .bad er ∧ er ≠ 0 ∧ n = 0 ∧ rest = []))

end Go.Proofs.Ytghnbfphhmgcpaa
