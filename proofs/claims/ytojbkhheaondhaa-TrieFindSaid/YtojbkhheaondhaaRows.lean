/-
  No cell of these rows narrows 'for every input' (looked for: loops, veiled, ifaces, maps, wideKeys, modest, calm, conditions, laid).
  DERIVED. THE GIVEN ROWS OF THIS SEAT. 4 by the template 'for every input the law returns true; each argument reads behind the call as it read before'; 0 by the template 'total and deterministic' (their statements: YtojbkhheaondhaaTotals.lean).
  GIVEN WITH THE SEED: the statements are not yours to turn. If you find one false, say at which input.
  Laid BY PROGRAM, IN A SANDBOX (cutbox-rows.mjs): the forced cells as the released guide's own fill.sh prints them over the translation 22698b9c33fec07c… (all of the seat's roots in one cut). By AI agents, Wed Nov 11 2026. No macro, syntax, notation, axiom, sorry.
-/
import Derived.Test.YtojbkhheaondhaaChecked
import GoSem.Claim
import GoSem.ClaimJoined
import GoSem.ClaimMapViews
import Derived.JoinedTies
import Derived.KernelRfl
namespace Go.Proofs.Ytojbkhheaondhaa
/- THE CELL 'sum', in the pinned program and in every row, IS THE sha256 OF THE DUMP (.gsa) THAT YtojbkhheaondhaaProg.lean LOADS. Nothing in Lean hashes anything: it is a label: what it is worth is what the hold of that sum in a sandbox is worth. -/
noncomputable def Try.pinned : Pinned := { name := "ytojbkhheaondhaa", sum := "22698b9c33fec07ca6ff24371a62c36715431c3e84dbf81c4d3a10179e0e0afd", checked := Try.checked }
namespace Rows
def none {H : Type} : Left H := { results := [], args := [] }

/-- 'teasellaw07.TrieWords': WHATEVER THE INPUT: true; the input reads as it did. -/
def trieWordsSpec : ChangeSpec := { name := "trieWords", fn := fun _ => fun
  | [d] => { results := [.lit (.bool true)], args := [d] }
  | _ => none }
def trieWordsRow : OpenClaim := { program := "ytojbkhheaondhaa", sum := "22698b9c33fec07ca6ff24371a62c36715431c3e84dbf81c4d3a10179e0e0afd", func := "teasel/teasellaw07.TrieWords", spec := "trieWords", unfollowed := true, recurses := true, plainKeys := false, apart := false }
def TrieWordsSaid : Prop := trieWordsRow.holds Try.pinned (OpenSpec.ofChange trieWordsSpec)

/-- ITS FALSE NEIGHBOUR: 'it returns false'. Refute it at one input. -/
def trieWordsWrong : ChangeSpec := { name := "trieWords", fn := fun _ => fun
  | [d] => { results := [.lit (.bool false)], args := [d] }
  | _ => none }
def TrieWordsWrongFalsely : Prop := trieWordsRow.holds Try.pinned (OpenSpec.ofChange trieWordsWrong)

/-- 'teasellaw07.TrieOrder': WHATEVER THE INPUT: true; the input reads as it did. -/
def trieOrderSpec : ChangeSpec := { name := "trieOrder", fn := fun _ => fun
  | [d] => { results := [.lit (.bool true)], args := [d] }
  | _ => none }
def trieOrderRow : OpenClaim := { program := "ytojbkhheaondhaa", sum := "22698b9c33fec07ca6ff24371a62c36715431c3e84dbf81c4d3a10179e0e0afd", func := "teasel/teasellaw07.TrieOrder", spec := "trieOrder", unfollowed := true, recurses := true, plainKeys := false, apart := false }
def TrieOrderSaid : Prop := trieOrderRow.holds Try.pinned (OpenSpec.ofChange trieOrderSpec)

/-- ITS FALSE NEIGHBOUR: 'it returns false'. Refute it at one input. -/
def trieOrderWrong : ChangeSpec := { name := "trieOrder", fn := fun _ => fun
  | [d] => { results := [.lit (.bool false)], args := [d] }
  | _ => none }
def TrieOrderWrongFalsely : Prop := trieOrderRow.holds Try.pinned (OpenSpec.ofChange trieOrderWrong)

/-- 'teasellaw07.TrieFind': WHATEVER THE INPUT: true; the input reads as it did. -/
def trieFindSpec : ChangeSpec := { name := "trieFind", fn := fun _ => fun
  | [d1, d2] => { results := [.lit (.bool true)], args := [d1, d2] }
  | _ => none }
def trieFindRow : OpenClaim := { program := "ytojbkhheaondhaa", sum := "22698b9c33fec07ca6ff24371a62c36715431c3e84dbf81c4d3a10179e0e0afd", func := "teasel/teasellaw07.TrieFind", spec := "trieFind", unfollowed := true, recurses := true, plainKeys := false, apart := false }
def TrieFindSaid : Prop := trieFindRow.holds Try.pinned (OpenSpec.ofChange trieFindSpec)

/-- ITS FALSE NEIGHBOUR: 'it returns false'. Refute it at one input. -/
def trieFindWrong : ChangeSpec := { name := "trieFind", fn := fun _ => fun
  | [d1, d2] => { results := [.lit (.bool false)], args := [d1, d2] }
  | _ => none }
def TrieFindWrongFalsely : Prop := trieFindRow.holds Try.pinned (OpenSpec.ofChange trieFindWrong)

/-- 'teasellaw07.TrieSpoilt': WHATEVER THE INPUT: true; the input reads as it did. -/
def trieSpoiltSpec : ChangeSpec := { name := "trieSpoilt", fn := fun _ => fun
  | [d1, d2, d3, d4, d5] => { results := [.lit (.bool true)], args := [d1, d2, d3, d4, d5] }
  | _ => none }
def trieSpoiltRow : OpenClaim := { program := "ytojbkhheaondhaa", sum := "22698b9c33fec07ca6ff24371a62c36715431c3e84dbf81c4d3a10179e0e0afd", func := "teasel/teasellaw07.TrieSpoilt", spec := "trieSpoilt", unfollowed := true, recurses := true, plainKeys := false, apart := false }
def TrieSpoiltSaid : Prop := trieSpoiltRow.holds Try.pinned (OpenSpec.ofChange trieSpoiltSpec)

/-- ITS FALSE NEIGHBOUR: 'it returns false'. Refute it at one input. -/
def trieSpoiltWrong : ChangeSpec := { name := "trieSpoilt", fn := fun _ => fun
  | [d1, d2, d3, d4, d5] => { results := [.lit (.bool false)], args := [d1, d2, d3, d4, d5] }
  | _ => none }
def TrieSpoiltWrongFalsely : Prop := trieSpoiltRow.holds Try.pinned (OpenSpec.ofChange trieSpoiltWrong)

/- THE SECOND FORM. 'bulk': how many values and letters a reading holds, each counted each time it is reached (what is shared counts as often as it is met; a slice's spare places count too). A statement '..UptoSaid' is the law's where the arguments, and the package variables that the reading takes, are together of bulk at most 1048576: NARROWER than '..Said'. Prove '..Said' where nothing that the law and all that it calls make is longer than what came in: it says more and counts as full. Else prove '..UptoSaid'. A law counts once. -/
mutual
def uptoBulk {H : Type} : DataW H → Nat
  | .lit (.string bytes) => bytes.length + 1
  | .lit _ => 1
  | .nil => 1
  | .ptr d => uptoBulk d + 1
  | .slice elems spare => uptoBulkAll elems + uptoBulkAll spare + 1
  | .agg parts => uptoBulkAll parts + 1
  | .iface _ d => uptoBulk d + 1
  | .map entries => uptoBulkEntries entries + 1
  | .held _ => 1
def uptoBulkAll {H : Type} : List (DataW H) → Nat
  | [] => 0
  | d :: r => uptoBulk d + uptoBulkAll r
def uptoBulkEntries {H : Type} : List (Lit × DataW H) → Nat
  | [] => 0
  | x :: r => uptoBulkEntry x + uptoBulkEntries r
def uptoBulkEntry {H : Type} : Lit × DataW H → Nat
  | (.string bytes, d) => bytes.length + uptoBulk d + 1
  | (_, d) => uptoBulk d + 1
 end
def uptoSmall : (H : Type) → List (DataW H) → Bool := fun _ ds => decide (uptoBulkAll ds ≤ 1048576)
def OpenSpec.upto (s : _root_.Go.ChangeSpec) : _root_.Go.OpenSpec := { _root_.Go.OpenSpec.ofChange s with cond := some uptoSmall }

/-- 'teasellaw07.TrieWords', WHERE WHAT IT READS IS OF BULK AT MOST 1048576: true; the input reads as it did. -/
def trieWordsUptoRow : OpenClaim := { program := "ytojbkhheaondhaa", sum := "22698b9c33fec07ca6ff24371a62c36715431c3e84dbf81c4d3a10179e0e0afd", func := "teasel/teasellaw07.TrieWords", spec := "trieWords", unfollowed := true, recurses := true, plainKeys := false, apart := false, narrowed := true }
def TrieWordsUptoSaid : Prop := trieWordsUptoRow.holds Try.pinned (OpenSpec.upto trieWordsSpec)

/-- 'teasellaw07.TrieOrder', WHERE WHAT IT READS IS OF BULK AT MOST 1048576: true; the input reads as it did. -/
def trieOrderUptoRow : OpenClaim := { program := "ytojbkhheaondhaa", sum := "22698b9c33fec07ca6ff24371a62c36715431c3e84dbf81c4d3a10179e0e0afd", func := "teasel/teasellaw07.TrieOrder", spec := "trieOrder", unfollowed := true, recurses := true, plainKeys := false, apart := false, narrowed := true }
def TrieOrderUptoSaid : Prop := trieOrderUptoRow.holds Try.pinned (OpenSpec.upto trieOrderSpec)

/-- 'teasellaw07.TrieFind', WHERE WHAT IT READS IS OF BULK AT MOST 1048576: true; the input reads as it did. -/
def trieFindUptoRow : OpenClaim := { program := "ytojbkhheaondhaa", sum := "22698b9c33fec07ca6ff24371a62c36715431c3e84dbf81c4d3a10179e0e0afd", func := "teasel/teasellaw07.TrieFind", spec := "trieFind", unfollowed := true, recurses := true, plainKeys := false, apart := false, narrowed := true }
def TrieFindUptoSaid : Prop := trieFindUptoRow.holds Try.pinned (OpenSpec.upto trieFindSpec)

/-- 'teasellaw07.TrieSpoilt', WHERE WHAT IT READS IS OF BULK AT MOST 1048576: true; the input reads as it did. -/
def trieSpoiltUptoRow : OpenClaim := { program := "ytojbkhheaondhaa", sum := "22698b9c33fec07ca6ff24371a62c36715431c3e84dbf81c4d3a10179e0e0afd", func := "teasel/teasellaw07.TrieSpoilt", spec := "trieSpoilt", unfollowed := true, recurses := true, plainKeys := false, apart := false, narrowed := true }
def TrieSpoiltUptoSaid : Prop := trieSpoiltUptoRow.holds Try.pinned (OpenSpec.upto trieSpoiltSpec)

end Rows
end Go.Proofs.Ytojbkhheaondhaa
