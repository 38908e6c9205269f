/- A slice of bytes, as a string. -/
import Derived.Test.YtdlfphdgjonbdaaParts
import Derived.Laws.BytesArg
set_option linter.unusedVariables false
namespace Go.Proofs.Ytdlfphdgjonbdaa
open Go.RowKit

theorem conv_arr (w : World) (A : Option Addr) (c : Nat) (zs : List Int) (h : Arr w .u8 A zs) : (convert 26 9 (.slice A zs.length c)).run Try.prog w = .ok (.string (strOfNums zs)) w := by
  by_cases hz : zs = []
  · subst hz
    cases A with
    | none => exact run_convert_bytes_nil w 26 5 Try.underlying26 Try.underlying5 _ _ 9 Try.underlying9
    | some a =>
      rw [run_convert_bytes_string w 26 9 5 (some a) _ c Try.underlying26 Try.underlying5 Try.underlying9]
      have : (loadCells a 0).run Try.prog w = .ok (([] : List Int).map (Value.int .u8)).toArray w := by
        have := run_loadCells_list (P := Try.prog) w a [] (fun j v hj => by simp at hj)
        simpa using this
      rw [List.length_nil, run_bytesToString w a 0 c [] this]
      rfl
  · obtain ⟨b, off, rfl, _, hc⟩ := h hz
    exact run_convert_bytes_arg w 26 5 Try.underlying26 Try.underlying5 b off zs.length c zs rfl hc 9 Try.underlying9
end Go.Proofs.Ytdlfphdgjonbdaa
