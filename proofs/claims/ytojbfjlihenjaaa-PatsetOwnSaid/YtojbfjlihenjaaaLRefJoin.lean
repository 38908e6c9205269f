/- The document's own answer: texts joined. -/
import Derived.Test.YtojbfjlihenjaaaLSame
import Derived.Test.YtojbfjlihenjaaaGreat
set_option linter.unusedSimpArgs false
set_option linter.unusedVariables false
namespace Go.Proofs.Ytojbfjlihenjaaa
open Go.RowKit PlainLetter

set_option maxHeartbeats 800000 in
theorem refJoinTexts_is (P : Option Addr) (d : Nat) (xss : List (List Int)) (w : World) (hn : xss.length ≤ 100000) (hl : xss.flatten.length ≤ 100000) (hP : Arrs w P xss) :
    Calls Try.prog 27 #[.slice P xss.length d] w (Owns xss.flatten w) := by
  obtain ⟨i0, hi0, hz0, hz1, hz2⟩ := info_parts Try.info5
  replace hP := hid hP
  go_enter Try.func27, Try.ntmps27
  go_wp2
  go_loopw [3, 4] (fun v i wr => ∃ k : Nat, k ≤ xss.length ∧ i = .int .i64 k ∧ wr.ownsRow w.heap.size 5 1 v (xss.take k).flatten.length ((xss.take k).flatten.map (Value.int .u8)) ∧ Below w.heap.size w wr) (fun _ i _ => xss.length - (intOf i).toNat)
  case atStart => exact ⟨0, Nat.zero_le _, rfl, by simpa using World.ownsRow_nil _ _ _ _, Below.refl _ _⟩
  case round =>
    obtain ⟨k, hk, rfl, hown, hB⟩ := hrel
    by_cases hlt : k < xss.length
    · obtain ⟨b, off, Ai, ci, rfl, hb, hcell0, hAi⟩ := hP.out.at_ hlt
      have hcell := ((gcell (below_grown hB)).1 b (off + k) hb).trans hcell0
      have hAi' := hAi.grown (below_grown hB)
      have hT := hid (flatten_take_succ xss k hlt)
      have hle := flatten_take_le xss (k + 1)
      rw [hT.out, List.length_append] at hle
      clear hcell0 hAi
      generalize xss.getD k [] = xs at hcell hAi' hT hle
      generalize (xss.take k).flatten = zs at hown hT hle
      have hsz := hB.size
      have hz : zs.length + xs.length ≤ 1099511627776 := by omega
      replace hT := hid hT.out
      replace hown := hid hown
      replace hB := hid hB
      replace hAi' := hid hAi'
      clear hle
      go_wp2_with (at_builtin; refine wpList_append_all rfl _ _ 25 rfl w.heap.size 5 i0 .u8 1 Try.underlying25 hi0 hz0 hz1 hz2 _ zs xs _ _ _ _ hown.out hAi'.out rfl rfl rfl (by decide) hz hsz ?_; intro v' w1 hrow1 hB1)
      go_roundw
      case rel => exact ⟨k + 1, by omega, by go_num, by rw [hT.out]; exact hrow1, hB.out.trans hB1⟩
      case measure => simp [intOf]; omega
    · obtain rfl : k = xss.length := by omega
      rw [List.take_length] at hown
      go_wp2
      go_ret
      exact ⟨_, rfl, hown, hB⟩

end Go.Proofs.Ytojbfjlihenjaaa
