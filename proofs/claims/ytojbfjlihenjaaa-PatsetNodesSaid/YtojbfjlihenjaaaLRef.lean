/- The document's own answer: bytes folded, texts that are the same. -/
import Derived.Test.YtojbfjlihenjaaaBase
import Derived.Test.YtojbfjlihenjaaaPlainLetter
import Derived.StillTailTactics
import Derived.Deep.Light
set_option linter.unusedSimpArgs false
set_option linter.unusedVariables false
namespace Go.Proofs.Ytojbfjlihenjaaa
open Go.RowKit PlainLetter

theorem refFold_is (c : Int) (w : World) (h0 : 0 ≤ c) (h1 : c ≤ 255) : Calls Try.prog 52 #[.int .u8 c] w fun e w' => e = .returned (.int .u8 (fold c)) ∧ w = w' := by
  by_cases h : 65 ≤ c ∧ c ≤ 90
  · have hf := hid (fold_in c h)
    obtain ⟨h2, h3⟩ := h
    have hw : IntKind.u8.wrap (c + 32) = c + 32 := by simp [IntKind.wrap, IntKind.bits, IntKind.signed]; omega
    go_enter Try.func52, Try.ntmps52
    go_wp2
    go_ret
    exact ⟨by rw [hf.out]; rfl, rfl⟩
  · have hf := hid (fold_out c h)
    by_cases h2 : 65 ≤ c
    · have h3 : ¬ c ≤ 90 := by omega
      clear h
      go_enter Try.func52, Try.ntmps52
      go_wp2
      go_ret
      exact ⟨by rw [hf.out]; rfl, rfl⟩
    · clear h
      go_enter Try.func52, Try.ntmps52
      go_wp2
      go_ret
      exact ⟨by rw [hf.out]; rfl, rfl⟩

theorem map_take_succ (f : Int → Int) (xs : List Int) (k : Nat) (h : k < xs.length) : (xs.take (k + 1)).map f = (xs.take k).map f ++ [f (xs.getD k 0)] := by rw [take_getD xs k 0 h, List.map_append]; rfl

set_option maxHeartbeats 800000 in
theorem refFolded_is (A : Option Addr) (c : Nat) (xs : List Int) (w : World) (hl : xs.length ≤ 100000) (hb : Bytes xs) (hA : Arr w .u8 A xs) :
    Calls Try.prog 41 #[.slice A xs.length c] w (Owns (xs.map fold) w) := by
  obtain ⟨i0, hi0, hz0, hz1, hz2⟩ := info_parts Try.info5
  replace hb := hid hb
  replace hA := hid hA
  go_enter Try.func41, Try.ntmps41
  go_wp2
  go_loopw [3, 4] (fun v i wr => ∃ k : Nat, k ≤ xs.length ∧ i = .int .i64 k ∧ wr.ownsRow w.heap.size 5 1 v ((xs.take k).map fold).length (((xs.take k).map fold).map (Value.int .u8)) ∧ Below w.heap.size w wr) (fun _ i _ => xs.length - (intOf i).toNat)
  case atStart => exact ⟨0, Nat.zero_le _, rfl, by simpa using World.ownsRow_nil _ _ _ _, Below.refl _ _⟩
  case round =>
    obtain ⟨k, hk, rfl, hown, hB⟩ := hrel
    by_cases hlt : k < xs.length
    · obtain ⟨b, off, rfl, hb0, hc⟩ := (hA.out.grown (below_grown hB)).at_ hlt
      have hck := hc k hlt
      obtain ⟨hy0, hy1⟩ := hb.out k
      have hT := hid (map_take_succ fold xs k hlt)
      have hlen : ((xs.take k).map fold).length = k := by simp; omega
      clear hc
      generalize xs.getD k 0 = y at hck hy0 hy1 hT
      generalize (xs.take k).map fold = zs at hown hT hlen
      have hlen' := hid hlen
      replace hT := hid hT.out
      replace hown := hid hown
      have hz : zs.length ≤ 1099511627776 := by omega
      have hsz := hB.size
      replace hB := hid hB
      clear hlen
      go_wp2_with (first
        | (go_at_call 52; refine (refFold_is y _ hy0 hy1).mono ?_; rintro e w' ⟨rfl, rfl⟩)
        | (at_builtin; refine wpList_push rfl _ _ 25 rfl w.heap.size 5 i0 .u8 1 Try.underlying25 hi0 hz0 hz1 hz2 _ zs (fold y) _ hown.out rfl rfl (by decide) hz hsz ?_; intro v' w1 hrow1 hB1))
      go_roundw
      case rel => exact ⟨k + 1, by omega, by go_num, by rw [hT.out]; exact hrow1, hB.out.trans hB1⟩
      case measure => simp [intOf]; omega
    · obtain rfl : k = xs.length := by omega
      rw [List.take_length] at hown
      go_wp2
      go_ret
      exact ⟨_, rfl, hown, hB⟩

end Go.Proofs.Ytojbfjlihenjaaa
