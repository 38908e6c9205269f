/- Two lists of numbers that are the same. -/
import Derived.Test.YtdpdomdgmehomaaRest
namespace Go.Proofs.Ytdpdomdgmehomaa
open Go.RowKit Plain

theorem Ints_yes (A1 A2 : Option Addr) (c1 c2 : Nat) (zs : List Int) (w : World) (hl : zs.length ≤ 100000) (h1 : Arr w .i64 A1 zs) (h2 : Arr w .i64 A2 zs) :
    Calls Try.prog 18 #[.slice A1 zs.length c1, .slice A2 zs.length c2] w fun e w' => e = .returned (.bool true) ∧ w.grownBy w' none := by
  go_enter Try.func18, Try.ntmps18
  go_wp2
  go_loopw [5] (fun i wr => ∃ k : Nat, k ≤ zs.length ∧ i = .int .i64 k ∧ w.grownBy wr none) (fun i _ => zs.length - (intOf i).toNat)
  case atStart => exact ⟨0, Nat.zero_le _, rfl, grown_refl _ _⟩
  case round =>
    obtain ⟨k, hk, rfl, hG⟩ := hrel
    by_cases hlt : k < zs.length
    · obtain ⟨b1, o1, rfl, _, hc1⟩ := (h1.grown hG).at_ hlt
      obtain ⟨b2, o2, rfl, _, hc2⟩ := (h2.grown hG).at_ hlt
      have hk1 := hc1 k hlt
      have hk2 := hc2 k hlt
      have hG' := hid (grown_drew hG)
      clear h1 h2 hc1 hc2 hG
      generalize zs.getD k 0 = x at hk1 hk2
      go_wp2
      go_still_tail 8, (by kernel_rfl)
      change wpList _ _ _ _ _ wr.drew
      go_wp2
      go_roundw
      case rel => exact ⟨k + 1, by omega, by go_num, hG'.out⟩
      case measure => simp [intOf]; omega
    · go_wp2
      go_ret
      exact ⟨rfl, hG⟩
end Go.Proofs.Ytdpdomdgmehomaa
