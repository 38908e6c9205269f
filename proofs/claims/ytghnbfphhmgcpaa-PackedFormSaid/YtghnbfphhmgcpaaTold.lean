/- Whether numbers may be told. -/
import Derived.Test.YtghnbfphhmgcpaaProg
import Derived.Test.YtghnbfphhmgcpaaPlain
import Derived.Test.YtghnbfphhmgcpaaMem
set_option linter.unusedSimpArgs false
set_option linter.unusedVariables false
namespace Go.Proofs.Ytghnbfphhmgcpaa
open Go.RowKit Plain

theorem mayBeTold_yes (A : Option Addr) (c : Nat) (zs : List Int) (w : World) (h : Arr w .i64 A zs) (hl : zs.length ≤ 1000) (ht : toldB zs = true) :
    Calls Try.prog 56 #[.slice A zs.length c] w fun e w' => e = .returned (.bool true) ∧ w = w' := by
  go_enter Try.func56, Try.ntmps56
  go_wp2
  go_loop [7] (fun i => ∃ k : Nat, k ≤ zs.length ∧ i = .int .i64 k) (fun i => zs.length - (intOf i).toNat)
  case atStart => exact ⟨0, Nat.zero_le _, rfl⟩
  case round =>
    obtain ⟨k, hk, rfl⟩ := hrel
    by_cases hlt : k < zs.length
    · obtain ⟨b, off, rfl, hb, hc⟩ := h.at_ hlt
      have hck := hc k hlt
      have hr := (toldB_iff zs).1 ht (zs.getD k 0) (by simp [List.getD, hlt])
      clear h hc ht
      generalize zs.getD k 0 = x at hck hr
      obtain ⟨hx0, hx1⟩ := hr
      go_wp2
      go_round
      case rel => exact ⟨k + 1, by omega, by go_num⟩
      case measure => simp [intOf]; omega
    · go_wp2
      go_ret
      exact ⟨rfl, rfl⟩

theorem find_first (zs : List Int) (ht : toldB zs = false) : ∃ m, m < zs.length ∧ ¬ (0 ≤ zs.getD m 0 ∧ zs.getD m 0 ≤ 2147483647) ∧ ∀ j, j < m → 0 ≤ zs.getD j 0 ∧ zs.getD j 0 ≤ 2147483647 := by
  induction zs with
  | nil => simp [toldB] at ht
  | cons z zs ih =>
    rw [toldB_cons] at ht
    by_cases hz : 0 ≤ z ∧ z ≤ 2147483647
    · obtain ⟨m, h1, h2, h3⟩ := ih (by simpa [hz] using ht)
      refine ⟨m + 1, by simp; omega, by simpa using h2, fun j hj => ?_⟩
      cases j with
      | zero => simpa using hz
      | succ j => simpa using h3 j (by omega)
    · exact ⟨0, by simp, by simpa using hz, fun j hj => by omega⟩

theorem mayBeTold_no (A : Option Addr) (c : Nat) (zs : List Int) (w : World) (h : Arr w .i64 A zs) (hl : zs.length ≤ 1000) (ht : toldB zs = false) :
    Calls Try.prog 56 #[.slice A zs.length c] w fun e w' => e = .returned (.bool false) ∧ w = w' := by
  obtain ⟨m, hm, hbad, hgood⟩ := find_first zs ht
  have hbad := hid hbad
  have hgood := hid hgood
  clear ht
  go_enter Try.func56, Try.ntmps56
  go_wp2
  go_loop [7] (fun i => ∃ k : Nat, k ≤ m ∧ i = .int .i64 k) (fun i => zs.length - (intOf i).toNat)
  case atStart => exact ⟨0, Nat.zero_le _, rfl⟩
  case round =>
    obtain ⟨k, hk, rfl⟩ := hrel
    have hlt : k < zs.length := by omega
    obtain ⟨b, off, rfl, hb, hc⟩ := h.at_ hlt
    have hck := hc k hlt
    by_cases hkm : k < m
    · have hr := hgood.out k hkm
      clear h hc hgood hbad
      generalize zs.getD k 0 = x at hck hr
      obtain ⟨hx0, hx1⟩ := hr
      go_wp2
      go_round
      case rel => exact ⟨k + 1, by omega, by go_num⟩
      case measure => simp [intOf]; omega
    · obtain rfl : k = m := by omega
      have hr := hbad.out
      clear h hc hgood hbad
      generalize zs.getD k 0 = x at hck hr
      by_cases hx0 : x < 0
      · clear hr
        go_wp2
        go_ret
        exact ⟨rfl, rfl⟩
      · have hx1 : 2147483647 < x := by omega
        clear hr
        go_wp2
        go_ret
        exact ⟨rfl, rfl⟩

end Go.Proofs.Ytghnbfphhmgcpaa
