/- The walk through bytes: its iterator, for every loop body; of digit alone. -/
import Derived.Test.YtghnbfphhmgcpaaTail
import Derived.Test.YtghnbfphhmgcpaaPlain
import Derived.Test.YtghnbfphhmgcpaaProg
import Derived.Shelf.Abstract
import Derived.Shelf.RegionOpen
import Derived.OwnWalkIn
import Derived.TacticsInMore
import Derived.LoopNIn
import Derived.LoopIn
import Derived.Outline
set_option linter.unusedSimpArgs false
set_option linter.unusedVariables false
set_option maxRecDepth 100000
namespace Go.Proofs.Ytghnbfphhmgcpaa
open Go.RowKit Plain Go.Shelf
attribute [local go_sem] Oper.semAt_some

theorem left_any (p : Option Addr) (w : World) : Calls Try.prog 62 #[.pointer p] w fun e w' => e = .returned (.func (.func 65) #[] #[.pointer (some ⟨w.heap.size, 0, none⟩)]) ∧ w' = w.alloc (.cells #[.pointer p] 104) := by
  have hmf : ∀ (fn : Fn) (first cap : Array Value) (w : World), (Instr.makeFunc fn first cap).run Try.prog w = .ok (.func fn first cap) w := fun _ _ _ _ => rfl
  go_enter Try.func62, Try.ntmps62
  go_wp2
  go_ret
  exact ⟨rfl, rfl⟩

/-- Where the walk stands: block bt holds the bytes' slice and how many were passed; block bx leads to it; the slice reads as bs. -/
structure Stands (bt bx : Nat) (A : Option Addr) (c : Nat) (bs : List Int) (i : Nat) (W : World) : Prop where
  at_ : Holds W bt 93 #[.slice A bs.length c, .int .i64 i]
  box : Holds W bx 104 #[.pointer (some ⟨bt, 0, none⟩)]
  bytes : Arr W .u8 A bs

/-- How many were passed, read off the world. -/
def passed (bt : Nat) (W : World) : Nat := match W.cell? ⟨bt, 1, none⟩ with | some v => (intOf v).toNat | none => 0

theorem Stands.passed {bt bx : Nat} {A : Option Addr} {c : Nat} {bs : List Int} {i : Nat} {W : World} (h : Stands bt bx A c bs i W) : passed bt W = i := by
  unfold Ytghnbfphhmgcpaa.passed
  rw [h.at_.cell 1]
  simp [intOf]

set_option maxHeartbeats 1000000 in
theorem left_in (l bt bx : Nat) (A : Option Addr) (c : Nat) (bs : List Int) (hl : bs.length ≤ 100000) (J H : Nat → World → Prop) (Jx : World → Prop) (k : Nat) (W0 : World)
    (hJs : ∀ i W, J i W → i ≤ bs.length ∧ Stands bt bx A c bs i W)
    (hJd : ∀ i W, J i W → J i W.drew)
    (hHs : ∀ i W, H i W → i < bs.length ∧ Stands bt bx A c bs (i + 1) W)
    (hJH : ∀ i W, J i W → i < bs.length → H i (W.setCell ⟨bt, 1, none⟩ (.int .i64 ((i : Int) + 1))).drew.drew)
    (hY : ∀ i W, H i W → YieldAt Fence.wide 0 Try.prog l #[.int .u8 (bs.getD i 0)] W (fun e W' => (e = .returned (.bool true) ∧ J (i + 1) W') ∨ (e = .returned (.bool false) ∧ Jx W')))
    (h0 : J k W0) :
    CallsIn Fence.wide 0 Try.prog 65 #[.func (.yield l) #[] #[], .pointer (some ⟨bx, 0, none⟩)] W0 fun e W' => (∃ v, e = .returned v) ∧ (J bs.length W' ∨ Jx W') := by
  replace hJs := hid hJs
  replace hJd := hid hJd
  replace hHs := hid hHs
  replace hJH := hid hJH
  replace hY := hid hY
  refine callsIn_of_wp Try.func65 rfl trivial ?_ rfl
  simp only [Try.ntmps65, List.size_toArray, List.length_cons, List.length_nil, Nat.reduceAdd, Nat.reduceSub, Array.replicate_succ, Array.replicate_zero, List.push_toArray, List.append_toArray, List.nil_append, List.cons_append]
  gi_wp2
  gi_loopw [12] (fun _ wr => ∃ i : Nat, J i wr) (fun _ wr => bs.length - passed bt wr)
  case atStart => exact ⟨k, h0⟩
  case round =>
    obtain ⟨i, hJ⟩ := hrel
    obtain ⟨hi, hS⟩ := hJs.out i _ hJ
    by_cases hlt : i < bs.length
    · have hc0 := hS.at_.cell 0
      have hc1 := hS.at_.cell 1
      have hcb := hS.box.cell 0
      simp at hc0 hc1 hcb
      have hf1 := hS.at_.free 1
      have hpi := hid hS.passed
      obtain ⟨b, off, rfl, hb, hc⟩ := hS.bytes.at_ hlt
      have hH := hid (hJH.out i _ hJ hlt)
      gi_wp2
      refine tail_plain 9 (by kernel_rfl) (by kernel_rfl) rfl ?_
      simp only [List.take_succ_cons, List.take_zero, List.drop_succ_cons, List.drop_zero]
      repeat still_step
      refine wpStill_nil ?_
      gi_wp2
      obtain ⟨W1, hW1⟩ : ∃ W1, (wr.setCell ⟨bt, 1, none⟩ (.int .i64 ((i : Int) + 1))).drew = W1 := ⟨_, rfl⟩
      rw [hW1] at hH ⊢
      clear hW1 hc0 hc1 hcb hf1 hc hS hb
      obtain ⟨_, hS1⟩ := hHs.out i _ hH.out
      obtain ⟨fn, tmps, assign, body, hy, hR⟩ := hY.out i _ hH.out
      have d0 : W1.cell? ⟨bt, 0, none⟩ = some (.slice (some ⟨b, off, none⟩) bs.length c) := by simpa using hS1.at_.cell 0
      have d1 : W1.cell? ⟨bt, 1, none⟩ = some (.int .i64 ((i : Int) + 1)) := by simpa using hS1.at_.cell 1
      have db : W1.cell? ⟨bx, 0, none⟩ = some (.pointer (some ⟨bt, 0, none⟩)) := by simpa using hS1.box.cell 0
      obtain ⟨b', off', hbo, _, hc⟩ := hS1.bytes.at_ hlt
      obtain ⟨rfl, rfl⟩ : b = b' ∧ off = off' := by simpa using hbo
      have dc := hc i hlt
      have e1 := hid hH
      clear hc hbo hH
      simp only [World.cell?_drew] at dc
      generalize bs.getD i 0 = y at dc hy hR
      have sm : IntKind.i64.wrap (i : Int) = (i : Int) := IntWalk.i64_in _ (by omega)
      refine tail_plain 12 (by kernel_rfl) (by kernel_rfl) rfl ?_
      simp only [List.take_succ_cons, List.take_zero, List.drop_succ_cons, List.drop_zero]
      repeat still_step
      clear sm
      refine wpStill_nil ?_
      gi_wp2
      refine ⟨rfl, hR.mono ?_⟩
      rintro e W2 (⟨rfl, hJ2⟩ | ⟨rfl, hJx2⟩)
      · gi_wp2
        go_roundw
        case rel => exact ⟨i + 1, hJ2⟩
        case measure =>
          have hp2 := (hJs.out _ _ hJ2).2.passed
          have hp := hpi.out
          omega
      · gi_wp2
        refine bodyPost_ret (results_none rfl _ _ _) rfl ?_
        exact ⟨⟨_, rfl⟩, .inr hJx2⟩
    · obtain rfl : i = bs.length := by omega
      have hc0 := hS.at_.cell 0
      have hc1 := hS.at_.cell 1
      have hcb := hS.box.cell 0
      simp at hc0 hc1 hcb
      have hJ' := hid (hJd.out _ _ hJ)
      clear hS hlt hJ
      gi_wp2
      refine tail_plain 9 (by kernel_rfl) (by kernel_rfl) rfl ?_
      simp only [List.take_succ_cons, List.take_zero, List.drop_succ_cons, List.drop_zero]
      repeat still_step
      refine wpStill_nil ?_
      gi_wp2
      go_end0
      exact ⟨⟨_, rfl⟩, .inl hJ'.out⟩
end Go.Proofs.Ytghnbfphhmgcpaa
