/- Package letter: two bytes alike, folded or as they are; the judge; the iterators. -/
import Derived.Test.YtojbfjlihenjaaaLRefWhich
import Derived.Test.YtojbfjlihenjaaaDraw
import Derived.Shelf.Abstract
import Derived.Shelf.RegionOpen
import Derived.OwnWalkIn
import Derived.TacticsInMore
import Derived.LoopNIn
import Derived.LoopIn
import Derived.Outline
set_option linter.unusedSimpArgs false
set_option linter.unusedVariables false
namespace Go.Proofs.Ytojbfjlihenjaaa
open Go.RowKit PlainLetter Go.Shelf
attribute [local go_sem] Oper.semAt_some

theorem letFold_is (c : Int) (w : World) (h0 : 0 ≤ c) (h1 : c ≤ 255) : Calls Try.prog 57 #[.int .u8 c] w fun e w' => e = .returned (.int .u8 (fold c)) ∧ w = w' := by
  by_cases h : 65 ≤ c ∧ c ≤ 90
  · have hf := hid (fold_in c h)
    obtain ⟨h2, h3⟩ := h
    have hw : IntKind.u8.wrap (c + 32) = c + 32 := by simp [IntKind.wrap, IntKind.bits, IntKind.signed]; omega
    go_enter Try.func57, Try.ntmps57
    go_wp2
    go_ret
    exact ⟨by rw [hf.out]; rfl, rfl⟩
  · have hf := hid (fold_out c h)
    by_cases h2 : 65 ≤ c
    · have h3 : ¬ c ≤ 90 := by omega
      clear h
      go_enter Try.func57, Try.ntmps57
      go_wp2
      go_ret
      exact ⟨by rw [hf.out]; rfl, rfl⟩
    · clear h
      go_enter Try.func57, Try.ntmps57
      go_wp2
      go_ret
      exact ⟨by rw [hf.out]; rfl, rfl⟩

theorem plainAlike_is (v : Value) (x y : Int) (w : World) : Calls Try.prog 66 #[.agg #[v], .int .u8 x, .int .u8 y] w fun e w' => e = .returned (.bool (x == y)) ∧ w.grownBy w' none := by
  go_enter Try.func66, Try.ntmps66
  go_wp2_with fail
  go_ret
  exact ⟨rfl, grown_alloc (grown_refl _ _) _⟩

set_option maxRecDepth 100000 in
set_option maxHeartbeats 1000000 in
theorem foldAlike_is (v : Value) (x y : Int) (w : World) (x0 : 0 ≤ x) (x1 : x ≤ 255) (y0 : 0 ≤ y) (y1 : y ≤ 255) :
    Calls Try.prog 65 #[.agg #[v], .int .u8 x, .int .u8 y] w fun e w' => e = .returned (.bool (fold x == fold y)) ∧ w.grownBy w' none := by
  go_enter Try.func65, Try.ntmps65
  go_upto_region 1 with fail
  have hc0 : Hid ((w.alloc (.cells #[v] 83)).drew.cell? ⟨w.heap.size, 0, none⟩ = some v) := by
    exact hid (by simp)
  apply wp_region_each [isv _, isv (.agg #[v]), isv _, isv (.int .u8 (fold x)), isv _, isv (.int .u8 (fold y)), isv (.bool (fold x == fold y)), isv _]
    14 [some 7, some 8, some 9, some 10, some 11, some 12, some 13, some 6]
    [some 7, some 8, some 9, some 10, some 11, some 12, some 13, some 6]
    [[], [0], [], [2], [], [4], [1, 3, 5], [6]]
    [(1, .int .u8 x), (2, .int .u8 y), (3, .pointer (some ⟨w.heap.size, 0, none⟩))] (by kernel_rfl) rfl (by kernel_rfl) rfl rfl (by kernel_rfl) (OutsOk.cons rfl rfl (OutsOk.cons rfl rfl (OutsOk.cons rfl rfl OutsOk.nil))) ?st ?ob ?fin
  case ob =>
    refine Obs.consv rfl ?o0 (Obs.consv rfl ?o1 (Obs.consv rfl ?o2 (Obs.consv rfl ?o3 (Obs.consv rfl ?o4 (Obs.consv rfl ?o5 (Obs.consv rfl ?o6 (Obs.consv rfl ?o7 Obs.nil)))))))
    case o0 =>
      go_light
      intro ac w' hgw
      have hc := ((gcell hgw).1 w.heap.size 0 (by simp)).trans hc0.out
      replace hgw := hid hgw
      simp only [outThen, preThen, slotIs, factAt, isv, List.getElem?_cons_zero, List.getElem?_cons_succ, Option.getD_some, forall_eq]
      intros
      rename_i hK
      replace hK := hid hK
      simp only [wantedAt]
      go_simp
      exact hK.out _ _ rfl (grown_refl _ _)
    case o1 =>
      go_light
      intro ac w' hgw
      have hc := ((gcell hgw).1 w.heap.size 0 (by simp)).trans hc0.out
      replace hgw := hid hgw
      simp only [outThen, preThen, slotIs, factAt, isv, List.getElem?_cons_zero, List.getElem?_cons_succ, Option.getD_some, forall_eq]
      intros
      rename_i hK
      replace hK := hid hK
      simp only [wantedAt]
      go_simp
      exact hK.out _ _ rfl (grown_refl _ _)
    case o2 =>
      go_light
      intro ac w' hgw
      have hc := ((gcell hgw).1 w.heap.size 0 (by simp)).trans hc0.out
      replace hgw := hid hgw
      simp only [outThen, preThen, slotIs, factAt, isv, List.getElem?_cons_zero, List.getElem?_cons_succ, Option.getD_some, forall_eq]
      intros
      rename_i hK
      replace hK := hid hK
      simp only [wantedAt]
      go_simp
      exact hK.out _ _ rfl (grown_refl _ _)
    case o3 =>
      go_light
      intro ac w' hgw
      have hc := ((gcell hgw).1 w.heap.size 0 (by simp)).trans hc0.out
      replace hgw := hid hgw
      simp only [outThen, preThen, slotIs, factAt, isv, List.getElem?_cons_zero, List.getElem?_cons_succ, Option.getD_some, forall_eq]
      intros
      rename_i hK
      replace hK := hid hK
      simp only [wantedAt]
      go_simp
      refine (letFold_is x _ x0 x1).mono ?_
      rintro e w3 ⟨rfl, rfl⟩
      exact hK.out _ _ rfl (grown_refl _ _)
    case o4 =>
      go_light
      intro ac w' hgw
      have hc := ((gcell hgw).1 w.heap.size 0 (by simp)).trans hc0.out
      replace hgw := hid hgw
      simp only [outThen, preThen, slotIs, factAt, isv, List.getElem?_cons_zero, List.getElem?_cons_succ, Option.getD_some, forall_eq]
      intros
      rename_i hK
      replace hK := hid hK
      simp only [wantedAt]
      go_simp
      exact hK.out _ _ rfl (grown_refl _ _)
    case o5 =>
      go_light
      intro ac w' hgw
      have hc := ((gcell hgw).1 w.heap.size 0 (by simp)).trans hc0.out
      replace hgw := hid hgw
      simp only [outThen, preThen, slotIs, factAt, isv, List.getElem?_cons_zero, List.getElem?_cons_succ, Option.getD_some, forall_eq]
      intros
      rename_i hK
      replace hK := hid hK
      simp only [wantedAt]
      go_simp
      refine (letFold_is y _ y0 y1).mono ?_
      rintro e w3 ⟨rfl, rfl⟩
      exact hK.out _ _ rfl (grown_refl _ _)
    case o6 =>
      go_light
      intro ac w' hgw
      have hc := ((gcell hgw).1 w.heap.size 0 (by simp)).trans hc0.out
      replace hgw := hid hgw
      simp only [outThen, preThen, slotIs, factAt, isv, List.getElem?_cons_zero, List.getElem?_cons_succ, Option.getD_some, forall_eq]
      intros
      rename_i hK
      replace hK := hid hK
      simp only [wantedAt]
      go_simp
      refine (plainAlike_is v (fold x) (fold y) _).mono ?_
      rintro e w3 ⟨rfl, hg⟩
      exact hK.out _ _ rfl hg
    case o7 =>
      go_light
      intro ac w' hgw
      have hc := ((gcell hgw).1 w.heap.size 0 (by simp)).trans hc0.out
      replace hgw := hid hgw
      simp only [outThen, preThen, slotIs, factAt, isv, List.getElem?_cons_zero, List.getElem?_cons_succ, Option.getD_some, forall_eq]
      intros
      rename_i hK
      replace hK := hid hK
      simp only [wantedAt]
      go_simp
      exact hK.out _ _ rfl (grown_refl _ _)
  case st =>
    repeat (first | exact AllStable.nil | (refine AllStable.cons ?_ ?_; focus (first | exact stable_isv _ | exact stable_isBytes _ | exact stable_isRow1 _ | exact stable_isRowOf _ _ | exact stable_isArrOf _)))
  case fin =>
    intro w3 hgw
    simp only [finalIn, factAt, isv, List.getElem?_cons_zero, List.getElem?_cons_succ, Option.getD_some, forall_eq, slotIs, subj]
    simp only [Act.put, List.setIfInBounds_toArray, List.set_cons_zero, List.set_cons_succ]
    have hG := hid (grown_trans (grown_drew (grown_alloc (grown_refl w none) _)) hgw)
    go_wp2_with fail
    go_ret
    exact ⟨rfl, hG.out⟩

theorem judge_yes (u : Value) (w : World) :
    Calls Try.prog 59 #[.agg #[u], .bool true] w fun e w' => e = .returned (.func (.func 65) #[.agg #[u]] #[]) ∧ w.grownBy w' none := by
  have hmf : ∀ (fn : Fn) (first cap : Array Value) (w : World), (Instr.makeFunc fn first cap).run Try.prog w = .ok (.func fn first cap) w := fun _ _ _ _ => rfl
  go_enter Try.func59, Try.ntmps59
  go_wp2_with fail
  go_ret
  exact ⟨rfl, grown_alloc (grown_refl _ _) _⟩
theorem judge_no (u : Value) (w : World) :
    Calls Try.prog 59 #[.agg #[u], .bool false] w fun e w' => e = .returned (.func (.func 66) #[.agg #[u]] #[]) ∧ w.grownBy w' none := by
  have hmf : ∀ (fn : Fn) (first cap : Array Value) (w : World), (Instr.makeFunc fn first cap).run Try.prog w = .ok (.func fn first cap) w := fun _ _ _ _ => rfl
  go_enter Try.func59, Try.ntmps59
  go_wp2_with fail
  go_ret
  exact ⟨rfl, grown_alloc (grown_refl _ _) _⟩

theorem beside_is (u : Value) (B : Option Addr) (n c : Nat) (w : World) :
    Calls Try.prog 64 #[.agg #[u], .slice B n c] w fun e w' => e = .returned (.func (.func 67) #[] #[.pointer (some ⟨w.heap.size, 0, none⟩), .pointer (some ⟨w.heap.size + 1, 0, none⟩)]) ∧
      w' = (w.alloc (.cells #[u] 81)).alloc (.cells #[.slice B n c] 25) := by
  have hmf : ∀ (fn : Fn) (first cap : Array Value) (w : World), (Instr.makeFunc fn first cap).run Try.prog w = .ok (.func fn first cap) w := fun _ _ _ _ => rfl
  go_enter Try.func64, Try.ntmps64
  go_wp2_with fail
  go_ret
  exact ⟨by simp, rfl⟩

theorem letAll_is (A : Option Addr) (n c : Nat) (w : World) : Calls Try.prog 56 #[.slice A n c] w fun e w' => e = .returned (.func (.func 63) #[] #[.pointer (some ⟨w.heap.size, 0, none⟩)]) ∧ w' = w.alloc (.cells #[.slice A n c] 22) := by
  have hmf : ∀ (fn : Fn) (first cap : Array Value) (w : World), (Instr.makeFunc fn first cap).run Try.prog w = .ok (.func fn first cap) w := fun _ _ _ _ => rfl
  go_enter Try.func56, Try.ntmps56
  go_wp2
  go_ret
  exact ⟨rfl, rfl⟩
end Go.Proofs.Ytojbfjlihenjaaa
