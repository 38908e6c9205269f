/- Package patset: whether a set may be. With Own's, all contracts. -/
import Derived.Test.YtojbfjlihenjaaaPMake
import Derived.Test.YtojbfjlihenjaaaPOwn
import Derived.Test.YtojbfjlihenjaaaQRight
set_option linter.unusedSimpArgs false
set_option linter.unusedVariables false
namespace Go.Proofs.Ytojbfjlihenjaaa
open Go.RowKit PlainLetter PlainPatset

set_option maxRecDepth 100000 in
set_option maxHeartbeats 2000000 in
theorem patRight_is (f : Bool) (P : Option Addr) (c : Nat) (xss : List (List Int)) (w : World) (hn : xss.length ≤ 1000) (hl : xss.flatten.length ≤ 10000) (hB : ∀ i, Bytes (xss.getD i [])) (hP : Arrs w P xss) :
    Calls Try.prog 20 #[.agg #[.bool f, .slice P xss.length c]] w fun e w' => e = .returned (.bool (right f xss)) ∧ w.grownBy w' none := by
  have hgl : Hid (∀ i, (xss.getD i []).length ≤ 100000) := hid (fun k => by
    by_cases hk : k < xss.length
    · have h1 := flatten_take_succ xss k hk
      have h2 := flatten_take_le xss (k + 1)
      rw [h1, List.length_append] at h2
      omega
    · simp [List.getD, List.getElem?_eq_none (Nat.le_of_not_lt hk)])
  have hSm := hid (make_small f xss (by omega) hgl.out hB)
  have hfew : Hid ((makeWords f xss).length ≤ 1000) := hid (Nat.le_trans (setOf_make f xss).few hn)
  have hr : Hid (right f xss = decide (check f xss = 0 ∧ makeWords f xss = xss)) := hid rfl
  replace hP := hid hP
  replace hB := hid hB
  go_enter Try.func20, Try.ntmps20
  go_wp2_with fail
  have hG0 := hid (grown_alloc (grown_refl w none) (.cells #[.bool f, .slice P xss.length c] 24))
  have H0 : Holds (w.alloc (.cells #[.bool f, .slice P xss.length c] 24)) w.heap.size 24 #[.bool f, .slice P xss.length c] := Holds.new _ _ _
  refine (patMake_is f P c xss _ hn hl hB.out (hP.out.grown hG0.out)).mono ?_
  rintro e w1 ⟨v, rfl, hv, hg1⟩
  have hG1 := hid (grown_trans hG0.out hg1)
  have H1 := H0.kept0 hg1
  clear hg1 H0 hG0
  have d0 := H1.cell 0
  have d1 := H1.cell 1
  have hlt1 := H1.lt
  simp at d0 d1
  obtain ⟨h, hh⟩ : ∃ h, w.heap.size = h := ⟨_, rfl⟩
  rw [hh] at H1 d0 d1 hlt1 ⊢
  replace hh := hid hh
  replace H1 := hid H1
  generalize check f xss = e0 at hv hr ⊢
  by_cases he : e0 = 0
  · subst he
    rw [if_pos rfl] at hv
    obtain ⟨A, cA, l, rfl, hlm, hrows⟩ := hv
    have hArr := hid hrows.arrs.2
    rw [hlm] at hArr
    have hll : l.length = (makeWords f xss).length := by rw [← hlm]; simp
    rw [hll]
    clear hll hlm hrows
    generalize makeWords f xss = acc at hArr hSm hr hfew ⊢
    go_wp2_with fail
    refine (patSame_is f f A P cA c acc xss _ hfew.out (hArr.out.grown (grown_alloc (grown_refl w1 none) _)) (hP.out.grown (grown_alloc hG1.out _)) (fun i => (hSm.out.2 i).2) hB.out).mono ?_
    rintro e w3 ⟨rfl, hg3⟩
    have hG3 := hid (grown_trans (grown_alloc hG1.out _) hg3)
    clear hg3
    have hr2 : Hid (right f xss = decide (f = f ∧ acc = xss)) := hid (hr.out.trans (by simp))
    rw [← hr2.out]
    clear hr hSm
    generalize hre : right f xss = r
    go_wp2_with fail
    go_ret
    exact ⟨by rw [hre]; rfl, hG3.out⟩
  · have hne : (e0 == 0) = false := by rw [beq_eq_false_iff_ne]; exact he
    have hr2 : Hid (right f xss = false) := hid (hr.out.trans (decide_eq_false (fun h => he h.1)))
    rw [if_neg he] at hv
    subst hv
    replace he := hid he
    clear hr hSm
    go_wp2_with fail
    go_ret
    exact ⟨by rw [hr2.out]; rfl, grown_alloc hG1.out _⟩
end Go.Proofs.Ytojbfjlihenjaaa
