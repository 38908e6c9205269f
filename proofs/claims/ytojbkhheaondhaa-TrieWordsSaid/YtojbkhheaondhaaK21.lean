/- Package patset: whether a set may be. The document's own answer: where words stand. -/
import Derived.Test.YtojbkhheaondhaaK20
import Derived.Test.YtojbkhheaondhaaK16
import Derived.Test.YtojbkhheaondhaaK10
set_option linter.unusedSimpArgs false
set_option linter.unusedVariables false
set_option maxRecDepth 100000
namespace Go.Proofs.Ytojbkhheaondhaa
open Go.RowKit PlainLetter PlainPatset

set_option maxRecDepth 100000 in
set_option maxHeartbeats 2000000 in
theorem patRight_is (f : Bool) (P : Option Addr) (c : Nat) (xss : List (List Int)) (w : World) (hn : xss.length ≤ 1000) (hl : xss.flatten.length ≤ 10000) (hB : ∀ i, Bytes (xss.getD i [])) (hP : Arrs w P xss) :
    Calls Try.prog 27 #[.agg #[.bool f, .slice P xss.length c]] w fun e w' => e = .returned (.bool (right f xss)) ∧ w.grownBy w' none := by
  have hgl : Hid (∀ i, (xss.getD i []).length ≤ 100000) := hid (fun k => by
    by_cases hk : k < xss.length
    · have h1 := flatten_take_succ xss k hk
      have h2 := flatten_take_le xss (k + 1)
      rw [h1, List.length_append] at h2
      omega
    · simp [List.getD, List.getElem?_eq_none (Nat.le_of_not_lt hk)])
  have hSm := hid (make_small f xss (by omega) hgl.out hB)
  have hfew : Hid ((makeWords f xss).length ≤ 1000) := hid (Nat.le_trans (setOf_make f xss).few hn)
  have hr : Hid (right f xss = decide (check f xss = 0 ∧ makeWords f xss = xss)) := hid rfl
  replace hP := hid hP
  replace hB := hid hB
  go_enter Try.func27, Try.ntmps27
  go_wp2_with fail
  have hG0 := hid (grown_alloc (grown_refl w none) (.cells #[.bool f, .slice P xss.length c] 24))
  have H0 : Holds (w.alloc (.cells #[.bool f, .slice P xss.length c] 24)) w.heap.size 24 #[.bool f, .slice P xss.length c] := Holds.new _ _ _
  refine (patMake_is f P c xss _ hn hl hB.out (hP.out.grown hG0.out)).mono ?_
  rintro e w1 ⟨v, rfl, hv, hg1⟩
  have hG1 := hid (grown_trans hG0.out hg1)
  have H1 := H0.kept0 hg1
  clear hg1 H0 hG0
  have d0 := H1.cell 0
  have d1 := H1.cell 1
  have hlt1 := H1.lt
  simp at d0 d1
  obtain ⟨h, hh⟩ : ∃ h, w.heap.size = h := ⟨_, rfl⟩
  rw [hh] at H1 d0 d1 hlt1 ⊢
  replace hh := hid hh
  replace H1 := hid H1
  generalize check f xss = e0 at hv hr ⊢
  by_cases he : e0 = 0
  · subst he
    rw [if_pos rfl] at hv
    obtain ⟨A, cA, l, rfl, hlm, hrows⟩ := hv
    have hArr := hid hrows.arrs.2
    rw [hlm] at hArr
    have hll : l.length = (makeWords f xss).length := by rw [← hlm]; simp
    rw [hll]
    clear hll hlm hrows
    generalize makeWords f xss = acc at hArr hSm hr hfew ⊢
    go_wp2_with fail
    refine (patSame_is f f A P cA c acc xss _ hfew.out (hArr.out.grown (grown_alloc (grown_refl w1 none) _)) (hP.out.grown (grown_alloc hG1.out _)) (fun i => (hSm.out.2 i).2) hB.out).mono ?_
    rintro e w3 ⟨rfl, hg3⟩
    have hG3 := hid (grown_trans (grown_alloc hG1.out _) hg3)
    clear hg3
    have hr2 : Hid (right f xss = decide (f = f ∧ acc = xss)) := hid (hr.out.trans (by simp))
    rw [← hr2.out]
    clear hr hSm
    generalize hre : right f xss = r
    go_wp2_with fail
    go_ret
    exact ⟨by rw [hre]; rfl, hG3.out⟩
  · have hne : (e0 == 0) = false := by rw [beq_eq_false_iff_ne]; exact he
    have hr2 : Hid (right f xss = false) := hid (hr.out.trans (decide_eq_false (fun h => he h.1)))
    rw [if_neg he] at hv
    subst hv
    replace he := hid he
    clear hr hSm
    go_wp2_with fail
    go_ret
    exact ⟨by rw [hr2.out]; rfl, grown_alloc hG1.out _⟩
end Go.Proofs.Ytojbkhheaondhaa

namespace Go.Proofs.Ytojbkhheaondhaa
open Go.RowKit PlainLetter

set_option maxHeartbeats 800000 in
theorem refAt_is (f : Bool) (A B : Option Addr) (c d : Nat) (text word : List Int) (place : Int) (w : World) (hla : text.length ≤ 100000) (hlb : word.length ≤ 100000) (hc : text.length ≤ c) (hc2 : c ≤ maxLen) (ha : Bytes text) (hb : Bytes word)
    (hA : Arr w .u8 A text) (hB : Arr w .u8 B word) :
    Calls Try.prog 19 #[.bool f, .slice A text.length c, .int .i64 place, .slice B word.length d] w fun e w' => e = .returned (.bool (stands f text place word)) ∧ w.grownBy w' none := by
  unfold maxLen at hc2
  by_cases h : (word.length : Int) ≤ place ∧ place ≤ text.length
  · obtain ⟨h1, h2⟩ := h
    obtain ⟨p, rfl⟩ := Int.eq_ofNat_of_zero_le (show 0 ≤ place by omega)
    have hs := hid (stands_eq f text word p (by omega) (by omega))
    have hlen : ((text.take p).drop (p - word.length)).length = word.length := by simp; omega
    have hArr := (hA.take p).drop (i := p - word.length) (c := c) (by simp; omega)
    have hby : Bytes ((text.take p).drop (p - word.length)) := (ha.take p).drop _
    generalize (text.take p).drop (p - word.length) = sub at hs hlen hArr hby
    have hl2 : p - (p - word.length) = sub.length := by omega
    have q1 : (0 : Int) ≤ (p : Int) - (word.length : Int) := by omega
    have q2 : (p : Int) - (word.length : Int) ≤ (p : Int) := by omega
    have q3 : (p : Int) ≤ (c : Int) := by omega
    have q4 : ((p : Int) - (word.length : Int)).toNat = p - word.length := by omega
    replace hs := hid hs.out
    replace hlen := hid hlen
    replace hby := hid hby
    replace ha := hid ha
    replace hb := hid hb
    replace hl2 := hid hl2
    replace hB := hid hB
    clear hA hlen
    by_cases hcp : c = p - word.length
    all_goals
      first | rw [if_pos hcp] at hArr | rw [if_neg hcp] at hArr
      have hArr' := hid hArr
      clear hArr
      go_enter Try.func19, Try.ntmps19
      go_wp2_with fail
      rw [hl2.out]
      refine (refSame_is f _ B _ d sub word w (by have := hl2.out; omega) hlb hby.out hb.out hArr'.out hB.out).mono ?_
      rintro e w1 ⟨rfl, hg⟩
      rw [← hs.out]
      go_wp2_with fail
      go_ret
      exact ⟨rfl, hg⟩
  · have hs := hid (stands_none f text word place h)
    by_cases h1 : (word.length : Int) ≤ place
    · have h2 : ¬ place ≤ text.length := by omega
      clear h
      go_enter Try.func19, Try.ntmps19
      go_wp2_with fail
      go_ret
      exact ⟨by rw [hs.out]; rfl, grown_refl _ _⟩
    · clear h
      go_enter Try.func19, Try.ntmps19
      go_wp2_with fail
      go_ret
      exact ⟨by rw [hs.out]; rfl, grown_refl _ _⟩

end Go.Proofs.Ytojbkhheaondhaa
