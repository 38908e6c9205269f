/- Package patset: a list's first error, and what is asked of a list. -/
import Derived.Test.YtojbfjlihenjaaaPList
import Derived.Test.YtojbfjlihenjaaaPNodes
import Derived.Test.YtojbfjlihenjaaaLSameIs
import Derived.Test.YtojbfjlihenjaaaSameFunc
import Derived.Test.YtojbfjlihenjaaaQRight
set_option linter.unusedSimpArgs false
set_option linter.unusedVariables false
set_option maxRecDepth 100000
namespace Go.Proofs.Ytojbfjlihenjaaa
open Go.RowKit PlainLetter PlainPatset Go.Shelf
attribute [local go_sem] run_store_func

theorem longest_more (b : Nat) : ∀ xss : List (List Int), b < longest xss ↔ ∃ x ∈ xss, b < x.length
  | [] => by simp [longest]
  | x :: l => by
    have ih := longest_more b l
    have e : longest (x :: l) = max x.length (longest l) := rfl
    rw [e]
    simp only [List.mem_cons, exists_eq_or_imp]
    rw [← ih]
    omega

theorem check_alt (f : Bool) (xss : List (List Int)) : check f xss = if xss.length = 0 then 50 else if 64 < xss.length then 51 else if [] ∈ xss then 52 else if 32 < longest xss then 53 else if 600 < total xss then 54 else if 400 < nodes f xss then 55 else 0 := by
  unfold check
  have e1 : (xss = []) ↔ xss.length = 0 := by rw [List.length_eq_zero_iff]
  have e2 : (∃ x ∈ xss, x = []) ↔ [] ∈ xss := ⟨fun ⟨x, hx, h⟩ => h ▸ hx, fun h => ⟨[], h, rfl⟩⟩
  have e3 := longest_more 32 xss
  simp only [e1, e2, e3]

set_option maxHeartbeats 4000000 in
theorem fault_is (f : Bool) (P : Option Addr) (c : Nat) (xss : List (List Int)) (w : World) (hn : xss.length ≤ 100000) (hl : xss.flatten.length ≤ 99999) (hB : ∀ i, Bytes (xss.getD i [])) (hP : Arrs w P xss) :
    Calls Try.prog 30 #[.agg #[.slice P xss.length c, .bool f]] w fun e w' => e = .returned (.int .i64 (check f xss)) ∧ w.grownBy w' none := by
  have hlk : isLook (w.alloc (.cells #[.slice P xss.length c, .bool f] 52)) w.heap.size f P xss.length c := Holds.new _ _ _
  have hgr := grown_alloc (grown_refl w none) (.cells #[.slice P xss.length c, .bool f] 52)
  have hca := hid (check_alt f xss)
  have hMany := hid (fun W => many_is P xss.length c W)
  have hSome := hid (fun W (hg : w.grownBy W none) => some_is P c xss W hn (hP.grown hg))
  have hLong := hid (fun W (hg : w.grownBy W none) => longest_is P c xss W hn (by omega) (hP.grown hg))
  have hTog := hid (fun W (hg : w.grownBy W none) => together_is P c xss W hn (by omega) (hP.grown hg))
  have hNod := hid (fun W (hg : w.grownBy W none) => nodes_is f P c xss W hn hl hB (hP.grown hg))
  have hcell := hid (fun W (h : isLook W w.heap.size f P xss.length c) => (show _ ∧ _ from ⟨(h.cell 0).trans (show _ = some (Value.slice P xss.length c) from rfl), (h.cell 1).trans (show _ = some (Value.bool f) from rfl)⟩))
  generalize hcr : check f xss = r at hca ⊢
  replace hcr := hid hcr
  replace hlk := hid hlk
  replace hgr := hid hgr
  clear hB hP
  go_enter Try.func30, Try.ntmps30
  go_wp2_with fail
  generalize w.alloc (.cells #[.slice P xss.length c, .bool f] 52) = W0 at hlk hgr ⊢
  refine (hMany.out _).mono ?_
  rintro e w1 ⟨rfl, hg1⟩
  have hlk1 := hid (Holds.kept0 hg1 hlk.out)
  have hgr1 := hid (grown_trans hgr.out hg1)
  obtain ⟨b0, b1⟩ := hcell.out _ hlk1.out
  clear hg1 hlk hgr
  by_cases h1 : xss.length = 0
  · have hr := hca.out
    rw [if_pos h1] at hr
    have q : ((xss.length : Int) == 0) = true := by rw [beq_iff_eq]; omega
    go_wp2_with fail
    go_ret
    exact ⟨by rw [hr]; rfl, hgr1.out⟩
  rw [if_neg h1] at hca
  have q1 : ((xss.length : Int) == 0) = false := by rw [beq_eq_false_iff_ne]; omega
  go_wp2_with fail
  clear q1
  refine (hMany.out _).mono ?_
  rintro e w2 ⟨rfl, hg2⟩
  have hlk2 := hid (Holds.kept0 hg2 hlk1.out)
  have hgr2 := hid (grown_trans hgr1.out hg2)
  clear b0 b1 hg2 hlk1 hgr1
  obtain ⟨b0, b1⟩ := hcell.out _ hlk2.out
  by_cases h2 : 64 < xss.length
  · have hr := hca.out
    rw [if_pos h2] at hr
    have q : (64 : Int) < (xss.length : Int) := by omega
    go_wp2_with fail
    go_ret
    exact ⟨by rw [hr]; rfl, hgr2.out⟩
  rw [if_neg h2] at hca
  have q2 : ¬ (64 : Int) < (xss.length : Int) := by omega
  go_wp2_with fail
  clear q2
  refine (hSome.out _ hgr2.out).mono ?_
  rintro e w3 ⟨d, rfl, hd, hg3⟩
  have hlk3 := hid (Holds.kept0 hg3 hlk2.out)
  have hgr3 := hid (grown_trans hgr2.out hg3)
  clear b0 b1 hg3 hlk2 hgr2
  obtain ⟨b0, b1⟩ := hcell.out _ hlk3.out
  by_cases h3 : [] ∈ xss
  · have hr := hca.out
    rw [if_pos h3] at hr
    obtain rfl : d = true := hd.2 h3
    replace hd := hid hd
    replace h3 := hid h3
    go_wp2_with fail
    go_ret
    exact ⟨by rw [hr]; rfl, hgr3.out⟩
  rw [if_neg h3] at hca
  obtain rfl : d = false := by
    cases d
    · rfl
    · exact absurd (hd.1 rfl) h3
  replace hd := hid hd
  replace h3 := hid h3
  go_wp2_with fail
  refine (hLong.out _ hgr3.out).mono ?_
  rintro e w4 ⟨rfl, hg4⟩
  have hlk4 := hid (Holds.kept0 hg4 hlk3.out)
  have hgr4 := hid (grown_trans hgr3.out hg4)
  clear b0 b1 hg4 hlk3 hgr3
  obtain ⟨b0, b1⟩ := hcell.out _ hlk4.out
  generalize longest xss = L at hca hLong ⊢
  by_cases h4 : 32 < L
  · have hr := hca.out
    rw [if_pos h4] at hr
    have q : (32 : Int) < (L : Int) := by omega
    go_wp2_with fail
    go_ret
    exact ⟨by rw [hr]; rfl, hgr4.out⟩
  rw [if_neg h4] at hca
  have q4 : ¬ (32 : Int) < (L : Int) := by omega
  go_wp2_with fail
  clear q4
  refine (hTog.out _ hgr4.out).mono ?_
  rintro e w5 ⟨rfl, hg5⟩
  have hlk5 := hid (Holds.kept0 hg5 hlk4.out)
  have hgr5 := hid (grown_trans hgr4.out hg5)
  clear b0 b1 hg5 hlk4 hgr4
  obtain ⟨b0, b1⟩ := hcell.out _ hlk5.out
  generalize total xss = T at hca hTog ⊢
  by_cases h5 : 600 < T
  · have hr := hca.out
    rw [if_pos h5] at hr
    have q : (600 : Int) < (T : Int) := by omega
    go_wp2_with fail
    go_ret
    exact ⟨by rw [hr]; rfl, hgr5.out⟩
  rw [if_neg h5] at hca
  have q5 : ¬ (600 : Int) < (T : Int) := by omega
  go_wp2_with fail
  clear q5
  refine (hNod.out _ hgr5.out).mono ?_
  rintro e w6 ⟨rfl, hg6⟩
  have hgr6 := hid (grown_trans hgr5.out hg6)
  clear b0 b1 hg6 hlk5 hgr5
  generalize nodes f xss = M at hca hNod ⊢
  by_cases h6 : 400 < M
  · have hr := hca.out
    rw [if_pos h6] at hr
    have q : (400 : Int) < (M : Int) := by omega
    go_wp2_with fail
    go_ret
    exact ⟨by rw [hr]; rfl, hgr6.out⟩
  rw [if_neg h6] at hca
  have hr := hca.out
  have q6 : ¬ (400 : Int) < (M : Int) := by omega
  go_wp2_with fail
  go_ret
  exact ⟨by rw [hr]; rfl, hgr6.out⟩
end Go.Proofs.Ytojbfjlihenjaaa
