/- Package patset: its contracts, all but Make, Right and Own. -/
import Derived.Test.YtojbfjlihenjaaaPFault
import Derived.Test.YtojbfjlihenjaaaQSet
set_option linter.unusedSimpArgs false
set_option linter.unusedVariables false
set_option maxRecDepth 100000
namespace Go.Proofs.Ytojbfjlihenjaaa
open Go.RowKit PlainLetter PlainPatset Go.Shelf

theorem SetOwn.far {base g : Nat} {f : Bool} {ws : List (List Int)} {v : Value} {w : World} {t : TypeId} {cs : Array Value} (h : SetOwn base f ws v w) (hH : Holds w g t cs) (h1 : t ≠ 25) (h2 : t ≠ 5) (k : Nat) (u : Value) :
    SetOwn base f ws v (w.setCell ⟨g, k, none⟩ u) := by
  obtain ⟨A, c, l, rfl, hm, hr⟩ := h
  exact ⟨A, c, l, rfl, hm, hr.far hH h1 h2 k u⟩
theorem SetOwn.mono {base base' : Nat} {f : Bool} {ws : List (List Int)} {v : Value} {w : World} (h : SetOwn base f ws v w) (hb : base' ≤ base) : SetOwn base' f ws v w := by
  obtain ⟨A, c, l, rfl, hm, hr⟩ := h
  exact ⟨A, c, l, rfl, hm, hr.mono hb⟩
theorem SetOwn.form {base : Nat} {f : Bool} {ws : List (List Int)} {v : Value} {w : World} (h : SetOwn base f ws v w) : ∃ (b : Bool) (A : Option Addr) (n c : Nat), v = .agg #[.bool b, .slice A n c] := by
  obtain ⟨A, c, l, rfl, hm, hr⟩ := h
  exact ⟨_, _, _, _, rfl⟩

theorem look_is (f : Bool) (P : Option Addr) (n c : Nat) (w : World) :
    Calls Try.prog 29 #[.bool f, .slice P n c] w fun e w' => e = .returned (.agg #[.slice P n c, .bool f]) ∧ w.grownBy w' none := by
  go_enter Try.func29, Try.ntmps29
  go_wp2_with fail
  have H1 : Holds (w.alloc (.cells #[.slice P n c, .bool f] 52)) w.heap.size 52 #[.slice P n c, .bool f] := Holds.new _ _ _
  have s0 := (H1.cell 0).trans (show _ = some (Value.slice P n c) from rfl)
  have s1 := (H1.cell 1).trans (show _ = some (Value.bool f) from rfl)
  refine bodyPost_ret (v := .agg #[.slice P n c, .bool f]) (by simp [results, Try.results29, go_sem, s0, s1]) rfl ⟨rfl, grown_alloc (grown_refl w none) _⟩

theorem patCheck_is (f : Bool) (P : Option Addr) (c : Nat) (xss : List (List Int)) (w : World) (hn : xss.length ≤ 1000) (hl : xss.flatten.length ≤ 10000) (hB : ∀ i, Bytes (xss.getD i [])) (hP : Arrs w P xss) :
    Calls Try.prog 16 #[.bool f, .slice P xss.length c] w fun e w' => e = .returned (.int .i64 (check f xss)) ∧ w.grownBy w' none := by
  replace hP := hid hP
  replace hB := hid hB
  go_enter Try.func16, Try.ntmps16
  go_wp2_with fail
  refine (look_is f P xss.length c _).mono ?_
  rintro e w1 ⟨rfl, hg1⟩
  have key := hid (fault_is f P c xss w1 (by omega) (by omega) hB.out (hP.out.grown hg1))
  replace hg1 := hid hg1
  go_wp2_with fail
  refine key.out.mono ?_
  rintro e w2 ⟨rfl, hg⟩
  replace hg := hid (grown_trans hg1.out hg)
  generalize hr : check f xss = r
  replace hr := hid hr
  go_wp2_with fail
  go_ret
  exact ⟨by rw [hr.out]; rfl, hg.out⟩

theorem patNodes_is (f : Bool) (P : Option Addr) (c : Nat) (xss : List (List Int)) (w : World) (hn : xss.length ≤ 1000) (hl : xss.flatten.length ≤ 10000) (hB : ∀ i, Bytes (xss.getD i [])) (hP : Arrs w P xss) :
    Calls Try.prog 18 #[.bool f, .slice P xss.length c] w fun e w' => e = .returned (.int .i64 (nodes f xss : Nat)) ∧ w.grownBy w' none := by
  replace hP := hid hP
  replace hB := hid hB
  go_enter Try.func18, Try.ntmps18
  go_wp2_with fail
  refine (look_is f P xss.length c _).mono ?_
  rintro e w1 ⟨rfl, hg1⟩
  have key := hid (nodes_is f P c xss w1 (by omega) (by omega) hB.out (hP.out.grown hg1))
  replace hg1 := hid hg1
  go_wp2_with fail
  refine key.out.mono ?_
  rintro e w2 ⟨rfl, hg⟩
  replace hg := hid (grown_trans hg1.out hg)
  generalize hr : nodes f xss = r
  replace hr := hid hr
  go_wp2_with fail
  go_ret
  exact ⟨by rw [hr.out]; rfl, hg.out⟩

theorem pat_small {xss : List (List Int)} (hn : xss.length ≤ 1000) (hl : xss.flatten.length ≤ 10000) (hB : ∀ i, Bytes (xss.getD i [])) : Small xss := ⟨by omega, fun i => ⟨by
    by_cases hk : i < xss.length
    · have h1 := flatten_take_succ xss i hk
      have h2 := flatten_take_le xss (i + 1)
      rw [h1, List.length_append] at h2
      omega
    · simp [List.getD, List.getElem?_eq_none (Nat.le_of_not_lt hk)], hB i⟩⟩

theorem patNumber_is (f : Bool) (P A : Option Addr) (c d : Nat) (xss : List (List Int)) (x : List Int) (w : World) (hx : x.length ≤ 10000) (hxb : Bytes x) (hA : Arr w .u8 A x) (hP : Arrs w P xss) (hn : xss.length ≤ 1000) (hl : xss.flatten.length ≤ 10000) (hB : ∀ i, Bytes (xss.getD i [])) :
    Calls Try.prog 13 #[.agg #[.bool f, .slice P xss.length c], .slice A x.length d] w fun e w' => e = .returned (.tuple #[.int .i64 (number f xss x).1, .bool (number f xss x).2]) ∧ w.grownBy w' none := by
  have hS := hid (pat_small hn hl hB)
  have hgr := grown_alloc (grown_refl w none) (.cells #[.bool f, .slice P xss.length c] 24)
  have key := hid (letWhich_is f A P d c x xss _ (by omega) hxb (hA.grown hgr) (hP.grown hgr) hS.out)
  have hH := Holds.new w 24 #[.bool f, .slice P xss.length c]
  replace hgr := hid hgr
  have hr : -1 ≤ which f x xss ∧ which f x xss < 1000000 := by
    rcases which_spec f x xss with ⟨h, _⟩ | ⟨k, hk, h, _⟩ <;> omega
  clear hP hA hB hxb hS hH
  generalize hk : which f x xss = k at key hr
  by_cases h0 : k < 0
  · have hnum : Hid (number f xss x = (0, false)) := hid (by unfold number; rw [hk, if_pos h0])
    go_enter Try.func13, Try.ntmps13
    go_wp2_with fail
    refine key.out.mono ?_
    rintro e w2 ⟨rfl, hg⟩
    replace hg := hid (grown_trans hgr.out hg)
    go_wp2_with fail
    go_ret2
    exact ⟨by rw [hnum.out]; rfl, hg.out⟩
  · have hnum : Hid (number f xss x = (k, true)) := hid (by unfold number; rw [hk, if_neg h0])
    go_enter Try.func13, Try.ntmps13
    go_wp2_with fail
    refine key.out.mono ?_
    rintro e w2 ⟨rfl, hg⟩
    replace hg := hid (grown_trans hgr.out hg)
    go_wp2_with fail
    go_ret2
    exact ⟨by rw [hnum.out]; rfl, hg.out⟩

theorem patLongest_is (f : Bool) (P : Option Addr) (c : Nat) (xss : List (List Int)) (w : World) (hn : xss.length ≤ 1000) (hl : xss.flatten.length ≤ 10000) (hP : Arrs w P xss) :
    Calls Try.prog 22 #[.agg #[.bool f, .slice P xss.length c]] w fun e w' => e = .returned (.int .i64 (longest xss : Nat)) ∧ w.grownBy w' none := by
  have hgr := grown_alloc (grown_refl w none) (.cells #[.bool f, .slice P xss.length c] 24)
  have key := hid (longest_is P c xss _ (by omega) (by omega) (hP.grown hgr))
  replace hgr := hid hgr
  clear hP
  go_enter Try.func22, Try.ntmps22
  go_wp2_with fail
  refine key.out.mono ?_
  rintro e w2 ⟨rfl, hg⟩
  replace hg := hid (grown_trans hgr.out hg)
  generalize hr : longest xss = r
  replace hr := hid hr
  go_wp2_with fail
  go_ret
  exact ⟨by rw [hr.out]; rfl, hg.out⟩

theorem patSame_is (f g : Bool) (P Q : Option Addr) (c d : Nat) (xss yss : List (List Int)) (w : World) (hn : xss.length ≤ 1000) (hP : Arrs w P xss) (hQ : Arrs w Q yss) (hx : ∀ i, Bytes (xss.getD i [])) (hy : ∀ i, Bytes (yss.getD i [])) :
    Calls Try.prog 24 #[.agg #[.bool f, .slice P xss.length c], .agg #[.bool g, .slice Q yss.length d]] w fun e w' => e = .returned (.bool (decide (f = g ∧ xss = yss))) ∧ w.grownBy w' none := by
  have hgr := grown_alloc (grown_alloc (grown_refl w none) (.cells #[.bool f, .slice P xss.length c] 24)) (.cells #[.bool g, .slice Q yss.length d] 24)
  have hH1 := (Holds.new w 24 #[.bool f, .slice P xss.length c]).alloc (.cells #[.bool g, .slice Q yss.length d] 24)
  have hH2 : Holds ((w.alloc (.cells #[.bool f, .slice P xss.length c] 24)).alloc (.cells #[.bool g, .slice Q yss.length d] 24)) (w.heap.size + 1) 24 #[.bool g, .slice Q yss.length d] := Holds.new_at _ _ (by simp)
  have key := hid (equalFunc_is P Q c d xss yss _ (by omega) (hP.grown hgr) (hQ.grown hgr) hx hy)
  have a0 := (hH1.cell 0).trans (show _ = some (Value.bool f) from rfl)
  have a1 := (hH1.cell 1).trans (show _ = some (Value.slice P xss.length c) from rfl)
  have b0 := (hH2.cell 0).trans (show _ = some (Value.bool g) from rfl)
  have b1 := (hH2.cell 1).trans (show _ = some (Value.slice Q yss.length d) from rfl)
  replace hgr := hid hgr
  clear hP hQ hx hy hH1 hH2
  by_cases hfg : f = g
  · subst hfg
    have hD : Hid (decide (f = f ∧ xss = yss) = decide (xss = yss)) := hid (by simp)
    generalize decide (xss = yss) = D at key hD
    go_enter Try.func24, Try.ntmps24
    go_wp2_with fail
    refine key.out.mono ?_
    rintro e w2 ⟨rfl, rfl⟩
    go_wp2_with fail
    go_ret
    exact ⟨by rw [hD.out]; rfl, hgr.out⟩
  · have hD : Hid (decide (f = g ∧ xss = yss) = false) := hid (decide_eq_false (fun h => hfg h.1))
    have q : (f == g) = false := by rw [beq_eq_false_iff_ne]; exact hfg
    replace hfg := hid hfg
    go_enter Try.func24, Try.ntmps24
    go_wp2_with fail
    go_ret
    exact ⟨by rw [hD.out]; rfl, hgr.out⟩
end Go.Proofs.Ytojbfjlihenjaaa
