/- Package patset: how long a list's words are. -/
import Derived.Test.YtojbfjlihenjaaaPClone
set_option linter.unusedSimpArgs false
set_option linter.unusedVariables false
set_option maxRecDepth 100000
namespace Go.Proofs.Ytojbfjlihenjaaa
open Go.RowKit PlainLetter PlainPatset Go.Shelf

theorem many_is (P : Option Addr) (n c : Nat) (w : World) :
    Calls Try.prog 42 #[.agg #[.slice P n c]] w fun e w' => e = .returned (.int .i64 (n : Nat)) ∧ w.grownBy w' none := by
  go_enter Try.func42, Try.ntmps42
  go_wp2_with fail
  go_ret
  exact ⟨rfl, grown_alloc (grown_refl w none) _⟩

def lenF (b : Bool) : Nat := if b then 51 else 55
def accF (b : Bool) (k m : Nat) : Nat := if b then max k m else m + k

theorem len1_is (b : Bool) (g k m : Nat) (w : World) (hk : k ≤ 1000000) (hm : m ≤ 1000000) (hH : Holds w g 3 #[.int .i64 (m : Nat)]) :
    Calls Try.prog (lenF b) #[.int .i64 (k : Nat), .pointer (some ⟨g, 0, none⟩)] w fun e w' => (∃ u, e = .returned u) ∧ w' = w.setCell ⟨g, 0, none⟩ (.int .i64 (accF b k m : Nat)) := by
  have c0 := (hH.cell 0).trans (show _ = some (Value.int .i64 (m : Nat)) from rfl)
  have f0 := hH.free 0
  have l0 := hH.lt
  clear hH
  cases b
  · show Calls Try.prog 55 _ _ _
    have e : Hid (accF false k m = m + k) := hid rfl
    go_enter Try.func55, Try.ntmps55
    go_wp2_with fail
    refine ⟨rfl, .tuple #[], by simp [results, Try.results55], ⟨_, rfl⟩, ?_⟩
    rw [e.out]
    go_num
  · show Calls Try.prog 51 _ _ _
    have e : Hid (accF true k m = max k m) := hid rfl
    by_cases h : m < k
    · go_enter Try.func51, Try.ntmps51
      go_wp2_with fail
      refine ⟨rfl, .tuple #[], by simp [results, Try.results51], ⟨_, rfl⟩, ?_⟩
      rw [e.out, show max k m = k by omega]
    · go_enter Try.func51, Try.ntmps51
      go_wp2_with fail
      refine ⟨rfl, .tuple #[], by simp [results, Try.results51], ⟨_, rfl⟩, ?_⟩
      rw [e.out, show max k m = m by omega]

def foldLen (b : Bool) (xss : List (List Int)) : Nat := xss.foldl (fun m x => accF b x.length m) 0
theorem foldLen_snoc (b : Bool) (l : List (List Int)) (x : List Int) : foldLen b (l ++ [x]) = accF b x.length (foldLen b l) := by unfold foldLen; rw [List.foldl_append]; rfl
theorem foldLen_total (l : List (List Int)) : foldLen false l = l.flatten.length := by
  suffices h : ∀ m, l.foldl (fun m x => accF false x.length m) m = m + l.flatten.length by
    have := h 0
    unfold foldLen
    omega
  induction l with
  | nil => intro m; rfl
  | cons x l ih => intro m; rw [List.foldl_cons, ih, List.flatten_cons, List.length_append]; unfold accF; simp; omega
theorem foldLen_longest (l : List (List Int)) : foldLen true l = longest l := by
  suffices h : ∀ m, l.foldl (fun m x => accF true x.length m) m = max m (longest l) by
    have := h 0
    unfold foldLen
    omega
  induction l with
  | nil => intro m; simp [longest]
  | cons x l ih => intro m; rw [List.foldl_cons, ih]; unfold accF longest; simp; omega
theorem foldLen_le (b : Bool) (l : List (List Int)) : foldLen b l ≤ l.flatten.length := by
  cases b
  · rw [foldLen_total]; exact Nat.le_refl _
  · rw [foldLen_longest]
    induction l with
    | nil => simp [longest]
    | cons x l ih => unfold longest; rw [List.flatten_cons, List.length_append, List.foldr_cons]; unfold longest at ih; omega

set_option maxHeartbeats 2000000 in
theorem each_is (b : Bool) (g : Nat) (P : Option Addr) (c : Nat) (As : Nat → Option Addr) (Cs : Nat → Nat) (xss : List (List Int)) (w0 w : World) (hn : xss.length ≤ 100000) (hl : xss.flatten.length ≤ 100000) (hP : RowsAt w0 P As Cs xss) (hg0 : w0.heap.size ≤ g) (hgr : w0.grownBy w none)
    (hH : Holds w g 3 #[.int .i64 0]) :
    Calls Try.prog 50 #[.agg #[.slice P xss.length c], .func (.func (lenF b)) #[] #[.pointer (some ⟨g, 0, none⟩)]] w fun e w' =>
      (∃ u, e = .returned u) ∧ w0.grownBy w' none ∧ Holds w' g 3 #[.int .i64 (foldLen b xss : Nat)] := by
  obtain ⟨fl, hfl⟩ : ∃ fl : List (List Int) → Nat, foldLen b = fl := ⟨_, rfl⟩
  have hfe : Hid (∀ l, fl l ≤ l.flatten.length) := hid (by rw [← hfl]; exact foldLen_le b)
  have hln : Hid (∀ (l : List (List Int)) (x : List Int) W, x.length ≤ 100000 → fl l ≤ 100000 → Holds W g 3 #[.int .i64 (fl l : Nat)] →
      Calls Try.prog (lenF b) #[.int .i64 (x.length : Nat), .pointer (some ⟨g, 0, none⟩)] W fun e w' => (∃ u, e = .returned u) ∧ w' = W.setCell ⟨g, 0, none⟩ (.int .i64 (fl (l ++ [x]) : Nat))) := hid (by
    intro l x W h1 h2 h3
    rw [← hfl] at h2 h3 ⊢
    rw [foldLen_snoc]
    exact len1_is b g x.length (foldLen b l) W (by omega) (by omega) h3)
  have hf0 : fl [] = 0 := by rw [← hfl]; rfl
  rw [hfl]
  clear hfl
  replace hP := hid hP
  have hH1 := hH.alloc (.cells #[.slice P xss.length c] 50)
  have hgr1 := grown_alloc hgr (.cells #[.slice P xss.length c] 50)
  clear hH hgr
  replace hH1 := hid hH1
  replace hgr1 := hid hgr1
  cases b
  all_goals
    unfold lenF
    go_enter Try.func50, Try.ntmps50
    go_wp2_with fail
    go_loopw [9] (fun i wr => ∃ k : Nat, k ≤ xss.length ∧ i = .int .i64 k ∧ w0.grownBy wr none ∧ Holds wr g 3 #[.int .i64 (fl (xss.take k) : Nat)]) (fun i _ => xss.length - (intOf i).toNat)
    case atStart => exact ⟨0, Nat.zero_le _, rfl, hgr1.out, by rw [List.take_zero, hf0]; exact hH1.out⟩
    case round =>
      obtain ⟨k, hk, rfl, hgr, hH⟩ := hrel
      clear hH1 hgr1
      by_cases hlt : k < xss.length
      · obtain ⟨q, off, rfl, hq, hcell, hrow⟩ := (hP.out.grown hgr) k hlt
        have hxl : (xss.getD k []).length ≤ 100000 := by
          have h1 := flatten_take_succ xss k hlt
          have h2 := flatten_take_le xss (k + 1)
          rw [h1, List.length_append] at h2
          omega
        have hfk : fl (xss.take k) ≤ 100000 := Nat.le_trans (hfe.out _) (Nat.le_trans (flatten_take_le xss k) hl)
        have hcall := hln.out (xss.take k) (xss.getD k []) wr hxl hfk hH
        rw [← take_getD xss k [] hlt] at hcall
        generalize hm' : fl (xss.take (k + 1)) = m' at hcall
        generalize (xss.getD k []).length = n at hcell hxl hcall
        replace hcall := hid hcall
        replace hH := hid hH
        replace hgr := hid hgr
        replace hm' := hid hm'
        clear hrow
        go_wp2_with fail
        refine hcall.out.mono ?_
        rintro e w2 ⟨⟨u, rfl⟩, rfl⟩
        have hH2 : Hid (Holds (wr.setCell ⟨g, 0, none⟩ (.int .i64 (m' : Nat))) g 3 #[.int .i64 (m' : Nat)]) := hid (hH.out.set 0 _)
        have hg2 := hid (grown_set (p := ⟨g, 0, none⟩) hgr.out (.inr hg0) (.int .i64 (m' : Nat)))
        go_wp2_with fail
        go_roundw
        case rel => exact ⟨k + 1, by omega, by go_num, hg2.out, by rw [hm'.out]; exact hH2.out⟩
        case measure => simp [intOf]; omega
      · obtain rfl : k = xss.length := by omega
        rw [List.take_length] at hH
        replace hH := hid hH
        replace hgr := hid hgr
        go_wp2_with fail
        refine ⟨rfl, .tuple #[], by simp [results, Try.results50], ⟨_, rfl⟩, hgr.out, hH.out⟩
end Go.Proofs.Ytojbfjlihenjaaa

/- Package patset: the longest word, all bytes together, whether some word is empty. -/
namespace Go.Proofs.Ytojbfjlihenjaaa
open Go.RowKit PlainLetter PlainPatset Go.Shelf
attribute [local go_sem] run_store_func

theorem longest_is (P : Option Addr) (c : Nat) (xss : List (List Int)) (w : World) (hn : xss.length ≤ 100000) (hl : xss.flatten.length ≤ 100000) (hP : Arrs w P xss) :
    Calls Try.prog 37 #[.agg #[.slice P xss.length c]] w fun e w' => e = .returned (.int .i64 (longest xss : Nat)) ∧ w.grownBy w' none := by
  obtain ⟨As, Cs, hR0⟩ := RowsAt.of_arrs hP
  obtain ⟨h, hh⟩ : ∃ h, w.heap.size = h := ⟨_, rfl⟩
  have hsz0 : (w.alloc (.cells #[.slice P xss.length c] 50)).heap.size = h + 1 := by simp [hh]
  have hgt : Holds ((w.alloc (.cells #[.slice P xss.length c] 50)).alloc (.cells #[.int .i64 0] 3)) (h + 1) 3 #[.int .i64 0] := Holds.new_at _ _ hsz0
  have hlk := (Holds.new_at 50 #[.slice P xss.length c] hh).alloc (.cells #[.int .i64 0] 3)
  have hgr := grown_alloc (grown_alloc (grown_refl w none) (.cells #[.slice P xss.length c] 50)) (.cells #[.int .i64 0] 3)
  have b0 := (hlk.cell 0).trans (show _ = some (Value.slice P xss.length c) from rfl)
  have key := hid (each_is true (h + 1) P c As Cs xss w _ hn hl hR0 (by omega) hgr hgt)
  have hlo := foldLen_le true xss
  have hfe := foldLen_longest xss
  rw [hfe] at hlo key
  clear hlk hgt hgr hR0 hP hfe
  go_enter Try.func37, Try.ntmps37
  go_wp2_with fail
  refine key.out.mono ?_
  rintro e w2 ⟨⟨u, rfl⟩, hg2, hH2⟩
  generalize hm : longest xss = m at hH2 hlo
  replace hm := hid hm
  have c0 := (hH2.cell 0).trans (show _ = some (Value.int .i64 (m : Nat)) from rfl)
  replace hg2 := hid hg2
  clear hH2
  go_wp2_with fail
  go_ret
  exact ⟨by rw [hm.out]; rfl, hg2.out⟩

theorem together_is (P : Option Addr) (c : Nat) (xss : List (List Int)) (w : World) (hn : xss.length ≤ 100000) (hl : xss.flatten.length ≤ 100000) (hP : Arrs w P xss) :
    Calls Try.prog 45 #[.agg #[.slice P xss.length c]] w fun e w' => e = .returned (.int .i64 (total xss : Nat)) ∧ w.grownBy w' none := by
  obtain ⟨As, Cs, hR0⟩ := RowsAt.of_arrs hP
  obtain ⟨h, hh⟩ : ∃ h, w.heap.size = h := ⟨_, rfl⟩
  have hsz0 : (w.alloc (.cells #[.slice P xss.length c] 50)).heap.size = h + 1 := by simp [hh]
  have hgt : Holds ((w.alloc (.cells #[.slice P xss.length c] 50)).alloc (.cells #[.int .i64 0] 3)) (h + 1) 3 #[.int .i64 0] := Holds.new_at _ _ hsz0
  have hlk := (Holds.new_at 50 #[.slice P xss.length c] hh).alloc (.cells #[.int .i64 0] 3)
  have hgr := grown_alloc (grown_alloc (grown_refl w none) (.cells #[.slice P xss.length c] 50)) (.cells #[.int .i64 0] 3)
  have b0 := (hlk.cell 0).trans (show _ = some (Value.slice P xss.length c) from rfl)
  have key := hid (each_is false (h + 1) P c As Cs xss w _ hn hl hR0 (by omega) hgr hgt)
  have hlo := foldLen_le false xss
  have hfe : foldLen false xss = total xss := foldLen_total xss
  rw [hfe] at hlo key
  clear hlk hgt hgr hR0 hP hfe
  go_enter Try.func45, Try.ntmps45
  go_wp2_with fail
  refine key.out.mono ?_
  rintro e w2 ⟨⟨u, rfl⟩, hg2, hH2⟩
  generalize hm : total xss = m at hH2 hlo
  replace hm := hid hm
  have c0 := (hH2.cell 0).trans (show _ = some (Value.int .i64 (m : Nat)) from rfl)
  replace hg2 := hid hg2
  clear hH2
  go_wp2_with fail
  go_ret
  exact ⟨by rw [hm.out]; rfl, hg2.out⟩

theorem asked_is (n : Nat) (w : World) : Calls Try.prog 44 #[.int .i64 (n : Nat)] w fun e w' => e = .returned (.bool (decide (n = 0))) ∧ w = w' := by
  by_cases h : n = 0
  · subst h
    go_enter Try.func44, Try.ntmps44
    go_wp2_with fail
    go_ret
    exact ⟨rfl, rfl⟩
  · have q : ((n : Int) == 0) = false := by rw [beq_eq_false_iff_ne]; omega
    have hd : Hid (decide (n = 0) = false) := decide_eq_false h
    go_enter Try.func44, Try.ntmps44
    go_wp2_with fail
    go_ret
    exact ⟨by rw [hd.out]; rfl, rfl⟩

def isAsked (W : World) (b : Nat) : Prop := Holds W b 68 #[.func (.func 44) #[] #[]]

theorem some1_is (b n c : Nat) (A : Option Addr) (w : World) (hb : isAsked w b) :
    Calls Try.prog 54 #[.slice A n c, .pointer (some ⟨b, 0, none⟩)] w fun e w' => e = .returned (.bool (decide (n = 0))) ∧ w = w' := by
  have c0 := (hb.cell 0).trans (show _ = some (Value.func (.func 44) #[] #[]) from rfl)
  clear hb
  go_enter Try.func54, Try.ntmps54
  go_wp2_with fail
  refine (asked_is n w).mono ?_
  rintro e w2 ⟨rfl, rfl⟩
  generalize hd : decide (n = 0) = d
  replace hd := hid hd
  go_wp2_with fail
  go_ret
  exact ⟨by rw [hd.out]; rfl, rfl⟩

set_option maxHeartbeats 1000000 in
theorem indexFunc_is (b c : Nat) (P : Option Addr) (xss : List (List Int)) (w : World) (hn : xss.length ≤ 100000) (hP : Arrs w P xss) (hb : isAsked w b) :
    Calls Try.prog 62 #[.slice P xss.length c, .func (.func 54) #[] #[.pointer (some ⟨b, 0, none⟩)]] w fun e w' =>
      ∃ r : Int, e = .returned (.int .i64 r) ∧ (0 ≤ r ↔ [] ∈ xss) ∧ -1 ≤ r ∧ w = w' := by
  replace hP := hid hP
  replace hb := hid hb
  go_enter Try.func62, Try.ntmps62
  go_wp2_with fail
  go_loop [8] (fun i => ∃ k : Nat, k ≤ xss.length ∧ i = .int .i64 k ∧ ∀ j, j < k → xss.getD j [] ≠ []) (fun i => xss.length - (intOf i).toNat)
  case atStart => exact ⟨0, Nat.zero_le _, rfl, fun j hj => absurd hj (Nat.not_lt_zero _)⟩
  case round =>
    obtain ⟨k, hk0, rfl, hno⟩ := hrel
    replace hno := hid hno
    by_cases hlt : k < xss.length
    · obtain ⟨q, off, Ai, ci, rfl, hq, hcell, hAi⟩ := hP.out.at_ hlt
      have key := hid (some1_is b (xss.getD k []).length ci Ai w hb.out)
      have hmem : Hid (xss.getD k [] ∈ xss) := hid (by simp [List.getD, hlt])
      generalize hxs : xss.getD k [] = xs at hcell key hmem
      replace hxs := hid hxs
      clear hAi
      by_cases hz : xs.length = 0
      · rw [decide_eq_true hz] at key
        have hex : Hid ([] ∈ xss) := hid (by rw [← List.eq_nil_of_length_eq_zero hz]; exact hmem.out)
        replace hz := hid hz
        go_wp2_with fail
        refine key.out.mono ?_
        rintro e w' ⟨rfl, rfl⟩
        go_wp2_with fail
        go_ret
        exact ⟨_, rfl, ⟨fun _ => hex.out, fun _ => by omega⟩, by omega, rfl⟩
      · rw [decide_eq_false hz] at key
        replace hz := hid hz
        go_wp2_with fail
        refine key.out.mono ?_
        rintro e w' ⟨rfl, rfl⟩
        go_wp2_with fail
        go_round
        case rel => exact ⟨k + 1, by omega, by go_num, fun j hj => by
            by_cases hjk : j < k
            · exact hno.out j hjk
            · obtain rfl : j = k := by omega
              intro e
              have e2 := hxs.out
              rw [e] at e2
              exact hz.out (by rw [← e2]; rfl)⟩
        case measure => simp [intOf]; omega
    · obtain rfl : k = xss.length := by omega
      have hnot : Hid (¬ [] ∈ xss) := hid (by
        intro hx
        obtain ⟨j, hj, he⟩ := List.mem_iff_getElem.1 hx
        exact hno.out j hj (by simp [List.getD, hj, he]))
      go_wp2_with fail
      go_ret
      exact ⟨-1, rfl, ⟨fun h => by omega, fun h => absurd h hnot.out⟩, by omega, rfl⟩

theorem containsFunc_is (b c : Nat) (P : Option Addr) (xss : List (List Int)) (w : World) (hn : xss.length ≤ 100000) (hP : Arrs w P xss) (hb : isAsked w b) :
    Calls Try.prog 53 #[.slice P xss.length c, .func (.func 54) #[] #[.pointer (some ⟨b, 0, none⟩)]] w fun e w' =>
      ∃ d : Bool, e = .returned (.bool d) ∧ (d = true ↔ [] ∈ xss) ∧ w = w' := by
  have key := hid (indexFunc_is b c P xss w hn hP hb)
  clear hP hb
  go_enter Try.func53, Try.ntmps53
  go_wp2_with fail
  refine key.out.mono ?_
  rintro e w2 ⟨r, rfl, hr, hr1, rfl⟩
  by_cases h0 : 0 ≤ r
  · have hx : Hid ([] ∈ xss) := hid (hr.1 h0)
    clear hr
    go_wp2_with fail
    go_ret
    exact ⟨true, by simp [h0], ⟨fun _ => hx.out, fun _ => rfl⟩, rfl⟩
  · have hx : Hid (¬ [] ∈ xss) := hid (fun h => h0 (hr.2 h))
    clear hr
    go_wp2_with fail
    go_ret
    exact ⟨false, by simp [h0], ⟨(fun h => by cases h), (fun h => absurd h hx.out)⟩, rfl⟩

theorem some_is (P : Option Addr) (c : Nat) (xss : List (List Int)) (w : World) (hn : xss.length ≤ 100000) (hP : Arrs w P xss) :
    Calls Try.prog 43 #[.agg #[.slice P xss.length c], .func (.func 44) #[] #[]] w fun e w' =>
      ∃ d : Bool, e = .returned (.bool d) ∧ (d = true ↔ [] ∈ xss) ∧ w.grownBy w' none := by
  obtain ⟨h, hh⟩ : ∃ h, w.heap.size = h := ⟨_, rfl⟩
  have hsz0 : (w.alloc (.cells #[.slice P xss.length c] 50)).heap.size = h + 1 := by simp [hh]
  have hgt : isAsked ((w.alloc (.cells #[.slice P xss.length c] 50)).alloc (.cells #[.func (.func 44) #[] #[]] 68)) (h + 1) := Holds.new_at _ _ hsz0
  have hlk := (Holds.new_at 50 #[.slice P xss.length c] hh).alloc (.cells #[.func (.func 44) #[] #[]] 68)
  have hgr := grown_alloc (grown_alloc (grown_refl w none) (.cells #[.slice P xss.length c] 50)) (.cells #[.func (.func 44) #[] #[]] 68)
  have b0 := (hlk.cell 0).trans (show _ = some (Value.slice P xss.length c) from rfl)
  have key := hid (containsFunc_is (h + 1) c P xss _ hn (hP.grown hgr) hgt)
  replace hgr := hid hgr
  clear hlk hgt hP
  go_enter Try.func43, Try.ntmps43
  go_wp2_with fail
  refine key.out.mono ?_
  rintro e w2 ⟨d, rfl, hd, rfl⟩
  replace hd := hid hd
  go_wp2_with fail
  go_ret
  exact ⟨d, rfl, hd.out, hgr.out⟩
end Go.Proofs.Ytojbfjlihenjaaa
