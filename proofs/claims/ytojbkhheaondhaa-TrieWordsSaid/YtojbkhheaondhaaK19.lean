/- Package patset: how long a list's words are. Package patset: a list's first error, and what is asked of a list. Package patset: its contracts, all but Check, Nodes, Longest, Make, Right and Own. -/
import Derived.Test.YtojbkhheaondhaaK17
import Derived.Test.YtojbkhheaondhaaK18
import Derived.Test.YtojbkhheaondhaaK12
import Derived.Test.YtojbkhheaondhaaK15
import Derived.Test.YtojbkhheaondhaaK16
import Derived.Test.YtojbkhheaondhaaK14
import Derived.Test.YtojbkhheaondhaaK8
import Derived.Test.YtojbkhheaondhaaK10
set_option linter.unusedSimpArgs false
set_option linter.unusedVariables false
set_option maxRecDepth 100000
namespace Go.Proofs.Ytojbkhheaondhaa
open Go.RowKit PlainLetter PlainPatset Go.Shelf

theorem many_is (P : Option Addr) (n c : Nat) (w : World) :
    Calls Try.prog 71 #[.agg #[.slice P n c]] w fun e w' => e = .returned (.int .i64 (n : Nat)) ∧ w.grownBy w' none := by
  go_enter Try.func71, Try.ntmps71
  go_wp2_with fail
  go_ret
  exact ⟨rfl, grown_alloc (grown_refl w none) _⟩

def lenF (b : Bool) : Nat := if b then 84 else 85
def accF (b : Bool) (k m : Nat) : Nat := if b then max k m else m + k

theorem len1_is (b : Bool) (g k m : Nat) (w : World) (hk : k ≤ 1000000) (hm : m ≤ 1000000) (hH : Holds w g 3 #[.int .i64 (m : Nat)]) :
    Calls Try.prog (lenF b) #[.int .i64 (k : Nat), .pointer (some ⟨g, 0, none⟩)] w fun e w' => (∃ u, e = .returned u) ∧ w' = w.setCell ⟨g, 0, none⟩ (.int .i64 (accF b k m : Nat)) := by
  have c0 := (hH.cell 0).trans (show _ = some (Value.int .i64 (m : Nat)) from rfl)
  have f0 := hH.free 0
  have l0 := hH.lt
  clear hH
  cases b
  · show Calls Try.prog 85 _ _ _
    have e : Hid (accF false k m = m + k) := hid rfl
    go_enter Try.func85, Try.ntmps85
    go_wp2_with fail
    refine ⟨rfl, .tuple #[], by simp [results, Try.results85], ⟨_, rfl⟩, ?_⟩
    rw [e.out]
    go_num
  · show Calls Try.prog 84 _ _ _
    have e : Hid (accF true k m = max k m) := hid rfl
    by_cases h : m < k
    · go_enter Try.func84, Try.ntmps84
      go_wp2_with fail
      refine ⟨rfl, .tuple #[], by simp [results, Try.results84], ⟨_, rfl⟩, ?_⟩
      rw [e.out, show max k m = k by omega]
    · go_enter Try.func84, Try.ntmps84
      go_wp2_with fail
      refine ⟨rfl, .tuple #[], by simp [results, Try.results84], ⟨_, rfl⟩, ?_⟩
      rw [e.out, show max k m = m by omega]

def foldLen (b : Bool) (xss : List (List Int)) : Nat := xss.foldl (fun m x => accF b x.length m) 0
theorem foldLen_snoc (b : Bool) (l : List (List Int)) (x : List Int) : foldLen b (l ++ [x]) = accF b x.length (foldLen b l) := by unfold foldLen; rw [List.foldl_append]; rfl
theorem foldLen_total (l : List (List Int)) : foldLen false l = l.flatten.length := by
  suffices h : ∀ m, l.foldl (fun m x => accF false x.length m) m = m + l.flatten.length by
    have := h 0
    unfold foldLen
    omega
  induction l with
  | nil => intro m; rfl
  | cons x l ih => intro m; rw [List.foldl_cons, ih, List.flatten_cons, List.length_append]; unfold accF; simp; omega
theorem foldLen_longest (l : List (List Int)) : foldLen true l = longest l := by
  suffices h : ∀ m, l.foldl (fun m x => accF true x.length m) m = max m (longest l) by
    have := h 0
    unfold foldLen
    omega
  induction l with
  | nil => intro m; simp [longest]
  | cons x l ih => intro m; rw [List.foldl_cons, ih]; unfold accF longest; simp; omega
theorem foldLen_le (b : Bool) (l : List (List Int)) : foldLen b l ≤ l.flatten.length := by
  cases b
  · rw [foldLen_total]; exact Nat.le_refl _
  · rw [foldLen_longest]
    induction l with
    | nil => simp [longest]
    | cons x l ih => unfold longest; rw [List.flatten_cons, List.length_append, List.foldr_cons]; unfold longest at ih; omega

set_option maxHeartbeats 2000000 in
theorem each_is (b : Bool) (g : Nat) (P : Option Addr) (c : Nat) (As : Nat → Option Addr) (Cs : Nat → Nat) (xss : List (List Int)) (w0 w : World) (hn : xss.length ≤ 100000) (hl : xss.flatten.length ≤ 100000) (hP : RowsAt w0 P As Cs xss) (hg0 : w0.heap.size ≤ g) (hgr : w0.grownBy w none)
    (hH : Holds w g 3 #[.int .i64 0]) :
    Calls Try.prog 83 #[.agg #[.slice P xss.length c], .func (.func (lenF b)) #[] #[.pointer (some ⟨g, 0, none⟩)]] w fun e w' =>
      (∃ u, e = .returned u) ∧ w0.grownBy w' none ∧ Holds w' g 3 #[.int .i64 (foldLen b xss : Nat)] := by
  obtain ⟨fl, hfl⟩ : ∃ fl : List (List Int) → Nat, foldLen b = fl := ⟨_, rfl⟩
  have hfe : Hid (∀ l, fl l ≤ l.flatten.length) := hid (by rw [← hfl]; exact foldLen_le b)
  have hln : Hid (∀ (l : List (List Int)) (x : List Int) W, x.length ≤ 100000 → fl l ≤ 100000 → Holds W g 3 #[.int .i64 (fl l : Nat)] →
      Calls Try.prog (lenF b) #[.int .i64 (x.length : Nat), .pointer (some ⟨g, 0, none⟩)] W fun e w' => (∃ u, e = .returned u) ∧ w' = W.setCell ⟨g, 0, none⟩ (.int .i64 (fl (l ++ [x]) : Nat))) := hid (by
    intro l x W h1 h2 h3
    rw [← hfl] at h2 h3 ⊢
    rw [foldLen_snoc]
    exact len1_is b g x.length (foldLen b l) W (by omega) (by omega) h3)
  have hf0 : fl [] = 0 := by rw [← hfl]; rfl
  rw [hfl]
  clear hfl
  replace hP := hid hP
  have hH1 := hH.alloc (.cells #[.slice P xss.length c] 84)
  have hgr1 := grown_alloc hgr (.cells #[.slice P xss.length c] 84)
  clear hH hgr
  replace hH1 := hid hH1
  replace hgr1 := hid hgr1
  cases b
  all_goals
    unfold lenF
    go_enter Try.func83, Try.ntmps83
    go_wp2_with fail
    go_loopw [9] (fun i wr => ∃ k : Nat, k ≤ xss.length ∧ i = .int .i64 k ∧ w0.grownBy wr none ∧ Holds wr g 3 #[.int .i64 (fl (xss.take k) : Nat)]) (fun i _ => xss.length - (intOf i).toNat)
    case atStart => exact ⟨0, Nat.zero_le _, rfl, hgr1.out, by rw [List.take_zero, hf0]; exact hH1.out⟩
    case round =>
      obtain ⟨k, hk, rfl, hgr, hH⟩ := hrel
      clear hH1 hgr1
      by_cases hlt : k < xss.length
      · obtain ⟨q, off, rfl, hq, hcell, hrow⟩ := (hP.out.grown hgr) k hlt
        have hxl : (xss.getD k []).length ≤ 100000 := by
          have h1 := flatten_take_succ xss k hlt
          have h2 := flatten_take_le xss (k + 1)
          rw [h1, List.length_append] at h2
          omega
        have hfk : fl (xss.take k) ≤ 100000 := Nat.le_trans (hfe.out _) (Nat.le_trans (flatten_take_le xss k) hl)
        have hcall := hln.out (xss.take k) (xss.getD k []) wr hxl hfk hH
        rw [← take_getD xss k [] hlt] at hcall
        generalize hm' : fl (xss.take (k + 1)) = m' at hcall
        generalize (xss.getD k []).length = n at hcell hxl hcall
        replace hcall := hid hcall
        replace hH := hid hH
        replace hgr := hid hgr
        replace hm' := hid hm'
        clear hrow
        go_wp2_with fail
        refine hcall.out.mono ?_
        rintro e w2 ⟨⟨u, rfl⟩, rfl⟩
        have hH2 : Hid (Holds (wr.setCell ⟨g, 0, none⟩ (.int .i64 (m' : Nat))) g 3 #[.int .i64 (m' : Nat)]) := hid (hH.out.set 0 _)
        have hg2 := hid (grown_set (p := ⟨g, 0, none⟩) hgr.out (.inr hg0) (.int .i64 (m' : Nat)))
        go_wp2_with fail
        go_roundw
        case rel => exact ⟨k + 1, by omega, by go_num, hg2.out, by rw [hm'.out]; exact hH2.out⟩
        case measure => simp [intOf]; omega
      · obtain rfl : k = xss.length := by omega
        rw [List.take_length] at hH
        replace hH := hid hH
        replace hgr := hid hgr
        go_wp2_with fail
        refine ⟨rfl, .tuple #[], by simp [results, Try.results83], ⟨_, rfl⟩, hgr.out, hH.out⟩
end Go.Proofs.Ytojbkhheaondhaa

/- Package patset: the longest word, all bytes together, whether some word is empty. -/
namespace Go.Proofs.Ytojbkhheaondhaa
open Go.RowKit PlainLetter PlainPatset Go.Shelf
attribute [local go_sem] run_store_func

theorem longest_is (P : Option Addr) (c : Nat) (xss : List (List Int)) (w : World) (hn : xss.length ≤ 100000) (hl : xss.flatten.length ≤ 100000) (hP : Arrs w P xss) :
    Calls Try.prog 74 #[.agg #[.slice P xss.length c]] w fun e w' => e = .returned (.int .i64 (longest xss : Nat)) ∧ w.grownBy w' none := by
  obtain ⟨As, Cs, hR0⟩ := RowsAt.of_arrs hP
  obtain ⟨h, hh⟩ : ∃ h, w.heap.size = h := ⟨_, rfl⟩
  have hsz0 : (w.alloc (.cells #[.slice P xss.length c] 84)).heap.size = h + 1 := by simp [hh]
  have hgt : Holds ((w.alloc (.cells #[.slice P xss.length c] 84)).alloc (.cells #[.int .i64 0] 3)) (h + 1) 3 #[.int .i64 0] := Holds.new_at _ _ hsz0
  have hlk := (Holds.new_at 84 #[.slice P xss.length c] hh).alloc (.cells #[.int .i64 0] 3)
  have hgr := grown_alloc (grown_alloc (grown_refl w none) (.cells #[.slice P xss.length c] 84)) (.cells #[.int .i64 0] 3)
  have b0 := (hlk.cell 0).trans (show _ = some (Value.slice P xss.length c) from rfl)
  have key := hid (each_is true (h + 1) P c As Cs xss w _ hn hl hR0 (by omega) hgr hgt)
  have hlo := foldLen_le true xss
  have hfe := foldLen_longest xss
  rw [hfe] at hlo key
  clear hlk hgt hgr hR0 hP hfe
  go_enter Try.func74, Try.ntmps74
  go_wp2_with fail
  refine key.out.mono ?_
  rintro e w2 ⟨⟨u, rfl⟩, hg2, hH2⟩
  generalize hm : longest xss = m at hH2 hlo
  replace hm := hid hm
  have c0 := (hH2.cell 0).trans (show _ = some (Value.int .i64 (m : Nat)) from rfl)
  replace hg2 := hid hg2
  clear hH2
  go_wp2_with fail
  go_ret
  exact ⟨by rw [hm.out]; rfl, hg2.out⟩

theorem together_is (P : Option Addr) (c : Nat) (xss : List (List Int)) (w : World) (hn : xss.length ≤ 100000) (hl : xss.flatten.length ≤ 100000) (hP : Arrs w P xss) :
    Calls Try.prog 75 #[.agg #[.slice P xss.length c]] w fun e w' => e = .returned (.int .i64 (total xss : Nat)) ∧ w.grownBy w' none := by
  obtain ⟨As, Cs, hR0⟩ := RowsAt.of_arrs hP
  obtain ⟨h, hh⟩ : ∃ h, w.heap.size = h := ⟨_, rfl⟩
  have hsz0 : (w.alloc (.cells #[.slice P xss.length c] 84)).heap.size = h + 1 := by simp [hh]
  have hgt : Holds ((w.alloc (.cells #[.slice P xss.length c] 84)).alloc (.cells #[.int .i64 0] 3)) (h + 1) 3 #[.int .i64 0] := Holds.new_at _ _ hsz0
  have hlk := (Holds.new_at 84 #[.slice P xss.length c] hh).alloc (.cells #[.int .i64 0] 3)
  have hgr := grown_alloc (grown_alloc (grown_refl w none) (.cells #[.slice P xss.length c] 84)) (.cells #[.int .i64 0] 3)
  have b0 := (hlk.cell 0).trans (show _ = some (Value.slice P xss.length c) from rfl)
  have key := hid (each_is false (h + 1) P c As Cs xss w _ hn hl hR0 (by omega) hgr hgt)
  have hlo := foldLen_le false xss
  have hfe : foldLen false xss = total xss := foldLen_total xss
  rw [hfe] at hlo key
  clear hlk hgt hgr hR0 hP hfe
  go_enter Try.func75, Try.ntmps75
  go_wp2_with fail
  refine key.out.mono ?_
  rintro e w2 ⟨⟨u, rfl⟩, hg2, hH2⟩
  generalize hm : total xss = m at hH2 hlo
  replace hm := hid hm
  have c0 := (hH2.cell 0).trans (show _ = some (Value.int .i64 (m : Nat)) from rfl)
  replace hg2 := hid hg2
  clear hH2
  go_wp2_with fail
  go_ret
  exact ⟨by rw [hm.out]; rfl, hg2.out⟩

theorem asked_is (n : Nat) (w : World) : Calls Try.prog 73 #[.int .i64 (n : Nat)] w fun e w' => e = .returned (.bool (decide (n = 0))) ∧ w = w' := by
  by_cases h : n = 0
  · subst h
    go_enter Try.func73, Try.ntmps73
    go_wp2_with fail
    go_ret
    exact ⟨rfl, rfl⟩
  · have q : ((n : Int) == 0) = false := by rw [beq_eq_false_iff_ne]; omega
    have hd : Hid (decide (n = 0) = false) := decide_eq_false h
    go_enter Try.func73, Try.ntmps73
    go_wp2_with fail
    go_ret
    exact ⟨by rw [hd.out]; rfl, rfl⟩

def isAsked (W : World) (b : Nat) : Prop := Holds W b 96 #[.func (.func 73) #[] #[]]

theorem some1_is (b n c : Nat) (A : Option Addr) (w : World) (hb : isAsked w b) :
    Calls Try.prog 82 #[.slice A n c, .pointer (some ⟨b, 0, none⟩)] w fun e w' => e = .returned (.bool (decide (n = 0))) ∧ w = w' := by
  have c0 := (hb.cell 0).trans (show _ = some (Value.func (.func 73) #[] #[]) from rfl)
  clear hb
  go_enter Try.func82, Try.ntmps82
  go_wp2_with fail
  refine (asked_is n w).mono ?_
  rintro e w2 ⟨rfl, rfl⟩
  generalize hd : decide (n = 0) = d
  replace hd := hid hd
  go_wp2_with fail
  go_ret
  exact ⟨by rw [hd.out]; rfl, rfl⟩

set_option maxHeartbeats 1000000 in
theorem indexFunc_is (b c : Nat) (P : Option Addr) (xss : List (List Int)) (w : World) (hn : xss.length ≤ 100000) (hP : Arrs w P xss) (hb : isAsked w b) :
    Calls Try.prog 90 #[.slice P xss.length c, .func (.func 82) #[] #[.pointer (some ⟨b, 0, none⟩)]] w fun e w' =>
      ∃ r : Int, e = .returned (.int .i64 r) ∧ (0 ≤ r ↔ [] ∈ xss) ∧ -1 ≤ r ∧ w = w' := by
  replace hP := hid hP
  replace hb := hid hb
  go_enter Try.func90, Try.ntmps90
  go_wp2_with fail
  go_loop [8] (fun i => ∃ k : Nat, k ≤ xss.length ∧ i = .int .i64 k ∧ ∀ j, j < k → xss.getD j [] ≠ []) (fun i => xss.length - (intOf i).toNat)
  case atStart => exact ⟨0, Nat.zero_le _, rfl, fun j hj => absurd hj (Nat.not_lt_zero _)⟩
  case round =>
    obtain ⟨k, hk0, rfl, hno⟩ := hrel
    replace hno := hid hno
    by_cases hlt : k < xss.length
    · obtain ⟨q, off, Ai, ci, rfl, hq, hcell, hAi⟩ := hP.out.at_ hlt
      have key := hid (some1_is b (xss.getD k []).length ci Ai w hb.out)
      have hmem : Hid (xss.getD k [] ∈ xss) := hid (by simp [List.getD, hlt])
      generalize hxs : xss.getD k [] = xs at hcell key hmem
      replace hxs := hid hxs
      clear hAi
      by_cases hz : xs.length = 0
      · rw [decide_eq_true hz] at key
        have hex : Hid ([] ∈ xss) := hid (by rw [← List.eq_nil_of_length_eq_zero hz]; exact hmem.out)
        replace hz := hid hz
        go_wp2_with fail
        refine key.out.mono ?_
        rintro e w' ⟨rfl, rfl⟩
        go_wp2_with fail
        go_ret
        exact ⟨_, rfl, ⟨fun _ => hex.out, fun _ => by omega⟩, by omega, rfl⟩
      · rw [decide_eq_false hz] at key
        replace hz := hid hz
        go_wp2_with fail
        refine key.out.mono ?_
        rintro e w' ⟨rfl, rfl⟩
        go_wp2_with fail
        go_round
        case rel => exact ⟨k + 1, by omega, by go_num, fun j hj => by
            by_cases hjk : j < k
            · exact hno.out j hjk
            · obtain rfl : j = k := by omega
              intro e
              have e2 := hxs.out
              rw [e] at e2
              exact hz.out (by rw [← e2]; rfl)⟩
        case measure => simp [intOf]; omega
    · obtain rfl : k = xss.length := by omega
      have hnot : Hid (¬ [] ∈ xss) := hid (by
        intro hx
        obtain ⟨j, hj, he⟩ := List.mem_iff_getElem.1 hx
        exact hno.out j hj (by simp [List.getD, hj, he]))
      go_wp2_with fail
      go_ret
      exact ⟨-1, rfl, ⟨fun h => by omega, fun h => absurd h hnot.out⟩, by omega, rfl⟩

theorem containsFunc_is (b c : Nat) (P : Option Addr) (xss : List (List Int)) (w : World) (hn : xss.length ≤ 100000) (hP : Arrs w P xss) (hb : isAsked w b) :
    Calls Try.prog 81 #[.slice P xss.length c, .func (.func 82) #[] #[.pointer (some ⟨b, 0, none⟩)]] w fun e w' =>
      ∃ d : Bool, e = .returned (.bool d) ∧ (d = true ↔ [] ∈ xss) ∧ w = w' := by
  have key := hid (indexFunc_is b c P xss w hn hP hb)
  clear hP hb
  go_enter Try.func81, Try.ntmps81
  go_wp2_with fail
  refine key.out.mono ?_
  rintro e w2 ⟨r, rfl, hr, hr1, rfl⟩
  by_cases h0 : 0 ≤ r
  · have hx : Hid ([] ∈ xss) := hid (hr.1 h0)
    clear hr
    go_wp2_with fail
    go_ret
    exact ⟨true, by simp [h0], ⟨fun _ => hx.out, fun _ => rfl⟩, rfl⟩
  · have hx : Hid (¬ [] ∈ xss) := hid (fun h => h0 (hr.2 h))
    clear hr
    go_wp2_with fail
    go_ret
    exact ⟨false, by simp [h0], ⟨(fun h => by cases h), (fun h => absurd h hx.out)⟩, rfl⟩

theorem some_is (P : Option Addr) (c : Nat) (xss : List (List Int)) (w : World) (hn : xss.length ≤ 100000) (hP : Arrs w P xss) :
    Calls Try.prog 72 #[.agg #[.slice P xss.length c], .func (.func 73) #[] #[]] w fun e w' =>
      ∃ d : Bool, e = .returned (.bool d) ∧ (d = true ↔ [] ∈ xss) ∧ w.grownBy w' none := by
  obtain ⟨h, hh⟩ : ∃ h, w.heap.size = h := ⟨_, rfl⟩
  have hsz0 : (w.alloc (.cells #[.slice P xss.length c] 84)).heap.size = h + 1 := by simp [hh]
  have hgt : isAsked ((w.alloc (.cells #[.slice P xss.length c] 84)).alloc (.cells #[.func (.func 73) #[] #[]] 96)) (h + 1) := Holds.new_at _ _ hsz0
  have hlk := (Holds.new_at 84 #[.slice P xss.length c] hh).alloc (.cells #[.func (.func 73) #[] #[]] 96)
  have hgr := grown_alloc (grown_alloc (grown_refl w none) (.cells #[.slice P xss.length c] 84)) (.cells #[.func (.func 73) #[] #[]] 96)
  have b0 := (hlk.cell 0).trans (show _ = some (Value.slice P xss.length c) from rfl)
  have key := hid (containsFunc_is (h + 1) c P xss _ hn (hP.grown hgr) hgt)
  replace hgr := hid hgr
  clear hlk hgt hP
  go_enter Try.func72, Try.ntmps72
  go_wp2_with fail
  refine key.out.mono ?_
  rintro e w2 ⟨d, rfl, hd, rfl⟩
  replace hd := hid hd
  go_wp2_with fail
  go_ret
  exact ⟨d, rfl, hd.out, hgr.out⟩
end Go.Proofs.Ytojbkhheaondhaa

namespace Go.Proofs.Ytojbkhheaondhaa
open Go.RowKit PlainLetter PlainPatset Go.Shelf
attribute [local go_sem] run_store_func

theorem longest_more (b : Nat) : ∀ xss : List (List Int), b < longest xss ↔ ∃ x ∈ xss, b < x.length
  | [] => by simp [longest]
  | x :: l => by
    have ih := longest_more b l
    have e : longest (x :: l) = max x.length (longest l) := rfl
    rw [e]
    simp only [List.mem_cons, exists_eq_or_imp]
    rw [← ih]
    omega

theorem check_alt (f : Bool) (xss : List (List Int)) : check f xss = if xss.length = 0 then 50 else if 64 < xss.length then 51 else if [] ∈ xss then 52 else if 32 < longest xss then 53 else if 600 < total xss then 54 else if 400 < nodes f xss then 55 else 0 := by
  unfold check
  have e1 : (xss = []) ↔ xss.length = 0 := by rw [List.length_eq_zero_iff]
  have e2 : (∃ x ∈ xss, x = []) ↔ [] ∈ xss := ⟨fun ⟨x, hx, h⟩ => h ▸ hx, fun h => ⟨[], h, rfl⟩⟩
  have e3 := longest_more 32 xss
  simp only [e1, e2, e3]

set_option maxHeartbeats 4000000 in
theorem fault_is (f : Bool) (P : Option Addr) (c : Nat) (xss : List (List Int)) (w : World) (hn : xss.length ≤ 100000) (hl : xss.flatten.length ≤ 99999) (hB : ∀ i, Bytes (xss.getD i [])) (hP : Arrs w P xss) :
    Calls Try.prog 60 #[.agg #[.slice P xss.length c, .bool f]] w fun e w' => e = .returned (.int .i64 (check f xss)) ∧ w.grownBy w' none := by
  have hlk : isLook (w.alloc (.cells #[.slice P xss.length c, .bool f] 86)) w.heap.size f P xss.length c := Holds.new _ _ _
  have hgr := grown_alloc (grown_refl w none) (.cells #[.slice P xss.length c, .bool f] 86)
  have hca := hid (check_alt f xss)
  have hMany := hid (fun W => many_is P xss.length c W)
  have hSome := hid (fun W (hg : w.grownBy W none) => some_is P c xss W hn (hP.grown hg))
  have hLong := hid (fun W (hg : w.grownBy W none) => longest_is P c xss W hn (by omega) (hP.grown hg))
  have hTog := hid (fun W (hg : w.grownBy W none) => together_is P c xss W hn (by omega) (hP.grown hg))
  have hNod := hid (fun W (hg : w.grownBy W none) => nodes_is f P c xss W hn hl hB (hP.grown hg))
  have hcell := hid (fun W (h : isLook W w.heap.size f P xss.length c) => (show _ ∧ _ from ⟨(h.cell 0).trans (show _ = some (Value.slice P xss.length c) from rfl), (h.cell 1).trans (show _ = some (Value.bool f) from rfl)⟩))
  generalize hcr : check f xss = r at hca ⊢
  replace hcr := hid hcr
  replace hlk := hid hlk
  replace hgr := hid hgr
  clear hB hP
  go_enter Try.func60, Try.ntmps60
  go_wp2_with fail
  generalize w.alloc (.cells #[.slice P xss.length c, .bool f] 86) = W0 at hlk hgr ⊢
  refine (hMany.out _).mono ?_
  rintro e w1 ⟨rfl, hg1⟩
  have hlk1 := hid (Holds.kept0 hg1 hlk.out)
  have hgr1 := hid (grown_trans hgr.out hg1)
  obtain ⟨b0, b1⟩ := hcell.out _ hlk1.out
  clear hg1 hlk hgr
  by_cases h1 : xss.length = 0
  · have hr := hca.out
    rw [if_pos h1] at hr
    have q : ((xss.length : Int) == 0) = true := by rw [beq_iff_eq]; omega
    go_wp2_with fail
    go_ret
    exact ⟨by rw [hr]; rfl, hgr1.out⟩
  rw [if_neg h1] at hca
  have q1 : ((xss.length : Int) == 0) = false := by rw [beq_eq_false_iff_ne]; omega
  go_wp2_with fail
  clear q1
  refine (hMany.out _).mono ?_
  rintro e w2 ⟨rfl, hg2⟩
  have hlk2 := hid (Holds.kept0 hg2 hlk1.out)
  have hgr2 := hid (grown_trans hgr1.out hg2)
  clear b0 b1 hg2 hlk1 hgr1
  obtain ⟨b0, b1⟩ := hcell.out _ hlk2.out
  by_cases h2 : 64 < xss.length
  · have hr := hca.out
    rw [if_pos h2] at hr
    have q : (64 : Int) < (xss.length : Int) := by omega
    go_wp2_with fail
    go_ret
    exact ⟨by rw [hr]; rfl, hgr2.out⟩
  rw [if_neg h2] at hca
  have q2 : ¬ (64 : Int) < (xss.length : Int) := by omega
  go_wp2_with fail
  clear q2
  refine (hSome.out _ hgr2.out).mono ?_
  rintro e w3 ⟨d, rfl, hd, hg3⟩
  have hlk3 := hid (Holds.kept0 hg3 hlk2.out)
  have hgr3 := hid (grown_trans hgr2.out hg3)
  clear b0 b1 hg3 hlk2 hgr2
  obtain ⟨b0, b1⟩ := hcell.out _ hlk3.out
  by_cases h3 : [] ∈ xss
  · have hr := hca.out
    rw [if_pos h3] at hr
    obtain rfl : d = true := hd.2 h3
    replace hd := hid hd
    replace h3 := hid h3
    go_wp2_with fail
    go_ret
    exact ⟨by rw [hr]; rfl, hgr3.out⟩
  rw [if_neg h3] at hca
  obtain rfl : d = false := by
    cases d
    · rfl
    · exact absurd (hd.1 rfl) h3
  replace hd := hid hd
  replace h3 := hid h3
  go_wp2_with fail
  refine (hLong.out _ hgr3.out).mono ?_
  rintro e w4 ⟨rfl, hg4⟩
  have hlk4 := hid (Holds.kept0 hg4 hlk3.out)
  have hgr4 := hid (grown_trans hgr3.out hg4)
  clear b0 b1 hg4 hlk3 hgr3
  obtain ⟨b0, b1⟩ := hcell.out _ hlk4.out
  generalize longest xss = L at hca hLong ⊢
  by_cases h4 : 32 < L
  · have hr := hca.out
    rw [if_pos h4] at hr
    have q : (32 : Int) < (L : Int) := by omega
    go_wp2_with fail
    go_ret
    exact ⟨by rw [hr]; rfl, hgr4.out⟩
  rw [if_neg h4] at hca
  have q4 : ¬ (32 : Int) < (L : Int) := by omega
  go_wp2_with fail
  clear q4
  refine (hTog.out _ hgr4.out).mono ?_
  rintro e w5 ⟨rfl, hg5⟩
  have hlk5 := hid (Holds.kept0 hg5 hlk4.out)
  have hgr5 := hid (grown_trans hgr4.out hg5)
  clear b0 b1 hg5 hlk4 hgr4
  obtain ⟨b0, b1⟩ := hcell.out _ hlk5.out
  generalize total xss = T at hca hTog ⊢
  by_cases h5 : 600 < T
  · have hr := hca.out
    rw [if_pos h5] at hr
    have q : (600 : Int) < (T : Int) := by omega
    go_wp2_with fail
    go_ret
    exact ⟨by rw [hr]; rfl, hgr5.out⟩
  rw [if_neg h5] at hca
  have q5 : ¬ (600 : Int) < (T : Int) := by omega
  go_wp2_with fail
  clear q5
  refine (hNod.out _ hgr5.out).mono ?_
  rintro e w6 ⟨rfl, hg6⟩
  have hgr6 := hid (grown_trans hgr5.out hg6)
  clear b0 b1 hg6 hlk5 hgr5
  generalize nodes f xss = M at hca hNod ⊢
  by_cases h6 : 400 < M
  · have hr := hca.out
    rw [if_pos h6] at hr
    have q : (400 : Int) < (M : Int) := by omega
    go_wp2_with fail
    go_ret
    exact ⟨by rw [hr]; rfl, hgr6.out⟩
  rw [if_neg h6] at hca
  have hr := hca.out
  have q6 : ¬ (400 : Int) < (M : Int) := by omega
  go_wp2_with fail
  go_ret
  exact ⟨by rw [hr]; rfl, hgr6.out⟩
end Go.Proofs.Ytojbkhheaondhaa

namespace Go.Proofs.Ytojbkhheaondhaa
open Go.RowKit PlainLetter PlainPatset Go.Shelf

theorem SetOwn.far {base g : Nat} {f : Bool} {ws : List (List Int)} {v : Value} {w : World} {t : TypeId} {cs : Array Value} (h : SetOwn base f ws v w) (hH : Holds w g t cs) (h1 : t ≠ 28) (h2 : t ≠ 5) (k : Nat) (u : Value) :
    SetOwn base f ws v (w.setCell ⟨g, k, none⟩ u) := by
  obtain ⟨A, c, l, rfl, hm, hr⟩ := h
  exact ⟨A, c, l, rfl, hm, hr.far hH h1 h2 k u⟩

theorem SetOwn.mono {base base' : Nat} {f : Bool} {ws : List (List Int)} {v : Value} {w : World} (h : SetOwn base f ws v w) (hb : base' ≤ base) : SetOwn base' f ws v w := by
  obtain ⟨A, c, l, rfl, hm, hr⟩ := h
  exact ⟨A, c, l, rfl, hm, hr.mono hb⟩

theorem SetOwn.form {base : Nat} {f : Bool} {ws : List (List Int)} {v : Value} {w : World} (h : SetOwn base f ws v w) : ∃ (b : Bool) (A : Option Addr) (n c : Nat), v = .agg #[.bool b, .slice A n c] := by
  obtain ⟨A, c, l, rfl, hm, hr⟩ := h
  exact ⟨_, _, _, _, rfl⟩

theorem look_is (f : Bool) (P : Option Addr) (n c : Nat) (w : World) :
    Calls Try.prog 59 #[.bool f, .slice P n c] w fun e w' => e = .returned (.agg #[.slice P n c, .bool f]) ∧ w.grownBy w' none := by
  go_enter Try.func59, Try.ntmps59
  go_wp2_with fail
  have H1 : Holds (w.alloc (.cells #[.slice P n c, .bool f] 86)) w.heap.size 86 #[.slice P n c, .bool f] := Holds.new _ _ _
  have s0 := (H1.cell 0).trans (show _ = some (Value.slice P n c) from rfl)
  have s1 := (H1.cell 1).trans (show _ = some (Value.bool f) from rfl)
  refine bodyPost_ret (v := .agg #[.slice P n c, .bool f]) (by simp [results, Try.results59, go_sem, s0, s1]) rfl ⟨rfl, grown_alloc (grown_refl w none) _⟩

theorem pat_small {xss : List (List Int)} (hn : xss.length ≤ 1000) (hl : xss.flatten.length ≤ 10000) (hB : ∀ i, Bytes (xss.getD i [])) : Small xss := ⟨by omega, fun i => ⟨by
    by_cases hk : i < xss.length
    · have h1 := flatten_take_succ xss i hk
      have h2 := flatten_take_le xss (i + 1)
      rw [h1, List.length_append] at h2
      omega
    · simp [List.getD, List.getElem?_eq_none (Nat.le_of_not_lt hk)], hB i⟩⟩

theorem patNumber_is (f : Bool) (P A : Option Addr) (c d : Nat) (xss : List (List Int)) (x : List Int) (w : World) (hx : x.length ≤ 10000) (hxb : Bytes x) (hA : Arr w .u8 A x) (hP : Arrs w P xss) (hn : xss.length ≤ 1000) (hl : xss.flatten.length ≤ 10000) (hB : ∀ i, Bytes (xss.getD i [])) :
    Calls Try.prog 62 #[.agg #[.bool f, .slice P xss.length c], .slice A x.length d] w fun e w' => e = .returned (.tuple #[.int .i64 (number f xss x).1, .bool (number f xss x).2]) ∧ w.grownBy w' none := by
  have hS := hid (pat_small hn hl hB)
  have hgr := grown_alloc (grown_refl w none) (.cells #[.bool f, .slice P xss.length c] 24)
  have key := hid (letWhich_is f A P d c x xss _ (by omega) hxb (hA.grown hgr) (hP.grown hgr) hS.out)
  have hH := Holds.new w 24 #[.bool f, .slice P xss.length c]
  replace hgr := hid hgr
  have hr : -1 ≤ which f x xss ∧ which f x xss < 1000000 := by
    rcases which_spec f x xss with ⟨h, _⟩ | ⟨k, hk, h, _⟩ <;> omega
  clear hP hA hB hxb hS hH
  generalize hk : which f x xss = k at key hr
  by_cases h0 : k < 0
  · have hnum : Hid (number f xss x = (0, false)) := hid (by unfold number; rw [hk, if_pos h0])
    go_enter Try.func62, Try.ntmps62
    go_wp2_with fail
    refine key.out.mono ?_
    rintro e w2 ⟨rfl, hg⟩
    replace hg := hid (grown_trans hgr.out hg)
    go_wp2_with fail
    go_ret2
    exact ⟨by rw [hnum.out]; rfl, hg.out⟩
  · have hnum : Hid (number f xss x = (k, true)) := hid (by unfold number; rw [hk, if_neg h0])
    go_enter Try.func62, Try.ntmps62
    go_wp2_with fail
    refine key.out.mono ?_
    rintro e w2 ⟨rfl, hg⟩
    replace hg := hid (grown_trans hgr.out hg)
    go_wp2_with fail
    go_ret2
    exact ⟨by rw [hnum.out]; rfl, hg.out⟩

theorem patSame_is (f g : Bool) (P Q : Option Addr) (c d : Nat) (xss yss : List (List Int)) (w : World) (hn : xss.length ≤ 1000) (hP : Arrs w P xss) (hQ : Arrs w Q yss) (hx : ∀ i, Bytes (xss.getD i [])) (hy : ∀ i, Bytes (yss.getD i [])) :
    Calls Try.prog 50 #[.agg #[.bool f, .slice P xss.length c], .agg #[.bool g, .slice Q yss.length d]] w fun e w' => e = .returned (.bool (decide (f = g ∧ xss = yss))) ∧ w.grownBy w' none := by
  have hgr := grown_alloc (grown_alloc (grown_refl w none) (.cells #[.bool f, .slice P xss.length c] 24)) (.cells #[.bool g, .slice Q yss.length d] 24)
  have hH1 := (Holds.new w 24 #[.bool f, .slice P xss.length c]).alloc (.cells #[.bool g, .slice Q yss.length d] 24)
  have hH2 : Holds ((w.alloc (.cells #[.bool f, .slice P xss.length c] 24)).alloc (.cells #[.bool g, .slice Q yss.length d] 24)) (w.heap.size + 1) 24 #[.bool g, .slice Q yss.length d] := Holds.new_at _ _ (by simp)
  have key := hid (equalFunc_is P Q c d xss yss _ (by omega) (hP.grown hgr) (hQ.grown hgr) hx hy)
  have a0 := (hH1.cell 0).trans (show _ = some (Value.bool f) from rfl)
  have a1 := (hH1.cell 1).trans (show _ = some (Value.slice P xss.length c) from rfl)
  have b0 := (hH2.cell 0).trans (show _ = some (Value.bool g) from rfl)
  have b1 := (hH2.cell 1).trans (show _ = some (Value.slice Q yss.length d) from rfl)
  replace hgr := hid hgr
  clear hP hQ hx hy hH1 hH2
  by_cases hfg : f = g
  · subst hfg
    have hD : Hid (decide (f = f ∧ xss = yss) = decide (xss = yss)) := hid (by simp)
    generalize decide (xss = yss) = D at key hD
    go_enter Try.func50, Try.ntmps50
    go_wp2_with fail
    refine key.out.mono ?_
    rintro e w2 ⟨rfl, rfl⟩
    go_wp2_with fail
    go_ret
    exact ⟨by rw [hD.out]; rfl, hgr.out⟩
  · have hD : Hid (decide (f = g ∧ xss = yss) = false) := hid (decide_eq_false (fun h => hfg h.1))
    have q : (f == g) = false := by rw [beq_eq_false_iff_ne]; exact hfg
    replace hfg := hid hfg
    go_enter Try.func50, Try.ntmps50
    go_wp2_with fail
    go_ret
    exact ⟨by rw [hD.out]; rfl, hgr.out⟩
end Go.Proofs.Ytojbkhheaondhaa
