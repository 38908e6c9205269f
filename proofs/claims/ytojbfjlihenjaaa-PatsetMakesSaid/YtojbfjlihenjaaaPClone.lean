/- Go's library: bytes.Clone. -/
import Derived.Test.YtojbfjlihenjaaaPush
import Derived.Test.YtojbfjlihenjaaaBase
import Derived.Test.YtojbfjlihenjaaaRange
import Derived.Laws.OwnMore
import Derived.Laws.BytesArg
import Derived.Lib.SliceRun
import Derived.Test.YtojbfjlihenjaaaLFolded
import Derived.Test.YtojbfjlihenjaaaOwnRows
import Derived.Test.YtojbfjlihenjaaaPlainPatset
import Derived.Test.YtojbfjlihenjaaaQMake
set_option linter.unusedSimpArgs false
set_option linter.unusedVariables false
set_option maxRecDepth 100000
namespace Go.Proofs.Ytojbfjlihenjaaa
open Go.RowKit

theorem clone_is (A : Option Addr) (c : Nat) (xs : List Int) (w : World) (hl : xs.length ≤ 100000) (hA : Arr w .u8 A xs) :
    Calls Try.prog 40 #[.slice A xs.length c] w (Owns xs w) := by
  cases A with
  | none =>
    obtain rfl : xs = [] := by
      by_cases hz : xs = []
      · exact hz
      · obtain ⟨_, _, h0, _⟩ := hA hz
        cases h0
    clear hA
    have hnil := fun A n c => Lib.run_eql_slice_nil (P := Try.prog) w 25 5 A n c 0 0 Try.underlying25
    go_enter Try.func40, Try.ntmps40
    go_wp2_with fail
    go_ret
    exact ⟨_, rfl, World.ownsRow_nil _ _ _ _, Below.refl _ _⟩
  | some a =>
    obtain ⟨i0, hi, hz0, hz1, hz2⟩ := info_parts Try.info5
    have hrow := hid (World.ownsRow_made (size := 1) (e := 5) (base := w.heap.size) w #[] 0 (Nat.le_refl _) (by unfold maxLen; omega) rfl)
    have hA1 := hid (hA.grown (grown_alloc (grown_refl w none) (.cells #[] 5)))
    clear hA
    have hnil := fun A n c => Lib.run_eql_slice_nil (P := Try.prog) w 25 5 A n c 0 0 Try.underlying25
    go_enter Try.func40, Try.ntmps40
    go_wp2_with (at_builtin; (refine wpList_append_all rfl _ _ 25 rfl w.heap.size 5 i0 .u8 1 Try.underlying25 hi hz0 hz1 hz2 _ [] xs _ _ _ _ hrow.out hA1.out rfl rfl rfl (by decide) (by simp; omega) (by simp) ?_; intro v7 w7 hrow7 hB7; rw [List.nil_append] at hrow7))
    go_ret
    exact ⟨_, rfl, hrow7, (Below.refl _ _).trans (((Below.refl w.heap.size w).alloc (Nat.le_refl _) _).trans hB7)⟩

end Go.Proofs.Ytojbfjlihenjaaa

/- Package patset: the words as a set has them, one by one. -/
namespace Go.Proofs.Ytojbfjlihenjaaa
open Go.RowKit PlainLetter PlainPatset Go.Shelf
attribute [local go_sem] Oper.semAt_some

theorem run_store_func (P : Program) (w : World) (a : Addr) (fn : Fn) (x y : Array Value) (m : Mode) : (store a (.func fn x y) m).run P w = stored P w a (.func fn x y) m := run_store P w a _ m rfl
attribute [local go_sem] run_store_func

def ownF (f : Bool) : Nat := if f then 46 else 40
def isLook (W : World) (b : Nat) (f : Bool) (P : Option Addr) (n c : Nat) : Prop := Holds W b 52 #[.slice P n c, .bool f]
def isOwnF (W : World) (b : Nat) (f : Bool) : Prop := Holds W b 65 #[.func (.func (ownF f)) #[] #[]]

theorem told_is (f : Bool) (P : Option Addr) (n c : Nat) (w : World) :
    Calls Try.prog 31 #[.agg #[.slice P n c, .bool f]] w fun e w' =>
      e = .returned (.func (.func 47) #[] #[.pointer (some ⟨w.heap.size, 0, none⟩), .pointer (some ⟨w.heap.size + 1, 0, none⟩)]) ∧
      isLook w' w.heap.size f P n c ∧ isOwnF w' (w.heap.size + 1) f ∧ w.grownBy w' none ∧ w'.heap.size = w.heap.size + 2 := by
  have HL := Holds.new w 52 #[.slice P n c, .bool f]
  have hG := grown_alloc (grown_refl w none) (.cells #[.slice P n c, .bool f] 52)
  have hsz : (w.alloc (.cells #[.slice P n c, .bool f] 52)).heap.size = w.heap.size + 1 := by simp
  obtain ⟨h, hh⟩ : ∃ h, w.heap.size = h := ⟨_, rfl⟩
  go_enter Try.func31, Try.ntmps31
  go_upto_region 1 with fail
  rw [hh] at HL hsz
  obtain ⟨w1, hw1⟩ : ∃ w1, w.alloc (.cells #[.slice P n c, .bool f] 52) = w1 := ⟨_, rfl⟩
  rw [hw1] at HL hG hsz ⊢
  clear hw1
  replace hh := hid hh
  have b1 := (HL.cell 1).trans (show _ = some (Value.bool f) from rfl)
  have lb := HL.lt
  cases f
  all_goals
    go_wp2_with fail
    rw [hh.out]
    go_ret
    exact ⟨rfl, HL.alloc _, Holds.new_at _ _ hsz, grown_alloc hG _, by simpa using hsz⟩

/-- A word as a set has it. -/
theorem ownWord_is (f : Bool) (A : Option Addr) (c : Nat) (xs : List Int) (w : World) (hl : xs.length ≤ 100000) (hb : Bytes xs) (hA : Arr w .u8 A xs) :
    Calls Try.prog (ownF f) #[.slice A xs.length c] w fun e w' => ∃ A' c', e = .returned (.slice A' xs.length c') ∧ OwnBytes w' w.heap.size (A', foldIf f xs, c') ∧ w.grownBy w' none := by
  cases f
  · refine (clone_is A c xs w hl hA).mono ?_
    rintro e w' ⟨v, rfl, h1, h2⟩
    obtain ⟨A', c', rfl, _, _⟩ := own_form h1
    exact ⟨A', c', rfl, h1, below_grown h2⟩
  · refine (letFolded_is A c xs w hl hb hA).mono ?_
    rintro e w' ⟨v, rfl, h1, h2⟩
    obtain ⟨A', c', rfl, _, _⟩ := own_form h1
    exact ⟨A', c', by simp, h1, below_grown h2⟩

set_option maxHeartbeats 2000000 in
theorem told_in (l bl bf base : Nat) (f : Bool) (P : Option Addr) (c : Nat) (As : Nat → Option Addr) (Cs : Nat → Nat) (xss : List (List Int)) (hn : xss.length ≤ 100000) (hS : ∀ k, (xss.getD k []).length ≤ 100000) (hB : ∀ k, Bytes (xss.getD k []))
    (J : Nat → World → Prop) (W0 : World)
    (hJs : ∀ k W, J k W → RowsAt W P As Cs xss ∧ isLook W bl f P xss.length c ∧ isOwnF W bf f ∧ base ≤ W.heap.size)
    (hG : ∀ k W W', J k W → W.grownBy W' none → J k W')
    (hY : ∀ k W A cw, k < xss.length → J k W → OwnBytes W base (A, foldIf f (xss.getD k []), cw) → YieldAt Fence.wide 0 Try.prog l #[.slice A (xss.getD k []).length cw] W (fun e W' => e = .returned (.bool true) ∧ J (k + 1) W'))
    (h0 : J 0 W0) :
    CallsIn Fence.wide 0 Try.prog 47 #[.func (.yield l) #[] #[], .pointer (some ⟨bl, 0, none⟩), .pointer (some ⟨bf, 0, none⟩)] W0 fun e W' => (∃ v, e = .returned v) ∧ J xss.length W' := by
  have hwd := fun A c xs w a b d => ownWord_is f A c xs w a b d
  replace hS := hid hS
  replace hB := hid hB
  replace hJs := hid hJs
  replace hG := hid hG
  replace hY := hid hY
  replace hwd := hid hwd
  obtain ⟨_, hl0, hf0, _⟩ := hJs.out _ _ h0
  have hc0 := (hl0.cell 0).trans (show _ = some (Value.slice P xss.length c) from rfl)
  have hlt0 := hl0.lt
  clear hl0 hf0
  cases f
  all_goals
    refine callsIn_of_wp Try.func47 rfl trivial ?_ rfl
    simp only [Try.ntmps47, List.size_toArray, List.length_cons, List.length_nil, Nat.reduceAdd, Nat.reduceSub, Array.replicate_succ, Array.replicate_zero, List.push_toArray, List.append_toArray, List.nil_append, List.cons_append]
    gi_wp2
    gi_loopw [10] (fun i wr => ∃ k : Nat, k ≤ xss.length ∧ i = .int .i64 k ∧ J k wr) (fun i _ => xss.length - (intOf i).toNat)
    case atStart => exact ⟨0, by omega, rfl, h0⟩
    case round =>
      clear hc0 h0 hlt0
      obtain ⟨k, hk, rfl, hJ⟩ := hrel
      by_cases hlt : k < xss.length
      · obtain ⟨hrows, hlk, hfn, hbs⟩ := hJs.out _ _ hJ
        obtain ⟨b, off, rfl, hb, hcell, hrow⟩ := hrows k hlt
        have hfc := (hfn.cell 0).trans (show _ = some (Value.func (.func (ownF _)) #[] #[]) from rfl)
        simp only [ownF, if_true, Bool.false_eq_true, if_false] at hfc
        clear hrows hlk hfn
        have hsk := hS.out k
        have hbk := hid (hB.out k)
        have hyk := hid (fun W A cw => hY.out k W A cw hlt)
        generalize hxs : xss.getD k [] = xs at hcell hrow hsk hbk hyk
        replace hxs := hid hxs
        replace hrow := hid hrow
        replace hbs := hid hbs
        gi_wp2
        refine ⟨trivial, rfl, ?_⟩
        refine (callsIn_wide.2 (hwd.out (As k) (Cs k) xs wr hsk hbk.out hrow.out)).mono ?_
        rintro e w2 ⟨A', c', rfl, hown, hg⟩
        have hJ2 := hG.out _ _ _ hJ hg
        have hy := hyk.out w2 A' c' hJ2 (hown.mono hbs.out)
        clear hJ hJ2 hown hg hcell hfc
        obtain ⟨fn, tmps, assign, body, hyy, hR⟩ := hy
        gi_wp2
        refine ⟨rfl, hR.mono ?_⟩
        rintro e W2 ⟨rfl, hJ3⟩
        gi_wp2
        go_roundw
        case rel => exact ⟨k + 1, by omega, by go_num, hJ3⟩
        case measure => simp [intOf]; omega
      · obtain rfl : k = xss.length := by omega
        gi_wp2
        go_end0
        exact ⟨⟨_, rfl⟩, hJ⟩
end Go.Proofs.Ytojbfjlihenjaaa
