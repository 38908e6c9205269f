/- What the document's own examples of texts come to. -/
import Derived.Test.YtikfocabhffmmaaLStand
import Derived.Deep.CutRange
import Derived.Lib.SlBytesConst
set_option linter.unusedVariables false
namespace Go.Proofs.Ytikfocabhffmmaa
open Go.RowKit PlainLetter

theorem bytes_all (l : List Int) (h : l.all (fun x => decide (0 ≤ x ∧ x ≤ 255)) = true) : Bytes l := fun k => by
  by_cases hk : k < l.length
  · have := List.all_eq_true.1 h (l.getD k 0) (by simp [List.getD, hk])
    simpa using this
  · simp [List.getD, List.getElem?_eq_none (Nat.le_of_not_lt hk)]

theorem same_lit (f r : Bool) (A B : Option Addr) (c d : Nat) (a b : List Int) (w : World) (ha : a.all (fun x => decide (0 ≤ x ∧ x ≤ 255)) = true) (hb : b.all (fun x => decide (0 ≤ x ∧ x ≤ 255)) = true) (hl : a.length ≤ 100000 ∧ b.length ≤ 100000)
    (hr : same f a b = r) (hA : Arr w .u8 A a) (hB : Arr w .u8 B b) : Calls Try.prog 14 #[.bool f, .slice A a.length c, .slice B b.length d] w fun e w' => e = .returned (.bool r) ∧ w.grownBy w' none := by
  subst hr; exact letSame_is f A B c d a b w hl.1 hl.2 (bytes_all a ha) (bytes_all b hb) hA hB

theorem at_lit (f r : Bool) (A B : Option Addr) (c d : Nat) (a b : List Int) (p : Int) (w : World) (ha : a.all (fun x => decide (0 ≤ x ∧ x ≤ 255)) = true) (hb : b.all (fun x => decide (0 ≤ x ∧ x ≤ 255)) = true) (hl : a.length ≤ 100000 ∧ b.length ≤ 100000 ∧ a.length ≤ c ∧ c ≤ maxLen)
    (hr : stands f a p b = r) (hA : Arr w .u8 A a) (hB : Arr w .u8 B b) : Calls Try.prog 16 #[.bool f, .slice A a.length c, .int .i64 p, .slice B b.length d] w fun e w' => e = .returned (.bool r) ∧ w.grownBy w' none := by
  subst hr; exact letAt_is f A B c d a b p w hl.1 hl.2.1 hl.2.2.1 hl.2.2.2 (bytes_all a ha) (bytes_all b hb) hA hB

theorem which_lit (f : Bool) (r : Int) (A P : Option Addr) (c d : Nat) (a : List Int) (l : List (List Int)) (w : World) (ha : a.all (fun x => decide (0 ≤ x ∧ x ≤ 255)) = true) (hb : l.all (fun b => b.all (fun x => decide (0 ≤ x ∧ x ≤ 255)) && decide (b.length ≤ 100000)) = true) (hl : a.length ≤ 100000 ∧ l.length ≤ 100000)
    (hr : which f a l = r) (hA : Arr w .u8 A a) (hP : Arrs w P l) : Calls Try.prog 18 #[.bool f, .slice A a.length c, .slice P l.length d] w fun e w' => e = .returned (.int .i64 r) ∧ w.grownBy w' none := by
  subst hr
  refine letWhich_is f A P c d a l w hl.1 (bytes_all a ha) hA hP ⟨hl.2, fun i => ?_⟩
  by_cases hi : i < l.length
  · have := List.all_eq_true.1 hb (l.getD i []) (getD_mem hi)
    simp only [Bool.and_eq_true, decide_eq_true_eq] at this
    exact ⟨this.2, bytes_all _ this.1⟩
  · simp only [List.getD, List.getElem?_eq_none (Nat.le_of_not_lt hi), Option.getD_none, List.length_nil]
    exact ⟨by omega, fun k => by simp⟩

theorem folded_lit (A : Option Addr) (c : Nat) (a r : List Int) (w : World) (ha : a.all (fun x => decide (0 ≤ x ∧ x ≤ 255)) = true) (hl : a.length ≤ 100000) (hr : a.map fold = r) (hA : Arr w .u8 A a) :
    Calls Try.prog 12 #[.slice A a.length c] w fun e w' => ∃ A' c', e = .returned (.slice A' r.length c') ∧ Arr w' .u8 A' r ∧ w.grownBy w' none := by
  subst hr
  exact (letFolded_is A c a w hl (bytes_all a ha) hA).mono fun e w' ho => by obtain ⟨A', c', h1, _, _, h2, h3⟩ := ho.arr; exact ⟨A', c', h1, h2, h3⟩

theorem join_lit (P : Option Addr) (d : Nat) (l : List (List Int)) (r : List Int) (w : World) (hl : l.length ≤ 100000 ∧ l.flatten.length ≤ 100000) (hr : l.flatten = r) (hP : Arrs w P l) :
    Calls Try.prog 20 #[.slice P l.length d] w fun e w' => ∃ A' c', e = .returned (.slice A' r.length c') ∧ Arr w' .u8 A' r ∧ w.grownBy w' none := by
  subst hr
  exact (letJoin_is P d l w hl.1 hl.2 hP).mono fun e w' ho => by obtain ⟨A', c', h1, _, _, h2, h3⟩ := ho.arr; exact ⟨A', c', h1, h2, h3⟩

theorem fold_lit (c r : Int) (w : World) (h : 0 ≤ c ∧ c ≤ 255) (hr : fold c = r) : Calls Try.prog 10 #[.int .u8 c] w fun e w' => e = .returned (.int .u8 r) ∧ w = w' := by
  subst hr; exact letFold_is c w h.1 h.2

theorem str_ab : strOfNums [97, 98] = ⟨#[97, 98]⟩ := by simp [strOfNums]
theorem str_join : strOfNums [97, 66, 97, 98, 99, 100, 65, 98] = ⟨#[97, 66, 97, 98, 99, 100, 65, 98]⟩ := by simp [strOfNums]

/-- The three texts, wherever the walk has come. -/
structure WAt (w W : World) (A B X : Option Addr) : Prop where
  a : Arr W .u8 A [97, 66]
  b : Arr W .u8 B [65, 98]
  x : Arr W .u8 X [97, 98, 99, 100]
  g : w.grownBy W none
theorem WAt.grown {w W W' : World} {A B X : Option Addr} (h : WAt w W A B X) (hg : W.grownBy W' none) : WAt w W' A B X := ⟨h.a.grown hg, h.b.grown hg, h.x.grown hg, grown_trans h.g hg⟩

theorem bytes_at {w : World} {g : Nat} (xs : List Int) (hg : w.heap.size = g) : Arr (w.alloc (.cells (xs.map (Value.int .u8)).toArray 5)) .u8 (some ⟨g, 0, none⟩) xs := by subst hg; exact bytes_new w xs

theorem conv_const (w : World) (g : Nat) (C : Array Value) (n c : Nat) (hg : w.heap.size = g) : (convert 22 22 (.slice (some ⟨g, 0, none⟩) n c)).run Try.prog (w.alloc (.cells C 5)) = .ok (.slice (some ⟨g, 0, none⟩) n c) (w.alloc (.cells C 5 (C.size, C.size + 1))) := by
  subst hg
  exact Lib.run_convert_bytes_const (P := Try.prog) w 22 5 C n c Try.underlying22 Try.underlying5

theorem const_at {w : World} {g : Nat} (xs : List Int) (r : Nat × Nat) (hg : w.heap.size = g) : Arr (w.alloc (.cells (xs.map (Value.int .u8)).toArray 5 r)) .u8 (some ⟨g, 0, none⟩) xs := fun _ => by
  subst hg
  refine ⟨w.heap.size, 0, rfl, by simp, fun i hi => ?_⟩
  rw [Nat.zero_add, cell_of_row _ w.heap.size i _ 5 r (World.alloc_heap_new w _)]
  simp [hi, List.getD]

theorem row_at {w : World} (n : Nat) (l : List (Option Addr × List Int × Nat)) (hA : ∀ x ∈ l, Arr w .u8 x.1 x.2.1) :
    Arrs (w.alloc (.cells (l.map fun x => Value.slice x.1 x.2.1.length x.2.2).toArray 22)) (some ⟨w.heap.size, 0, none⟩) (l.map (·.2.1)) :=
  Arrs.of_holds l (Holds.new w 22 _) (fun x hx => (hA x hx).grown (grown_alloc (grown_refl _ _) _))

set_option maxRecDepth 100000 in
set_option maxHeartbeats 3000000 in
theorem lwakes_true (w : World) : Calls Try.prog 9 #[] w fun e w' => e = .returned (.bool true) ∧ w.grownBy w' none := by
  have kc := conv_const
  go_enter Try.func9, Try.ntmps9
  go_wp2_with fail
  have hW : WAt w (((w.alloc (.cells #[.int .u8 97, .int .u8 66] 5 (2, 3))).alloc (.cells #[.int .u8 65, .int .u8 98] 5 (2, 3))).alloc (.cells #[.int .u8 97, .int .u8 98, .int .u8 99, .int .u8 100] 5 (4, 5))) (some ⟨w.heap.size, 0, none⟩) (some ⟨w.heap.size + 1, 0, none⟩) (some ⟨w.heap.size + 1 + 1, 0, none⟩) := {
    a := ((const_at [97, 66] (2, 3) rfl).grown (grown_alloc (grown_refl _ _) _)).grown (grown_alloc (grown_refl _ _) _)
    b := (const_at [65, 98] (2, 3) (by simp)).grown (grown_alloc (grown_refl _ _) _)
    x := const_at [97, 98, 99, 100] (4, 5) (by simp)
    g := grown_alloc (grown_alloc (grown_alloc (grown_refl _ _) _) _) _ }
  obtain ⟨W0, hW0⟩ : ∃ W0, (((w.alloc (.cells #[.int .u8 97, .int .u8 66] 5 (2, 3))).alloc (.cells #[.int .u8 65, .int .u8 98] 5 (2, 3))).alloc (.cells #[.int .u8 97, .int .u8 98, .int .u8 99, .int .u8 100] 5 (4, 5))) = W0 := ⟨_, rfl⟩
  rw [hW0] at hW ⊢
  clear hW0
  generalize w.heap.size = h0 at hW ⊢
  generalize h0 + 1 = h1 at hW ⊢
  generalize h1 + 1 = h2 at hW ⊢
  refine (same_lit true true _ _ 2 2 [97, 66] [65, 98] _ (by decide) (by decide) (by decide) (by decide) hW.a hW.b).mono ?_
  rintro e W1 ⟨rfl, hg⟩
  replace hW := hW.grown hg
  clear hg
  replace hW := hid hW
  go_wp2_with fail
  replace hW := hW.out
  refine (same_lit false false _ _ 2 2 [97, 66] [65, 98] _ (by decide) (by decide) (by decide) (by decide) hW.a hW.b).mono ?_
  rintro e W2 ⟨rfl, hg⟩
  replace hW := hW.grown hg
  clear hg
  replace hW := hid hW
  go_wp2_with fail
  replace hW := hW.out
  refine (at_lit false true _ _ 4 2 [97, 98, 99, 100] [98, 99] 3 _ (by decide) (by decide) (by decide) (by decide) (hW.x.grown (grown_alloc (grown_refl _ _) _)) (const_at [98, 99] (2, 3) rfl)).mono ?_
  rintro e W3 ⟨rfl, hg⟩
  replace hg := grown_trans (grown_alloc (grown_refl W2 none) _) hg
  replace hW := hW.grown hg
  clear hg
  replace hW := hid hW
  go_wp2_with fail
  replace hW := hW.out
  refine (at_lit false false _ _ 4 2 [97, 98, 99, 100] [98, 99] 2 _ (by decide) (by decide) (by decide) (by decide) (hW.x.grown (grown_alloc (grown_refl _ _) _)) (const_at [98, 99] (2, 3) rfl)).mono ?_
  rintro e W4 ⟨rfl, hg⟩
  replace hg := grown_trans (grown_alloc (grown_refl W3 none) _) hg
  replace hW := hW.grown hg
  clear hg
  replace hW := hid hW
  go_wp2_with fail
  replace hW := hW.out
  refine (at_lit true true _ _ 4 2 [97, 98, 99, 100] [67, 68] 4 _ (by decide) (by decide) (by decide) (by decide) (hW.x.grown (grown_alloc (grown_refl _ _) _)) (const_at [67, 68] (2, 3) rfl)).mono ?_
  rintro e W5 ⟨rfl, hg⟩
  replace hg := grown_trans (grown_alloc (grown_refl W4 none) _) hg
  replace hW := hW.grown hg
  clear hg
  replace hW := hid hW
  go_wp2_with fail
  replace hW := hW.out
  refine (at_lit false true _ _ 4 0 [97, 98, 99, 100] [] 0 _ (by decide) (by decide) (by decide) (by decide) hW.x (Arr.nil none)).mono ?_
  rintro e W6 ⟨rfl, hg⟩
  replace hW := hW.grown hg
  clear hg
  replace hW := hid hW
  go_wp2_with fail
  replace hW := hW.out
  refine (at_lit false false _ _ 4 0 [97, 98, 99, 100] [] 5 _ (by decide) (by decide) (by decide) (by decide) hW.x (Arr.nil none)).mono ?_
  rintro e W7 ⟨rfl, hg⟩
  replace hW := hW.grown hg
  clear hg
  replace hW := hid hW
  go_wp2_with fail
  replace hW := hW.out
  refine (fold_lit 90 122 _ (by decide) (by decide)).mono ?_
  rintro e W8 ⟨rfl, rfl⟩
  replace hW := hid hW
  go_wp2_with fail
  replace hW := hW.out
  refine (fold_lit 91 91 _ (by decide) (by decide)).mono ?_
  rintro e W9 ⟨rfl, rfl⟩
  replace hW := hid hW
  go_wp2_with fail
  replace hW := hW.out
  refine (fold_lit 64 64 _ (by decide) (by decide)).mono ?_
  rintro e W10 ⟨rfl, rfl⟩
  replace hW := hid hW
  go_wp2_with fail
  replace hW := hW.out
  refine (folded_lit _ 2 [65, 98] [97, 98] _ (by decide) (by decide) (by decide) hW.b).mono ?_
  rintro e W11 ⟨A8, c8, rfl, h8, hg⟩
  replace hW := hW.grown hg
  clear hg
  have cv := conv_arr W11 A8 c8 [97, 98] h8
  rw [str_ab] at cv
  simp only [List.length_cons, List.length_nil, Nat.zero_add, Nat.reduceAdd] at cv
  replace hW := hid hW
  go_wp2_with fail
  replace hW := hW.out
  clear cv
  refine (which_lit true 1 _ _ 2 3 [97, 66] [[97, 98, 99, 100], [65, 98], [97, 66]] _ (by decide) (by decide) (by decide) (by decide) (hW.a.grown (grown_alloc (grown_refl _ _) _)) (row_at 3 [(some ⟨h2, 0, none⟩, [97, 98, 99, 100], 4), (some ⟨h1, 0, none⟩, [65, 98], 2), (some ⟨h0, 0, none⟩, [97, 66], 2)] (by simp; exact ⟨hW.x, hW.b, hW.a⟩))).mono ?_
  rintro e W12 ⟨rfl, hg⟩
  replace hg := grown_trans (grown_alloc (grown_refl W11 none) _) hg
  replace hW := hW.grown hg
  clear hg
  replace hW := hid hW
  go_wp2_with fail
  replace hW := hW.out
  refine (which_lit false 2 _ _ 2 3 [97, 66] [[97, 98, 99, 100], [65, 98], [97, 66]] _ (by decide) (by decide) (by decide) (by decide) (hW.a.grown (grown_alloc (grown_refl _ _) _)) (row_at 3 [(some ⟨h2, 0, none⟩, [97, 98, 99, 100], 4), (some ⟨h1, 0, none⟩, [65, 98], 2), (some ⟨h0, 0, none⟩, [97, 66], 2)] (by simp; exact ⟨hW.x, hW.b, hW.a⟩))).mono ?_
  rintro e W13 ⟨rfl, hg⟩
  replace hg := grown_trans (grown_alloc (grown_refl W12 none) _) hg
  replace hW := hW.grown hg
  clear hg
  replace hW := hid hW
  go_wp2_with fail
  replace hW := hW.out
  refine (which_lit false (-1) _ none 2 0 [97, 66] [] _ (by decide) (by decide) (by decide) (by decide) hW.a (Arrs.nil _ _)).mono ?_
  rintro e W14 ⟨rfl, hg⟩
  replace hW := hW.grown hg
  clear hg
  replace hW := hid hW
  go_wp2_with fail
  replace hW := hW.out
  refine (join_lit _ 4 [[97, 66], [97, 98, 99, 100], [], [65, 98]] [97, 66, 97, 98, 99, 100, 65, 98] _ (by decide) (by decide) (row_at 4 [(some ⟨h0, 0, none⟩, [97, 66], 2), (some ⟨h2, 0, none⟩, [97, 98, 99, 100], 4), (none, [], 0), (some ⟨h1, 0, none⟩, [65, 98], 2)] (by simp; exact ⟨hW.a, hW.x, Arr.nil _, hW.b⟩))).mono ?_
  rintro e W15 ⟨A9, c9, rfl, h9, hg⟩
  replace hg := grown_trans (grown_alloc (grown_refl W14 none) _) hg
  replace hW := hW.grown hg
  clear hg
  have cv := conv_arr W15 A9 c9 [97, 66, 97, 98, 99, 100, 65, 98] h9
  rw [str_join] at cv
  simp only [List.length_cons, List.length_nil, Nat.zero_add, Nat.reduceAdd] at cv
  replace hW := hid hW
  go_wp2_with fail
  replace hW := hW.out
  go_ret
  exact ⟨rfl, hW.g⟩

end Go.Proofs.Ytikfocabhffmmaa
