/- What the document's own examples come to. -/
import Derived.Test.YtdpdomdgmehomaaInts
import Derived.Test.YtdpdomdgmehomaaPuts
import Derived.Laws.BytesArg
set_option linter.unusedVariables false
namespace Go.Proofs.Ytdpdomdgmehomaa
open Go.RowKit Plain

/-- A slice of bytes, as a string. -/
theorem conv_arr (w : World) (A : Option Addr) (c : Nat) (zs : List Int) (h : Arr w .u8 A zs) : (convert 23 9 (.slice A zs.length c)).run Try.prog w = .ok (.string (strOfNums zs)) w := by
  by_cases hz : zs = []
  · subst hz
    cases A with
    | none => exact run_convert_bytes_nil w 23 5 Try.underlying23 Try.underlying5 _ _ 9 Try.underlying9
    | some a =>
      rw [run_convert_bytes_string w 23 9 5 (some a) _ c Try.underlying23 Try.underlying5 Try.underlying9]
      have : (loadCells a 0).run Try.prog w = .ok (([] : List Int).map (Value.int .u8)).toArray w := by
        have := run_loadCells_list (P := Try.prog) w a [] (fun j v hj => by simp at hj)
        simpa using this
      rw [List.length_nil, run_bytesToString w a 0 c [] this]
      rfl
  · obtain ⟨b, off, rfl, _, hc⟩ := h hz
    exact run_convert_bytes_arg w 23 5 Try.underlying23 Try.underlying5 b off zs.length c zs rfl hc 9 Try.underlying9

theorem take1 : take [128, 0] = .bad 12 := by simp [take, takeFrom]
theorem take2 : take [255, 255, 255, 255, 8] = .bad 11 := by simp [take, takeFrom]
theorem take3 : take [128] = .bad 10 := by simp [take, takeFrom]
theorem take4 : take [255, 255, 255, 255, 7] = .good 2147483647 [] := by simp [take, takeFrom]
theorem takes1 : takes 3 [5, 172, 2, 0, 9] = .good [5, 300, 0] [9] := by simp [takes, take, takeFrom]
theorem e5 : enc (Int.toNat 5) = [5] := enc_small 5 (by decide)
theorem e0 : enc (Int.toNat 0) = [0] := enc_small 0 (by decide)
theorem e300 : enc (Int.toNat 300) = [172, 2] := by
  show enc 300 = _
  rw [enc_big 300 (by decide), show 300 / 128 = 2 from rfl, enc_small 2 (by decide)]
  rfl
theorem encs1 : encs [5, 300, 0] = [5, 172, 2, 0] := by rw [encs_cons, encs_cons, encs_cons, encs_nil, e5, e300, e0]; rfl
theorem encs2 : encs [5, 300] = [5, 172, 2] := by rw [encs_cons, encs_cons, encs_nil, e5, e300]; rfl
theorem enc3 : enc (Int.toNat 127) = [127] := enc_small 127 (by decide)
theorem byte_of (l : List Int) (h : l.all (fun x => decide (0 ≤ x ∧ x ≤ 255)) = true) : ∀ x ∈ l, isByte x := fun x hx => by
  have := List.all_eq_true.1 h x hx
  simpa [isByte] using this

theorem str1 : strOfNums [5, 172, 2, 0] = ⟨#[5, 172, 2, 0]⟩ := by simp [strOfNums]
theorem str2 : strOfNums [9] = ⟨#[9]⟩ := by simp [strOfNums]
theorem str3 : strOfNums [127] = ⟨#[127]⟩ := by simp [strOfNums]

/-- One more step of a call that made new memory alone. -/
theorem grown_step {w w1 w2 : World} (h : Hid (w.grownBy w1 none)) (o : Obj) (h2 : (w1.alloc o).grownBy w2 none) : Hid (w.grownBy w2 none) := grown_trans (grown_trans h (World.grownBy_alloc _ _ _)) h2

theorem take_call (t : TypeId) (bs : List Int) (n er : Int) (rest : List Int) (w : World) (hl : bs.length ≤ 1000) (hb : bs.all (fun x => decide (0 ≤ x ∧ x ≤ 255)) = true)
    (hg : take bs = .good n rest ∧ er = 0 ∨ take bs = .bad er ∧ n = 0 ∧ rest = []) :
    Calls Try.prog 14 #[.slice (some ⟨w.heap.size, 0, none⟩) bs.length bs.length] (w.alloc (.cells (bs.map (Value.int .u8)).toArray t)) fun e w' => ∃ A c,
      e = .returned (.tuple #[.int .i64 n, .slice A rest.length c, .int .i64 er]) ∧ w.grownBy w' none := by
  refine (Take_any _ _ bs _ (by omega) (Nat.le_refl _) (by unfold maxLen; omega) (byte_of bs hb) (Arr.new w .u8 bs t)).mono ?_
  rintro e w' ⟨n', er', rest', A, c, rfl, _, _, _, hG, h⟩
  have hG' := grown_trans (World.grownBy_alloc w _ none) hG
  rcases h with ⟨h1, rfl⟩ | ⟨h1, _, rfl, rfl⟩
  · rcases hg with ⟨h2, rfl⟩ | ⟨h2, _, _⟩
    · rw [h1] at h2; injection h2 with h3 h4; subst h3 h4; exact ⟨A, c, rfl, hG'⟩
    · rw [h1] at h2; cases h2
  · rcases hg with ⟨h2, _⟩ | ⟨h2, rfl, rfl⟩
    · rw [h1] at h2; cases h2
    · rw [h1] at h2; injection h2 with h3; subst h3; exact ⟨A, c, rfl, hG'⟩

/-- What is kept of the first two answers. -/
structure WakeAt (w W : World) (A1 A2 A3 : Option Addr) : Prop where
  a1 : Arr W .u8 A1 [5, 172, 2, 0]
  a2 : Arr W .i64 A2 [5, 300, 0]
  a3 : Arr W .u8 A3 [9]
  g : w.grownBy W none

theorem WakeAt.grown {w W W' : World} {A1 A2 A3 : Option Addr} (h : WakeAt w W A1 A2 A3) (hg : W.grownBy W' none) : WakeAt w W' A1 A2 A3 :=
  ⟨h.a1.grown hg, h.a2.grown hg, h.a3.grown hg, grown_trans h.g hg⟩

set_option maxHeartbeats 2000000 in
theorem wakes_any (w : World) : Calls Try.prog 7 #[] w fun e w' => e = .returned (.bool true) ∧ w.grownBy w' none := by
  go_enter Try.func7, Try.ntmps7
  go_wp2_with fail
  refine (Puts_yes (some ⟨w.heap.size, 0, none⟩) 3 [5, 300, 0] (w.alloc (.cells #[.int .i64 5, .int .i64 300, .int .i64 0] 3)) (Arr.new w .i64 [5, 300, 0] 3) (by simp) (by decide)).mono ?_
  rintro e w1 ⟨A1, c1, rfl, hc1, hd1, hA1, hG1⟩
  rw [encs1] at hc1 hA1
  simp only [encs1]
  replace hG1 := grown_trans (World.grownBy_alloc w _ none) hG1
  replace hA1 := hid hA1
  replace hG1 := hid hG1
  clear hc1 hd1
  go_wp2_with fail
  refine (Takes_any (some ⟨w1.heap.size, 0, none⟩) 5 [5, 172, 2, 0, 9] 3 (w1.alloc (.cells #[.int .u8 5, .int .u8 172, .int .u8 2, .int .u8 0, .int .u8 9] 5)) (by simp) (by simp) (by simp [maxLen]) (byte_of _ (by decide)) (Arr.new w1 .u8 [5, 172, 2, 0, 9] 5) (by decide) (by decide)).mono ?_
  rintro e w2 ⟨l, rest, er, A2, A3, c2, c3, rfl, _, _, hA2, _, _, hA3, hG2, hT⟩
  obtain ⟨rfl, rfl, rfl⟩ : l = [5, 300, 0] ∧ rest = [9] ∧ er = 0 := by
    rcases hT with ⟨h1, rfl⟩ | ⟨h1, _⟩
    · rw [show Int.toNat 3 = 3 from rfl, takes1] at h1; injection h1 with h1 h2; exact ⟨h1.symm, h2.symm, rfl⟩
    · rw [show Int.toNat 3 = 3 from rfl, takes1] at h1; cases h1
  clear hT
  have hG3 := grown_trans (World.grownBy_alloc w1 _ none) hG2
  have hW : WakeAt w w2 A1 A2 A3 := ⟨hA1.out.grown hG3, hA2, hA3, grown_trans hG1.out hG3⟩
  clear hA1 hG1 hA2 hA3 hG2 hG3
  go_wp2_with fail
  refine (take_call 5 [128, 0] 0 12 [] w2 (by simp) (by decide) (.inr ⟨take1, rfl, rfl⟩)).mono ?_
  rintro e w3 ⟨B1, d1, rfl, hg⟩
  replace hW := hW.grown hg
  clear hg
  go_wp2_with fail
  refine (take_call 5 [255, 255, 255, 255, 8] 0 11 [] w3 (by simp) (by decide) (.inr ⟨take2, rfl, rfl⟩)).mono ?_
  rintro e w4 ⟨B2, d2, rfl, hg⟩
  replace hW := hW.grown hg
  clear hg
  go_wp2_with fail
  refine (take_call 5 [128] 0 10 [] w4 (by simp) (by decide) (.inr ⟨take3, rfl, rfl⟩)).mono ?_
  rintro e w5 ⟨B3, d3, rfl, hg⟩
  replace hW := hW.grown hg
  clear hg
  go_wp2_with fail
  refine (Takes_neg none 0 0 (-1) w5 (by decide)).mono ?_
  rintro e w6 ⟨rfl, rfl⟩
  go_wp2_with fail
  refine (Put_yes 127 w5 (by decide) (by decide)).mono ?_
  rintro e w7 ⟨A4, c4, rfl, _, _, hA4, hg⟩
  rw [enc3] at hA4
  simp only [enc3]
  replace hW := hW.grown hg
  replace hA4 := hid hA4
  clear hg
  go_wp2_with fail
  refine (Put_no (-1) w7 (by decide)).mono ?_
  rintro e w8 ⟨A5, c5, rfl, _, _, _, hg⟩
  replace hW := hW.grown hg
  replace hA4 := hid (hA4.out.grown hg)
  clear hg
  go_wp2_with fail
  refine (take_call 5 [255, 255, 255, 255, 7] 2147483647 0 [] w8 (by simp) (by decide) (.inl ⟨take4, rfl⟩)).mono ?_
  rintro e w9 ⟨B5, d5, rfl, hg⟩
  replace hW := hW.grown hg
  replace hA4 := hid (hA4.out.grown hg)
  clear hg
  have cv1 : (convert 23 9 (.slice A1 4 c1)).run Try.prog w9 = .ok (.string ⟨#[5, 172, 2, 0]⟩) w9 := by rw [← str1]; exact conv_arr w9 A1 c1 [5, 172, 2, 0] hW.a1
  go_wp2_with fail
  clear cv1
  refine (Ints_yes A2 (some ⟨w9.heap.size, 0, none⟩) c2 3 [5, 300, 0] (w9.alloc (.cells #[.int .i64 5, .int .i64 300, .int .i64 0] 3)) (by simp) (hW.a2.grown (World.grownBy_alloc _ _ _)) (Arr.new w9 .i64 [5, 300, 0] 3)).mono ?_
  rintro e w10 ⟨rfl, hg⟩
  replace hg := grown_trans (World.grownBy_alloc w9 _ none) hg
  replace hW := hW.grown hg
  replace hA4 := hid (hA4.out.grown hg)
  clear hg
  have cv2 : (convert 23 9 (.slice A3 1 c3)).run Try.prog w10 = .ok (.string ⟨#[9]⟩) w10 := by rw [← str2]; exact conv_arr w10 A3 c3 [9] hW.a3
  have cv3 : (convert 23 9 (.slice A4 1 c4)).run Try.prog w10 = .ok (.string ⟨#[127]⟩) w10 := by rw [← str3]; exact conv_arr w10 A4 c4 [127] hA4.out
  go_wp2_with fail
  refine (Size_yes (some ⟨w10.heap.size, 0, none⟩) 2 [5, 300] (w10.alloc (.cells #[.int .i64 5, .int .i64 300] 3)) (Arr.new w10 .i64 [5, 300] 3) (by simp) (by decide)).mono ?_
  rintro e w11 ⟨rfl, rfl⟩
  simp only [encs2]
  go_wp2_with fail
  go_ret
  exact ⟨rfl, grown_trans hW.g (World.grownBy_alloc _ _ _)⟩
end Go.Proofs.Ytdpdomdgmehomaa
