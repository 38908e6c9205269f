/- Slices of slices of bytes that are new; sums of what the document says. -/
import Derived.Test.YtdlfphdgjonbdaaRefFeed
import Derived.Test.YtdlfphdgjonbdaaRefJoin
import Derived.Test.YtdlfphdgjonbdaaRefFour
set_option linter.unusedVariables false
namespace Go.Proofs.Ytdlfphdgjonbdaa
open Go.RowKit PlainSum

theorem Arrs.of_holds {w : World} {g : Nat} {t : TypeId} (l : List (Option Addr × List Int × Nat)) (h : Holds w g t (l.map fun x => Value.slice x.1 x.2.1.length x.2.2).toArray)
    (hA : ∀ x ∈ l, Arr w .u8 x.1 x.2.1) : Arrs w (some ⟨g, 0, none⟩) (l.map (·.2.1)) := fun _ =>
  ⟨g, 0, rfl, h.lt, fun i hi => by
    simp only [List.length_map] at hi
    have e : (l.map (·.2.1)).getD i [] = l[i].2.1 := by simp [List.getD, hi]
    rw [e]
    exact ⟨l[i].1, l[i].2.2, by rw [h.cell]; simp [hi], hA _ (List.getElem_mem hi)⟩⟩

theorem Arrs.one {w : World} {g : Nat} {t : TypeId} {A : Option Addr} {xs : List Int} {c : Nat} (h : Holds w g t #[.slice A xs.length c]) (hA : Arr w .u8 A xs) : Arrs w (some ⟨g, 0, none⟩) [xs] :=
  Arrs.of_holds [(A, xs, c)] h (by simpa using hA)
theorem Arrs.two {w : World} {g : Nat} {t : TypeId} {A A2 : Option Addr} {xs ys : List Int} {c c2 : Nat} (h : Holds w g t #[.slice A xs.length c, .slice A2 ys.length c2]) (hA : Arr w .u8 A xs) (hA2 : Arr w .u8 A2 ys) : Arrs w (some ⟨g, 0, none⟩) [xs, ys] :=
  Arrs.of_holds [(A, xs, c), (A2, ys, c2)] h (by simp; exact ⟨hA, hA2⟩)
theorem Arrs.three {w : World} {g : Nat} {t : TypeId} {A A2 A3 : Option Addr} {xs ys zs : List Int} {c c2 c3 : Nat} (h : Holds w g t #[.slice A xs.length c, .slice A2 ys.length c2, .slice A3 zs.length c3]) (hA : Arr w .u8 A xs) (hA2 : Arr w .u8 A2 ys) (hA3 : Arr w .u8 A3 zs) : Arrs w (some ⟨g, 0, none⟩) [xs, ys, zs] :=
  Arrs.of_holds [(A, xs, c), (A2, ys, c2), (A3, zs, c3)] h (by simp; exact ⟨hA, hA2, hA3⟩)

/-- One slice of bytes in a new slice. -/
theorem one_new {w : World} {A : Option Addr} {xs : List Int} {c : Nat} (hA : Arr w .u8 A xs) : Arrs (w.alloc (.cells #[.slice A xs.length c] 26)) (some ⟨w.heap.size, 0, none⟩) [xs] :=
  Arrs.one (Holds.new w 26 _) (hA.grown (grown_alloc (grown_refl _ _) _))

theorem bytes_new (w : World) (xs : List Int) : Arr (w.alloc (.cells (xs.map (Value.int .u8)).toArray 5)) .u8 (some ⟨w.heap.size, 0, none⟩) xs := Arr.of_holds (Holds.new w 5 _)

/-- One part, of bytes that are told outright. -/
theorem lit_new (w : World) (xs : List Int) : Arrs ((w.alloc (.cells (xs.map (Value.int .u8)).toArray 5)).alloc (.cells #[.slice (some ⟨w.heap.size, 0, none⟩) xs.length xs.length] 26)) (some ⟨w.heap.size + 1, 0, none⟩) [xs] := by
  have := one_new (c := xs.length) (bytes_new w xs)
  simpa using this

theorem small_one {x : Int} (h0 : 0 ≤ x) (h1 : x ≤ 255) : Small [[x]] := ⟨by simp, fun i => by
  rcases i with _ | i
  · refine ⟨by simp, fun k => ?_⟩
    rcases k with _ | k <;> simp; omega
  · refine ⟨by simp, fun k => by simp⟩⟩

theorem Holds.new' (w : World) (g : Nat) (t : TypeId) (cs : Array Value) (h : g = w.heap.size) : Holds (w.alloc (.cells cs t)) g t cs := by rw [h]; exact Holds.new w t cs
theorem Holds.kept0 {w w' : World} {g : Nat} {t : TypeId} {cs : Array Value} (hg : w.grownBy w' none) (h : Holds w g t cs) : Holds w' g t cs := h.kept hg (by simp)
theorem hold2 {w : World} {g : Nat} {t : TypeId} {a b : Value} (h : Holds w g t #[a, b]) : w.cell? ⟨g, 0, none⟩ = some a ∧ w.cell? ⟨g, 1, none⟩ = some b := ⟨by simpa using h.cell 0, by simpa using h.cell 1⟩

theorem arrs_lit {W : World} {g b : Nat} {xs : List Int} (h1 : Holds W g 26 #[.slice (some ⟨b, 0, none⟩) xs.length xs.length]) (h2 : Holds W b 5 (xs.map (Value.int .u8)).toArray) : Arrs W (some ⟨g, 0, none⟩) [xs] :=
  Arrs.one h1 (Arr.of_holds h2)

theorem feed5 : fed (1, 0) [[5]].flatten = (6, 6) := by decide
theorem feed7 : fed (1, 0) [[7]].flatten = (8, 8) := by decide
theorem join57 : join (6, 6) (8, 8) 1 = (13, 19) := by decide

end Go.Proofs.Ytdlfphdgjonbdaa
