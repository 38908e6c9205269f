/- Hits: two lists in a row, what Occ tells, how many there are. -/
import Derived.Test.YtmahiodejhakpaaOWakes
set_option linter.unusedVariables false
set_option linter.unusedSimpArgs false
namespace Go.Proofs.Ytmahiodejhakpaa
open Go.RowKit PlainLetter PlainPatset PlainOcc

theorem hitRows_two (w : World) (P1 P2 : Option Addr) (d1 d2 : Nat) (l m : List Hit) (h1 : Hits w P1 l) (h2 : Hits w P2 m) :
    HitRows (w.alloc (.cells #[.slice P1 l.length d1, .slice P2 m.length d2] 28)) (some ⟨w.heap.size, 0, none⟩) [l, m] := fun _ => by
  have H : Holds (w.alloc (.cells #[.slice P1 l.length d1, .slice P2 m.length d2] 28)) w.heap.size 28 #[.slice P1 l.length d1, .slice P2 m.length d2] := Holds.new _ _ _
  have hg := grown_alloc (grown_refl w none) (.cells #[.slice P1 l.length d1, .slice P2 m.length d2] 28)
  refine ⟨w.heap.size, 0, rfl, H.lt, fun i hi => ?_⟩
  have hi' : i < 2 := hi
  rcases i with _ | _ | i
  · exact ⟨P1, d1, by rw [H.cell]; rfl, h1.grown hg⟩
  · exact ⟨P2, d2, by rw [H.cell]; rfl, h2.grown hg⟩
  · omega

theorem occ_fewer (f : Bool) (ws : List (List Int)) (text : List Int) (fr : Int) (h1 : ws.length ≤ 80) (h2 : text.length ≤ 300) : (occ f ws text fr).length ≤ 24080 := by
  have h : (occ f ws text fr).length ≤ (text.length + 1) * ws.length := occTo_le f ws text fr _
  have h3 : (text.length + 1) * ws.length ≤ 301 * 80 := Nat.mul_le_mul (by omega) h1
  omega

theorem sumTo_le (g : Nat → Nat) (b : Nat) (h : ∀ k, g k ≤ b) : ∀ n, sumTo g n ≤ n * b
  | 0 => by simp [sumTo]
  | n + 1 => by
    have := sumTo_le g b h n
    have := h n
    rw [Nat.succ_mul]
    unfold sumTo
    omega
theorem longest_all : ∀ xss : List (List Int), longest xss ≤ xss.flatten.length
  | [] => by simp [longest]
  | x :: l => by
    have := longest_all l
    rw [List.flatten_cons, List.length_append]
    unfold longest at *
    rw [List.foldr_cons]
    omega
theorem bytes_part1 {t : List Int} (h : Bytes t) (n : Nat) : Bytes (t.take n) := fun k => by
  by_cases hk : k < n
  · have := h k
    simpa [List.getD, List.getElem?_take, hk] using this
  · simp [List.getD, List.getElem?_take, hk]
theorem bytes_part2 {t : List Int} (h : Bytes t) (n : Nat) : Bytes (t.drop n) := fun k => by
  have := h (n + k)
  simpa [List.getD, List.getElem?_drop] using this

/-- A tuple of hits of the call's own, and no error. -/
def isTold (l : List Hit) : Fact := fun v w => ∃ A c, v = .tuple #[.slice A l.length c, .int .i64 0] ∧ Hits w A l
theorem stable_isTold (l : List Hit) : Stable (isTold l) := fun _ _ _ ⟨A, c, h1, h2⟩ hg => ⟨A, c, h1, h2.grown hg⟩

theorem OccTold.hits {base : Nat} {f : Bool} {xss : List (List Int)} {text : List Int} {fr : Int} {v : Value} {w : World} (h : OccTold base f xss text fr v w) (hr : right f xss = true) (h0 : 0 ≤ fr) (h1 : fr ≤ 4611686018427387904) :
    ∃ A c, v = .tuple #[.slice A (occ f xss text fr).length c, .int .i64 0] ∧ Hits w A (occ f xss text fr) ∧ (occ f xss text fr).length ≤ c ∧ c ≤ maxLen := by
  unfold OccTold at h
  rw [if_pos ⟨hr, h0, h1⟩] at h
  obtain ⟨u, rfl, hu⟩ := h
  obtain ⟨A, c, rfl, h2, h3, h4⟩ := hu.form
  exact ⟨A, c, rfl, h2, h3, h4⟩

end Go.Proofs.Ytmahiodejhakpaa
