/- A slice of hits that came in. -/
import Derived.Test.YtmahiodejhakpaaK6
import Derived.Test.YtmahiodejhakpaaK19
import Derived.Deep.SlicePairs
set_option linter.unusedSimpArgs false
set_option linter.unusedVariables false
namespace Go.Proofs.Ytmahiodejhakpaa
open Go.RowKit Go.Deep PlainOcc

/-- What a slice of hits that came in reads as. -/
def IsHits (w : World) (a : Option Addr) (len cap : Nat) (l : List Hit) : Prop :=
  l.length = len ∧ len ≤ cap ∧ cap ≤ maxLen ∧ (∀ h ∈ l, (Lit.int .i64 h.1).wf = true ∧ (Lit.int .i64 h.2).wf = true) ∧ Hits w a l

theorem isHits_nil {w : World} : IsHits w none 0 0 [] := ⟨rfl, Nat.le_refl _, Nat.zero_le _, fun h hh => by simp at hh, Hits.nil _ _⟩

theorem isHits_open {H : Type} {enc : TypeId × Value → H} {P : Program} {w : World} {base : Nat} {held : Bool} {t e : TypeId} {f0 f1 : Field} {fuel : Nat} {cs : List Value} {x : DataW H × List MemPlace}
    (ht : P.underlying t = some (.slice e)) (he : P.underlying e = some (.struct #[f0, f1])) (ce : P.cellsOf e = 2) (o0 : f0.offset = 0) (o1 : f1.offset = 1) (c0 : P.cellsOf f0.type = 1) (c1 : P.cellsOf f1.type = 1)
    (i0 : P.underlying f0.type = some (.int .i64)) (i1 : P.underlying f1.type = some (.int .i64))
    (h : DataW.trod enc P w base (fun _ => true) held fuel t cs = some x) :
    ∃ (a : Option Addr) (len cap : Nat) (l : List Hit), cs = [.slice a len cap] ∧ IsHits w a len cap l := by
  rcases open_slice_pairs ht he ce o0 o1 c0 c1 h with ⟨rfl, _⟩ | ⟨a, len, cap, m, n, V0, V1, D0, D1, P0, P1, rfl, _, hl, hm, hmm, _, hx⟩
  · exact ⟨none, 0, 0, [], rfl, isHits_nil⟩
  simp only [if_true] at hmm
  subst hmm
  have each : ∀ i, i < m → ∃ q : Int × Int, w.cell? (a.add (i * 2)) = some (.int .i64 q.1) ∧ w.cell? (a.add (i * 2 + 1)) = some (.int .i64 q.2) ∧ (Lit.int .i64 q.1).wf = true ∧ (Lit.int .i64 q.2).wf = true := by
    intro i hi
    obtain ⟨g0, g1, g2, g3⟩ := hx i hi
    obtain ⟨u, hu, _, wu⟩ := DataW.trod_int i0 g2
    obtain ⟨v, hv, _, wv⟩ := DataW.trod_int i1 g3
    simp at hu hv
    rw [hu] at g0
    rw [hv] at g1
    exact ⟨(u, v), g0, g1, wu, wv⟩
  obtain ⟨q, hq⟩ := choose_lt each
  have hget : ∀ i, i < len → ((List.range len).map q).getD i (0, 0) = q i := fun i hi => by simp [List.getD, hi]
  refine ⟨some a, len, m, (List.range len).map q, rfl, by simp, hl, hm, fun h hh => ?_, fun hne => ?_⟩
  · simp only [List.mem_map, List.mem_range] at hh
    obtain ⟨i, hi, rfl⟩ := hh
    exact (hq i (by omega)).2.2
  · have h0 : 0 < len := by
      rcases Nat.eq_zero_or_pos len with h | h
      · subst h; simp at hne
      · exact h
    obtain ⟨b, off, rfl, hadd, hb⟩ := addr_plain (w := w) (x := a) (v := .int .i64 (q 0).1) (by simpa using (hq 0 (by omega)).1)
    refine ⟨b, off, rfl, hb, fun i hi => ?_⟩
    have hi' : i < len := by simpa using hi
    rw [hget i hi']
    obtain ⟨h1, h2, _⟩ := hq i (by omega)
    rw [hadd] at h1 h2
    exact ⟨h1, h2⟩

end Go.Proofs.Ytmahiodejhakpaa
