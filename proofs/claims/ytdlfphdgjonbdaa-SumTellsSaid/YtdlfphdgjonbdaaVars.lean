/- What operations of a drawn region leave: new bytes, new rows of slices, new variables of a sum; a store into a new variable. -/
import Derived.Test.YtdlfphdgjonbdaaParts
import Derived.Test.YtdlfphdgjonbdaaOrder
set_option linter.unusedVariables false
namespace Go.Proofs.Ytdlfphdgjonbdaa
open Go.RowKit PlainSum

/-- New bytes. -/
def isBytes (zs : List Int) : Fact := fun v w => ∃ g, v = .slice (some ⟨g, 0, none⟩) zs.length zs.length ∧ Holds w g 5 (zs.map (Value.int .u8)).toArray
/-- A new row of one slice of new bytes. -/
def isRow1 (zs : List Int) : Fact := fun v w => ∃ g g1, v = .slice (some ⟨g, 0, none⟩) 1 1 ∧ Holds w g 26 #[.slice (some ⟨g1, 0, none⟩) zs.length zs.length] ∧ Holds w g1 5 (zs.map (Value.int .u8)).toArray
/-- A new row of these slices. -/
def isRowOf (n : Nat) (xs : Array Value) : Fact := fun v w => ∃ g, v = .slice (some ⟨g, 0, none⟩) n n ∧ Holds w g 26 xs
/-- A new variable of two numbers. -/
def isVar (b : Nat) : Fact := fun v w => ∃ g x y, v = .pointer (some ⟨g, 0, none⟩) ∧ b ≤ g ∧ Holds w g 23 #[.int .i64 x, .int .i64 y]
/-- A new variable that holds these. -/
def isVarOf (b : Nat) (x y : Int) : Fact := fun v w => ∃ g, v = .pointer (some ⟨g, 0, none⟩) ∧ b ≤ g ∧ Holds w g 23 #[.int .i64 x, .int .i64 y]

theorem stable_isBytes (zs : List Int) : Stable (isBytes zs) := fun _ _ _ ⟨g, h1, h2⟩ hg => ⟨g, h1, h2.kept0 hg⟩
theorem stable_isRow1 (zs : List Int) : Stable (isRow1 zs) := fun _ _ _ ⟨g, g1, h1, h2, h3⟩ hg => ⟨g, g1, h1, h2.kept0 hg, h3.kept0 hg⟩
theorem stable_isRowOf (n : Nat) (xs : Array Value) : Stable (isRowOf n xs) := fun _ _ _ ⟨g, h1, h2⟩ hg => ⟨g, h1, h2.kept0 hg⟩
theorem stable_isVar (b : Nat) : Stable (isVar b) := fun _ _ _ ⟨g, x, y, h1, h2, h3⟩ hg => ⟨g, x, y, h1, h2, h3.kept0 hg⟩
theorem stable_isVarOf (b : Nat) (x y : Int) : Stable (isVarOf b x y) := fun _ _ _ ⟨g, h1, h2, h3⟩ hg => ⟨g, h1, h2, h3.kept0 hg⟩

theorem Holds.other {w : World} {b g : Nat} {t t' : TypeId} {cs cs' : Array Value} (h : Holds w b t cs) (h' : Holds w g t' cs') (ht : t ≠ t') : b ≠ g := by
  rintro rfl
  unfold Holds at h h'
  rw [h] at h'
  injection h' with h'
  injection h' with _ h'
  exact ht h'

/-- It stands where one block of two numbers turns. -/
def StableBut (f : Fact) : Prop := ∀ v w w' g x y x' y', f v w → Holds w g 23 #[.int .i64 x, .int .i64 y] → Holds w' g 23 #[.int .i64 x', .int .i64 y'] → (∀ b t cs, Holds w b t cs → b ≠ g → Holds w' b t cs) → f v w'

theorem sb_isv (c : Value) : StableBut (isv c) := fun _ _ _ _ _ _ _ _ h _ _ _ => h
theorem sb_isBytes (zs : List Int) : StableBut (isBytes zs) := fun _ _ _ _ _ _ _ _ ⟨b, h1, h2⟩ hg _ hf => ⟨b, h1, hf _ _ _ h2 (h2.other hg (by decide))⟩
theorem sb_isRow1 (zs : List Int) : StableBut (isRow1 zs) := fun _ _ _ _ _ _ _ _ ⟨b, b1, h1, h2, h3⟩ hg _ hf => ⟨b, b1, h1, hf _ _ _ h2 (h2.other hg (by decide)), hf _ _ _ h3 (h3.other hg (by decide))⟩
theorem sb_isRowOf (n : Nat) (xs : Array Value) : StableBut (isRowOf n xs) := fun _ _ _ _ _ _ _ _ ⟨b, h1, h2⟩ hg _ hf => ⟨b, h1, hf _ _ _ h2 (h2.other hg (by decide))⟩
theorem sb_isVar (c : Nat) : StableBut (isVar c) := fun _ _ _ g _ _ x' y' ⟨b, p, q, h1, h2, h3⟩ hg hg' hf => by
  by_cases hb : b = g
  · subst hb; exact ⟨b, x', y', h1, h2, hg'⟩
  · exact ⟨b, p, q, h1, h2, hf _ _ _ h3 hb⟩

def AllBut (s : Nat) : Nat → List Fact → Prop
  | _, [] => True
  | k, f :: l => (k ≠ s → StableBut f) ∧ AllBut s (k + 1) l
theorem AllBut.nil {s k : Nat} : AllBut s k [] := trivial
theorem AllBut.cons {s k : Nat} {f : Fact} {l : List Fact} (h : k ≠ s → StableBut f) (h' : AllBut s (k + 1) l) : AllBut s k (f :: l) := ⟨h, h'⟩
theorem AllBut.at_ {s : Nat} : ∀ {l : List Fact} {k : Nat}, AllBut s k l → ∀ i, k + i ≠ s → StableBut (factAt l i)
  | [], _, _, i, _ => by intro v w w' g x y x' y' _ _ _ _; simp [factAt]
  | f :: l, k, h, 0, hi => by simpa [factAt] using h.1 (by simpa using hi)
  | f :: l, k, h, i + 1, hi => by have := AllBut.at_ h.2 i (by omega); simpa [factAt] using this

theorem outThen_of {a : Act} {G : Prop} (h : G) : ∀ xs : List (Tmp × Value), outThen a xs G
  | [] => h
  | (t, v) :: xs => fun _ => outThen_of h xs

/-- A store of a sum into a new variable. -/
theorem ob_store {Q : Exit → Act → World → Prop} {ds ss : List (Option Tmp)} {fs : List Fact} {outs : List (Tmp × Value)} {w0 : World} {s i q : Nat} {p r : Tmp} {ty : TypeId} {pos : String} {after : Array Edge} {b : Nat} {x y : Int}
    (hp : (ss[i]?).getD none = some p) (hr : (ss[q]?).getD none = some r) (hi : factAt fs i = isVar b) (hq : factAt fs q = isv (.agg #[.int .i64 x, .int .i64 y])) (hs : factAt fs s = isVarOf b x y) (hb : w0.heap.size ≤ b) (hall : AllBut s 0 fs) :
    ObAny Try.prog Q ds ss fs outs w0 s [i, q] { dst := none, op := .store 23 (.tmp p) (.tmp r), type := ty, pos := pos, after := after, guard := none } := by
  intro a w' hgw
  refine outThen_of ?_ _
  simp only [preThen, hp, hr, hi, hq, hs, slotIs, subj, isv]
  intro v1 h1 hv1 v2 h2 hv2 K hK
  replace hK := hid hK
  subst h2
  obtain ⟨g1, p0, q0, rfl, hbg, hh⟩ := h1
  obtain ⟨d0, d1⟩ := hold2 hh
  have f0 := hh.free 0
  have f1 := hh.free 1
  have hl1 := hh.lt
  have Hh := hid hh
  have hb' := hid (show w0.heap.size ≤ g1 by omega)
  replace hall := hid hall
  replace hgw := hid hgw
  clear hh hp hr hi hq hs
  simp only [wantedAt]
  go_simp
  have hset : Holds ((w'.setCell ⟨g1, 0, none⟩ (.int .i64 x)).setCell ⟨g1, 1, none⟩ (.int .i64 y)) g1 23 #[.int .i64 x, .int .i64 y] := by
    have := (Hh.out.set 0 (.int .i64 x)).set 1 (.int .i64 y)
    simpa using this
  refine hK.out undef _ _ hv1 ⟨g1, rfl, hbg, hset⟩ (grown_set (grown_set hgw.out (.inr hb'.out) _) (.inr hb'.out) _) ?_
  intro j v hj hF
  exact hall.out.at_ j (by omega) v w' _ g1 _ _ _ _ hF Hh.out hset (fun b t cs h hne => (h.far hne _).far hne _)

end Go.Proofs.Ytdlfphdgjonbdaa
