/- Slices of bytes and of slices of bytes, in memory and as facts of a drawn region's operations. A slice of integers that came in, in my own words for memory. A slice of slices of integers that came in. Strings of bytes are the same where the bytes are. Bytes of a constant text, and new rows, at a known place of memory. The document's own answer: texts that are too great. Appending one integer to a slice that has no room; of no program. Slices of bytes of the call's own, in a slice of the call's own: one more. -/
import Derived.Test.YtmahiodejhakpaaProg
import Derived.Test.YtmahiodejhakpaaOrder
import Derived.Laws.BytesArg
import Derived.Test.YtmahiodejhakpaaK4
import Derived.OpenShut
import Derived.Deep.Matrix
import Derived.WideShapes
import Derived.Lib.SlBytesConst
import Derived.ArgAppend
set_option linter.unusedSimpArgs false
set_option linter.unusedVariables false
namespace Go.Proofs.Ytmahiodejhakpaa
open Go.RowKit

/-- A slice of slices of bytes reads as these lists. -/
def Arrs (w : World) (A : Option Addr) (xss : List (List Int)) : Prop :=
  xss ≠ [] → ∃ b off, A = some ⟨b, off, none⟩ ∧ b < w.heap.size ∧ ∀ i, i < xss.length → ∃ Ai ci, w.cell? ⟨b, off + i, none⟩ = some (.slice Ai (xss.getD i []).length ci) ∧ Arr w .u8 Ai (xss.getD i [])

theorem Arrs.nil (w : World) (A : Option Addr) : Arrs w A [] := fun h => absurd rfl h
theorem Arrs.at_ {w : World} {A : Option Addr} {xss : List (List Int)} (h : Arrs w A xss) {i : Nat} (hi : i < xss.length) :
    ∃ b off Ai ci, A = some ⟨b, off, none⟩ ∧ b < w.heap.size ∧ w.cell? ⟨b, off + i, none⟩ = some (.slice Ai (xss.getD i []).length ci) ∧ Arr w .u8 Ai (xss.getD i []) := by
  obtain ⟨b, off, rfl, hb, hc⟩ := h (by intro e; subst e; simp at hi)
  obtain ⟨Ai, ci, h1, h2⟩ := hc i hi
  exact ⟨b, off, Ai, ci, rfl, hb, h1, h2⟩
theorem Arrs.grown {w w' : World} {A : Option Addr} {xss : List (List Int)} (h : Arrs w A xss) (hg : w.grownBy w' none) : Arrs w' A xss := fun hz => by
  obtain ⟨b, off, rfl, hb, hc⟩ := h hz
  exact ⟨b, off, rfl, Nat.lt_of_lt_of_le hb hg.size, fun i hi => by
    obtain ⟨Ai, ci, h1, h2⟩ := hc i hi
    exact ⟨Ai, ci, ((gcell hg).1 b _ hb).trans h1, h2.grown hg⟩⟩

/-- All are bytes. -/
def Bytes (xs : List Int) : Prop := ∀ k, 0 ≤ xs.getD k 0 ∧ xs.getD k 0 ≤ 255
def Small (xss : List (List Int)) : Prop := xss.length ≤ 100000 ∧ ∀ i, (xss.getD i []).length ≤ 100000 ∧ Bytes (xss.getD i [])

theorem take_getD {α : Type} (l : List α) (k : Nat) (d : α) (h : k < l.length) : l.take (k + 1) = l.take k ++ [l.getD k d] := by
  rw [List.take_add_one]; simp [List.getD, h]

theorem getD_take (xs : List Int) (n i : Nat) : (xs.take n).getD i 0 = if i < n then xs.getD i 0 else 0 := by
  simp only [List.getD, List.getElem?_take]
  split <;> rfl
theorem getD_drop (xs : List Int) (n i : Nat) : (xs.drop n).getD i 0 = xs.getD (n + i) 0 := by simp [List.getD]
theorem Bytes.take {xs : List Int} (h : Bytes xs) (n : Nat) : Bytes (xs.take n) := fun i => by
  rw [getD_take]
  split
  · exact h i
  · decide
theorem Bytes.drop {xs : List Int} (h : Bytes xs) (n : Nat) : Bytes (xs.drop n) := fun i => by rw [getD_drop]; exact h _

theorem small_of {bs : List Int} (h : bs.length ≤ 3000) (hb : Bytes bs) : Small [bs] := ⟨by simp, fun i => by
  rcases i with _ | i
  · exact ⟨by simp; omega, hb⟩
  · exact ⟨by simp, fun k => by simp⟩⟩

theorem small_nil : Small [] := ⟨by simp, fun i => ⟨by simp, fun k => by simp⟩⟩
theorem small_two {x y : Int} (h0 : 0 ≤ x) (h1 : x ≤ 255) (h2 : 0 ≤ y) (h3 : y ≤ 255) : Small [[x], [y]] := ⟨by simp, fun i => by
  rcases i with _ | _ | i
  · refine ⟨by simp, fun k => ?_⟩
    rcases k with _ | k <;> simp; omega
  · refine ⟨by simp, fun k => ?_⟩
    rcases k with _ | k <;> simp; omega
  · refine ⟨by simp, fun k => by simp⟩⟩

theorem Arrs.of_holds {w : World} {g : Nat} {t : TypeId} (l : List (Option Addr × List Int × Nat)) (h : Holds w g t (l.map fun x => Value.slice x.1 x.2.1.length x.2.2).toArray)
    (hA : ∀ x ∈ l, Arr w .u8 x.1 x.2.1) : Arrs w (some ⟨g, 0, none⟩) (l.map (·.2.1)) := fun _ =>
  ⟨g, 0, rfl, h.lt, fun i hi => by
    simp only [List.length_map] at hi
    have e : (l.map (·.2.1)).getD i [] = l[i].2.1 := by simp [List.getD, hi]
    rw [e]
    exact ⟨l[i].1, l[i].2.2, by rw [h.cell]; simp [hi], hA _ (List.getElem_mem hi)⟩⟩

theorem Arrs.one {w : World} {g : Nat} {t : TypeId} {A : Option Addr} {xs : List Int} {c : Nat} (h : Holds w g t #[.slice A xs.length c]) (hA : Arr w .u8 A xs) : Arrs w (some ⟨g, 0, none⟩) [xs] :=
  Arrs.of_holds [(A, xs, c)] h (by simpa using hA)
theorem Arrs.two {w : World} {g : Nat} {t : TypeId} {A A2 : Option Addr} {xs ys : List Int} {c c2 : Nat} (h : Holds w g t #[.slice A xs.length c, .slice A2 ys.length c2]) (hA : Arr w .u8 A xs) (hA2 : Arr w .u8 A2 ys) : Arrs w (some ⟨g, 0, none⟩) [xs, ys] :=
  Arrs.of_holds [(A, xs, c), (A2, ys, c2)] h (by simp; exact ⟨hA, hA2⟩)
theorem Arrs.three {w : World} {g : Nat} {t : TypeId} {A A2 A3 : Option Addr} {xs ys zs : List Int} {c c2 c3 : Nat} (h : Holds w g t #[.slice A xs.length c, .slice A2 ys.length c2, .slice A3 zs.length c3]) (hA : Arr w .u8 A xs) (hA2 : Arr w .u8 A2 ys) (hA3 : Arr w .u8 A3 zs) : Arrs w (some ⟨g, 0, none⟩) [xs, ys, zs] :=
  Arrs.of_holds [(A, xs, c), (A2, ys, c2), (A3, zs, c3)] h (by simp; exact ⟨hA, hA2, hA3⟩)

/-- One slice of bytes in a new slice. -/
theorem one_new {w : World} {A : Option Addr} {xs : List Int} {c : Nat} (hA : Arr w .u8 A xs) : Arrs (w.alloc (.cells #[.slice A xs.length c] 25)) (some ⟨w.heap.size, 0, none⟩) [xs] :=
  Arrs.one (Holds.new w 25 _) (hA.grown (grown_alloc (grown_refl _ _) _))

theorem bytes_new (w : World) (xs : List Int) : Arr (w.alloc (.cells (xs.map (Value.int .u8)).toArray 5)) .u8 (some ⟨w.heap.size, 0, none⟩) xs := Arr.of_holds (Holds.new w 5 _)

/-- One part, of bytes that are told outright. -/
theorem lit_new (w : World) (xs : List Int) : Arrs ((w.alloc (.cells (xs.map (Value.int .u8)).toArray 5)).alloc (.cells #[.slice (some ⟨w.heap.size, 0, none⟩) xs.length xs.length] 25)) (some ⟨w.heap.size + 1, 0, none⟩) [xs] := by
  have := one_new (c := xs.length) (bytes_new w xs)
  simpa using this

theorem small_one {x : Int} (h0 : 0 ≤ x) (h1 : x ≤ 255) : Small [[x]] := ⟨by simp, fun i => by
  rcases i with _ | i
  · refine ⟨by simp, fun k => ?_⟩
    rcases k with _ | k <;> simp; omega
  · refine ⟨by simp, fun k => by simp⟩⟩

theorem arrs_lit {W : World} {g b : Nat} {xs : List Int} (h1 : Holds W g 25 #[.slice (some ⟨b, 0, none⟩) xs.length xs.length]) (h2 : Holds W b 5 (xs.map (Value.int .u8)).toArray) : Arrs W (some ⟨g, 0, none⟩) [xs] :=
  Arrs.one h1 (Arr.of_holds h2)

theorem Try.info5 : (Try.prog.info? 5).map (fun i => (i.zero, i.size, i.bytes)) = some (some (.int .u8 0), 1, 1) := by kernel_rfl

/-- A slice of bytes, as a string. -/
theorem conv_arr (w : World) (A : Option Addr) (c : Nat) (zs : List Int) (h : Arr w .u8 A zs) : (convert 25 9 (.slice A zs.length c)).run Try.prog w = .ok (.string (strOfNums zs)) w := by
  by_cases hz : zs = []
  · subst hz
    cases A with
    | none => exact run_convert_bytes_nil w 25 5 Try.underlying25 Try.underlying5 _ _ 9 Try.underlying9
    | some a =>
      rw [run_convert_bytes_string w 25 9 5 (some a) _ c Try.underlying25 Try.underlying5 Try.underlying9]
      have : (loadCells a 0).run Try.prog w = .ok (([] : List Int).map (Value.int .u8)).toArray w := by
        have := run_loadCells_list (P := Try.prog) w a [] (fun j v hj => by simp at hj)
        simpa using this
      rw [List.length_nil, run_bytesToString w a 0 c [] this]
      rfl
  · obtain ⟨b, off, rfl, _, hc⟩ := h hz
    exact run_convert_bytes_arg w 25 5 Try.underlying25 Try.underlying5 b off zs.length c zs rfl hc 9 Try.underlying9

/-- What the call owns lies whole in a block of its own. -/
theorem own_holds {w : World} {base n : Nat} {v : Value} {zs : List Int} (h : w.ownsRow base 5 1 v n (zs.map (Value.int .u8))) (hn : 0 < n) :
    ∃ g cap cur, v = .slice (some ⟨g, 0, none⟩) n cap ∧ base ≤ g ∧ n ≤ cap ∧ cap ≤ maxLen ∧ Holds w g 5 cur ∧ zs.length = n ∧ ∀ i, i < n → cur[i]? = some (.int .u8 (zs.getD i 0)) := by
  obtain ⟨hl, h⟩ := h
  have hnl : zs.length = n := by simpa using hl
  rcases h with ⟨hv, rfl⟩ | ⟨g, cap, cur, hv, hb, hg, hnc, hm, hs, ht⟩
  · omega
  · refine ⟨g, cap, cur, hv, hb, hnc, hm, hg, hnl, fun i hi => ?_⟩
    have : (cur.toList.take (n * 1))[i]? = some (Value.int .u8 (zs.getD i 0)) := by rw [ht]; simp [List.getD, hnl, hi]
    rw [List.getElem?_take] at this
    split at this
    · simpa using this
    · cases this

theorem xor_u8 (a b : Int) (ha : 0 ≤ a ∧ a ≤ 255) (hb : 0 ≤ b ∧ b ≤ 255) (h : b ≠ 0) : 0 ≤ bits BinOp.xor .u8 a b ∧ bits BinOp.xor .u8 a b ≤ 255 ∧ bits BinOp.xor .u8 a b ≠ a := by
  obtain ⟨m, rfl⟩ := Int.eq_ofNat_of_zero_le ha.1
  obtain ⟨n, rfl⟩ := Int.eq_ofNat_of_zero_le hb.1
  have hab : m ^^^ n < 256 := Nat.xor_lt_two_pow (n := 8) (by omega) (by omega)
  have e : bits BinOp.xor .u8 (m : Int) (n : Int) = ((m ^^^ n : Nat) : Int) := by
    unfold bits
    have ea : BitVec.ofInt IntKind.u8.bits (m : Int) = BitVec.ofNat 8 m := BitVec.ofInt_natCast 8 m
    have eb : BitVec.ofInt IntKind.u8.bits (n : Int) = BitVec.ofNat 8 n := BitVec.ofInt_natCast 8 n
    simp only [ea, eb]
    show IntKind.u8.wrap (((BitVec.ofNat 8 m ^^^ BitVec.ofNat 8 n).toNat : Nat) : Int) = _
    rw [BitVec.toNat_xor, BitVec.toNat_ofNat, BitVec.toNat_ofNat, Nat.mod_eq_of_lt (by omega), Nat.mod_eq_of_lt (by omega)]
    simp [IntKind.wrap, IntKind.bits, IntKind.signed]
    omega
  rw [e]
  refine ⟨by omega, by omega, fun hh => ?_⟩
  have hh' : m ^^^ n = m := by omega
  have : m ^^^ (m ^^^ n) = 0 := by rw [hh', Nat.xor_self]
  rw [← Nat.xor_assoc, Nat.xor_self, Nat.zero_xor] at this
  exact h (by omega)

/-- New bytes. -/
def isBytes (zs : List Int) : Fact := fun v w => ∃ g, v = .slice (some ⟨g, 0, none⟩) zs.length zs.length ∧ Holds w g 5 (zs.map (Value.int .u8)).toArray
/-- A new row of one slice of new bytes. -/
def isRow1 (zs : List Int) : Fact := fun v w => ∃ g g1, v = .slice (some ⟨g, 0, none⟩) 1 1 ∧ Holds w g 25 #[.slice (some ⟨g1, 0, none⟩) zs.length zs.length] ∧ Holds w g1 5 (zs.map (Value.int .u8)).toArray
/-- A new row of these slices. -/
def isRowOf (n : Nat) (xs : Array Value) : Fact := fun v w => ∃ g, v = .slice (some ⟨g, 0, none⟩) n n ∧ Holds w g 25 xs
/-- A slice that reads as these bytes. -/
def isArrOf (zs : List Int) : Fact := fun v w => ∃ A c, v = .slice A zs.length c ∧ Arr w .u8 A zs
theorem stable_isArrOf (zs : List Int) : Stable (isArrOf zs) := fun _ _ _ ⟨A, c, h1, h2⟩ hg => ⟨A, c, h1, h2.grown hg⟩

theorem stable_isBytes (zs : List Int) : Stable (isBytes zs) := fun _ _ _ ⟨g, h1, h2⟩ hg => ⟨g, h1, h2.kept0 hg⟩
theorem stable_isRow1 (zs : List Int) : Stable (isRow1 zs) := fun _ _ _ ⟨g, g1, h1, h2, h3⟩ hg => ⟨g, g1, h1, h2.kept0 hg, h3.kept0 hg⟩
theorem stable_isRowOf (n : Nat) (xs : Array Value) : Stable (isRowOf n xs) := fun _ _ _ ⟨g, h1, h2⟩ hg => ⟨g, h1, h2.kept0 hg⟩

theorem outThen_of {a : Act} {G : Prop} (h : G) : ∀ xs : List (Tmp × Value), outThen a xs G
  | [] => h
  | (t, v) :: xs => fun _ => outThen_of h xs

/-- Bytes of the call's own are told. -/
def Owns (zs : List Int) (w : World) : Ending → World → Prop := fun e w' =>
  ∃ v, e = .returned v ∧ w'.ownsRow w.heap.size 5 1 v zs.length (zs.map (Value.int .u8)) ∧ Below w.heap.size w w'

theorem Owns.arr {zs : List Int} {w : World} {e : Ending} {w' : World} (h : Owns zs w e w') : ∃ A c, e = .returned (.slice A zs.length c) ∧ zs.length ≤ c ∧ c ≤ maxLen ∧ Arr w' .u8 A zs ∧ w.grownBy w' none := by
  obtain ⟨v, rfl, h1, h2⟩ := h
  obtain ⟨A, c, rfl, hc, hm⟩ := own_form h1
  exact ⟨A, c, rfl, hc, hm, Arr.of_own (k := .u8) h1, below_grown h2⟩

end Go.Proofs.Ytmahiodejhakpaa

namespace Go.Proofs.Ytmahiodejhakpaa
open Go.RowKit

/-- What a slice that came in is: nil; or a row of cap cells, the first len of them its elements, each fitting its kind. -/
def IsRow (k : IntKind) (w : World) (a : Option Addr) (len cap : Nat) (zs : List Int) : Prop :=
  (a = none ∧ len = 0 ∧ cap = 0 ∧ zs = []) ∨
  ∃ x, a = some x ∧ len ≤ cap ∧ cap ≤ maxLen ∧ zs.length = cap ∧ (∀ i, i < zs.length → w.cell? (x.add i) = some (.int k (zs.getD i 0))) ∧ ∀ n ∈ zs, (Lit.int k n).wf = true

theorem isRow_arr {k : IntKind} {w : World} {a : Option Addr} {len cap : Nat} {z : List Int} (h : IsRow k w a len cap z) :
    ∃ zs : List Int, zs.length = len ∧ Arr w k a zs ∧ len ≤ cap ∧ cap ≤ maxLen ∧ ∀ n ∈ zs, (Lit.int k n).wf = true := by
  rcases h with ⟨rfl, rfl, rfl, rfl⟩ | ⟨x, rfl, hl, hm, hz, hc, hw⟩
  · exact ⟨[], rfl, Arr.nil _, Nat.le_refl _, by simp, by simp⟩
  · refine ⟨z.take len, by simp; omega, ?_, hl, hm, fun n hn => hw n (List.mem_of_mem_take hn)⟩
    refine Arr.take (fun hne => ?_) len
    have h0 : 0 < z.length := List.length_pos_iff.2 hne
    obtain ⟨b, off, spot⟩ := x
    have hc0 := hc 0 h0
    have hs : spot = none := by simpa [Addr.add] using World.cell?_spot hc0
    subst hs
    have hadd : ∀ i, (⟨b, off, none⟩ : Addr).add i = ⟨b, off + i, none⟩ := fun i => by unfold Addr.add; split <;> simp_all
    refine ⟨b, off, rfl, World.block_lt_of_cell? w ⟨b, off, none⟩ (by rw [← hc0, hadd]; rfl), fun i hi => ?_⟩
    rw [← hadd]; exact hc i hi

theorem getD_of_wf {bs : List Int} (h : ∀ n ∈ bs, (Lit.int .u8 n).wf = true) (k : Nat) : 0 ≤ bs.getD k 0 ∧ bs.getD k 0 ≤ 255 := by
  by_cases hk : k < bs.length
  · have := bounds_u8 (h (bs.getD k 0) (by simp [List.getD, hk]))
    exact this
  · simp [List.getD, List.getElem?_eq_none (Nat.le_of_not_lt hk)]

end Go.Proofs.Ytmahiodejhakpaa

namespace Go.Proofs.Ytmahiodejhakpaa
open Go.RowKit

theorem addr_plain {w : World} {x : Addr} {v : Value} (h : w.cell? (x.add 0) = some v) : ∃ b off, x = ⟨b, off, none⟩ ∧ (∀ j, x.add j = ⟨b, off + j, none⟩) ∧ b < w.heap.size := by
  obtain ⟨b, off, spot⟩ := x
  have hs : spot = none := by simpa [Addr.add] using World.cell?_spot h
  subst hs
  have hadd : ∀ j, (⟨b, off, none⟩ : Addr).add j = ⟨b, off + j, none⟩ := fun j => by unfold Addr.add; split <;> simp_all
  rw [hadd] at h
  exact ⟨b, off, rfl, hadd, World.block_lt_of_cell? w ⟨b, off + 0, none⟩ (by rw [h])⟩

/-- What a slice of slices that came in reads as. -/
def IsRows (k : IntKind) (w : World) (a : Option Addr) (len cap : Nat) (zss : List (List Int)) : Prop :=
  zss.length = len ∧ len ≤ cap ∧ cap ≤ maxLen ∧ (∀ i, ∀ n ∈ zss.getD i [], (Lit.int k n).wf = true) ∧
    (zss ≠ [] → ∃ b off, a = some ⟨b, off, none⟩ ∧ b < w.heap.size ∧ ∀ i, i < zss.length → ∃ Ai ci, w.cell? ⟨b, off + i, none⟩ = some (.slice Ai (zss.getD i []).length ci) ∧ (zss.getD i []).length ≤ ci ∧ ci ≤ maxLen ∧ Arr w k Ai (zss.getD i []))

theorem isRows_nil {k : IntKind} {w : World} : IsRows k w none 0 0 [] := ⟨rfl, Nat.le_refl _, Nat.zero_le _, fun i n hn => by simp at hn, fun h => absurd rfl h⟩

theorem isRows_of {k : IntKind} {w : World} {x : Addr} {len cap base : Nat} {A : Nat → Option Addr} {L C : Nat → Nat} {Z : Nat → List Int} (hl : len ≤ cap) (hm : cap ≤ maxLen)
    (hrow : ∀ r, r < cap → w.cell? (x.add r) = some (.slice (A r) (L r) (C r)) ∧ L r ≤ C r ∧ C r ≤ maxLen ∧ (Z r).length = C r ∧ (∀ n ∈ Z r, (Lit.int k n).wf = true) ∧ (A r = none → C r = 0) ∧
      ∀ a', A r = some a' → base ≤ a'.block ∧ ∀ c, c < C r → w.cell? (a'.add c) = some (.int k ((Z r).getD c 0))) :
    IsRows k w (some x) len cap ((List.range len).map fun r => (Z r).take (L r)) := by
  have hget : ∀ i, i < len → ((List.range len).map fun r => (Z r).take (L r)).getD i [] = (Z i).take (L i) := fun i hi => by simp [List.getD, hi]
  refine ⟨by simp, hl, hm, fun i n hn => ?_, fun hne => ?_⟩
  · by_cases hi : i < len
    · rw [hget i hi] at hn
      exact (hrow i (by omega)).2.2.2.2.1 n (List.mem_of_mem_take hn)
    · simp [List.getD, List.getElem?_eq_none (show ((List.range len).map fun r => (Z r).take (L r)).length ≤ i by simp; omega)] at hn
  · have h0 : 0 < len := by
      rcases Nat.eq_zero_or_pos len with h | h
      · subst h; simp at hne
      · exact h
    obtain ⟨b, off, rfl, hadd, hb⟩ := addr_plain (hrow 0 (by omega)).1
    refine ⟨b, off, rfl, hb, fun i hi => ?_⟩
    have hi' : i < len := by simpa using hi
    rw [hget i hi']
    obtain ⟨h1, h2, h3, h4, _, h6, h7⟩ := hrow i (by omega)
    have hlen : ((Z i).take (L i)).length = L i := by simp; omega
    rw [hlen]
    refine ⟨A i, C i, by rw [← hadd]; exact h1, h2, h3, Arr.take (fun hz => ?_) _⟩
    have hc0 : 0 < C i := by rw [← h4]; exact List.length_pos_iff.2 hz
    cases hA : A i with
    | none => have := h6 hA; omega
    | some a' =>
      obtain ⟨_, hcell⟩ := h7 a' hA
      obtain ⟨b2, off2, rfl, hadd2, hb2⟩ := addr_plain (hcell 0 hc0)
      exact ⟨b2, off2, rfl, hb2, fun j hj => by rw [← hadd2]; exact hcell j (by omega)⟩

end Go.Proofs.Ytmahiodejhakpaa

namespace Go.Proofs.Ytmahiodejhakpaa
open Go.RowKit

theorem str_eq (a b : List Int) (ha : Bytes a) (hb : Bytes b) : ((strOfNums a).toList == (strOfNums b).toList) = decide (a = b) := by
  rw [Bool.eq_iff_iff, ByteArray.toList_eq, ByteArray.toList_eq, beq_iff_eq, decide_eq_true_iff]
  constructor
  · intro h1
    rw [strOfNums_data, strOfNums_data] at h1
    have hl : a.length = b.length := by have := congrArg List.length h1; simpa using this
    refine List.ext_getElem hl (fun i hi hi' => ?_)
    have h2 : (a.map fun n => UInt8.ofNat n.toNat)[i]? = (b.map fun n => UInt8.ofNat n.toNat)[i]? := by rw [h1]
    simp only [List.getElem?_map, List.getElem?_eq_getElem hi, List.getElem?_eq_getElem hi', Option.map_some, Option.some.injEq] at h2
    have e1 := ha i
    have e2 := hb i
    simp only [List.getD, List.getElem?_eq_getElem hi, List.getElem?_eq_getElem hi', Option.getD_some] at e1 e2
    have h3 := congrArg UInt8.toNat h2
    simp only [UInt8.toNat_ofNat'] at h3
    omega
  · intro h; rw [h]

end Go.Proofs.Ytmahiodejhakpaa

namespace Go.Proofs.Ytmahiodejhakpaa
open Go.RowKit

theorem bytes_at {w : World} {g : Nat} (xs : List Int) (hg : w.heap.size = g) : Arr (w.alloc (.cells (xs.map (Value.int .u8)).toArray 5)) .u8 (some ⟨g, 0, none⟩) xs := by subst hg; exact bytes_new w xs

theorem conv_const (w : World) (g : Nat) (C : Array Value) (n c : Nat) (hg : w.heap.size = g) : (convert 25 25 (.slice (some ⟨g, 0, none⟩) n c)).run Try.prog (w.alloc (.cells C 5)) = .ok (.slice (some ⟨g, 0, none⟩) n c) (w.alloc (.cells C 5 (C.size, C.size + 1))) := by
  subst hg
  exact Lib.run_convert_bytes_const (P := Try.prog) w 25 5 C n c Try.underlying25 Try.underlying5

theorem const_at {w : World} {g : Nat} (xs : List Int) (r : Nat × Nat) (hg : w.heap.size = g) : Arr (w.alloc (.cells (xs.map (Value.int .u8)).toArray 5 r)) .u8 (some ⟨g, 0, none⟩) xs := fun _ => by
  subst hg
  refine ⟨w.heap.size, 0, rfl, by simp, fun i hi => ?_⟩
  rw [Nat.zero_add, cell_of_row _ w.heap.size i _ 5 r (World.alloc_heap_new w _)]
  simp [hi, List.getD]

theorem row_at {w : World} (n : Nat) (l : List (Option Addr × List Int × Nat)) (hA : ∀ x ∈ l, Arr w .u8 x.1 x.2.1) :
    Arrs (w.alloc (.cells (l.map fun x => Value.slice x.1 x.2.1.length x.2.2).toArray 25)) (some ⟨w.heap.size, 0, none⟩) (l.map (·.2.1)) :=
  Arrs.of_holds l (Holds.new w 25 _) (fun x hx => (hA x hx).grown (grown_alloc (grown_refl _ _) _))

end Go.Proofs.Ytmahiodejhakpaa

namespace Go.Proofs.Ytmahiodejhakpaa
open Go.RowKit

theorem flatten_take_succ (xss : List (List Int)) (k : Nat) (h : k < xss.length) : (xss.take (k + 1)).flatten = (xss.take k).flatten ++ xss.getD k [] := by
  rw [take_getD xss k [] h, List.flatten_append]; simp

theorem flatten_take_le (xss : List (List Int)) (k : Nat) : (xss.take k).flatten.length ≤ xss.flatten.length := by
  conv => rhs; rw [← List.take_append_drop k xss]
  rw [List.flatten_append, List.length_append]; omega

/-- What Great tells: where it says no, the texts are few and together short. -/
def GreatTexts (xss : List (List Int)) (w : World) : Ending → World → Prop := fun e w' =>
  w = w' ∧ (e = .returned (.bool true) ∨ (e = .returned (.bool false) ∧ xss.length ≤ 80 ∧ xss.flatten.length ≤ 3000))

set_option maxRecDepth 100000 in
set_option maxHeartbeats 800000 in
theorem greatTexts_is (P : Option Addr) (c : Nat) (xss : List (List Int)) (w : World) (hP : Arrs w P xss) (hl : xss.length ≤ 9223372036854775807) :
    Calls Try.prog 19 #[.slice P xss.length c] w (GreatTexts xss w) := by
  replace hP := hid hP
  go_enter Try.func19, Try.ntmps19
  go_wp2
  go_loop [3, 4] (fun s i => ∃ (k : Nat) (m : Int), k ≤ xss.length ∧ i = .int .i64 k ∧ s = .int .i64 m ∧ 0 ≤ m ∧ m ≤ 7000 ∧ (m ≤ 3000 → ((xss.take k).flatten.length : Int) = m)) (fun _ i => xss.length - (intOf i).toNat)
  case atStart => exact ⟨0, 0, by omega, rfl, rfl, by omega, by omega, fun _ => by simp⟩
  case round =>
    obtain ⟨k, m, hk, rfl, rfl, hm0, hm1, hall⟩ := hrel
    replace hall := hid hall
    by_cases hlt : k < xss.length
    · by_cases h80 : (k : Int) ≤ 80
      · by_cases h3 : m ≤ 3000
        · obtain ⟨b, off, Ai, ci, rfl, hb, hcell, _⟩ := hP.out.at_ hlt
          have hstep : Hid (∀ m' : Int, m' = m + min ((xss.getD k []).length : Int) 4000 → m' ≤ 3000 → ((xss.take (k + 1)).flatten.length : Int) = m') := by
            intro m' hm' h3'
            rw [flatten_take_succ xss k hlt, List.length_append]
            have := hall.out h3
            omega
          generalize (xss.getD k []).length = ln at hcell hstep
          have k0 : (0 : Int) ≤ (k : Int) := by omega
          have k1 : (k : Int) < (xss.length : Int) := by omega
          by_cases hmin : (ln : Int) ≤ 4000
          all_goals
            go_wp2
            go_round
            case rel => exact ⟨k + 1, m + min (ln : Int) 4000, by omega, by go_num, by first | (rw [Int.min_eq_left (by omega)]; done) | (rw [Int.min_eq_right (by omega)]; done) | (go_num), by omega, by omega, hstep.out _ rfl⟩
            case measure => simp [intOf]; omega
        · have h3' : 3000 < m := by omega
          by_cases hg : 80 < xss.length
          all_goals
            go_wp2
            go_ret
            exact ⟨rfl, .inl rfl⟩
      · have hg : 80 < xss.length := by omega
        go_wp2
        go_ret
        exact ⟨rfl, .inl rfl⟩
    · obtain rfl : k = xss.length := by omega
      by_cases hg : 80 < xss.length
      · go_wp2
        go_ret
        exact ⟨rfl, .inl rfl⟩
      · by_cases h3 : m ≤ 3000
        · have d1 : decide (80 < (xss.length : Int)) = false := by simp; omega
          have d2 : decide (3000 < m) = false := by simp; omega
          go_wp2
          go_ret
          exact ⟨rfl, .inr ⟨rfl, by omega, by have := hall.out h3; rw [List.take_length] at this; omega⟩⟩
        · go_wp2
          go_ret
          exact ⟨rfl, .inl rfl⟩

end Go.Proofs.Ytmahiodejhakpaa

namespace Go.Proofs.Ytmahiodejhakpaa
open Go.RowKit

variable {P : Program} {ops : Array Oper} {rest : List Oper} {o : Oper} {a : Act} {Q : Exit → Act → World → Prop}

theorem own_mono {w : World} {base base' : Nat} {e : TypeId} {size : Nat} {v : Value} {n : Nat} {xs : List Value} (h : w.ownsRow base e size v n xs) (hb : base' ≤ base) : w.ownsRow base' e size v n xs :=
  ⟨h.1, h.2.imp id fun ⟨g, cap, cur, h1, h2, h3⟩ => ⟨g, cap, cur, h1, Nat.le_trans hb h2, h3⟩⟩

/-- One integer more, where there is no room: a row of the call's own. -/
theorem wpList_push_full (hgd : o.guard = none) (s x : Operand) (t : TypeId) (ho : o.op = .call { callee := .builtin .append, args := #[s, x], argTypes := #[t, t] })
    (base : Nat) (e : TypeId) (i : TypeInfo) (k : IntKind) (bytes : Nat) (ht : P.underlying t = some (.slice e)) (hi : P.info? e = some i) (hz : i.zero = some (.int k 0)) (hsize : i.size = 1) (hby : i.bytes = bytes)
    (ad : Addr) (n c : Nat) (zs : List Int) (y : Int) (w : World) (hA : Arr w k (some ad) zs) (hs : a.eval s = .slice (some ad) n c) (hn : zs.length = n) (hc : c = n)
    (hx : a.eval x = .slice (some ⟨w.heap.size, 0, none⟩) 1 1) (hb8 : bytes ≤ 8) (hlen : zs.length ≤ 1099511627776) (hbase : base ≤ w.heap.size)
    (h : ∀ v' w', w'.ownsRow base e 1 v' (zs ++ [y]).length ((zs ++ [y]).map (Value.int k)) → Below base w w' → wpList P ops Q rest (a.put o.dst v') w') :
    wpList P ops Q (o :: rest) a (w.alloc (.cells #[.int k y] e)) := by
  subst hn
  subst hc
  have hnews : ∀ (j : Nat) (u : Value), (zs.map (Value.int k))[j]? = some u → (w.alloc (.cells #[.int k y] e)).cell? (ad.add j) = some u := by
    intro j u hj
    have hjl : j < zs.length := by
      have := (List.getElem?_eq_some_iff.1 hj).1
      simpa using this
    obtain ⟨b, off, h0, hb, hc⟩ := (hA.grown (World.grownBy_alloc w (.cells #[.int k y] e) none)).at_ hjl
    injection h0 with h0
    subst h0
    rw [add_lit, hc j hjl]
    simp [hjl] at hj
    simp [List.getD, hjl, hj]
  refine wpList_append_grows (w.alloc (.cells #[.int k y] e)) hgd s x t ho e i (.int k 0) 1 bytes ht hi hz hsize hby rfl (by decide) (some ad) zs.length zs.length (zs.map (Value.int k)) hs (by simp) (by simp)
    (fun b hb => by injection hb with hb; subst hb; exact hnews) ⟨w.heap.size, 0, none⟩ 1 1 [.int k y] hx rfl (cell_one_new _ _ _) (by simp [Value.oneCell']) (by omega) (by unfold maxLen; omega) ?_ ?_
  · have : (zs.length + 1) * bytes ≤ (zs.length + 1) * 8 := Nat.mul_le_mul_left _ hb8
    omega
  · intro v' w' h1 h2
    have hle : base ≤ (w.alloc (.cells #[.int k y] e)).heap.size := by simp; omega
    refine h v' w' (by simpa using own_mono h1 hle) ?_
    exact ((Below.refl base w).alloc hbase _).trans (below_of_grown h2 hle (by simp))

end Go.Proofs.Ytmahiodejhakpaa

namespace Go.Proofs.Ytmahiodejhakpaa
open Go.RowKit

/-- A slice: where, what it reads as, its capacity. -/
abbrev Sl := Option Addr × List Int × Nat
abbrev slV (x : Sl) : Value := .slice x.1 x.2.1.length x.2.2

theorem Try.rowInfo : (Try.prog.info? 25).map (fun i => (i.zero, i.size, i.bytes)) = some (some (.slice none 0 0), 1, 24) := by kernel_rfl

/-- Bytes of the call's own. -/
def OwnBytes (w : World) (base : Nat) (x : Sl) : Prop := w.ownsRow base 5 1 (slV x) x.2.1.length (x.2.1.map (Value.int .u8))
/-- A row of the call's own, of slices of bytes of the call's own. -/
def OwnRows (w : World) (base : Nat) (v : Value) (l : List Sl) : Prop := w.ownsRow base 25 1 v l.length (l.map slV) ∧ ∀ x ∈ l, OwnBytes w base x

theorem own_kept0 {w w' : World} {base e n : Nat} {v : Value} {xs : List Value} (h : w.ownsRow base e 1 v n xs) (hg : w.grownBy w' none) : w'.ownsRow base e 1 v n xs :=
  h.kept hg (by cases v.ownBlock <;> simp)

theorem OwnBytes.grown {w w' : World} {base : Nat} {x : Sl} (h : OwnBytes w base x) (hg : w.grownBy w' none) : OwnBytes w' base x := own_kept0 h hg
theorem OwnBytes.mono {w : World} {base base' : Nat} {x : Sl} (h : OwnBytes w base x) (hb : base' ≤ base) : OwnBytes w base' x := own_mono h hb
theorem OwnBytes.arr {w : World} {base : Nat} {x : Sl} (h : OwnBytes w base x) : Arr w .u8 x.1 x.2.1 := Arr.of_own (k := .u8) h
theorem OwnRows.grown {w w' : World} {base : Nat} {v : Value} {l : List Sl} (h : OwnRows w base v l) (hg : w.grownBy w' none) : OwnRows w' base v l :=
  ⟨own_kept0 h.1 hg, fun x hx => (h.2 x hx).grown hg⟩
theorem OwnRows.mono {w : World} {base base' : Nat} {v : Value} {l : List Sl} (h : OwnRows w base v l) (hb : base' ≤ base) : OwnRows w base' v l :=
  ⟨own_mono h.1 hb, fun x hx => (h.2 x hx).mono hb⟩
theorem OwnRows.nil (w : World) (base : Nat) : OwnRows w base (.slice none 0 0) [] := ⟨World.ownsRow_nil _ _ _ _, fun x hx => by cases hx⟩

theorem own_apart {w : World} {base base' e e' n n' : Nat} {v v' : Value} {xs xs' : List Value} (h : w.ownsRow base e 1 v n xs) (h' : w.ownsRow base' e' 1 v' n' xs') (he : e ≠ e') : v'.ownBlock = none ∨ v'.ownBlock ≠ v.ownBlock := by
  rcases h'.2 with ⟨rfl, _⟩ | ⟨g', cap', cur', rfl, _, hg', _⟩
  · exact .inl rfl
  · refine .inr fun hh => ?_
    rcases h.2 with ⟨rfl, _⟩ | ⟨g, cap, cur, rfl, _, hg, _⟩
    · simp [Value.ownBlock] at hh
    · obtain rfl : g' = g := by simpa [Value.ownBlock] using hh
      rw [hg] at hg'
      injection hg' with hg'
      injection hg' with _ hg'
      exact he hg'

/-- What reads, in the rows of the call's own: the elements' slices, and their bytes. -/
theorem OwnRows.arrs {w : World} {base n c : Nat} {A : Option Addr} {l : List Sl} (h : OwnRows w base (.slice A n c) l) : n = l.length ∧ Arrs w A (l.map (·.2.1)) := by
  obtain ⟨h1, h2⟩ := h
  refine ⟨?_, fun hz => ?_⟩
  · obtain ⟨A', c', he, _⟩ := own_form h1
    injection he
  · rcases h1.2 with ⟨hv, h0⟩ | ⟨g, cap, cur, hv, _, hg, hnc, hm, hs, ht⟩
    · have : l = [] := List.eq_nil_of_length_eq_zero h0
      subst this
      exact absurd rfl hz
    · injection hv with hv1 hv2 hv3
      subst hv1
      refine ⟨g, 0, rfl, (Array.getElem?_eq_some_iff.1 hg).1, fun i hi => ?_⟩
      simp only [List.length_map] at hi
      refine ⟨(l[i]).1, (l[i]).2.2, ?_, ?_⟩
      · rw [cell_of_row w g (0 + i) cur _ (0, 0) hg, Nat.zero_add]
        have : (cur.toList.take (l.length * 1))[i]? = some (slV l[i]) := by rw [ht]; simp [hi]
        rw [List.getElem?_take] at this
        split at this
        · simpa [List.getD, hi] using this
        · cases this
      · have := (h2 l[i] (List.getElem_mem hi)).arr
        simpa [List.getD, hi] using this

variable {P : Program} {ops : Array Oper} {rest : List Oper} {o : Oper} {a : Act} {Q : Exit → Act → World → Prop}

/-- One slice more; all bytes of the call's own stay, and all blocks of other cells. -/
theorem wpList_push_row_h (hgd : o.guard = none) (s x : Operand) (t : TypeId) (ho : o.op = .call { callee := .builtin .append, args := #[s, x], argTypes := #[t, t] })
    (base : Nat) (i : TypeInfo) (ht : P.underlying t = some (.slice 25)) (hi : P.info? 25 = some i) (hz : i.zero = some (.slice none 0 0)) (hsize : i.size = 1) (hby : i.bytes = 24)
    (v : Value) (l : List Sl) (y : Sl) (w : World) (hown : OwnRows w base v l) (hy : OwnBytes w base y) (hs : a.eval s = v)
    (hx : a.eval x = .slice (some ⟨w.heap.size, 0, none⟩) 1 1) (hlen : l.length ≤ 2147483647) (hbase : base ≤ w.heap.size)
    (h : ∀ v' w', OwnRows w' base v' (l ++ [y]) → (∀ b z, OwnBytes w b z → OwnBytes w' b z) → (∀ g t cs, t ≠ 25 → Holds w g t cs → Holds w' g t cs) → Below base w w' → wpList P ops Q rest (a.put o.dst v') w') :
    wpList P ops Q (o :: rest) a (w.alloc (.cells #[slV y] 25)) := by
  have hown1 := hown.1.alloc (.cells #[slV y] 25)
  refine wpList_append_own (w.alloc (.cells #[slV y] 25)) hgd s x t ho base 25 i (.slice none 0 0) 1 24 ht hi hz hsize hby rfl (by decide) v l.length (l.map slV) hs hown1 ⟨w.heap.size, 0, none⟩ 1 1 [slV y] hx rfl
    (cell_one_new _ _ _) (by simp [Value.oneCell']) (by unfold maxLen; omega) (by omega) (by simp; omega) ?_
  intro v' w' h1 h2 _
  have hb : ∀ b z, OwnBytes w b z → OwnBytes w' b z := fun b z hz =>
    World.ownsRow.kept (World.ownsRow.alloc hz _) h2 (own_apart hown1 (World.ownsRow.alloc hz (.cells #[slV y] 25)) (by decide))
  refine h v' w' ⟨by simpa using h1, fun z hz => ?_⟩ hb (fun g t cs hte hh => ((hh.alloc _).kept h2 (fun e => ?_))) ?_
  · rcases List.mem_append.1 hz with hz | hz
    · exact hb _ _ (hown.2 z hz)
    · obtain rfl : z = y := by simpa using hz
      exact hb _ _ hy
  · rcases hown1.2 with ⟨h0, _⟩ | ⟨b, cap, cur, h0, _, hb2, _⟩
    · rw [h0] at e; simp [Value.ownBlock] at e
    · rw [h0] at e
      obtain rfl : b = g := by simpa [Value.ownBlock] using e
      have hh2 := hh.alloc (.cells #[slV y] 25)
      unfold Holds at hh2
      rw [hb2] at hh2
      injection hh2 with hh2
      injection hh2 with _ hh2
      exact hte hh2.symm
  · exact ((Below.refl base w).alloc hbase _).trans (below_of_grown h2 (by simp; omega) (fun j hj => (hown.1.lt j hj).1))

/-- One slice more; all bytes of the call's own stay. -/
theorem wpList_push_row (hgd : o.guard = none) (s x : Operand) (t : TypeId) (ho : o.op = .call { callee := .builtin .append, args := #[s, x], argTypes := #[t, t] })
    (base : Nat) (i : TypeInfo) (ht : P.underlying t = some (.slice 25)) (hi : P.info? 25 = some i) (hz : i.zero = some (.slice none 0 0)) (hsize : i.size = 1) (hby : i.bytes = 24)
    (v : Value) (l : List Sl) (y : Sl) (w : World) (hown : OwnRows w base v l) (hy : OwnBytes w base y) (hs : a.eval s = v)
    (hx : a.eval x = .slice (some ⟨w.heap.size, 0, none⟩) 1 1) (hlen : l.length ≤ 2147483647) (hbase : base ≤ w.heap.size)
    (h : ∀ v' w', OwnRows w' base v' (l ++ [y]) → (∀ b z, OwnBytes w b z → OwnBytes w' b z) → Below base w w' → wpList P ops Q rest (a.put o.dst v') w') :
    wpList P ops Q (o :: rest) a (w.alloc (.cells #[slV y] 25)) := by
  exact wpList_push_row_h hgd s x t ho base i ht hi hz hsize hby v l y w hown hy hs hx hlen hbase fun v' w' a b _ c => h v' w' a b c

end Go.Proofs.Ytmahiodejhakpaa
