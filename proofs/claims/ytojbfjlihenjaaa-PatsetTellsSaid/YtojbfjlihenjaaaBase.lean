/- Slices of bytes and of slices of bytes, in memory and as facts of a drawn region's operations. -/
import Derived.Test.YtojbfjlihenjaaaProg
import Derived.Test.YtojbfjlihenjaaaOrder
import Derived.Laws.BytesArg
set_option linter.unusedSimpArgs false
set_option linter.unusedVariables false
namespace Go.Proofs.Ytojbfjlihenjaaa
open Go.RowKit

/-- A slice of slices of bytes reads as these lists. -/
def Arrs (w : World) (A : Option Addr) (xss : List (List Int)) : Prop :=
  xss ≠ [] → ∃ b off, A = some ⟨b, off, none⟩ ∧ b < w.heap.size ∧ ∀ i, i < xss.length → ∃ Ai ci, w.cell? ⟨b, off + i, none⟩ = some (.slice Ai (xss.getD i []).length ci) ∧ Arr w .u8 Ai (xss.getD i [])

theorem Arrs.nil (w : World) (A : Option Addr) : Arrs w A [] := fun h => absurd rfl h
theorem Arrs.at_ {w : World} {A : Option Addr} {xss : List (List Int)} (h : Arrs w A xss) {i : Nat} (hi : i < xss.length) :
    ∃ b off Ai ci, A = some ⟨b, off, none⟩ ∧ b < w.heap.size ∧ w.cell? ⟨b, off + i, none⟩ = some (.slice Ai (xss.getD i []).length ci) ∧ Arr w .u8 Ai (xss.getD i []) := by
  obtain ⟨b, off, rfl, hb, hc⟩ := h (by intro e; subst e; simp at hi)
  obtain ⟨Ai, ci, h1, h2⟩ := hc i hi
  exact ⟨b, off, Ai, ci, rfl, hb, h1, h2⟩
theorem Arrs.grown {w w' : World} {A : Option Addr} {xss : List (List Int)} (h : Arrs w A xss) (hg : w.grownBy w' none) : Arrs w' A xss := fun hz => by
  obtain ⟨b, off, rfl, hb, hc⟩ := h hz
  exact ⟨b, off, rfl, Nat.lt_of_lt_of_le hb hg.size, fun i hi => by
    obtain ⟨Ai, ci, h1, h2⟩ := hc i hi
    exact ⟨Ai, ci, ((gcell hg).1 b _ hb).trans h1, h2.grown hg⟩⟩

/-- All are bytes. -/
def Bytes (xs : List Int) : Prop := ∀ k, 0 ≤ xs.getD k 0 ∧ xs.getD k 0 ≤ 255
def Small (xss : List (List Int)) : Prop := xss.length ≤ 100000 ∧ ∀ i, (xss.getD i []).length ≤ 100000 ∧ Bytes (xss.getD i [])

theorem take_getD {α : Type} (l : List α) (k : Nat) (d : α) (h : k < l.length) : l.take (k + 1) = l.take k ++ [l.getD k d] := by
  rw [List.take_add_one]; simp [List.getD, h]

theorem getD_take (xs : List Int) (n i : Nat) : (xs.take n).getD i 0 = if i < n then xs.getD i 0 else 0 := by
  simp only [List.getD, List.getElem?_take]
  split <;> rfl
theorem getD_drop (xs : List Int) (n i : Nat) : (xs.drop n).getD i 0 = xs.getD (n + i) 0 := by simp [List.getD]
theorem Bytes.take {xs : List Int} (h : Bytes xs) (n : Nat) : Bytes (xs.take n) := fun i => by
  rw [getD_take]
  split
  · exact h i
  · decide
theorem Bytes.drop {xs : List Int} (h : Bytes xs) (n : Nat) : Bytes (xs.drop n) := fun i => by rw [getD_drop]; exact h _

theorem small_of {bs : List Int} (h : bs.length ≤ 3000) (hb : Bytes bs) : Small [bs] := ⟨by simp, fun i => by
  rcases i with _ | i
  · exact ⟨by simp; omega, hb⟩
  · exact ⟨by simp, fun k => by simp⟩⟩

theorem small_nil : Small [] := ⟨by simp, fun i => ⟨by simp, fun k => by simp⟩⟩
theorem small_two {x y : Int} (h0 : 0 ≤ x) (h1 : x ≤ 255) (h2 : 0 ≤ y) (h3 : y ≤ 255) : Small [[x], [y]] := ⟨by simp, fun i => by
  rcases i with _ | _ | i
  · refine ⟨by simp, fun k => ?_⟩
    rcases k with _ | k <;> simp; omega
  · refine ⟨by simp, fun k => ?_⟩
    rcases k with _ | k <;> simp; omega
  · refine ⟨by simp, fun k => by simp⟩⟩

theorem Arrs.of_holds {w : World} {g : Nat} {t : TypeId} (l : List (Option Addr × List Int × Nat)) (h : Holds w g t (l.map fun x => Value.slice x.1 x.2.1.length x.2.2).toArray)
    (hA : ∀ x ∈ l, Arr w .u8 x.1 x.2.1) : Arrs w (some ⟨g, 0, none⟩) (l.map (·.2.1)) := fun _ =>
  ⟨g, 0, rfl, h.lt, fun i hi => by
    simp only [List.length_map] at hi
    have e : (l.map (·.2.1)).getD i [] = l[i].2.1 := by simp [List.getD, hi]
    rw [e]
    exact ⟨l[i].1, l[i].2.2, by rw [h.cell]; simp [hi], hA _ (List.getElem_mem hi)⟩⟩

theorem Arrs.one {w : World} {g : Nat} {t : TypeId} {A : Option Addr} {xs : List Int} {c : Nat} (h : Holds w g t #[.slice A xs.length c]) (hA : Arr w .u8 A xs) : Arrs w (some ⟨g, 0, none⟩) [xs] :=
  Arrs.of_holds [(A, xs, c)] h (by simpa using hA)
theorem Arrs.two {w : World} {g : Nat} {t : TypeId} {A A2 : Option Addr} {xs ys : List Int} {c c2 : Nat} (h : Holds w g t #[.slice A xs.length c, .slice A2 ys.length c2]) (hA : Arr w .u8 A xs) (hA2 : Arr w .u8 A2 ys) : Arrs w (some ⟨g, 0, none⟩) [xs, ys] :=
  Arrs.of_holds [(A, xs, c), (A2, ys, c2)] h (by simp; exact ⟨hA, hA2⟩)
theorem Arrs.three {w : World} {g : Nat} {t : TypeId} {A A2 A3 : Option Addr} {xs ys zs : List Int} {c c2 c3 : Nat} (h : Holds w g t #[.slice A xs.length c, .slice A2 ys.length c2, .slice A3 zs.length c3]) (hA : Arr w .u8 A xs) (hA2 : Arr w .u8 A2 ys) (hA3 : Arr w .u8 A3 zs) : Arrs w (some ⟨g, 0, none⟩) [xs, ys, zs] :=
  Arrs.of_holds [(A, xs, c), (A2, ys, c2), (A3, zs, c3)] h (by simp; exact ⟨hA, hA2, hA3⟩)

/-- One slice of bytes in a new slice. -/
theorem one_new {w : World} {A : Option Addr} {xs : List Int} {c : Nat} (hA : Arr w .u8 A xs) : Arrs (w.alloc (.cells #[.slice A xs.length c] 25)) (some ⟨w.heap.size, 0, none⟩) [xs] :=
  Arrs.one (Holds.new w 25 _) (hA.grown (grown_alloc (grown_refl _ _) _))

theorem bytes_new (w : World) (xs : List Int) : Arr (w.alloc (.cells (xs.map (Value.int .u8)).toArray 5)) .u8 (some ⟨w.heap.size, 0, none⟩) xs := Arr.of_holds (Holds.new w 5 _)

/-- One part, of bytes that are told outright. -/
theorem lit_new (w : World) (xs : List Int) : Arrs ((w.alloc (.cells (xs.map (Value.int .u8)).toArray 5)).alloc (.cells #[.slice (some ⟨w.heap.size, 0, none⟩) xs.length xs.length] 25)) (some ⟨w.heap.size + 1, 0, none⟩) [xs] := by
  have := one_new (c := xs.length) (bytes_new w xs)
  simpa using this

theorem small_one {x : Int} (h0 : 0 ≤ x) (h1 : x ≤ 255) : Small [[x]] := ⟨by simp, fun i => by
  rcases i with _ | i
  · refine ⟨by simp, fun k => ?_⟩
    rcases k with _ | k <;> simp; omega
  · refine ⟨by simp, fun k => by simp⟩⟩

theorem arrs_lit {W : World} {g b : Nat} {xs : List Int} (h1 : Holds W g 25 #[.slice (some ⟨b, 0, none⟩) xs.length xs.length]) (h2 : Holds W b 5 (xs.map (Value.int .u8)).toArray) : Arrs W (some ⟨g, 0, none⟩) [xs] :=
  Arrs.one h1 (Arr.of_holds h2)

theorem Try.info5 : (Try.prog.info? 5).map (fun i => (i.zero, i.size, i.bytes)) = some (some (.int .u8 0), 1, 1) := by kernel_rfl

/-- A slice of bytes, as a string. -/
theorem conv_arr (w : World) (A : Option Addr) (c : Nat) (zs : List Int) (h : Arr w .u8 A zs) : (convert 25 9 (.slice A zs.length c)).run Try.prog w = .ok (.string (strOfNums zs)) w := by
  by_cases hz : zs = []
  · subst hz
    cases A with
    | none => exact run_convert_bytes_nil w 25 5 Try.underlying25 Try.underlying5 _ _ 9 Try.underlying9
    | some a =>
      rw [run_convert_bytes_string w 25 9 5 (some a) _ c Try.underlying25 Try.underlying5 Try.underlying9]
      have : (loadCells a 0).run Try.prog w = .ok (([] : List Int).map (Value.int .u8)).toArray w := by
        have := run_loadCells_list (P := Try.prog) w a [] (fun j v hj => by simp at hj)
        simpa using this
      rw [List.length_nil, run_bytesToString w a 0 c [] this]
      rfl
  · obtain ⟨b, off, rfl, _, hc⟩ := h hz
    exact run_convert_bytes_arg w 25 5 Try.underlying25 Try.underlying5 b off zs.length c zs rfl hc 9 Try.underlying9

/-- What the call owns lies whole in a block of its own. -/
theorem own_holds {w : World} {base n : Nat} {v : Value} {zs : List Int} (h : w.ownsRow base 5 1 v n (zs.map (Value.int .u8))) (hn : 0 < n) :
    ∃ g cap cur, v = .slice (some ⟨g, 0, none⟩) n cap ∧ base ≤ g ∧ n ≤ cap ∧ cap ≤ maxLen ∧ Holds w g 5 cur ∧ zs.length = n ∧ ∀ i, i < n → cur[i]? = some (.int .u8 (zs.getD i 0)) := by
  obtain ⟨hl, h⟩ := h
  have hnl : zs.length = n := by simpa using hl
  rcases h with ⟨hv, rfl⟩ | ⟨g, cap, cur, hv, hb, hg, hnc, hm, hs, ht⟩
  · omega
  · refine ⟨g, cap, cur, hv, hb, hnc, hm, hg, hnl, fun i hi => ?_⟩
    have : (cur.toList.take (n * 1))[i]? = some (Value.int .u8 (zs.getD i 0)) := by rw [ht]; simp [List.getD, hnl, hi]
    rw [List.getElem?_take] at this
    split at this
    · simpa using this
    · cases this

theorem xor_u8 (a b : Int) (ha : 0 ≤ a ∧ a ≤ 255) (hb : 0 ≤ b ∧ b ≤ 255) (h : b ≠ 0) : 0 ≤ bits BinOp.xor .u8 a b ∧ bits BinOp.xor .u8 a b ≤ 255 ∧ bits BinOp.xor .u8 a b ≠ a := by
  obtain ⟨m, rfl⟩ := Int.eq_ofNat_of_zero_le ha.1
  obtain ⟨n, rfl⟩ := Int.eq_ofNat_of_zero_le hb.1
  have hab : m ^^^ n < 256 := Nat.xor_lt_two_pow (n := 8) (by omega) (by omega)
  have e : bits BinOp.xor .u8 (m : Int) (n : Int) = ((m ^^^ n : Nat) : Int) := by
    unfold bits
    have ea : BitVec.ofInt IntKind.u8.bits (m : Int) = BitVec.ofNat 8 m := BitVec.ofInt_natCast 8 m
    have eb : BitVec.ofInt IntKind.u8.bits (n : Int) = BitVec.ofNat 8 n := BitVec.ofInt_natCast 8 n
    simp only [ea, eb]
    show IntKind.u8.wrap (((BitVec.ofNat 8 m ^^^ BitVec.ofNat 8 n).toNat : Nat) : Int) = _
    rw [BitVec.toNat_xor, BitVec.toNat_ofNat, BitVec.toNat_ofNat, Nat.mod_eq_of_lt (by omega), Nat.mod_eq_of_lt (by omega)]
    simp [IntKind.wrap, IntKind.bits, IntKind.signed]
    omega
  rw [e]
  refine ⟨by omega, by omega, fun hh => ?_⟩
  have hh' : m ^^^ n = m := by omega
  have : m ^^^ (m ^^^ n) = 0 := by rw [hh', Nat.xor_self]
  rw [← Nat.xor_assoc, Nat.xor_self, Nat.zero_xor] at this
  exact h (by omega)

/-- New bytes. -/
def isBytes (zs : List Int) : Fact := fun v w => ∃ g, v = .slice (some ⟨g, 0, none⟩) zs.length zs.length ∧ Holds w g 5 (zs.map (Value.int .u8)).toArray
/-- A new row of one slice of new bytes. -/
def isRow1 (zs : List Int) : Fact := fun v w => ∃ g g1, v = .slice (some ⟨g, 0, none⟩) 1 1 ∧ Holds w g 25 #[.slice (some ⟨g1, 0, none⟩) zs.length zs.length] ∧ Holds w g1 5 (zs.map (Value.int .u8)).toArray
/-- A new row of these slices. -/
def isRowOf (n : Nat) (xs : Array Value) : Fact := fun v w => ∃ g, v = .slice (some ⟨g, 0, none⟩) n n ∧ Holds w g 25 xs
/-- A slice that reads as these bytes. -/
def isArrOf (zs : List Int) : Fact := fun v w => ∃ A c, v = .slice A zs.length c ∧ Arr w .u8 A zs
theorem stable_isArrOf (zs : List Int) : Stable (isArrOf zs) := fun _ _ _ ⟨A, c, h1, h2⟩ hg => ⟨A, c, h1, h2.grown hg⟩

theorem stable_isBytes (zs : List Int) : Stable (isBytes zs) := fun _ _ _ ⟨g, h1, h2⟩ hg => ⟨g, h1, h2.kept0 hg⟩
theorem stable_isRow1 (zs : List Int) : Stable (isRow1 zs) := fun _ _ _ ⟨g, g1, h1, h2, h3⟩ hg => ⟨g, g1, h1, h2.kept0 hg, h3.kept0 hg⟩
theorem stable_isRowOf (n : Nat) (xs : Array Value) : Stable (isRowOf n xs) := fun _ _ _ ⟨g, h1, h2⟩ hg => ⟨g, h1, h2.kept0 hg⟩

theorem outThen_of {a : Act} {G : Prop} (h : G) : ∀ xs : List (Tmp × Value), outThen a xs G
  | [] => h
  | (t, v) :: xs => fun _ => outThen_of h xs

/-- Bytes of the call's own are told. -/
def Owns (zs : List Int) (w : World) : Ending → World → Prop := fun e w' =>
  ∃ v, e = .returned v ∧ w'.ownsRow w.heap.size 5 1 v zs.length (zs.map (Value.int .u8)) ∧ Below w.heap.size w w'

theorem Owns.arr {zs : List Int} {w : World} {e : Ending} {w' : World} (h : Owns zs w e w') : ∃ A c, e = .returned (.slice A zs.length c) ∧ zs.length ≤ c ∧ c ≤ maxLen ∧ Arr w' .u8 A zs ∧ w.grownBy w' none := by
  obtain ⟨v, rfl, h1, h2⟩ := h
  obtain ⟨A, c, rfl, hc, hm⟩ := own_form h1
  exact ⟨A, c, rfl, hc, hm, Arr.of_own (k := .u8) h1, below_grown h2⟩

end Go.Proofs.Ytojbfjlihenjaaa
