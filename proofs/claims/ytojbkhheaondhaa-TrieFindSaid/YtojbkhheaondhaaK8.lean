/- A slice of integers that came in, in my own words for memory. A slice of slices of integers that came in. Strings of bytes are the same where the bytes are. Bytes of a constant text, and new rows, at a known place of memory. The document's own answer: texts that are too great. Appending one integer to a slice that has no room; of no program. Slices of bytes of the call's own, in a slice of the call's own: one more. A region that draws its order in its first operations, each by a fact of its own, the others in their order; at the wide fence, in a round or not; of no program. -/
import Derived.Test.YtojbkhheaondhaaK6
import Derived.OpenShut
import Derived.Deep.Matrix
import Derived.Test.YtojbkhheaondhaaK7
import Derived.WideShapes
import Derived.Lib.SlBytesConst
import Derived.ArgAppend
set_option linter.unusedSimpArgs false
set_option linter.unusedVariables false
namespace Go.Proofs.Ytojbkhheaondhaa
open Go.RowKit

/-- What a slice that came in is: nil; or a row of cap cells, the first len of them its elements, each fitting its kind. -/
def IsRow (k : IntKind) (w : World) (a : Option Addr) (len cap : Nat) (zs : List Int) : Prop :=
  (a = none ∧ len = 0 ∧ cap = 0 ∧ zs = []) ∨
  ∃ x, a = some x ∧ len ≤ cap ∧ cap ≤ maxLen ∧ zs.length = cap ∧ (∀ i, i < zs.length → w.cell? (x.add i) = some (.int k (zs.getD i 0))) ∧ ∀ n ∈ zs, (Lit.int k n).wf = true

theorem isRow_arr {k : IntKind} {w : World} {a : Option Addr} {len cap : Nat} {z : List Int} (h : IsRow k w a len cap z) :
    ∃ zs : List Int, zs.length = len ∧ Arr w k a zs ∧ len ≤ cap ∧ cap ≤ maxLen ∧ ∀ n ∈ zs, (Lit.int k n).wf = true := by
  rcases h with ⟨rfl, rfl, rfl, rfl⟩ | ⟨x, rfl, hl, hm, hz, hc, hw⟩
  · exact ⟨[], rfl, Arr.nil _, Nat.le_refl _, by simp, by simp⟩
  · refine ⟨z.take len, by simp; omega, ?_, hl, hm, fun n hn => hw n (List.mem_of_mem_take hn)⟩
    refine Arr.take (fun hne => ?_) len
    have h0 : 0 < z.length := List.length_pos_iff.2 hne
    obtain ⟨b, off, spot⟩ := x
    have hc0 := hc 0 h0
    have hs : spot = none := by simpa [Addr.add] using World.cell?_spot hc0
    subst hs
    have hadd : ∀ i, (⟨b, off, none⟩ : Addr).add i = ⟨b, off + i, none⟩ := fun i => by unfold Addr.add; split <;> simp_all
    refine ⟨b, off, rfl, World.block_lt_of_cell? w ⟨b, off, none⟩ (by rw [← hc0, hadd]; rfl), fun i hi => ?_⟩
    rw [← hadd]; exact hc i hi

theorem getD_of_wf {bs : List Int} (h : ∀ n ∈ bs, (Lit.int .u8 n).wf = true) (k : Nat) : 0 ≤ bs.getD k 0 ∧ bs.getD k 0 ≤ 255 := by
  by_cases hk : k < bs.length
  · have := bounds_u8 (h (bs.getD k 0) (by simp [List.getD, hk]))
    exact this
  · simp [List.getD, List.getElem?_eq_none (Nat.le_of_not_lt hk)]

end Go.Proofs.Ytojbkhheaondhaa

namespace Go.Proofs.Ytojbkhheaondhaa
open Go.RowKit

theorem addr_plain {w : World} {x : Addr} {v : Value} (h : w.cell? (x.add 0) = some v) : ∃ b off, x = ⟨b, off, none⟩ ∧ (∀ j, x.add j = ⟨b, off + j, none⟩) ∧ b < w.heap.size := by
  obtain ⟨b, off, spot⟩ := x
  have hs : spot = none := by simpa [Addr.add] using World.cell?_spot h
  subst hs
  have hadd : ∀ j, (⟨b, off, none⟩ : Addr).add j = ⟨b, off + j, none⟩ := fun j => by unfold Addr.add; split <;> simp_all
  rw [hadd] at h
  exact ⟨b, off, rfl, hadd, World.block_lt_of_cell? w ⟨b, off + 0, none⟩ (by rw [h])⟩

/-- What a slice of slices that came in reads as. -/
def IsRows (k : IntKind) (w : World) (a : Option Addr) (len cap : Nat) (zss : List (List Int)) : Prop :=
  zss.length = len ∧ len ≤ cap ∧ cap ≤ maxLen ∧ (∀ i, ∀ n ∈ zss.getD i [], (Lit.int k n).wf = true) ∧
    (zss ≠ [] → ∃ b off, a = some ⟨b, off, none⟩ ∧ b < w.heap.size ∧ ∀ i, i < zss.length → ∃ Ai ci, w.cell? ⟨b, off + i, none⟩ = some (.slice Ai (zss.getD i []).length ci) ∧ (zss.getD i []).length ≤ ci ∧ ci ≤ maxLen ∧ Arr w k Ai (zss.getD i []))

theorem isRows_nil {k : IntKind} {w : World} : IsRows k w none 0 0 [] := ⟨rfl, Nat.le_refl _, Nat.zero_le _, fun i n hn => by simp at hn, fun h => absurd rfl h⟩

theorem isRows_of {k : IntKind} {w : World} {x : Addr} {len cap base : Nat} {A : Nat → Option Addr} {L C : Nat → Nat} {Z : Nat → List Int} (hl : len ≤ cap) (hm : cap ≤ maxLen)
    (hrow : ∀ r, r < cap → w.cell? (x.add r) = some (.slice (A r) (L r) (C r)) ∧ L r ≤ C r ∧ C r ≤ maxLen ∧ (Z r).length = C r ∧ (∀ n ∈ Z r, (Lit.int k n).wf = true) ∧ (A r = none → C r = 0) ∧
      ∀ a', A r = some a' → base ≤ a'.block ∧ ∀ c, c < C r → w.cell? (a'.add c) = some (.int k ((Z r).getD c 0))) :
    IsRows k w (some x) len cap ((List.range len).map fun r => (Z r).take (L r)) := by
  have hget : ∀ i, i < len → ((List.range len).map fun r => (Z r).take (L r)).getD i [] = (Z i).take (L i) := fun i hi => by simp [List.getD, hi]
  refine ⟨by simp, hl, hm, fun i n hn => ?_, fun hne => ?_⟩
  · by_cases hi : i < len
    · rw [hget i hi] at hn
      exact (hrow i (by omega)).2.2.2.2.1 n (List.mem_of_mem_take hn)
    · simp [List.getD, List.getElem?_eq_none (show ((List.range len).map fun r => (Z r).take (L r)).length ≤ i by simp; omega)] at hn
  · have h0 : 0 < len := by
      rcases Nat.eq_zero_or_pos len with h | h
      · subst h; simp at hne
      · exact h
    obtain ⟨b, off, rfl, hadd, hb⟩ := addr_plain (hrow 0 (by omega)).1
    refine ⟨b, off, rfl, hb, fun i hi => ?_⟩
    have hi' : i < len := by simpa using hi
    rw [hget i hi']
    obtain ⟨h1, h2, h3, h4, _, h6, h7⟩ := hrow i (by omega)
    have hlen : ((Z i).take (L i)).length = L i := by simp; omega
    rw [hlen]
    refine ⟨A i, C i, by rw [← hadd]; exact h1, h2, h3, Arr.take (fun hz => ?_) _⟩
    have hc0 : 0 < C i := by rw [← h4]; exact List.length_pos_iff.2 hz
    cases hA : A i with
    | none => have := h6 hA; omega
    | some a' =>
      obtain ⟨_, hcell⟩ := h7 a' hA
      obtain ⟨b2, off2, rfl, hadd2, hb2⟩ := addr_plain (hcell 0 hc0)
      exact ⟨b2, off2, rfl, hb2, fun j hj => by rw [← hadd2]; exact hcell j (by omega)⟩

end Go.Proofs.Ytojbkhheaondhaa

namespace Go.Proofs.Ytojbkhheaondhaa
open Go.RowKit

theorem str_eq (a b : List Int) (ha : Bytes a) (hb : Bytes b) : ((strOfNums a).toList == (strOfNums b).toList) = decide (a = b) := by
  rw [Bool.eq_iff_iff, ByteArray.toList_eq, ByteArray.toList_eq, beq_iff_eq, decide_eq_true_iff]
  constructor
  · intro h1
    rw [strOfNums_data, strOfNums_data] at h1
    have hl : a.length = b.length := by have := congrArg List.length h1; simpa using this
    refine List.ext_getElem hl (fun i hi hi' => ?_)
    have h2 : (a.map fun n => UInt8.ofNat n.toNat)[i]? = (b.map fun n => UInt8.ofNat n.toNat)[i]? := by rw [h1]
    simp only [List.getElem?_map, List.getElem?_eq_getElem hi, List.getElem?_eq_getElem hi', Option.map_some, Option.some.injEq] at h2
    have e1 := ha i
    have e2 := hb i
    simp only [List.getD, List.getElem?_eq_getElem hi, List.getElem?_eq_getElem hi', Option.getD_some] at e1 e2
    have h3 := congrArg UInt8.toNat h2
    simp only [UInt8.toNat_ofNat'] at h3
    omega
  · intro h; rw [h]

end Go.Proofs.Ytojbkhheaondhaa

namespace Go.Proofs.Ytojbkhheaondhaa
open Go.RowKit

theorem bytes_at {w : World} {g : Nat} (xs : List Int) (hg : w.heap.size = g) : Arr (w.alloc (.cells (xs.map (Value.int .u8)).toArray 5)) .u8 (some ⟨g, 0, none⟩) xs := by subst hg; exact bytes_new w xs

theorem conv_const (w : World) (g : Nat) (C : Array Value) (n c : Nat) (hg : w.heap.size = g) : (convert 28 28 (.slice (some ⟨g, 0, none⟩) n c)).run Try.prog (w.alloc (.cells C 5)) = .ok (.slice (some ⟨g, 0, none⟩) n c) (w.alloc (.cells C 5 (C.size, C.size + 1))) := by
  subst hg
  exact Lib.run_convert_bytes_const (P := Try.prog) w 28 5 C n c Try.underlying28 Try.underlying5

theorem const_at {w : World} {g : Nat} (xs : List Int) (r : Nat × Nat) (hg : w.heap.size = g) : Arr (w.alloc (.cells (xs.map (Value.int .u8)).toArray 5 r)) .u8 (some ⟨g, 0, none⟩) xs := fun _ => by
  subst hg
  refine ⟨w.heap.size, 0, rfl, by simp, fun i hi => ?_⟩
  rw [Nat.zero_add, cell_of_row _ w.heap.size i _ 5 r (World.alloc_heap_new w _)]
  simp [hi, List.getD]

theorem row_at {w : World} (n : Nat) (l : List (Option Addr × List Int × Nat)) (hA : ∀ x ∈ l, Arr w .u8 x.1 x.2.1) :
    Arrs (w.alloc (.cells (l.map fun x => Value.slice x.1 x.2.1.length x.2.2).toArray 28)) (some ⟨w.heap.size, 0, none⟩) (l.map (·.2.1)) :=
  Arrs.of_holds l (Holds.new w 28 _) (fun x hx => (hA x hx).grown (grown_alloc (grown_refl _ _) _))

end Go.Proofs.Ytojbkhheaondhaa

namespace Go.Proofs.Ytojbkhheaondhaa
open Go.RowKit

theorem flatten_take_succ (xss : List (List Int)) (k : Nat) (h : k < xss.length) : (xss.take (k + 1)).flatten = (xss.take k).flatten ++ xss.getD k [] := by
  rw [take_getD xss k [] h, List.flatten_append]; simp

theorem flatten_take_le (xss : List (List Int)) (k : Nat) : (xss.take k).flatten.length ≤ xss.flatten.length := by
  conv => rhs; rw [← List.take_append_drop k xss]
  rw [List.flatten_append, List.length_append]; omega

/-- What Great tells: where it says no, the texts are few and together short. -/
def GreatTexts (xss : List (List Int)) (w : World) : Ending → World → Prop := fun e w' =>
  w = w' ∧ (e = .returned (.bool true) ∨ (e = .returned (.bool false) ∧ xss.length ≤ 80 ∧ xss.flatten.length ≤ 3000))

set_option maxRecDepth 100000 in
set_option maxHeartbeats 800000 in
theorem greatTexts_is (P : Option Addr) (c : Nat) (xss : List (List Int)) (w : World) (hP : Arrs w P xss) (hl : xss.length ≤ 9223372036854775807) :
    Calls Try.prog 21 #[.slice P xss.length c] w (GreatTexts xss w) := by
  replace hP := hid hP
  go_enter Try.func21, Try.ntmps21
  go_wp2
  go_loop [3, 4] (fun s i => ∃ (k : Nat) (m : Int), k ≤ xss.length ∧ i = .int .i64 k ∧ s = .int .i64 m ∧ 0 ≤ m ∧ m ≤ 7000 ∧ (m ≤ 3000 → ((xss.take k).flatten.length : Int) = m)) (fun _ i => xss.length - (intOf i).toNat)
  case atStart => exact ⟨0, 0, by omega, rfl, rfl, by omega, by omega, fun _ => by simp⟩
  case round =>
    obtain ⟨k, m, hk, rfl, rfl, hm0, hm1, hall⟩ := hrel
    replace hall := hid hall
    by_cases hlt : k < xss.length
    · by_cases h80 : (k : Int) ≤ 80
      · by_cases h3 : m ≤ 3000
        · obtain ⟨b, off, Ai, ci, rfl, hb, hcell, _⟩ := hP.out.at_ hlt
          have hstep : Hid (∀ m' : Int, m' = m + min ((xss.getD k []).length : Int) 4000 → m' ≤ 3000 → ((xss.take (k + 1)).flatten.length : Int) = m') := by
            intro m' hm' h3'
            rw [flatten_take_succ xss k hlt, List.length_append]
            have := hall.out h3
            omega
          generalize (xss.getD k []).length = ln at hcell hstep
          have k0 : (0 : Int) ≤ (k : Int) := by omega
          have k1 : (k : Int) < (xss.length : Int) := by omega
          by_cases hmin : (ln : Int) ≤ 4000
          all_goals
            go_wp2
            go_round
            case rel => exact ⟨k + 1, m + min (ln : Int) 4000, by omega, by go_num, by first | (rw [Int.min_eq_left (by omega)]; done) | (rw [Int.min_eq_right (by omega)]; done) | (go_num), by omega, by omega, hstep.out _ rfl⟩
            case measure => simp [intOf]; omega
        · have h3' : 3000 < m := by omega
          by_cases hg : 80 < xss.length
          all_goals
            go_wp2
            go_ret
            exact ⟨rfl, .inl rfl⟩
      · have hg : 80 < xss.length := by omega
        go_wp2
        go_ret
        exact ⟨rfl, .inl rfl⟩
    · obtain rfl : k = xss.length := by omega
      by_cases hg : 80 < xss.length
      · go_wp2
        go_ret
        exact ⟨rfl, .inl rfl⟩
      · by_cases h3 : m ≤ 3000
        · have d1 : decide (80 < (xss.length : Int)) = false := by simp; omega
          have d2 : decide (3000 < m) = false := by simp; omega
          go_wp2
          go_ret
          exact ⟨rfl, .inr ⟨rfl, by omega, by have := hall.out h3; rw [List.take_length] at this; omega⟩⟩
        · go_wp2
          go_ret
          exact ⟨rfl, .inl rfl⟩

end Go.Proofs.Ytojbkhheaondhaa

namespace Go.Proofs.Ytojbkhheaondhaa
open Go.RowKit

variable {P : Program} {ops : Array Oper} {rest : List Oper} {o : Oper} {a : Act} {Q : Exit → Act → World → Prop}

theorem own_mono {w : World} {base base' : Nat} {e : TypeId} {size : Nat} {v : Value} {n : Nat} {xs : List Value} (h : w.ownsRow base e size v n xs) (hb : base' ≤ base) : w.ownsRow base' e size v n xs :=
  ⟨h.1, h.2.imp id fun ⟨g, cap, cur, h1, h2, h3⟩ => ⟨g, cap, cur, h1, Nat.le_trans hb h2, h3⟩⟩

/-- One integer more, where there is no room: a row of the call's own. -/
theorem wpList_push_full (hgd : o.guard = none) (s x : Operand) (t : TypeId) (ho : o.op = .call { callee := .builtin .append, args := #[s, x], argTypes := #[t, t] })
    (base : Nat) (e : TypeId) (i : TypeInfo) (k : IntKind) (bytes : Nat) (ht : P.underlying t = some (.slice e)) (hi : P.info? e = some i) (hz : i.zero = some (.int k 0)) (hsize : i.size = 1) (hby : i.bytes = bytes)
    (ad : Addr) (n c : Nat) (zs : List Int) (y : Int) (w : World) (hA : Arr w k (some ad) zs) (hs : a.eval s = .slice (some ad) n c) (hn : zs.length = n) (hc : c = n)
    (hx : a.eval x = .slice (some ⟨w.heap.size, 0, none⟩) 1 1) (hb8 : bytes ≤ 8) (hlen : zs.length ≤ 1099511627776) (hbase : base ≤ w.heap.size)
    (h : ∀ v' w', w'.ownsRow base e 1 v' (zs ++ [y]).length ((zs ++ [y]).map (Value.int k)) → Below base w w' → wpList P ops Q rest (a.put o.dst v') w') :
    wpList P ops Q (o :: rest) a (w.alloc (.cells #[.int k y] e)) := by
  subst hn
  subst hc
  have hnews : ∀ (j : Nat) (u : Value), (zs.map (Value.int k))[j]? = some u → (w.alloc (.cells #[.int k y] e)).cell? (ad.add j) = some u := by
    intro j u hj
    have hjl : j < zs.length := by
      have := (List.getElem?_eq_some_iff.1 hj).1
      simpa using this
    obtain ⟨b, off, h0, hb, hc⟩ := (hA.grown (World.grownBy_alloc w (.cells #[.int k y] e) none)).at_ hjl
    injection h0 with h0
    subst h0
    rw [add_lit, hc j hjl]
    simp [hjl] at hj
    simp [List.getD, hjl, hj]
  refine wpList_append_grows (w.alloc (.cells #[.int k y] e)) hgd s x t ho e i (.int k 0) 1 bytes ht hi hz hsize hby rfl (by decide) (some ad) zs.length zs.length (zs.map (Value.int k)) hs (by simp) (by simp)
    (fun b hb => by injection hb with hb; subst hb; exact hnews) ⟨w.heap.size, 0, none⟩ 1 1 [.int k y] hx rfl (cell_one_new _ _ _) (by simp [Value.oneCell']) (by omega) (by unfold maxLen; omega) ?_ ?_
  · have : (zs.length + 1) * bytes ≤ (zs.length + 1) * 8 := Nat.mul_le_mul_left _ hb8
    omega
  · intro v' w' h1 h2
    have hle : base ≤ (w.alloc (.cells #[.int k y] e)).heap.size := by simp; omega
    refine h v' w' (by simpa using own_mono h1 hle) ?_
    exact ((Below.refl base w).alloc hbase _).trans (below_of_grown h2 hle (by simp))

end Go.Proofs.Ytojbkhheaondhaa

namespace Go.Proofs.Ytojbkhheaondhaa
open Go.RowKit

/-- A slice: where, what it reads as, its capacity. -/
abbrev Sl := Option Addr × List Int × Nat
abbrev slV (x : Sl) : Value := .slice x.1 x.2.1.length x.2.2

theorem Try.rowInfo : (Try.prog.info? 28).map (fun i => (i.zero, i.size, i.bytes)) = some (some (.slice none 0 0), 1, 24) := by kernel_rfl

/-- Bytes of the call's own. -/
def OwnBytes (w : World) (base : Nat) (x : Sl) : Prop := w.ownsRow base 5 1 (slV x) x.2.1.length (x.2.1.map (Value.int .u8))
/-- A row of the call's own, of slices of bytes of the call's own. -/
def OwnRows (w : World) (base : Nat) (v : Value) (l : List Sl) : Prop := w.ownsRow base 28 1 v l.length (l.map slV) ∧ ∀ x ∈ l, OwnBytes w base x

theorem own_kept0 {w w' : World} {base e n : Nat} {v : Value} {xs : List Value} (h : w.ownsRow base e 1 v n xs) (hg : w.grownBy w' none) : w'.ownsRow base e 1 v n xs :=
  h.kept hg (by cases v.ownBlock <;> simp)

theorem OwnBytes.grown {w w' : World} {base : Nat} {x : Sl} (h : OwnBytes w base x) (hg : w.grownBy w' none) : OwnBytes w' base x := own_kept0 h hg
theorem OwnBytes.mono {w : World} {base base' : Nat} {x : Sl} (h : OwnBytes w base x) (hb : base' ≤ base) : OwnBytes w base' x := own_mono h hb
theorem OwnBytes.arr {w : World} {base : Nat} {x : Sl} (h : OwnBytes w base x) : Arr w .u8 x.1 x.2.1 := Arr.of_own (k := .u8) h
theorem OwnRows.grown {w w' : World} {base : Nat} {v : Value} {l : List Sl} (h : OwnRows w base v l) (hg : w.grownBy w' none) : OwnRows w' base v l :=
  ⟨own_kept0 h.1 hg, fun x hx => (h.2 x hx).grown hg⟩
theorem OwnRows.mono {w : World} {base base' : Nat} {v : Value} {l : List Sl} (h : OwnRows w base v l) (hb : base' ≤ base) : OwnRows w base' v l :=
  ⟨own_mono h.1 hb, fun x hx => (h.2 x hx).mono hb⟩
theorem OwnRows.nil (w : World) (base : Nat) : OwnRows w base (.slice none 0 0) [] := ⟨World.ownsRow_nil _ _ _ _, fun x hx => by cases hx⟩

theorem own_apart {w : World} {base base' e e' n n' : Nat} {v v' : Value} {xs xs' : List Value} (h : w.ownsRow base e 1 v n xs) (h' : w.ownsRow base' e' 1 v' n' xs') (he : e ≠ e') : v'.ownBlock = none ∨ v'.ownBlock ≠ v.ownBlock := by
  rcases h'.2 with ⟨rfl, _⟩ | ⟨g', cap', cur', rfl, _, hg', _⟩
  · exact .inl rfl
  · refine .inr fun hh => ?_
    rcases h.2 with ⟨rfl, _⟩ | ⟨g, cap, cur, rfl, _, hg, _⟩
    · simp [Value.ownBlock] at hh
    · obtain rfl : g' = g := by simpa [Value.ownBlock] using hh
      rw [hg] at hg'
      injection hg' with hg'
      injection hg' with _ hg'
      exact he hg'

/-- What reads, in the rows of the call's own: the elements' slices, and their bytes. -/
theorem OwnRows.arrs {w : World} {base n c : Nat} {A : Option Addr} {l : List Sl} (h : OwnRows w base (.slice A n c) l) : n = l.length ∧ Arrs w A (l.map (·.2.1)) := by
  obtain ⟨h1, h2⟩ := h
  refine ⟨?_, fun hz => ?_⟩
  · obtain ⟨A', c', he, _⟩ := own_form h1
    injection he
  · rcases h1.2 with ⟨hv, h0⟩ | ⟨g, cap, cur, hv, _, hg, hnc, hm, hs, ht⟩
    · have : l = [] := List.eq_nil_of_length_eq_zero h0
      subst this
      exact absurd rfl hz
    · injection hv with hv1 hv2 hv3
      subst hv1
      refine ⟨g, 0, rfl, (Array.getElem?_eq_some_iff.1 hg).1, fun i hi => ?_⟩
      simp only [List.length_map] at hi
      refine ⟨(l[i]).1, (l[i]).2.2, ?_, ?_⟩
      · rw [cell_of_row w g (0 + i) cur _ (0, 0) hg, Nat.zero_add]
        have : (cur.toList.take (l.length * 1))[i]? = some (slV l[i]) := by rw [ht]; simp [hi]
        rw [List.getElem?_take] at this
        split at this
        · simpa [List.getD, hi] using this
        · cases this
      · have := (h2 l[i] (List.getElem_mem hi)).arr
        simpa [List.getD, hi] using this

variable {P : Program} {ops : Array Oper} {rest : List Oper} {o : Oper} {a : Act} {Q : Exit → Act → World → Prop}

/-- One slice more; all bytes of the call's own stay, and all blocks of other cells. -/
theorem wpList_push_row_h (hgd : o.guard = none) (s x : Operand) (t : TypeId) (ho : o.op = .call { callee := .builtin .append, args := #[s, x], argTypes := #[t, t] })
    (base : Nat) (i : TypeInfo) (ht : P.underlying t = some (.slice 28)) (hi : P.info? 28 = some i) (hz : i.zero = some (.slice none 0 0)) (hsize : i.size = 1) (hby : i.bytes = 24)
    (v : Value) (l : List Sl) (y : Sl) (w : World) (hown : OwnRows w base v l) (hy : OwnBytes w base y) (hs : a.eval s = v)
    (hx : a.eval x = .slice (some ⟨w.heap.size, 0, none⟩) 1 1) (hlen : l.length ≤ 2147483647) (hbase : base ≤ w.heap.size)
    (h : ∀ v' w', OwnRows w' base v' (l ++ [y]) → (∀ b z, OwnBytes w b z → OwnBytes w' b z) → (∀ g t cs, t ≠ 28 → Holds w g t cs → Holds w' g t cs) → Below base w w' → wpList P ops Q rest (a.put o.dst v') w') :
    wpList P ops Q (o :: rest) a (w.alloc (.cells #[slV y] 28)) := by
  have hown1 := hown.1.alloc (.cells #[slV y] 28)
  refine wpList_append_own (w.alloc (.cells #[slV y] 28)) hgd s x t ho base 28 i (.slice none 0 0) 1 24 ht hi hz hsize hby rfl (by decide) v l.length (l.map slV) hs hown1 ⟨w.heap.size, 0, none⟩ 1 1 [slV y] hx rfl
    (cell_one_new _ _ _) (by simp [Value.oneCell']) (by unfold maxLen; omega) (by omega) (by simp; omega) ?_
  intro v' w' h1 h2 _
  have hb : ∀ b z, OwnBytes w b z → OwnBytes w' b z := fun b z hz =>
    World.ownsRow.kept (World.ownsRow.alloc hz _) h2 (own_apart hown1 (World.ownsRow.alloc hz (.cells #[slV y] 28)) (by decide))
  refine h v' w' ⟨by simpa using h1, fun z hz => ?_⟩ hb (fun g t cs hte hh => ((hh.alloc _).kept h2 (fun e => ?_))) ?_
  · rcases List.mem_append.1 hz with hz | hz
    · exact hb _ _ (hown.2 z hz)
    · obtain rfl : z = y := by simpa using hz
      exact hb _ _ hy
  · rcases hown1.2 with ⟨h0, _⟩ | ⟨b, cap, cur, h0, _, hb2, _⟩
    · rw [h0] at e; simp [Value.ownBlock] at e
    · rw [h0] at e
      obtain rfl : b = g := by simpa [Value.ownBlock] using e
      have hh2 := hh.alloc (.cells #[slV y] 28)
      unfold Holds at hh2
      rw [hb2] at hh2
      injection hh2 with hh2
      injection hh2 with _ hh2
      exact hte hh2.symm
  · exact ((Below.refl base w).alloc hbase _).trans (below_of_grown h2 (by simp; omega) (fun j hj => (hown.1.lt j hj).1))

/-- One slice more; all bytes of the call's own stay. -/
theorem wpList_push_row (hgd : o.guard = none) (s x : Operand) (t : TypeId) (ho : o.op = .call { callee := .builtin .append, args := #[s, x], argTypes := #[t, t] })
    (base : Nat) (i : TypeInfo) (ht : P.underlying t = some (.slice 28)) (hi : P.info? 28 = some i) (hz : i.zero = some (.slice none 0 0)) (hsize : i.size = 1) (hby : i.bytes = 24)
    (v : Value) (l : List Sl) (y : Sl) (w : World) (hown : OwnRows w base v l) (hy : OwnBytes w base y) (hs : a.eval s = v)
    (hx : a.eval x = .slice (some ⟨w.heap.size, 0, none⟩) 1 1) (hlen : l.length ≤ 2147483647) (hbase : base ≤ w.heap.size)
    (h : ∀ v' w', OwnRows w' base v' (l ++ [y]) → (∀ b z, OwnBytes w b z → OwnBytes w' b z) → Below base w w' → wpList P ops Q rest (a.put o.dst v') w') :
    wpList P ops Q (o :: rest) a (w.alloc (.cells #[slV y] 28)) := by
  exact wpList_push_row_h hgd s x t ho base i ht hi hz hsize hby v l y w hown hy hs hx hlen hbase fun v' w' a b _ c => h v' w' a b c

end Go.Proofs.Ytojbkhheaondhaa

namespace Go.Proofs.Ytojbkhheaondhaa
open Go.RowKit

variable {P : Program} {Q : Exit → Act → World → Prop} {l : List Oper} {fs : List Fact} {a0 : Act} {w0 : World} {outs : List (Tmp × Value)} {r : Option Nat} {n : Nat}

theorem wpIn_of_wp {o : Oper} {a : Act} {w : World} {K : Act → World → Prop} (hd : noDefer o = true) (h : o.wp P a w K Q) : o.wpIn (wideAt r) n P a w K Q := by
  refine ⟨fun _ _ => trivial, ?_⟩
  show o.uponIn (wideAt r) n P a K Q ((o.semAt r a.eval).run P w)
  rw [semAt_plain hd]
  unfold Oper.wp at h
  generalize (execOp a.eval o).run P w = res at *
  cases res with
  | ok x w' =>
    cases x <;> simp only [Oper.upon] at h <;> simp only [Oper.uponIn]
    case enter f args => exact ⟨(fun e => by cases e), wideAt_calls h⟩
    case row row args => exact ⟨(fun e => by cases e), fun c cs _ => let ⟨v, w', q, s⟩ := h c cs; ⟨v, w', q, stepsIn_wide.2 s⟩⟩
    all_goals exact h
  | halt x w' => cases x <;> simp only [Oper.upon] at h <;> simp only [Oper.uponIn] <;> exact h

/-- Does one wait for the other, by one or by several steps? -/
def waitsB (l : List Oper) : Nat → Nat → Nat → Bool
  | 0, _, _ => false
  | f + 1, i, j => match l[i]? with
    | some o => (predsOf o).any fun p => p == j || waitsB l f p j
    | none => false

/-- The first k may come in any order; all others wait for them, and come one by one. -/
def headB (k : Nat) (l : List Oper) : Bool :=
  decide (k < l.length) && (l.take k).all (fun o => o.guard.isNone && noDefer o) &&
  (List.range k).all (fun j => waitsB l l.length k j) &&
  (List.range l.length).all (fun i => decide (i ≤ k) || match l[i]? with | some o => (predsOf o).any (fun p => decide (k ≤ p ∧ p < i)) | none => true) &&
  Region.seqB .any l.toArray (l.length - k) k (Array.replicate k true ++ Array.replicate (l.length - k) false)

theorem seq_more {F : Fence} {ops : Array Oper} : ∀ (l : List Oper) (k : Nat) (listed : Array Bool) (a : Act) (w : World) (g : Nat), (∀ j, l[j]? = ops[k + j]?) →
    Region.seqB .any ops l.length k listed = true → wpListIn F n P ops Q l a w → l.length ≤ g → wpAnyIn F n P .any ops Q g listed a w
  | [], k, listed, a, w, g, _, hB, h, _ => by
    have hr : Region.ready .any ops listed = [] := by simpa [Region.seqB] using hB
    cases g with
    | zero => exact ⟨hr, h⟩
    | succ g => exact ⟨fun _ => h, fun i hi => by rw [hr] at hi; cases hi⟩
  | o :: l, k, listed, a, w, 0, _, _, _, hg => by simp at hg
  | o :: l, k, listed, a, w, g + 1, hl, hB, h, hg => by
    have h0 : ops[k]? = some o := by simpa using (hl 0).symm
    simp only [List.length_cons, Region.seqB, Bool.and_eq_true, decide_eq_true_eq] at hB
    refine ⟨fun h1 => (by rw [hB.1] at h1; cases h1), fun i hi => ?_⟩
    rw [hB.1] at hi
    have hik : i = k := by simpa using hi
    subst hik
    have hw : wpOpIn F n P ops Q i (wpListIn F n P ops Q l) a w := by unfold wpOpIn; simp only [h0]; exact h
    exact wpOpIn_mono (fun a' w' h' => seq_more l (i + 1) _ a' w' g (fun j => by have := hl (j + 1); simpa [Nat.add_assoc, Nat.add_comm 1 j] using this) hB.2 h' (by simpa using hg)) hw

theorem mem_ready {ops : Array Oper} {L : Array Bool} {i : Nat} : i ∈ Region.ready .any ops L ↔ i < ops.size ∧ L.getD i true = false ∧ ∃ o, ops[i]? = some o ∧ ∀ j ∈ predsOf o, L.getD j false = true := by
  unfold Region.ready
  simp only [List.mem_filter, List.mem_range, Bool.and_eq_true, Bool.not_eq_true']
  constructor
  · rintro ⟨h1, h2, h3⟩
    refine ⟨h1, h2, ops[i], Array.getElem?_eq_getElem h1, ?_⟩
    rw [Array.getElem?_eq_getElem h1] at h3
    simp only [Option.map_some, Option.getD_some, Array.all_eq_true_iff_forall_mem] at h3
    intro j hj
    obtain ⟨e, he, rfl⟩ := List.mem_map.1 hj
    obtain ⟨he1, he2⟩ := List.mem_filter.1 he
    have := h3 e (by simpa using he1)
    rw [he2] at this
    simpa using this
  · rintro ⟨h1, h2, o, ho, h3⟩
    refine ⟨h1, h2, ?_⟩
    rw [ho]
    simp only [Option.map_some, Option.getD_some, Array.all_eq_true_iff_forall_mem]
    intro e he
    cases hbe : Region.binds .any e with
    | false => rfl
    | true => simpa using h3 e.on (List.mem_map.2 ⟨e, List.mem_filter.2 ⟨by simpa using he, hbe⟩, rfl⟩)

theorem waits_listed {L : Nat → Bool} (hcl : ∀ (i : Nat) (o : Oper), l[i]? = some o → L i = true → ∀ j ∈ predsOf o, L j = true) : ∀ (f i j : Nat) (o : Oper), l[i]? = some o → (∀ p ∈ predsOf o, L p = true) → waitsB l f i j = true → L j = true
  | 0, _, _, _, _, _, h => by simp [waitsB] at h
  | f + 1, i, j, o, ho, hp, h => by
    simp only [waitsB, ho, List.any_eq_true, Bool.or_eq_true, beq_iff_eq] at h
    obtain ⟨p, hpm, rfl | hw⟩ := h
    · exact hp p hpm
    · cases hlp : l[p]? with
      | none => cases f <;> simp [waitsB, hlp] at hw
      | some op => exact waits_listed hcl f p j op hlp (fun q hq => hcl p op hlp (hp p hpm) q hq) hw

theorem unlisted_zero {L : Array Bool} {k : Nat} (h : unlisted L k = 0) (hk : L.size = k) : L = Array.replicate k true := by
  unfold unlisted at h
  have h0 := List.eq_nil_of_length_eq_zero h
  apply Array.ext
  · simp [hk]
  · intro i h1 h2
    have : i ∉ (List.range k).filter fun i => !L.getD i true := by rw [h0]; simp
    simp only [List.mem_filter, List.mem_range, not_and] at this
    have := this (by omega)
    simpa [h1] using this

theorem unlisted_pos {L : Array Bool} {k : Nat} (h : unlisted L k ≠ 0) (hk : L.size = k) : ∃ j, j < k ∧ L[j]? = some false := by
  unfold unlisted at h
  obtain ⟨j, hj⟩ := List.exists_mem_of_ne_nil ((List.range k).filter fun i => !L.getD i true) (fun e => h (by rw [e]; rfl))
  simp only [List.mem_filter, List.mem_range] at hj
  refine ⟨j, hj.1, ?_⟩
  have hjL : j < L.size := by omega
  have := hj.2
  simp [hjL] at this
  simp [hjL, this]

theorem anyIn_of_inv (k : Nat) (hh : headB k l = true) (hs : shapeB a0.tmps.size (l.take k) = true) (hout : OutsOk ((l.take k).map (·.dst)) a0 outs) (hst : AllStable fs) {ps : List (List Nat)} (hsub : subB ps (l.take k) = true)
    (hob : Obs P Q ((l.take k).map (·.dst)) ((l.take k).map subj) fs outs w0 0 ps (l.take k))
    (hf : ∀ w, w0.grownBy w none → finalIn (fun _ a w => wpListIn (wideAt r) n P l.toArray Q (l.drop k) a w) fs w 0 (l.take k) a0) :
    ∀ (fuel : Nat) (L : Array Bool) (a : Act) (w : World), RInv (l.take k) fs a0 w0 L a w → unlisted L k + (l.length - k) ≤ fuel →
      wpAnyIn (wideAt r) n P .any l.toArray Q fuel (L ++ Array.replicate (l.length - k) false) a w := by
  unfold headB at hh
  simp only [Bool.and_eq_true, decide_eq_true_eq] at hh
  obtain ⟨⟨⟨⟨hk, hg⟩, hwait⟩, hlate⟩, hseq⟩ := hh
  have hlen : (l.take k).length = k := by simp; omega
  intro fuel
  induction fuel with
  | zero => intro L a w hI hn; omega
  | succ fuel ih =>
    intro L a w hI hn
    have hL : L.size = k := hI.size.trans hlen
    by_cases h0 : unlisted L k = 0
    · have hLk := unlisted_zero h0 hL
      have hr : Region.ready .any (l.take k).toArray L = [] := by
        rw [List.eq_nil_iff_forall_not_mem]
        intro i hi
        obtain ⟨h1, h2, _⟩ := mem_ready.1 hi
        have : i < k := by simpa [hlen] using h1
        rw [hLk] at h2
        simp [this] at h2
      have := inv_final (Q := fun _ a w => wpListIn (wideAt r) n P l.toArray Q (l.drop k) a w) hs hf hI hr
      subst hLk
      refine seq_more (l.drop k) k _ a w (fuel + 1) (fun j => by simp [List.getElem?_drop]) ?_ this (by simp; omega)
      simpa using hseq
    · obtain ⟨j0, hj0, hLj⟩ := unlisted_pos h0 hL
      have hcl : ∀ (i : Nat) (o : Oper), l[i]? = some o → (L ++ Array.replicate (l.length - k) false).getD i false = true → ∀ j ∈ predsOf o, (L ++ Array.replicate (l.length - k) false).getD j false = true := by
        intro i o ho hi j hj
        by_cases hik : i < k
        · have ho' : (l.take k)[i]? = some o := by rw [List.getElem?_take, if_pos hik]; exact ho
          have hLi : L[i]? = some true := by
            have hiL : i < L.size := by omega
            rw [Array.getD_eq_getD_getElem?, Array.getElem?_append_left hiL] at hi
            simp [hiL] at hi
            simp [hiL, hi]
          have h1 := hI.closed i o ho' hLi j hj
          have hjL : j < L.size := (Array.getElem?_eq_some_iff.1 h1).1
          rw [Array.getD_eq_getD_getElem?, Array.getElem?_append_left hjL, h1]
          rfl
        · exfalso
          rw [Array.getD_eq_getD_getElem?, Array.getElem?_append_right (by omega), Array.getElem?_replicate] at hi
          split at hi <;> simp at hi
      have hsmall : ∀ i, i ∈ Region.ready .any l.toArray (L ++ Array.replicate (l.length - k) false) → i < k := by
        intro i hi
        obtain ⟨h1, _, o, ho, hp⟩ := mem_ready.1 hi
        have ho' : l[i]? = some o := by simpa using ho
        have h1' : i < l.length := by simpa using h1
        by_cases hik : i < k
        · exact hik
        exfalso
        by_cases hek : i = k
        · subst hek
          have hw := List.all_eq_true.1 hwait j0 (List.mem_range.2 hj0)
          have := waits_listed (L := fun j => (L ++ Array.replicate (l.length - i) false).getD j false) hcl _ _ _ o ho' hp hw
          have hjL : j0 < L.size := by omega
          rw [Array.getD_eq_getD_getElem?, Array.getElem?_append_left hjL, hLj] at this
          cases this
        · have := List.all_eq_true.1 hlate i (List.mem_range.2 h1')
          simp only [ho', Bool.or_eq_true, decide_eq_true_eq, List.any_eq_true] at this
          obtain h | ⟨p, hpm, hp1, hp2⟩ := this
          · omega
          · have := hp p hpm
            rw [Array.getD_eq_getD_getElem?, Array.getElem?_append_right (by omega), Array.getElem?_replicate] at this
            split at this <;> simp at this
      have hready : ∀ i, i < k → (i ∈ Region.ready .any l.toArray (L ++ Array.replicate (l.length - k) false) ↔ i ∈ Region.ready .any (l.take k).toArray L) := by
        intro i hik
        have hiL : i < L.size := by omega
        rw [mem_ready, mem_ready]
        have e1 : (l.take k).toArray[i]? = l.toArray[i]? := by simp [List.getElem?_take, hik]
        have e2 : (L ++ Array.replicate (l.length - k) false).getD i true = L.getD i true := by simp [Array.getD_eq_getD_getElem?, Array.getElem?_append_left hiL]
        rw [e1, e2]
        have e3 : ∀ o, l.toArray[i]? = some o → ∀ j ∈ predsOf o, (L ++ Array.replicate (l.length - k) false).getD j false = L.getD j false := by
          intro o ho j hj
          have := shape_preds hs (i := i) (o := o) (by rw [List.getElem?_take, if_pos hik]; simpa using ho) hj
          have hjL : j < L.size := by omega
          simp [Array.getD_eq_getD_getElem?, Array.getElem?_append_left hjL]
        constructor
        · rintro ⟨h1, h2, o, ho, hp⟩
          exact ⟨by simp; omega, h2, o, ho, fun j hj => by rw [← e3 o ho j hj]; exact hp j hj⟩
        · rintro ⟨h1, h2, o, ho, hp⟩
          exact ⟨by simp; omega, h2, o, ho, fun j hj => by rw [e3 o ho j hj]; exact hp j hj⟩
      refine ⟨fun hr => ?_, fun i hi => ?_⟩
      · exfalso
        have hr' : Region.ready .any (l.take k).toArray L = [] := by
          rw [List.eq_nil_iff_forall_not_mem]
          intro i hi
          have hik : i < k := by have := (mem_ready.1 hi).1; simpa [hlen] using this
          have := (hready i hik).2 hi
          rw [hr] at this
          cases this
        have := all_listed hs hI hr' j0 (by omega)
        rw [hLj] at this
        cases this
      · have hik := hsmall i hi
        have hi' := (hready i hik).1 hi
        obtain ⟨_, hgf, _⟩ := mem_ready.1 hi'
        obtain ⟨o, ho, H⟩ := inv_op (Q := Q) hs hout hst hsub hob hI hi'
        have ho' : l[i]? = some o := by rw [List.getElem?_take, if_pos hik] at ho; exact ho
        have hgo := List.all_eq_true.1 hg o (List.mem_of_getElem? ho)
        simp only [Bool.and_eq_true] at hgo
        have hgn : o.guard = none := by simpa using hgo.1
        have hset : (L ++ Array.replicate (l.length - k) false).setIfInBounds i true = L.setIfInBounds i true ++ Array.replicate (l.length - k) false := by
          rw [Array.setIfInBounds_append_left (by omega)]
        have hlt := unlisted_set hik hL hgf
        have hw1 : ∀ ys, Region.wanted o ys = true := fun ys => by simp [Region.wanted, hgn]
        unfold wpOpIn
        simp only [List.getElem?_toArray, ho', hw1, if_true]
        rw [if_pos (hw1 _)] at H
        refine wpIn_of_wp hgo.2 (Oper.wp_mono (fun a' w' h' => ?_) H)
        rw [hset]
        exact ih _ a' w' h' (by omega)

/-- **A region that draws its order in its first k operations, op by op; the others come in their order.** -/
theorem wpIn_region_head {id : Nat} {a : Act} {w : World} (k : Nat) (fs : List Fact) (m : Nat) (ds ss : List (Option Tmp)) (ps : List (List Nat)) (outs : List (Tmp × Value)) (hm : P.follows .mixedOrders = true) (hsz : a.tmps.size = m)
    (hh : headB k l = true) (hs : shapeB m (l.take k) = true) (hds : (l.take k).map (·.dst) = ds) (hss : (l.take k).map subj = ss) (hps : subB ps (l.take k) = true) (hout : OutsOk ds a outs) (hst : AllStable fs)
    (hob : Obs P Q ds ss fs outs w.drew 0 ps (l.take k)) (hf : ∀ w', w.drew.grownBy w' none → finalIn (fun _ a w => wpListIn (wideAt r) n P l.toArray Q (l.drop k) a w) fs w' 0 (l.take k) a) :
    (Code.region id l.toArray true).wpIn (wideAt r) n P Q a w := by
  subst hsz hds hss
  refine wpIn_region_any hm ?_
  have hk : k < l.length := by unfold headB at hh; simp only [Bool.and_eq_true, decide_eq_true_eq] at hh; exact hh.1.1.1.1
  have e : Array.replicate l.toArray.size false = Array.replicate k false ++ Array.replicate (l.length - k) false := by
    rw [Array.replicate_append_replicate]
    congr 1
    simp
    omega
  rw [e]
  refine anyIn_of_inv (w0 := w.drew) k hh hs hout hst hps hob hf _ _ a w.drew ⟨by simp; omega, ⟨rfl, rfl, rfl, Nat.le_refl _, fun _ _ _ => rfl⟩, rfl, rfl, fun _ _ => rfl, ?_, ?_⟩ ?_
  · intro i o _ hL
    exfalso
    rw [Array.getElem?_replicate] at hL
    split at hL <;> simp at hL
  · intro i o _ hL
    exfalso
    rw [Array.getElem?_replicate] at hL
    split at hL <;> simp at hL
  · have : unlisted (Array.replicate k false) k ≤ k := by
      unfold unlisted
      refine Nat.le_trans (List.length_filter_le _ _) (by simp)
    simp
    omega

theorem head_round {id d : Nat} {a : Act} {w : World} (k : Nat) (fs : List Fact) (m : Nat) (ds ss : List (Option Tmp)) (ps : List (List Nat)) (outs : List (Tmp × Value)) (hm : P.follows .mixedOrders = true) (hsz : a.tmps.size = m)
    (hh : headB k l = true) (hs : shapeB m (l.take k) = true) (hds : (l.take k).map (·.dst) = ds) (hss : (l.take k).map subj = ss) (hps : subB ps (l.take k) = true) (hout : OutsOk ds a outs) (hst : AllStable fs)
    (hob : Obs P Q ds ss fs outs w.drew 0 ps (l.take k)) (hf : ∀ w', w.drew.grownBy w' none → finalIn (fun _ a w => wpListIn (Fence.wide.inRound d) n P l.toArray Q (l.drop k) a w) fs w' 0 (l.take k) a) :
    (Code.region id l.toArray true).wpIn (Fence.wide.inRound d) n P Q a w :=
  wpIn_region_head (r := some d) k fs m ds ss ps outs hm hsz hh hs hds hss hps hout hst hob hf

/-- The same of no fence: the others by the wide fence's walk. -/
theorem head_plain {id : Nat} {a : Act} {w : World} (k : Nat) (fs : List Fact) (m : Nat) (ds ss : List (Option Tmp)) (ps : List (List Nat)) (outs : List (Tmp × Value)) (hm : P.follows .mixedOrders = true) (hsz : a.tmps.size = m)
    (hh : headB k l = true) (hs : shapeB m (l.take k) = true) (hds : (l.take k).map (·.dst) = ds) (hss : (l.take k).map subj = ss) (hps : subB ps (l.take k) = true) (hout : OutsOk ds a outs) (hst : AllStable fs)
    (hob : Obs P Q ds ss fs outs w.drew 0 ps (l.take k)) (hf : ∀ w', w.drew.grownBy w' none → finalIn (fun _ a w => wpListIn Fence.wide 0 P l.toArray Q (l.drop k) a w) fs w' 0 (l.take k) a) :
    (Code.region id l.toArray true).wp P Q a w :=
  wpIn_wide.1 (wpIn_region_head (r := none) (n := 0) k fs m ds ss ps outs hm hsz hh hs hds hss hps hout hst hob hf)

/-- The same at the wide fence, in no round. -/
theorem head_wide {id : Nat} {a : Act} {w : World} (k : Nat) (fs : List Fact) (m : Nat) (ds ss : List (Option Tmp)) (ps : List (List Nat)) (outs : List (Tmp × Value)) (hm : P.follows .mixedOrders = true) (hsz : a.tmps.size = m)
    (hh : headB k l = true) (hs : shapeB m (l.take k) = true) (hds : (l.take k).map (·.dst) = ds) (hss : (l.take k).map subj = ss) (hps : subB ps (l.take k) = true) (hout : OutsOk ds a outs) (hst : AllStable fs)
    (hob : Obs P Q ds ss fs outs w.drew 0 ps (l.take k)) (hf : ∀ w', w.drew.grownBy w' none → finalIn (fun _ a w => wpListIn Fence.wide n P l.toArray Q (l.drop k) a w) fs w' 0 (l.take k) a) :
    (Code.region id l.toArray true).wpIn Fence.wide n P Q a w :=
  wpIn_region_head (r := none) k fs m ds ss ps outs hm hsz hh hs hds hss hps hout hst hob hf

end Go.Proofs.Ytojbkhheaondhaa
