/- Package patset: the numbers of beginnings, in a map of the call's own. Go's library: bytes.Clone. -/
import Derived.Test.YtojbkhheaondhaaPlainNumbers
import Derived.Test.YtojbkhheaondhaaCollect
import Derived.DeepKeys4
import Derived.MapKept
import Derived.Carry
import Derived.WideKeyMaps
import Derived.WideLaws
import Derived.Test.YtojbkhheaondhaaK6
import Derived.Test.YtojbkhheaondhaaK7
import Derived.Laws.OwnMore
import Derived.Laws.BytesArg
import Derived.Lib.SliceRun
import Derived.Test.YtojbkhheaondhaaK12
import Derived.Test.YtojbkhheaondhaaK8
import Derived.Test.YtojbkhheaondhaaK1
import Derived.Test.YtojbkhheaondhaaK16
set_option linter.unusedSimpArgs false
set_option linter.unusedVariables false
set_option maxRecDepth 100000
namespace Go.Proofs.Ytojbkhheaondhaa
open Go.RowKit PlainNumbers Go.ChangeMaps Go.MapKept

theorem bgn_wide : (match Try.prog.underlying 115 with | some (.array _ _) | some (.struct _) => true | _ => false) = true := by kernel_rfl
theorem bgn_row : 115 < Try.prog.types.size := of_decide_eq_true (by kernel_rfl)
theorem bgn_law : WideMaps.KeyLaw Try.prog 115 := deep_law_laid (by kernel_rfl) (m := 2) (by omega) bgn_row (by kernel_rfl) bgn_wide
theorem bgn_fields : (match Try.prog.underlying 115 with | some (.struct fs) => some (fs.toList.map (fun f => (f.name != "_", f.type, f.offset))) | _ => none) = some [(true, 3, 0), (true, 5, 1)] := by kernel_rfl
theorem bgn_cells : Try.prog.cellsOf 115 = 2 ∧ Try.prog.cellsOf 3 = 1 ∧ Try.prog.cellsOf 5 = 1 := ⟨by kernel_rfl, by kernel_rfl, by kernel_rfl⟩
theorem bgn_keyType : Try.prog.keyType 115 = true := by kernel_rfl
theorem num_map : Try.prog.underlying 112 = some (.map 115 3) := by kernel_rfl
theorem num_zero (w : World) : (zeroValue 3).run Try.prog w = .ok (.int .i64 0) w := by kernel_rfl

def keyV (k : Int × Int) : Value := .agg #[.int .i64 k.1, .int .u8 k.2]
def KeyOk (k : Int × Int) : Prop := (Lit.int .i64 k.1).wf = true ∧ (Lit.int .u8 k.2).wf = true

theorem keyV_inj {a b : Int × Int} (h : keyV a = keyV b) : a = b := by
  unfold keyV at h
  injection h with h
  have h1 := congrArg Array.toList h
  simp at h1
  exact Prod.ext h1.1 h1.2

theorem key_of (k : Int × Int) (h : KeyOk k) : ∃ l, keyOf Try.prog 115 (keyV k) = some l := by
  obtain ⟨m, hm⟩ : ∃ m, Try.prog.types.size = m + 1 := ⟨Try.prog.types.size - 1, by have := bgn_row; omega⟩
  obtain ⟨c1, c2, c3⟩ := bgn_cells
  have hkt := bgn_keyType
  have hf := bgn_fields
  obtain ⟨h1, h2⟩ := h
  cases hu : Try.prog.underlying 115 with
  | none => rw [hu] at hf; cases hf
  | some d =>
    rw [hu] at hf
    cases d
    case struct fs =>
      simp only [Option.some.injEq] at hf
      obtain ⟨f0, f1, hfs⟩ : ∃ f0 f1, fs.toList = [f0, f1] := by
        match he : fs.toList with
        | [] => rw [he] at hf; simp at hf
        | [_] => rw [he] at hf; simp at hf
        | [a, b] => exact ⟨a, b, rfl⟩
        | _ :: _ :: _ :: _ => rw [he] at hf; simp at hf
      rw [hfs] at hf
      simp only [List.map_cons, List.map_nil, List.cons.injEq, Prod.mk.injEq, and_true] at hf
      obtain ⟨⟨n0, t0, o0⟩, ⟨n1, t1, o1⟩⟩ := hf
      have hall : fs.all (fun f => f.name != "_") = true := by
        rw [← Array.all_toList, hfs]
        simp only [List.all_cons, List.all_nil, n0, n1, Bool.and_self]
      unfold keyOf keyV
      simp only [hu]
      rw [if_pos (by simp [hkt, Value.formed, hu, c1]), hm]
      unfold Program.keyLits
      simp only [hu, Value.cells]
      rw [if_pos ⟨by rw [c1]; rfl, hall⟩, hfs, List.mapM_cons, List.mapM_cons, List.mapM_nil, t0, o0, t1, o1, c2, c3]
      simp [Program.keyLits, Try.underlying3, Try.underlying5, h1, h2]
    all_goals (simp at hf)

/-- Block b holds the numbers of the keys ks: of each its place from 1 on. -/
def MapAt (w : World) (b : Nat) (ks : List (Int × Int)) : Prop :=
  ∃ es clock, w.heap[b]? = some (.map es clock) ∧ es.size = ks.length ∧ (∀ (i : Nat) (e : MapEntry), es.toList[i]? = some e → e.key = keyV (ks.getD i (0, 0)) ∧ e.val = .int .i64 ((i + 1 : Nat) : Int)) ∧ ks.Nodup ∧ ∀ k ∈ ks, KeyOk k

theorem MapAt.kept {w w' : World} {b : Nat} {ks : List (Int × Int)} {row : Option Nat} (h : MapAt w b ks) (hg : w.grownBy w' row) (hne : some b ≠ row) : MapAt w' b ks := by
  obtain ⟨es, clock, hb, hr⟩ := h
  exact ⟨es, clock, (hg.block b (Array.getElem?_eq_some_iff.1 hb).1 hne).trans hb, hr⟩
theorem MapAt.lt {w : World} {b : Nat} {ks : List (Int × Int)} (h : MapAt w b ks) : b < w.heap.size := by
  obtain ⟨es, clock, hb, hr⟩ := h
  exact (Array.getElem?_eq_some_iff.1 hb).1
theorem MapAt.made (w : World) : MapAt (w.alloc (.map #[] 0)) w.heap.size [] := ⟨#[], 0, World.alloc_heap_new w _, rfl, fun i e h => by simp at h, List.nodup_nil, fun k h => by cases h⟩

theorem getD_at {α : Type} {l : List α} {i : Nat} {d : α} (h : i < l.length) : l.getD i d = l[i] := by simp [List.getD, h]

/-- What a search in it tells. -/
theorem MapAt.find {w : World} {b : Nat} {ks : List (Int × Int)} (h : MapAt w b ks) (k : Int × Int) (hk : KeyOk k) :
    ∃ es clock, w.heap[b]? = some (.map es clock) ∧ es.size = ks.length ∧
      (if k ∈ ks then (Instr.findKey 115 (keyV k) es.toList).run Try.prog w = .ok (some (ks.idxOf k, .int .i64 (numOf ks k : Nat))) w
       else (Instr.findKey 115 (keyV k) es.toList).run Try.prog w = .ok none w) := by
  obtain ⟨es, clock, hb, hs, he, hn, ho⟩ := h
  obtain ⟨l, hl⟩ := key_of k hk
  have hsl : es.toList.length = ks.length := by rw [Array.length_toList, hs]
  refine ⟨es, clock, hb, hs, ?_⟩
  rcases bgn_law.find w hl es.toList (fun e hm => by
    obtain ⟨i, hi, rfl⟩ := List.mem_iff_getElem.1 hm
    rw [(he i _ (List.getElem?_eq_getElem hi)).1, getD_at (by omega)]
    exact key_of _ (ho _ (List.getElem_mem _))) with ⟨h1, h2⟩ | ⟨j, e0, h1, h2, h3⟩
  · rw [if_neg, h1]
    intro hm
    obtain ⟨i, hi, rfl⟩ := List.mem_iff_getElem.1 hm
    refine h2 es.toList[i] (List.getElem_mem _) ?_
    rw [(he i _ (List.getElem?_eq_getElem (by omega))).1, getD_at hi]
  · obtain ⟨e1, e2⟩ := he j e0 h2
    have hj : j < ks.length := by have := (List.getElem?_eq_some_iff.1 h2).1; omega
    rw [getD_at hj, h3] at e1
    have ek := keyV_inj e1
    subst ek
    have hi : ks.idxOf ks[j] = j := hn.idxOf_getElem j hj
    rw [if_pos (List.getElem_mem hj), h1, e2]
    unfold numOf
    rw [hi]

theorem look_ok {w : World} {b : Nat} {ks : List (Int × Int)} (h : MapAt w b ks) (k : Int × Int) (hk : KeyOk k) :
    (Instr.lookup 112 (.map (some b)) (keyV k) true).run Try.prog w = .ok (.tuple #[.int .i64 (if k ∈ ks then (numOf ks k : Nat) else 0), .bool (decide (k ∈ ks))]) w := by
  obtain ⟨es, clock, hb, hs, hf⟩ := h.find k hk
  obtain ⟨l, hl⟩ := key_of k hk
  by_cases hm : k ∈ ks
  · rw [if_pos hm] at hf
    simp [Instr.lookup, run_underlying num_map, MapKept.run_getObj_map hb, bgn_law.check w _ hl, hf, Result.andThen, hm]
  · rw [if_neg hm] at hf
    simp [Instr.lookup, run_underlying num_map, MapKept.run_getObj_map hb, bgn_law.check w _ hl, hf, num_zero, Result.andThen, hm]

theorem look_there {w : World} {b : Nat} {ks : List (Int × Int)} (h : MapAt w b ks) (k : Int × Int) (hk : KeyOk k) (hm : k ∈ ks) :
    (Instr.lookup 112 (.map (some b)) (keyV k) false).run Try.prog w = .ok (.int .i64 (numOf ks k : Nat)) w := by
  obtain ⟨es, clock, hb, hs, hf⟩ := h.find k hk
  obtain ⟨l, hl⟩ := key_of k hk
  rw [if_pos hm] at hf
  simp [Instr.lookup, run_underlying num_map, MapKept.run_getObj_map hb, bgn_law.check w _ hl, hf, Result.andThen, hm]

theorem update_new {w : World} {b : Nat} {ks : List (Int × Int)} (h : MapAt w b ks) (k : Int × Int) (hk : KeyOk k) (hm : k ∉ ks) :
    ∃ w', (Instr.mapUpdate 112 (.map (some b)) (keyV k) (.int .i64 ((ks.length : Int) + 1))).run Try.prog w = .ok () w' ∧ MapAt w' b (ks ++ [k]) ∧ w.grownBy w' (some b) := by
  obtain ⟨es, clock, hb, hs, hf⟩ := h.find k hk
  obtain ⟨es', clock', hb', hs', he, hn, ho⟩ := h
  rw [hb] at hb'
  injection hb' with hb'
  injection hb' with hb1 hb2
  subst hb1
  obtain ⟨l, hl⟩ := key_of k hk
  rw [if_neg hm] at hf
  refine ⟨setBlock w b (.map (es.push ⟨keyV k, .int .i64 ((ks.length : Int) + 1), clock⟩) (clock + 1)), by
    simp [Instr.mapUpdate, run_underlying num_map, MapKept.run_getObj_map hb, bgn_law.check w false hl, hf, MapKept.run_setObj_map _ hb, Result.andThen, setBlock],
    ⟨_, _, heap_setBlock_same hb _, by simp [hs], fun i e hi => ?_, ?_, ?_⟩, ⟨rfl, rfl, rfl, by simp [setBlock], fun i _ hi => heap_setBlock_other hb _ (fun e => hi (by rw [e]))⟩⟩
  · rw [Array.toList_push] at hi
    have hsl : es.toList.length = ks.length := by rw [Array.length_toList, hs]
    by_cases hlt : i < ks.length
    · rw [List.getElem?_append_left (by omega)] at hi
      obtain ⟨a1, a2⟩ := he i e hi
      exact ⟨by rw [a1]; simp [List.getD, List.getElem?_append_left hlt], a2⟩
    · have hil : i = ks.length := by
        have := (List.getElem?_eq_some_iff.1 hi).1
        simp at this
        omega
      subst hil
      rw [← hsl] at hi
      simp at hi
      subst hi
      exact ⟨by simp [List.getD], by simp [hs]⟩
  · rw [List.nodup_append]
    refine ⟨hn, by simp, fun a ha c hc => ?_⟩
    obtain rfl : c = k := by simpa using hc
    rintro rfl
    exact hm ha
  · intro x hx
    rcases List.mem_append.1 hx with hx | hx
    · exact ho x hx
    · obtain rfl : x = k := by simpa using hx
      exact hk

/-- The update, at the operation. -/
theorem wpList_update_new (w : World) {ops : Array Oper} {rest : List Oper} {o : Oper} {a : Act} {Q : Exit → Act → World → Prop}
    (hg : o.guard = none) (m x v : Operand) (hop : o.op = Op.mapUpdate 112 m x v) (b : Nat) (ks : List (Int × Int)) (k : Int × Int) (hM : MapAt w b ks) (hk : KeyOk k) (hm : k ∉ ks)
    (em : a.eval m = .map (some b)) (ex : a.eval x = keyV k) (ev : a.eval v = .int .i64 ((ks.length : Int) + 1))
    (hK : ∀ w', MapAt w' b (ks ++ [k]) → w.grownBy w' (some b) → wpList Try.prog ops Q rest (a.put o.dst undef) w') :
    wpList Try.prog ops Q (o :: rest) a w := by
  refine wpList_plain hg fun K' hK' => ?_
  obtain ⟨w', hrun, r1, r2⟩ := update_new hM k hk hm
  unfold Oper.wp
  simp [execOp, hop, em, ex, ev, hrun, Result.andThen]
  exact hK' _ _ (hK w' r1 r2)

theorem MapAt.len {w : World} {b : Nat} {ks : List (Int × Int)} (h : MapAt w b ks) : (Builtin.len_ #[112] 3 #[.map (some b)]).run Try.prog w = .ok (.int .i64 (ks.length : Nat)) w := by
  obtain ⟨es, clock, hb, hs, _⟩ := h
  rw [run_len_map w 112 3 b es clock num_map hb, hs]
  rfl

end Go.Proofs.Ytojbkhheaondhaa

/- Package patset: the number of a beginning. -/
namespace Go.Proofs.Ytojbkhheaondhaa
open Go.RowKit PlainNumbers Go.ChangeMaps Go.MapKept

theorem grown_none_some {w w' : World} {b : Nat} (h : w.grownBy w' none) : w.grownBy w' (some b) :=
  ⟨h.os, h.tape, h.output, h.size, fun k hk _ => h.block k hk (by simp)⟩

theorem grown_trans_some {w w1 w' : World} {b : Nat} (h : w.grownBy w1 none) (h' : w1.grownBy w' (some b)) : w.grownBy w' (some b) :=
  ⟨h'.os.trans h.os, h'.tape.trans h.tape, h'.output.trans h.output, Nat.le_trans h.size h'.size, fun k hk hne => (h'.block k (Nat.lt_of_lt_of_le hk h.size) hne).trans (h.block k hk (by simp))⟩

theorem numOf_le {ks : List (Int × Int)} {k : Int × Int} : numOf ks k ≤ ks.length + 1 := by
  unfold numOf
  have := List.idxOf_le_length (a := k) (l := ks)
  omega

set_option maxRecDepth 100000 in
set_option maxHeartbeats 1000000 in
theorem numbersOf_is (b : Nat) (ks : List (Int × Int)) (n c : Int) (w : World) (hM : MapAt w b ks) (hk : KeyOk (n, c)) (hl : ks.length ≤ 100000) :
    Calls Try.prog 92 #[.map (some b), .agg #[.int .i64 n, .int .u8 c]] w fun e w' =>
      e = .returned (.int .i64 (numOf ks (n, c) : Nat)) ∧ w.grownBy w' (some b) ∧ MapAt w' b (addKey ks (n, c)) := by
  have hM1 := hM.kept (grown_alloc (grown_refl w none) (.cells #[.int .i64 n, .int .u8 c] 115)) (by simp)
  have hH1 : Holds (w.alloc (.cells #[.int .i64 n, .int .u8 c] 115)) w.heap.size 115 #[.int .i64 n, .int .u8 c] := Holds.new _ _ _
  have hbne : b ≠ w.heap.size := by have := hM.lt; omega
  have g1 := grown_alloc (grown_refl w none) (.cells #[.int .i64 n, .int .u8 c] 115)
  have hlk := look_ok hM1 (n, c) hk
  unfold keyV at hlk
  have hle := hid (numOf_le (ks := ks) (k := (n, c)))
  by_cases hm : (n, c) ∈ ks
  · have hadd : Hid (addKey ks (n, c) = ks) := if_pos hm
    have hlt := look_there hM1 (n, c) hk hm
    unfold keyV at hlt
    rw [if_pos hm, decide_eq_true hm] at hlk
    replace hm := hid hm
    replace hM1 := hid hM1
    replace g1 := hid g1
    clear hM hk
    obtain ⟨r, hr⟩ : ∃ r : Int, ((numOf ks (n, c) : Nat) : Int) = r := ⟨_, rfl⟩
    rw [hr] at hlk hlt ⊢
    replace hr := hid hr
    go_enter Try.func92, Try.ntmps92
    go_wp2_with fail
    go_ret
    exact ⟨rfl, (grown_none_some g1.out), by rw [hadd.out]; exact hM1.out⟩
  · have hadd : Hid (addKey ks (n, c) = ks ++ [(n, c)]) := if_neg hm
    have hnum : Hid (numOf ks (n, c) = ks.length + 1) := by
      unfold numOf
      rw [List.idxOf_eq_length hm]
      exact hid rfl
    rw [if_neg hm, decide_eq_false hm] at hlk
    have hlen := hM1.len
    have hmm : ((n, c) : Int × Int) ∈ ks ++ [(n, c)] := by simp
    have hlt := hid (fun (w' : World) (h : MapAt w' b (ks ++ [(n, c)])) => look_there h (n, c) hk hmm)
    rw [hnum.out]
    replace hm := hid hm
    replace hM1 := hid hM1
    replace hk := hid hk
    replace g1 := hid g1
    replace hH1 := hid hH1
    have hnum2 : Hid (numOf (ks ++ [(n, c)]) (n, c) = ks.length + 1) := by
      unfold numOf
      rw [List.idxOf_append, if_neg hm.out, List.idxOf_cons_self]
      exact hid (by omega)
    clear hM
    go_enter Try.func92, Try.ntmps92
    go_wp2_with (at_mapUpdate; refine wpList_update_new _ rfl _ _ _ rfl b ks (n, c) hM1.out hk.out hm.out rfl rfl (congrArg (Value.int .i64) (Int.add_comm 1 _)) ?_; intro w1 hM2 hg2; have hlk2 := hlt.out w1 hM2; unfold keyV at hlk2; rw [hnum2.out] at hlk2; have hH2 := hH1.out.kept hg2 (fun e => hbne (by injection e)); have d0 := hH2.cell 0; have d1 := hH2.cell 1; simp at d0 d1; clear hH2)
    go_ret
    exact ⟨rfl, grown_trans_some g1.out hg2, by rw [hadd.out]; exact hM2⟩

end Go.Proofs.Ytojbkhheaondhaa

namespace Go.Proofs.Ytojbkhheaondhaa
open Go.RowKit

theorem clone_is (A : Option Addr) (c : Nat) (xs : List Int) (w : World) (hl : xs.length ≤ 100000) (hA : Arr w .u8 A xs) :
    Calls Try.prog 77 #[.slice A xs.length c] w (Owns xs w) := by
  cases A with
  | none =>
    obtain rfl : xs = [] := by
      by_cases hz : xs = []
      · exact hz
      · obtain ⟨_, _, h0, _⟩ := hA hz
        cases h0
    clear hA
    have hnil := fun A n c => Lib.run_eql_slice_nil (P := Try.prog) w 28 5 A n c 0 0 Try.underlying28
    go_enter Try.func77, Try.ntmps77
    go_wp2_with fail
    go_ret
    exact ⟨_, rfl, World.ownsRow_nil _ _ _ _, Below.refl _ _⟩
  | some a =>
    obtain ⟨i0, hi, hz0, hz1, hz2⟩ := info_parts Try.info5
    have hrow := hid (World.ownsRow_made (size := 1) (e := 5) (base := w.heap.size) w #[] 0 (Nat.le_refl _) (by unfold maxLen; omega) rfl)
    have hA1 := hid (hA.grown (grown_alloc (grown_refl w none) (.cells #[] 5)))
    clear hA
    have hnil := fun A n c => Lib.run_eql_slice_nil (P := Try.prog) w 28 5 A n c 0 0 Try.underlying28
    go_enter Try.func77, Try.ntmps77
    go_wp2_with (at_builtin; (refine wpList_append_all rfl _ _ 28 rfl w.heap.size 5 i0 .u8 1 Try.underlying28 hi hz0 hz1 hz2 _ [] xs _ _ _ _ hrow.out hA1.out rfl rfl rfl (by decide) (by simp; omega) (by simp) ?_; intro v7 w7 hrow7 hB7; rw [List.nil_append] at hrow7))
    go_ret
    exact ⟨_, rfl, hrow7, (Below.refl _ _).trans (((Below.refl w.heap.size w).alloc (Nat.le_refl _) _).trans hB7)⟩

end Go.Proofs.Ytojbkhheaondhaa

/- Package patset: the words as a set has them, one by one. -/
namespace Go.Proofs.Ytojbkhheaondhaa
open Go.RowKit PlainLetter PlainPatset Go.Shelf
attribute [local go_sem] Oper.semAt_some

theorem run_store_func (P : Program) (w : World) (a : Addr) (fn : Fn) (x y : Array Value) (m : Mode) : (store a (.func fn x y) m).run P w = stored P w a (.func fn x y) m := run_store P w a _ m rfl
attribute [local go_sem] run_store_func

def ownF (f : Bool) : Nat := if f then 78 else 77
def isLook (W : World) (b : Nat) (f : Bool) (P : Option Addr) (n c : Nat) : Prop := Holds W b 86 #[.slice P n c, .bool f]
def isOwnF (W : World) (b : Nat) (f : Bool) : Prop := Holds W b 68 #[.func (.func (ownF f)) #[] #[]]

theorem told_is (f : Bool) (P : Option Addr) (n c : Nat) (w : World) :
    Calls Try.prog 61 #[.agg #[.slice P n c, .bool f]] w fun e w' =>
      e = .returned (.func (.func 79) #[] #[.pointer (some ⟨w.heap.size, 0, none⟩), .pointer (some ⟨w.heap.size + 1, 0, none⟩)]) ∧
      isLook w' w.heap.size f P n c ∧ isOwnF w' (w.heap.size + 1) f ∧ w.grownBy w' none ∧ w'.heap.size = w.heap.size + 2 := by
  have HL := Holds.new w 86 #[.slice P n c, .bool f]
  have hG := grown_alloc (grown_refl w none) (.cells #[.slice P n c, .bool f] 86)
  have hsz : (w.alloc (.cells #[.slice P n c, .bool f] 86)).heap.size = w.heap.size + 1 := by simp
  obtain ⟨h, hh⟩ : ∃ h, w.heap.size = h := ⟨_, rfl⟩
  go_enter Try.func61, Try.ntmps61
  go_upto_region 1 with fail
  rw [hh] at HL hsz
  obtain ⟨w1, hw1⟩ : ∃ w1, w.alloc (.cells #[.slice P n c, .bool f] 86) = w1 := ⟨_, rfl⟩
  rw [hw1] at HL hG hsz ⊢
  clear hw1
  replace hh := hid hh
  have b1 := (HL.cell 1).trans (show _ = some (Value.bool f) from rfl)
  have lb := HL.lt
  cases f
  all_goals
    go_wp2_with fail
    rw [hh.out]
    go_ret
    exact ⟨rfl, HL.alloc _, Holds.new_at _ _ hsz, grown_alloc hG _, by simpa using hsz⟩

/-- A word as a set has it. -/
theorem ownWord_is (f : Bool) (A : Option Addr) (c : Nat) (xs : List Int) (w : World) (hl : xs.length ≤ 100000) (hb : Bytes xs) (hA : Arr w .u8 A xs) :
    Calls Try.prog (ownF f) #[.slice A xs.length c] w fun e w' => ∃ A' c', e = .returned (.slice A' xs.length c') ∧ OwnBytes w' w.heap.size (A', foldIf f xs, c') ∧ w.grownBy w' none := by
  cases f
  · refine (clone_is A c xs w hl hA).mono ?_
    rintro e w' ⟨v, rfl, h1, h2⟩
    obtain ⟨A', c', rfl, _, _⟩ := own_form h1
    exact ⟨A', c', rfl, h1, below_grown h2⟩
  · refine (letFolded_is A c xs w hl hb hA).mono ?_
    rintro e w' ⟨v, rfl, h1, h2⟩
    obtain ⟨A', c', rfl, _, _⟩ := own_form h1
    exact ⟨A', c', by simp, h1, below_grown h2⟩

set_option maxHeartbeats 2000000 in
theorem told_in (l bl bf base : Nat) (f : Bool) (P : Option Addr) (c : Nat) (As : Nat → Option Addr) (Cs : Nat → Nat) (xss : List (List Int)) (hn : xss.length ≤ 100000) (hS : ∀ k, (xss.getD k []).length ≤ 100000) (hB : ∀ k, Bytes (xss.getD k []))
    (J : Nat → World → Prop) (W0 : World)
    (hJs : ∀ k W, J k W → RowsAt W P As Cs xss ∧ isLook W bl f P xss.length c ∧ isOwnF W bf f ∧ base ≤ W.heap.size)
    (hG : ∀ k W W', J k W → W.grownBy W' none → J k W')
    (hY : ∀ k W A cw, k < xss.length → J k W → OwnBytes W base (A, foldIf f (xss.getD k []), cw) → YieldAt Fence.wide 0 Try.prog l #[.slice A (xss.getD k []).length cw] W (fun e W' => e = .returned (.bool true) ∧ J (k + 1) W'))
    (h0 : J 0 W0) :
    CallsIn Fence.wide 0 Try.prog 79 #[.func (.yield l) #[] #[], .pointer (some ⟨bl, 0, none⟩), .pointer (some ⟨bf, 0, none⟩)] W0 fun e W' => (∃ v, e = .returned v) ∧ J xss.length W' := by
  have hwd := fun A c xs w a b d => ownWord_is f A c xs w a b d
  replace hS := hid hS
  replace hB := hid hB
  replace hJs := hid hJs
  replace hG := hid hG
  replace hY := hid hY
  replace hwd := hid hwd
  obtain ⟨_, hl0, hf0, _⟩ := hJs.out _ _ h0
  have hc0 := (hl0.cell 0).trans (show _ = some (Value.slice P xss.length c) from rfl)
  have hlt0 := hl0.lt
  clear hl0 hf0
  cases f
  all_goals
    refine callsIn_of_wp Try.func79 rfl trivial ?_ rfl
    simp only [Try.ntmps79, List.size_toArray, List.length_cons, List.length_nil, Nat.reduceAdd, Nat.reduceSub, Array.replicate_succ, Array.replicate_zero, List.push_toArray, List.append_toArray, List.nil_append, List.cons_append]
    gi_wp2
    gi_loopw [10] (fun i wr => ∃ k : Nat, k ≤ xss.length ∧ i = .int .i64 k ∧ J k wr) (fun i _ => xss.length - (intOf i).toNat)
    case atStart => exact ⟨0, by omega, rfl, h0⟩
    case round =>
      clear hc0 h0 hlt0
      obtain ⟨k, hk, rfl, hJ⟩ := hrel
      by_cases hlt : k < xss.length
      · obtain ⟨hrows, hlk, hfn, hbs⟩ := hJs.out _ _ hJ
        obtain ⟨b, off, rfl, hb, hcell, hrow⟩ := hrows k hlt
        have hfc := (hfn.cell 0).trans (show _ = some (Value.func (.func (ownF _)) #[] #[]) from rfl)
        simp only [ownF, if_true, Bool.false_eq_true, if_false] at hfc
        clear hrows hlk hfn
        have hsk := hS.out k
        have hbk := hid (hB.out k)
        have hyk := hid (fun W A cw => hY.out k W A cw hlt)
        generalize hxs : xss.getD k [] = xs at hcell hrow hsk hbk hyk
        replace hxs := hid hxs
        replace hrow := hid hrow
        replace hbs := hid hbs
        gi_wp2
        refine ⟨trivial, rfl, ?_⟩
        refine (callsIn_wide.2 (hwd.out (As k) (Cs k) xs wr hsk hbk.out hrow.out)).mono ?_
        rintro e w2 ⟨A', c', rfl, hown, hg⟩
        have hJ2 := hG.out _ _ _ hJ hg
        have hy := hyk.out w2 A' c' hJ2 (hown.mono hbs.out)
        clear hJ hJ2 hown hg hcell hfc
        obtain ⟨fn, tmps, assign, body, hyy, hR⟩ := hy
        gi_wp2
        refine ⟨rfl, hR.mono ?_⟩
        rintro e W2 ⟨rfl, hJ3⟩
        gi_wp2
        go_roundw
        case rel => exact ⟨k + 1, by omega, by go_num, hJ3⟩
        case measure => simp [intOf]; omega
      · obtain rfl : k = xss.length := by omega
        gi_wp2
        go_end0
        exact ⟨⟨_, rfl⟩, hJ⟩
end Go.Proofs.Ytojbkhheaondhaa
