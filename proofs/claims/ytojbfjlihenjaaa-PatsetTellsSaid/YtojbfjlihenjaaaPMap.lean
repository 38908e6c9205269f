/- Package patset: the numbers of beginnings, in a map of the call's own. -/
import Derived.Test.YtojbfjlihenjaaaPlainNumbers
import Derived.Test.YtojbfjlihenjaaaCollect
import Derived.DeepKeys4
import Derived.MapKept
import Derived.Carry
import Derived.WideKeyMaps
import Derived.WideLaws
set_option linter.unusedSimpArgs false
set_option linter.unusedVariables false
namespace Go.Proofs.Ytojbfjlihenjaaa
open Go.RowKit PlainNumbers Go.ChangeMaps Go.MapKept

theorem bgn_wide : (match Try.prog.underlying 91 with | some (.array _ _) | some (.struct _) => true | _ => false) = true := by kernel_rfl
theorem bgn_row : 91 < Try.prog.types.size := of_decide_eq_true (by kernel_rfl)
theorem bgn_law : WideMaps.KeyLaw Try.prog 91 := deep_law_laid (by kernel_rfl) (m := 2) (by omega) bgn_row (by kernel_rfl) bgn_wide
theorem bgn_fields : (match Try.prog.underlying 91 with | some (.struct fs) => some (fs.toList.map (fun f => (f.name != "_", f.type, f.offset))) | _ => none) = some [(true, 3, 0), (true, 5, 1)] := by kernel_rfl
theorem bgn_cells : Try.prog.cellsOf 91 = 2 ∧ Try.prog.cellsOf 3 = 1 ∧ Try.prog.cellsOf 5 = 1 := ⟨by kernel_rfl, by kernel_rfl, by kernel_rfl⟩
theorem bgn_keyType : Try.prog.keyType 91 = true := by kernel_rfl
theorem num_map : Try.prog.underlying 88 = some (.map 91 3) := by kernel_rfl
theorem num_zero (w : World) : (zeroValue 3).run Try.prog w = .ok (.int .i64 0) w := by kernel_rfl

def keyV (k : Int × Int) : Value := .agg #[.int .i64 k.1, .int .u8 k.2]
def KeyOk (k : Int × Int) : Prop := (Lit.int .i64 k.1).wf = true ∧ (Lit.int .u8 k.2).wf = true

theorem keyV_inj {a b : Int × Int} (h : keyV a = keyV b) : a = b := by
  unfold keyV at h
  injection h with h
  have h1 := congrArg Array.toList h
  simp at h1
  exact Prod.ext h1.1 h1.2

theorem key_of (k : Int × Int) (h : KeyOk k) : ∃ l, keyOf Try.prog 91 (keyV k) = some l := by
  obtain ⟨m, hm⟩ : ∃ m, Try.prog.types.size = m + 1 := ⟨Try.prog.types.size - 1, by have := bgn_row; omega⟩
  obtain ⟨c1, c2, c3⟩ := bgn_cells
  have hkt := bgn_keyType
  have hf := bgn_fields
  obtain ⟨h1, h2⟩ := h
  cases hu : Try.prog.underlying 91 with
  | none => rw [hu] at hf; cases hf
  | some d =>
    rw [hu] at hf
    cases d
    case struct fs =>
      simp only [Option.some.injEq] at hf
      obtain ⟨f0, f1, hfs⟩ : ∃ f0 f1, fs.toList = [f0, f1] := by
        match he : fs.toList with
        | [] => rw [he] at hf; simp at hf
        | [_] => rw [he] at hf; simp at hf
        | [a, b] => exact ⟨a, b, rfl⟩
        | _ :: _ :: _ :: _ => rw [he] at hf; simp at hf
      rw [hfs] at hf
      simp only [List.map_cons, List.map_nil, List.cons.injEq, Prod.mk.injEq, and_true] at hf
      obtain ⟨⟨n0, t0, o0⟩, ⟨n1, t1, o1⟩⟩ := hf
      have hall : fs.all (fun f => f.name != "_") = true := by
        rw [← Array.all_toList, hfs]
        simp only [List.all_cons, List.all_nil, n0, n1, Bool.and_self]
      unfold keyOf keyV
      simp only [hu]
      rw [if_pos (by simp [hkt, Value.formed, hu, c1]), hm]
      unfold Program.keyLits
      simp only [hu, Value.cells]
      rw [if_pos ⟨by rw [c1]; rfl, hall⟩, hfs, List.mapM_cons, List.mapM_cons, List.mapM_nil, t0, o0, t1, o1, c2, c3]
      simp [Program.keyLits, Try.underlying3, Try.underlying5, h1, h2]
    all_goals (simp at hf)

/-- Block b holds the numbers of the keys ks: of each its place from 1 on. -/
def MapAt (w : World) (b : Nat) (ks : List (Int × Int)) : Prop :=
  ∃ es clock, w.heap[b]? = some (.map es clock) ∧ es.size = ks.length ∧ (∀ (i : Nat) (e : MapEntry), es.toList[i]? = some e → e.key = keyV (ks.getD i (0, 0)) ∧ e.val = .int .i64 ((i + 1 : Nat) : Int)) ∧ ks.Nodup ∧ ∀ k ∈ ks, KeyOk k

theorem MapAt.kept {w w' : World} {b : Nat} {ks : List (Int × Int)} {row : Option Nat} (h : MapAt w b ks) (hg : w.grownBy w' row) (hne : some b ≠ row) : MapAt w' b ks := by
  obtain ⟨es, clock, hb, hr⟩ := h
  exact ⟨es, clock, (hg.block b (Array.getElem?_eq_some_iff.1 hb).1 hne).trans hb, hr⟩
theorem MapAt.lt {w : World} {b : Nat} {ks : List (Int × Int)} (h : MapAt w b ks) : b < w.heap.size := by
  obtain ⟨es, clock, hb, hr⟩ := h
  exact (Array.getElem?_eq_some_iff.1 hb).1
theorem MapAt.made (w : World) : MapAt (w.alloc (.map #[] 0)) w.heap.size [] := ⟨#[], 0, World.alloc_heap_new w _, rfl, fun i e h => by simp at h, List.nodup_nil, fun k h => by cases h⟩

theorem getD_at {α : Type} {l : List α} {i : Nat} {d : α} (h : i < l.length) : l.getD i d = l[i] := by simp [List.getD, h]

/-- What a search in it tells. -/
theorem MapAt.find {w : World} {b : Nat} {ks : List (Int × Int)} (h : MapAt w b ks) (k : Int × Int) (hk : KeyOk k) :
    ∃ es clock, w.heap[b]? = some (.map es clock) ∧ es.size = ks.length ∧
      (if k ∈ ks then (Instr.findKey 91 (keyV k) es.toList).run Try.prog w = .ok (some (ks.idxOf k, .int .i64 (numOf ks k : Nat))) w
       else (Instr.findKey 91 (keyV k) es.toList).run Try.prog w = .ok none w) := by
  obtain ⟨es, clock, hb, hs, he, hn, ho⟩ := h
  obtain ⟨l, hl⟩ := key_of k hk
  have hsl : es.toList.length = ks.length := by rw [Array.length_toList, hs]
  refine ⟨es, clock, hb, hs, ?_⟩
  rcases bgn_law.find w hl es.toList (fun e hm => by
    obtain ⟨i, hi, rfl⟩ := List.mem_iff_getElem.1 hm
    rw [(he i _ (List.getElem?_eq_getElem hi)).1, getD_at (by omega)]
    exact key_of _ (ho _ (List.getElem_mem _))) with ⟨h1, h2⟩ | ⟨j, e0, h1, h2, h3⟩
  · rw [if_neg, h1]
    intro hm
    obtain ⟨i, hi, rfl⟩ := List.mem_iff_getElem.1 hm
    refine h2 es.toList[i] (List.getElem_mem _) ?_
    rw [(he i _ (List.getElem?_eq_getElem (by omega))).1, getD_at hi]
  · obtain ⟨e1, e2⟩ := he j e0 h2
    have hj : j < ks.length := by have := (List.getElem?_eq_some_iff.1 h2).1; omega
    rw [getD_at hj, h3] at e1
    have ek := keyV_inj e1
    subst ek
    have hi : ks.idxOf ks[j] = j := hn.idxOf_getElem j hj
    rw [if_pos (List.getElem_mem hj), h1, e2]
    unfold numOf
    rw [hi]

theorem look_ok {w : World} {b : Nat} {ks : List (Int × Int)} (h : MapAt w b ks) (k : Int × Int) (hk : KeyOk k) :
    (Instr.lookup 88 (.map (some b)) (keyV k) true).run Try.prog w = .ok (.tuple #[.int .i64 (if k ∈ ks then (numOf ks k : Nat) else 0), .bool (decide (k ∈ ks))]) w := by
  obtain ⟨es, clock, hb, hs, hf⟩ := h.find k hk
  obtain ⟨l, hl⟩ := key_of k hk
  by_cases hm : k ∈ ks
  · rw [if_pos hm] at hf
    simp [Instr.lookup, run_underlying num_map, MapKept.run_getObj_map hb, bgn_law.check w _ hl, hf, Result.andThen, hm]
  · rw [if_neg hm] at hf
    simp [Instr.lookup, run_underlying num_map, MapKept.run_getObj_map hb, bgn_law.check w _ hl, hf, num_zero, Result.andThen, hm]

theorem look_there {w : World} {b : Nat} {ks : List (Int × Int)} (h : MapAt w b ks) (k : Int × Int) (hk : KeyOk k) (hm : k ∈ ks) :
    (Instr.lookup 88 (.map (some b)) (keyV k) false).run Try.prog w = .ok (.int .i64 (numOf ks k : Nat)) w := by
  obtain ⟨es, clock, hb, hs, hf⟩ := h.find k hk
  obtain ⟨l, hl⟩ := key_of k hk
  rw [if_pos hm] at hf
  simp [Instr.lookup, run_underlying num_map, MapKept.run_getObj_map hb, bgn_law.check w _ hl, hf, Result.andThen, hm]

theorem update_new {w : World} {b : Nat} {ks : List (Int × Int)} (h : MapAt w b ks) (k : Int × Int) (hk : KeyOk k) (hm : k ∉ ks) :
    ∃ w', (Instr.mapUpdate 88 (.map (some b)) (keyV k) (.int .i64 ((ks.length : Int) + 1))).run Try.prog w = .ok () w' ∧ MapAt w' b (ks ++ [k]) ∧ w.grownBy w' (some b) := by
  obtain ⟨es, clock, hb, hs, hf⟩ := h.find k hk
  obtain ⟨es', clock', hb', hs', he, hn, ho⟩ := h
  rw [hb] at hb'
  injection hb' with hb'
  injection hb' with hb1 hb2
  subst hb1
  obtain ⟨l, hl⟩ := key_of k hk
  rw [if_neg hm] at hf
  refine ⟨setBlock w b (.map (es.push ⟨keyV k, .int .i64 ((ks.length : Int) + 1), clock⟩) (clock + 1)), by
    simp [Instr.mapUpdate, run_underlying num_map, MapKept.run_getObj_map hb, bgn_law.check w false hl, hf, MapKept.run_setObj_map _ hb, Result.andThen, setBlock],
    ⟨_, _, heap_setBlock_same hb _, by simp [hs], fun i e hi => ?_, ?_, ?_⟩, ⟨rfl, rfl, rfl, by simp [setBlock], fun i _ hi => heap_setBlock_other hb _ (fun e => hi (by rw [e]))⟩⟩
  · rw [Array.toList_push] at hi
    have hsl : es.toList.length = ks.length := by rw [Array.length_toList, hs]
    by_cases hlt : i < ks.length
    · rw [List.getElem?_append_left (by omega)] at hi
      obtain ⟨a1, a2⟩ := he i e hi
      exact ⟨by rw [a1]; simp [List.getD, List.getElem?_append_left hlt], a2⟩
    · have hil : i = ks.length := by
        have := (List.getElem?_eq_some_iff.1 hi).1
        simp at this
        omega
      subst hil
      rw [← hsl] at hi
      simp at hi
      subst hi
      exact ⟨by simp [List.getD], by simp [hs]⟩
  · rw [List.nodup_append]
    refine ⟨hn, by simp, fun a ha c hc => ?_⟩
    obtain rfl : c = k := by simpa using hc
    rintro rfl
    exact hm ha
  · intro x hx
    rcases List.mem_append.1 hx with hx | hx
    · exact ho x hx
    · obtain rfl : x = k := by simpa using hx
      exact hk

/-- The update, at the operation. -/
theorem wpList_update_new (w : World) {ops : Array Oper} {rest : List Oper} {o : Oper} {a : Act} {Q : Exit → Act → World → Prop}
    (hg : o.guard = none) (m x v : Operand) (hop : o.op = Op.mapUpdate 88 m x v) (b : Nat) (ks : List (Int × Int)) (k : Int × Int) (hM : MapAt w b ks) (hk : KeyOk k) (hm : k ∉ ks)
    (em : a.eval m = .map (some b)) (ex : a.eval x = keyV k) (ev : a.eval v = .int .i64 ((ks.length : Int) + 1))
    (hK : ∀ w', MapAt w' b (ks ++ [k]) → w.grownBy w' (some b) → wpList Try.prog ops Q rest (a.put o.dst undef) w') :
    wpList Try.prog ops Q (o :: rest) a w := by
  refine wpList_plain hg fun K' hK' => ?_
  obtain ⟨w', hrun, r1, r2⟩ := update_new hM k hk hm
  unfold Oper.wp
  simp [execOp, hop, em, ex, ev, hrun, Result.andThen]
  exact hK' _ _ (hK w' r1 r2)

theorem MapAt.len {w : World} {b : Nat} {ks : List (Int × Int)} (h : MapAt w b ks) : (Builtin.len_ #[88] 3 #[.map (some b)]).run Try.prog w = .ok (.int .i64 (ks.length : Nat)) w := by
  obtain ⟨es, clock, hb, hs, _⟩ := h
  rw [run_len_map w 88 3 b es clock num_map hb, hs]
  rfl

end Go.Proofs.Ytojbfjlihenjaaa

/- Package patset: the number of a beginning. -/
namespace Go.Proofs.Ytojbfjlihenjaaa
open Go.RowKit PlainNumbers Go.ChangeMaps Go.MapKept

theorem grown_none_some {w w' : World} {b : Nat} (h : w.grownBy w' none) : w.grownBy w' (some b) :=
  ⟨h.os, h.tape, h.output, h.size, fun k hk _ => h.block k hk (by simp)⟩

theorem grown_trans_some {w w1 w' : World} {b : Nat} (h : w.grownBy w1 none) (h' : w1.grownBy w' (some b)) : w.grownBy w' (some b) :=
  ⟨h'.os.trans h.os, h'.tape.trans h.tape, h'.output.trans h.output, Nat.le_trans h.size h'.size, fun k hk hne => (h'.block k (Nat.lt_of_lt_of_le hk h.size) hne).trans (h.block k hk (by simp))⟩

theorem numOf_le {ks : List (Int × Int)} {k : Int × Int} : numOf ks k ≤ ks.length + 1 := by
  unfold numOf
  have := List.idxOf_le_length (a := k) (l := ks)
  omega

set_option maxRecDepth 100000 in
set_option maxHeartbeats 1000000 in
theorem numbersOf_is (b : Nat) (ks : List (Int × Int)) (n c : Int) (w : World) (hM : MapAt w b ks) (hk : KeyOk (n, c)) (hl : ks.length ≤ 100000) :
    Calls Try.prog 61 #[.map (some b), .agg #[.int .i64 n, .int .u8 c]] w fun e w' =>
      e = .returned (.int .i64 (numOf ks (n, c) : Nat)) ∧ w.grownBy w' (some b) ∧ MapAt w' b (addKey ks (n, c)) := by
  have hM1 := hM.kept (grown_alloc (grown_refl w none) (.cells #[.int .i64 n, .int .u8 c] 91)) (by simp)
  have hH1 : Holds (w.alloc (.cells #[.int .i64 n, .int .u8 c] 91)) w.heap.size 91 #[.int .i64 n, .int .u8 c] := Holds.new _ _ _
  have hbne : b ≠ w.heap.size := by have := hM.lt; omega
  have g1 := grown_alloc (grown_refl w none) (.cells #[.int .i64 n, .int .u8 c] 91)
  have hlk := look_ok hM1 (n, c) hk
  unfold keyV at hlk
  have hle := hid (numOf_le (ks := ks) (k := (n, c)))
  by_cases hm : (n, c) ∈ ks
  · have hadd : Hid (addKey ks (n, c) = ks) := if_pos hm
    have hlt := look_there hM1 (n, c) hk hm
    unfold keyV at hlt
    rw [if_pos hm, decide_eq_true hm] at hlk
    replace hm := hid hm
    replace hM1 := hid hM1
    replace g1 := hid g1
    clear hM hk
    obtain ⟨r, hr⟩ : ∃ r : Int, ((numOf ks (n, c) : Nat) : Int) = r := ⟨_, rfl⟩
    rw [hr] at hlk hlt ⊢
    replace hr := hid hr
    go_enter Try.func61, Try.ntmps61
    go_wp2_with fail
    go_ret
    exact ⟨rfl, (grown_none_some g1.out), by rw [hadd.out]; exact hM1.out⟩
  · have hadd : Hid (addKey ks (n, c) = ks ++ [(n, c)]) := if_neg hm
    have hnum : Hid (numOf ks (n, c) = ks.length + 1) := by
      unfold numOf
      rw [List.idxOf_eq_length hm]
      exact hid rfl
    rw [if_neg hm, decide_eq_false hm] at hlk
    have hlen := hM1.len
    have hmm : ((n, c) : Int × Int) ∈ ks ++ [(n, c)] := by simp
    have hlt := hid (fun (w' : World) (h : MapAt w' b (ks ++ [(n, c)])) => look_there h (n, c) hk hmm)
    rw [hnum.out]
    replace hm := hid hm
    replace hM1 := hid hM1
    replace hk := hid hk
    replace g1 := hid g1
    replace hH1 := hid hH1
    have hnum2 : Hid (numOf (ks ++ [(n, c)]) (n, c) = ks.length + 1) := by
      unfold numOf
      rw [List.idxOf_append, if_neg hm.out, List.idxOf_cons_self]
      exact hid (by omega)
    clear hM
    go_enter Try.func61, Try.ntmps61
    go_wp2_with (at_mapUpdate; refine wpList_update_new _ rfl _ _ _ rfl b ks (n, c) hM1.out hk.out hm.out rfl rfl (congrArg (Value.int .i64) (Int.add_comm 1 _)) ?_; intro w1 hM2 hg2; have hlk2 := hlt.out w1 hM2; unfold keyV at hlk2; rw [hnum2.out] at hlk2; have hH2 := hH1.out.kept hg2 (fun e => hbne (by injection e)); have d0 := hH2.cell 0; have d1 := hH2.cell 1; simp at d0 d1; clear hH2)
    go_ret
    exact ⟨rfl, grown_trans_some g1.out hg2, by rw [hadd.out]; exact hM2⟩

end Go.Proofs.Ytojbfjlihenjaaa
