/- Package packed: the list, packed, and how many bytes that is. -/
import Derived.Test.YtghnbfphhmgcpaaPBody
import Derived.Test.YtghnbfphhmgcpaaPuts
import Derived.Test.YtghnbfphhmgcpaaCollect
import Derived.Shelf.Abstract
import Derived.Shelf.RegionOpen
import Derived.TacticsInMore
import Derived.LoopNIn
import Derived.LoopIn
import Derived.Outline
import Derived.Test.YtghnbfphhmgcpaaKHead
import Derived.Test.YtghnbfphhmgcpaaKRows
import Derived.Lib.AppendStr
import Derived.Deep.Light
set_option linter.unusedSimpArgs false
set_option linter.unusedVariables false
set_option maxRecDepth 100000
namespace Go.Proofs.Ytghnbfphhmgcpaa
open Go.RowKit Plain PlainSum PlainPacked Go.Shelf
attribute [local go_sem] Oper.semAt_some

theorem packFlags_is (f : Bool) (w : World) : Calls Try.prog 27 #[.bool f] w fun e w' => e = .returned (.int .u8 (flag f)) ∧ w = w' := by
  cases f
  all_goals
    go_enter Try.func27, Try.ntmps27
    go_wp2_with fail
    go_ret
    exact ⟨rfl, rfl⟩

theorem packNum_is (n : Int) (w : World) (h0 : 0 ≤ n) (h1 : n ≤ 2147483647) : Calls Try.prog 43 #[.int .i64 n] w (Gives .u8 (enc n.toNat) w) := by
  have key := Put_yes n w h0 h1
  generalize enc n.toNat = zs at key ⊢
  replace key := hid key
  go_enter Try.func43, Try.ntmps43
  go_wp2_with fail
  refine key.out.mono ?_
  rintro e w1 ⟨A, c, rfl, hc, hm, hA, hg⟩
  replace hA := hid hA
  replace hg := hid hg
  replace hc := hid hc
  replace hm := hid hm
  go_wp2_with fail
  go_ret
  exact ⟨A, c, rfl, hc.out, hm.out, hA.out, hg.out⟩

theorem packParts_is (A : Option Addr) (n c : Nat) (w : World) : Calls Try.prog 28 #[.slice A n c] w fun e w' => e = .returned (.func (.func 42) #[] #[.pointer (some ⟨w.heap.size, 0, none⟩)]) ∧ w' = w.alloc (.cells #[.slice A n c] 22) := by
  have hmf : ∀ (fn : Fn) (first cap : Array Value) (w : World), (Instr.makeFunc fn first cap).run Try.prog w = .ok (.func fn first cap) w := fun _ _ _ _ => rfl
  go_enter Try.func28, Try.ntmps28
  go_wp2
  go_ret
  exact ⟨rfl, rfl⟩

/-- What stands between, of the first k words. -/
def midTo (xss : List (List Int)) (k : Nat) : List Int := enc xss.length ++ words (xss.take k)
theorem midTo_succ (xss : List (List Int)) (k : Nat) (h : k < xss.length) : midTo xss (k + 1) = midTo xss k ++ enc (xss.getD k []).length ++ xss.getD k [] := by
  unfold midTo; rw [words_take xss k h]; simp only [List.append_assoc]
theorem midTo_all (xss : List (List Int)) : midTo xss xss.length = enc xss.length ++ words xss := by unfold midTo; rw [List.take_length]
theorem midTo_len (xss : List (List Int)) (k : Nat) (hn : xss.length ≤ 3000) (hl : xss.flatten.length ≤ 3000) : (midTo xss k).length ≤ 20000 := by
  have h1 := words_take_len xss k (by omega)
  have h2 := enc_len5 xss.length (by omega)
  simp only [midTo, List.length_append]
  omega

set_option maxHeartbeats 1000000 in
theorem packParts_in (l bx : Nat) (P : Option Addr) (c : Nat) (xss : List (List Int)) (hn : xss.length ≤ 3000) (hl : xss.flatten.length ≤ 3000) (w0 : World) (hA : Arrs w0 P xss) (J : List Int → World → Prop) (W0 : World)
    (hJs : ∀ pre W, J pre W → w0.grownBy W none ∧ Holds W bx 22 #[.slice P xss.length c])
    (hJg : ∀ pre W W', J pre W → W.grownBy W' none → J pre W')
    (hY : ∀ pre zs A cp W, J pre W → (pre ++ zs).length ≤ 20000 → Arr W .u8 A zs → YieldAt Fence.wide 0 Try.prog l #[.slice A zs.length cp] W (fun e W' => e = .returned (.bool true) ∧ J (pre ++ zs) W'))
    (h0 : J [] W0) :
    CallsIn Fence.wide 0 Try.prog 42 #[.func (.yield l) #[] #[], .pointer (some ⟨bx, 0, none⟩)] W0 fun e W' => (∃ v, e = .returned v) ∧ J (enc xss.length ++ words xss) W' := by
  have hlen := hid (fun k => midTo_len xss k hn hl)
  have hstart : Hid (midTo xss 0 = enc xss.length) := hid (by simp [midTo, words])
  have hend := hid (midTo_all xss)
  have hsucc := hid (fun k h => midTo_succ xss k h)
  have hxl := hid (fun k => getD_flatten_len xss k)
  replace hJs := hid hJs
  replace hJg := hid hJg
  replace hY := hid hY
  replace hA := hid hA
  have hc0 := (hJs.out _ _ h0).2.cell 0
  simp at hc0
  replace h0 := hid h0
  refine callsIn_of_wp Try.func42 rfl trivial ?_ rfl
  simp only [Try.ntmps42, List.size_toArray, List.length_cons, List.length_nil, Nat.reduceAdd, Nat.reduceSub, Array.replicate_succ, Array.replicate_zero, List.push_toArray, List.append_toArray, List.nil_append, List.cons_append]
  gi_wp2_with fail
  refine ⟨trivial, rfl, ?_⟩
  refine (callsIn_wide.2 (packNum_is _ W0 (by omega) (by omega))).mono ?_
  rintro e w1 ⟨A1, c1, rfl, _, _, hA1, hg1⟩
  rw [Int.toNat_natCast] at hA1 ⊢
  have hJ1 := hJg.out _ _ _ h0.out hg1
  have hy := hY.out [] (enc xss.length) A1 c1 w1 hJ1 (by have := hlen.out 0; rw [hstart.out] at this; exact this) hA1
  rw [List.nil_append, ← hstart.out] at hy
  clear hc0 hg1 hJ1 hA1 h0
  rw [← hstart.out]
  generalize (midTo xss 0).length = n1 at hy ⊢
  obtain ⟨fn, tmps, assign, body, hyy, hR⟩ := hy
  gi_wp2_with fail
  refine ⟨rfl, hR.mono ?_⟩
  rintro e W2 ⟨rfl, hJ2⟩
  have hc2 := (hJs.out _ _ hJ2).2.cell 0
  simp at hc2
  replace hJ2 := hid hJ2
  gi_wp2_with fail
  gi_loopw [13] (fun i wr => ∃ k : Nat, k ≤ xss.length ∧ i = .int .i64 k ∧ J (midTo xss k) wr) (fun i _ => xss.length - (intOf i).toNat)
  case atStart => exact ⟨0, by omega, rfl, hJ2.out⟩
  case round =>
    clear hc2 hJ2
    obtain ⟨k, hk, rfl, hJ⟩ := hrel
    by_cases hlt : k < xss.length
    · obtain ⟨b, off, Ai, ci, rfl, hb, hcell0, hA0⟩ := hA.out.at_ hlt
      have hG0 := (hJs.out _ _ hJ).1
      have hcell := ((gcell hG0).1 b (off + k) hb).trans hcell0
      have hT := hsucc.out k hlt
      have hle := hlen.out (k + 1)
      have hx3 := hxl.out k
      replace hA0 := hid hA0
      clear hcell0 hG0
      generalize xss.getD k [] = xs at hcell hA0 hT hx3
      rw [hT] at hle
      replace hT := hid hT
      replace hle := hid hle
      replace hJ := hid hJ
      have hbl : Hid (b < w0.heap.size) := hb
      gi_wp2_with fail
      refine ⟨trivial, rfl, ?_⟩
      refine (wideAt_calls (r := none) (packNum_is _ wr (by omega) (by omega))).mono ?_
      rintro e w3 ⟨A3, c3, rfl, _, _, hA3, hg3⟩
      rw [Int.toNat_natCast] at hA3 ⊢
      have hJ3 := hJg.out _ _ _ hJ.out hg3
      have hy := hY.out (midTo xss k) (enc xs.length) A3 c3 w3 hJ3 (by have := hle.out; rw [List.length_append] at this; omega) hA3
      clear hg3 hJ3 hA3 hJ hcell
      generalize enc xs.length = en at hy hT hle ⊢
      obtain ⟨fn3, tmps3, assign3, body3, hyy3, hR3⟩ := hy
      gi_wp2_with fail
      refine ⟨rfl, hR3.mono ?_⟩
      rintro e W4 ⟨rfl, hJ4⟩
      have hA4 := hA0.out.grown (hJs.out _ _ hJ4).1
      have hy2 := hY.out (midTo xss k ++ en) xs Ai ci W4 hJ4 hle.out hA4
      rw [← hT.out] at hy2
      clear hyy3 hR3 hJ4 hA4
      obtain ⟨fn4, tmps4, assign4, body4, hyy4, hR4⟩ := hy2
      gi_wp2_with fail
      refine ⟨rfl, hR4.mono ?_⟩
      rintro e W5 ⟨rfl, hJ5⟩
      replace hJ5 := hid hJ5
      gi_wp2_with fail
      go_roundw
      case rel => exact ⟨k + 1, by omega, by go_num, hJ5.out⟩
      case measure => simp [intOf]; omega
    · obtain rfl : k = xss.length := by omega
      rw [hend.out] at hJ
      replace hJ := hid hJ
      gi_wp2_with fail
      go_end0
      exact ⟨⟨_, rfl⟩, hJ.out⟩
end Go.Proofs.Ytghnbfphhmgcpaa

namespace Go.Proofs.Ytghnbfphhmgcpaa
open Go.RowKit Plain PlainSum PlainPacked Go.Shelf
attribute [local go_sem] Oper.semAt_some

structure SizeAt (w : World) (h : Nat) (P : Option Addr) (n c : Nat) (rc : LoopState → Option Code → Loop) (pre : List Int) (W : World) : Prop where
  var : Holds W h 3 #[.int .i64 ((9 + pre.length : Nat) : Int)]
  box : Holds W (h + 1) 22 #[.slice P n c]
  dfr : W.heap[h + 2]? = some (.deferred (some []))
  record : W.heap[h + 3]? = some (.loop (rc .ready none))
  gr : w.grownBy W none

theorem SizeAt.grown {w W W' : World} {h n c : Nat} {P : Option Addr} {rc : LoopState → Option Code → Loop} {pre : List Int} (s : SizeAt w h P n c rc pre W) (hg : W.grownBy W' none) : SizeAt w h P n c rc pre W' where
  var := s.var.kept0 hg
  box := s.box.kept0 hg
  dfr := (hg.block (h + 2) (Array.getElem?_eq_some_iff.1 s.dfr).1 (by simp)).trans s.dfr
  record := (hg.block (h + 3) (Array.getElem?_eq_some_iff.1 s.record).1 (by simp)).trans s.record
  gr := grown_trans s.gr hg

/-- The return, the result in slot 2, the loop's mark taken up. -/
theorem size_leaves {W : World} {d : Nat} {v : Value} {T : Array Value} {R : Ending → World → Prop} (hT : T.getD 2 undef = v)
    (hD : W.heap[d]? = some (.deferred (some []))) (hR : R (.returned v) (W.putObj d (.deferred none))) :
    bodyPostM Fence.wide 0 Try.prog Try.f17 R Exit.ret { tmps := T, defers := [{ target := .collected d, args := #[] }] } W := by
  refine ⟨by simp, .inl ⟨_, _, rfl, run_takeDeferred hD, ?_⟩⟩
  rw [Array.getD_eq_getD_getElem?] at hT
  refine ⟨_, ?_, hR⟩
  simp [results, Try.results17, hT]

theorem put_len (f : Bool) (xss : List (List Int)) : (put f xss).length = 9 + (enc xss.length ++ words xss).length := by
  rw [len_put, List.length_append]; omega

set_option maxHeartbeats 2000000 in
theorem packSize_is (P : Option Addr) (d : Nat) (xss : List (List Int)) (w : World) (hn : xss.length ≤ 3000) (hl : xss.flatten.length ≤ 3000) (hb : AllBytes xss) (hP : Arrs w P xss) :
    Calls Try.prog 17 #[.slice P xss.length d] w fun e w' => e = .returned (.int .i64 (put false xss).length) ∧ w.grownBy w' none := by
  have hres := hid (put_len false xss)
  have hlen := midTo_len xss xss.length hn hl
  rw [midTo_all] at hlen
  replace hlen := hid hlen
  replace hP := hid hP
  clear hb
  obtain ⟨h, hh⟩ : ∃ h, w.heap.size = h := ⟨_, rfl⟩
  refine (callsIn_wide (n := 0)).1 ?_
  refine callsIn_of_wp_marks Try.func17 rfl trivial ?_ rfl
  simp only [Try.ntmps17, List.size_toArray, List.length_cons, List.length_nil, Nat.reduceAdd, Nat.reduceSub, Array.replicate_succ, Array.replicate_zero, List.push_toArray, List.append_toArray, List.nil_append, List.cons_append]
  have hht := hid hh
  clear hh
  gi_wp2_with fail
  refine ⟨trivial, rfl, ?_⟩
  refine (callsIn_wide.2 (packParts_is P xss.length d _)).mono ?_
  rintro e w2 ⟨rfl, rfl⟩
  gi_wp2
  refine range_wide (gf := 42) rfl (enters_of Try.func42 (by kernel_rfl) rfl) (fun fn rc hrc => ?_)
  replace hrc := hid hrc
  simp only [World.size_alloc, hht.out, Nat.add_assoc, Nat.reduceAdd] at hrc ⊢
  obtain ⟨W1, hW1⟩ : ∃ W1, ((((w.alloc (.cells #[.int .i64 9] 3)).alloc (.cells #[.slice P xss.length d] 22)).alloc (Obj.deferred (some []))).alloc (Obj.loop (rc .ready none))) = W1 := ⟨_, rfl⟩
  rw [hW1]
  have hN : SizeAt w h P xss.length d rc [] W1 := by
    subst hW1
    exact {
      var := (((Holds.new_at 3 _ hht.out).alloc _).alloc _).alloc _
      box := ((Holds.new_at 22 _ (by simp [hht.out])).alloc _).alloc _
      dfr := other_alloc (alloc_at _ (by simp [hht.out]))
      record := alloc_at _ (by simp [hht.out])
      gr := grown_alloc (grown_alloc (grown_alloc (grown_alloc (grown_refl w _) _) _) _) _ }
  clear hW1
  refine CallsIn.mono (packParts_in (h + 3) (h + 1) P d xss hn hl w hP.out (SizeAt w h P xss.length d rc) W1
    (fun pre W s => ⟨s.gr, s.box⟩) (fun pre W W' s hg => s.grown hg) ?round hN) ?behind
  case round =>
    rintro pre zs A cp W s hpl _
    have Hs := hid s
    refine round_wide hrc.out Hs.out.record rfl fun K hK => ?_
    replace hK := hid hK
    gi_wp2
    refine hK.out _ ?_
    clear hK
    clear K
    rw [List.length_append] at hpl
    have hHb : Holds (W.putObj (h + 3) (.loop (rc .busy none))) h 3 #[.int .i64 ((9 + pre.length : Nat) : Int)] := s.var.put (by omega) _
    have hrb : (W.putObj (h + 3) (.loop (rc .busy none))).heap[h + 3]? = some (.loop (rc .busy none)) := World.putObj_heap_same (Array.getElem?_eq_some_iff.1 s.record).1
    obtain ⟨Wb, hWb⟩ : ∃ Wb, W.putObj (h + 3) (.loop (rc .busy none)) = Wb := ⟨_, rfl⟩
    rw [hWb] at hHb hrb
    rw [hWb]
    have hstep : Hid ((Wb.setCell ⟨h, 0, none⟩ (.int .i64 ((9 + pre.length : Nat) + (zs.length : Int)))).heap[h + 3]? = some (.loop (rc .busy none)) ∧
        SizeAt w h P xss.length d rc (pre ++ zs) ((Wb.setCell ⟨h, 0, none⟩ (.int .i64 ((9 + pre.length : Nat) + (zs.length : Int)))).putObj (h + 3) (.loop (rc .ready none)))) := by
      have r2 := other_set (p := ⟨h, 0, none⟩) hrb (show h + 3 ≠ h by omega) (.int .i64 ((9 + pre.length : Nat) + (zs.length : Int)))
      refine ⟨r2, ?_⟩
      subst hWb
      have hv : ((9 + (pre ++ zs).length : Nat) : Int) = (9 + pre.length : Nat) + (zs.length : Int) := by rw [List.length_append]; omega
      exact {
        var := by rw [hv]; simpa using (hHb.set 0 (.int .i64 ((9 + pre.length : Nat) + (zs.length : Int)))).put (by omega) _
        box := ((s.box.put (by omega) _).far (p := ⟨h, 0, none⟩) (show h + 1 ≠ h by omega) _).put (by omega) _
        dfr := (World.putObj_heap_other (by omega)).trans (other_set (p := ⟨h, 0, none⟩) ((World.putObj_heap_other (by omega)).trans s.dfr) (show h + 2 ≠ h by omega) _)
        record := World.putObj_heap_same (Array.getElem?_eq_some_iff.1 r2).1
        gr := grown_put (grown_set (grown_put s.gr (by have := hht.out; omega) _) (.inr (by have := hht.out; simp; omega)) _) (by have := hht.out; omega) _ }
    have c0 := hHb.cell 0
    have f0 := hHb.free 0
    have l0 := hHb.lt
    simp at c0
    clear hHb hrb hWb s Hs
    push_cast at hstep
    gi_wp2
    exact hstep.out
  case behind =>
    rintro e W2 ⟨hv, s⟩
    refine ⟨hv, .inl ⟨s.record, fun o => ?_⟩⟩
    have hH2 := s.var.put (l := h + 3) (by omega) o
    have hD := (World.putObj_heap_other (o := o) (r := h + 3) (k := h + 2) (by omega)).trans s.dfr
    have hG := grown_put (l := h + 3) s.gr (by have := hht.out; omega) o
    obtain ⟨W3, hW3⟩ : ∃ W3, W2.putObj (h + 3) o = W3 := ⟨_, rfl⟩
    rw [hW3] at hH2 hD hG ⊢
    clear hW3 s
    rw [← hres.out] at hH2
    obtain ⟨m, hm⟩ : ∃ m, (put false xss).length = m := ⟨_, rfl⟩
    rw [hm] at hH2
    replace hm := hid hm
    have c0 := hH2.cell 0
    simp at c0
    replace hG := hid hG
    replace hD := hid hD
    clear hH2 hres
    gi_wp2
    refine size_leaves (v := .int .i64 m) rfl hD.out ?_
    exact ⟨by rw [hm.out], grown_put hG.out (by have := hht.out; omega) _⟩
end Go.Proofs.Ytghnbfphhmgcpaa

namespace Go.Proofs.Ytghnbfphhmgcpaa
open Go.RowKit Plain PlainSum PlainPacked Go.Shelf
attribute [local go_sem] Oper.semAt_some

/-- A string's bytes more, in a fence. -/
theorem wpListIn_append_str {F : Fence} {m0 : Nat} {P : Program} {ops : Array Oper} {rest : List Oper} {o : Oper} {a : Act} {Q : Exit → Act → World → Prop} (hgd : o.guard = none) (sl x : Operand) (t u : TypeId)
    (ho : o.op = .call { callee := .builtin .append, args := #[sl, x], argTypes := #[t, u] })
    (base : Nat) (e : TypeId) (i : TypeInfo) (ht : P.underlying t = some (.slice e)) (hu : P.underlying u = some .string) (hi : P.info? e = some i) (hz : i.zero = some (.int .u8 0)) (hsize : i.size = 1) (hby : i.bytes = 1)
    (v : Value) (n : Nat) (xs : List Value) (w : World) (hown : w.ownsRow base e 1 v n xs) (hs : a.eval sl = v) (s : ByteArray) (hx : a.eval x = .string s)
    (hlen : n + s.size ≤ 140737488355328) (hbase : base ≤ w.heap.size)
    (h : ∀ v' w', w'.ownsRow base e 1 v' (n + s.size) (xs ++ Lib.strCells s) → w.grownBy w' v.ownBlock → wpListIn F m0 P ops Q rest (a.put o.dst v') w') : wpListIn F m0 P ops Q (o :: rest) a w := by
  refine wpListIn_plain hgd fun K hK => ?_
  obtain ⟨v', w', hr, h2, h3, h4⟩ := Lib.run_append_own_string (P := P) w base t u o.type e i ht hu hi hz hsize hby v n xs hown s (by unfold maxLen; omega) hlen hbase
  unfold Oper.wpIn
  refine ⟨?_, ?_⟩
  · simp [Oper.about, ho, resolve, Target.leads, Sem.run_pure]
  · rw [Oper.semAt_plain F _ _ (by rw [ho]; intro c hc'; cases hc')]
    simp [execOp, ho, resolve, invoke, builtin, hs, hx, hr, Result.andThen]
    exact hK _ _ (h v' w' h2 h3)

theorem grown_own {w W W' : World} {e n : Nat} {v : Value} {xs : List Value} (h : w.grownBy W none) (hown : W.ownsRow w.heap.size e 1 v n xs) (hg : W.grownBy W' v.ownBlock) : w.grownBy W' none :=
  ⟨hg.os.trans h.os, hg.tape.trans h.tape, hg.output.trans h.output, Nat.le_trans h.size hg.size, fun j hj _ => (hg.block j (Nat.lt_of_lt_of_le hj h.size) (fun e => by
    have := (World.ownsRow.lt hown j e.symm).1; omega)).trans (h.block j hj (by simp))⟩

theorem magic_cells : Lib.strCells ⟨#[84, 83, 76, 49]⟩ = magic.map (Value.int .u8) := by simp [Lib.strCells, magic]

/-- Bytes more in a variable of the call's own: the variable, and its row. -/
theorem box_step {w w8 w5 : World} {g n n5 m5 c5 : Nat} {v : Value} {A5 : Option Addr} {xs ys : List Value} (hH : Holds w8 g 23 #[v]) (hown : w8.ownsRow w.heap.size 5 1 v n xs) (hg8 : w.grownBy w8 none) (hg : w8.grownBy w5 v.ownBlock)
    (hgl : w.heap.size ≤ g) (hown5 : w5.ownsRow w.heap.size 5 1 (.slice A5 n5 c5) m5 ys) :
    Holds w5 g 23 #[v] ∧ Holds (w5.setCell ⟨g, 0, none⟩ (.slice A5 n5 c5)) g 23 #[.slice A5 n5 c5] ∧ (w5.setCell ⟨g, 0, none⟩ (.slice A5 n5 c5)).ownsRow w.heap.size 5 1 (.slice A5 n5 c5) m5 ys ∧
      w.grownBy (w5.setCell ⟨g, 0, none⟩ (.slice A5 n5 c5)) none := by
  have hH5 := hH.kept hg (not_row hH (by decide) hown)
  exact ⟨hH5, by simpa using hH5.set 0 (.slice A5 n5 c5), World.ownsRow.kept hown5 (grownBy_setCell' w5 g _) (.inr (not_row hH5 (by decide) hown5)), grown_set (grown_own hg8 hown hg) (.inr hgl) _⟩

/-- The return, the result in slot 4, the loop's mark taken up. -/
theorem put_leaves {W : World} {d : Nat} {v : Value} {T : Array Value} {R : Ending → World → Prop} (hT : T.getD 4 undef = v)
    (hD : W.heap[d]? = some (.deferred (some []))) (hR : R (.returned v) (W.putObj d (.deferred none))) :
    bodyPostM Fence.wide 0 Try.prog Try.f15 R Exit.ret { tmps := T, defers := [{ target := .collected d, args := #[] }] } W := by
  refine ⟨by simp, .inl ⟨_, _, rfl, run_takeDeferred hD, ?_⟩⟩
  rw [Array.getD_eq_getD_getElem?] at hT
  refine ⟨_, ?_, hR⟩
  simp [results, Try.results15, hT]

set_option maxHeartbeats 8000000 in
theorem packPut_is (f : Bool) (P : Option Addr) (d : Nat) (xss : List (List Int)) (w : World) (hn : xss.length ≤ 3000) (hl : xss.flatten.length ≤ 3000) (hb : AllBytes xss) (hP : Arrs w P xss) :
    Calls Try.prog 15 #[.bool f, .slice P xss.length d] w (Owns (put f xss) w) := by
  obtain ⟨i0, hi0, hz0, hz1, hz2⟩ := info_parts Try.info5
  obtain ⟨h, hh⟩ : ∃ h, w.heap.size = h := ⟨_, rfl⟩
  have hAB := hid (ahead_bytes f xss hb)
  have hmid := midTo_len xss xss.length hn hl
  rw [midTo_all] at hmid
  have hput := put_len false xss
  replace hmid := hid hmid
  have hsz0 := hid (packSize_is P d xss w hn hl hb hP)
  obtain ⟨n0, hn0⟩ : ∃ n0, (put false xss).length = n0 := ⟨_, rfl⟩
  rw [hn0] at hsz0 hput
  have hn0b : n0 ≤ 30000 := by have := hmid.out; omega
  clear hn0 hput
  refine (callsIn_wide (n := 0)).1 ?_
  refine callsIn_of_wp_marks Try.func15 rfl trivial ?_ rfl
  simp only [Try.ntmps15, List.size_toArray, List.length_cons, List.length_nil, Nat.reduceAdd, Nat.reduceSub, Array.replicate_succ, Array.replicate_zero, List.push_toArray, List.append_toArray, List.nil_append, List.cons_append]
  have hht := hid hh
  replace hP := hid hP
  clear hh hb
  gi_wp2_with fail
  refine ⟨trivial, rfl, ?_⟩
  refine (callsIn_wide.2 hsz0.out).mono ?_
  rintro e w1 ⟨rfl, hg1⟩
  have hs1 := hid hg1.size
  replace hg1 := hid hg1
  clear hsz0
  gi_wp2_with (first
    | (gi_at_make; refine wpListIn_make_own w1 rfl _ _ 23 rfl w.heap.size 5 i0 (.int .u8 0) 1 Try.underlying23 hi0 hz0 hz1 _ _ _ n0 rfl rfl rfl (by rw [hz2]; omega) (by unfold maxLen; omega) hs1.out ?_; intro w2 hrow2 hg2; have hs2 := hid (Nat.le_trans hs1.out hg2.size); have hg2' := hid (grown_trans hg1.out hg2); replace hrow2 := hid hrow2; clear hg2)
    | (gi_at_builtin; refine wpListIn_append_str rfl _ _ 23 9 rfl w.heap.size 5 i0 Try.underlying23 Try.underlying9 hi0 hz0 hz1 hz2 _ _ _ w2 hrow2.out rfl ⟨#[84, 83, 76, 49]⟩ rfl (by show 0 + 4 ≤ _; omega) hs2.out ?_; intro v3 w3 hrow3 hg3; have hg3' := hid (grown_own hg2'.out hrow2.out hg3); rw [magic_cells, List.nil_append] at hrow3; change World.ownsRow w3 w.heap.size 5 1 v3 4 (magic.map (Value.int .u8)) at hrow3; obtain ⟨A3, c3, rfl, _, _⟩ := own_form hrow3; replace hrow3 := hid hrow3; clear hg3))
  obtain ⟨g, hg⟩ : ∃ g, w3.heap.size = g := ⟨_, rfl⟩
  have hhg : h ≤ g := by have := hg3'.out.size; have := hht.out; omega
  have hHb : Holds (w3.alloc (.cells #[.slice A3 4 c3] 23)) g 23 #[.slice A3 4 c3] := Holds.new_at 23 _ hg
  have hown4 : (w3.alloc (.cells #[.slice A3 4 c3] 23)).ownsRow w.heap.size 5 1 (.slice A3 4 c3) 4 (magic.map (Value.int .u8)) := hrow3.out.alloc _
  have hg4 : w.grownBy (w3.alloc (.cells #[.slice A3 4 c3] 23)) none := grown_alloc hg3'.out _
  simp only [hg]
  obtain ⟨w4, hw4⟩ : ∃ w4, w3.alloc (.cells #[.slice A3 4 c3] 23) = w4 := ⟨_, rfl⟩
  rw [hw4] at hHb hown4 hg4 ⊢
  have c0 := hHb.cell 0
  simp at c0
  replace c0 := hid c0
  replace hHb := hid hHb
  replace hown4 := hid hown4
  replace hg4 := hid hg4
  have hgl : Hid (w.heap.size ≤ g) := hid (by have := hht.out; omega)
  clear hw4 hrow3 hg3' hrow2 hg2' hs2 hg1 hs1 hg
  apply head_wide 4 [isv (.slice A3 4 c3), isv (.bool f), isv (.int .u8 (flag f)), isBytes [flag f]]
    28 [some 11, some 12, some 13, some 14]
    [some 11, some 12, some 13, some 14]
    [[], [], [1], [2]]
    [(0, .bool f), (5, .pointer (some ⟨g, 0, none⟩))] (by kernel_rfl) rfl (by kernel_rfl) (by kernel_rfl) rfl rfl (by kernel_rfl) (OutsOk.cons rfl rfl (OutsOk.cons rfl rfl OutsOk.nil)) ?st ?ob ?fin
  case ob =>
    refine Obs.consv rfl ?o0 (Obs.consv rfl ?o1 (Obs.consv rfl ?o2 (Obs.consv rfl ?o3 Obs.nil)))
    case o0 =>
      go_light
      intro ac w' hgw
      have hc := ((gcell hgw).1 g 0 hHb.out.lt).trans c0.out
      replace hgw := hid hgw
      simp only [outThen, preThen, slotIs, factAt, isv, List.getElem?_cons_zero, List.getElem?_cons_succ, Option.getD_some, forall_eq]
      intros
      rename_i hK
      replace hK := hid hK
      simp only [wantedAt]
      go_simp
      exact hK.out _ _ rfl (grown_refl _ _)
    case o1 =>
      go_light
      intro ac w' hgw
      have hc := ((gcell hgw).1 g 0 hHb.out.lt).trans c0.out
      replace hgw := hid hgw
      simp only [outThen, preThen, slotIs, factAt, isv, List.getElem?_cons_zero, List.getElem?_cons_succ, Option.getD_some, forall_eq]
      intros
      rename_i hK
      replace hK := hid hK
      simp only [wantedAt]
      go_simp
      exact hK.out _ _ rfl (grown_refl _ _)
    case o2 =>
      go_light
      intro ac w' hgw
      have hc := ((gcell hgw).1 g 0 hHb.out.lt).trans c0.out
      replace hgw := hid hgw
      simp only [outThen, preThen, slotIs, factAt, isv, List.getElem?_cons_zero, List.getElem?_cons_succ, Option.getD_some, forall_eq]
      intros
      rename_i K hK
      replace hK := hid hK
      simp only [wantedAt]
      go_simp
      refine (packFlags_is f _).mono ?_
      rintro e w9 ⟨rfl, rfl⟩
      exact hK.out _ _ rfl (grown_refl _ _)
    case o3 =>
      go_light
      intro ac w' hgw
      have hc := ((gcell hgw).1 g 0 hHb.out.lt).trans c0.out
      replace hgw := hid hgw
      simp only [outThen, preThen, slotIs, factAt, isv, List.getElem?_cons_zero, List.getElem?_cons_succ, Option.getD_some, forall_eq]
      intros
      rename_i K hK
      replace hK := hid hK
      simp only [wantedAt]
      go_simp
      exact hK.out _ _ ⟨_, rfl, Holds.new _ _ _⟩ (grown_alloc (grown_refl _ _) _)
  case st =>
    repeat (first | exact AllStable.nil | (refine AllStable.cons ?_ ?_; focus (first | exact stable_isv _ | exact stable_isBytes _ | exact stable_isRow1 _ | exact stable_isRowOf _ _ | exact stable_isArrOf _)))
  case fin =>
    intro w8 hgw
    simp only [finalIn, factAt, isv, isBytes, List.getElem?_cons_zero, List.getElem?_cons_succ, Option.getD_some, forall_eq, slotIs, subj, List.take_succ_cons, List.take_zero]
    rintro v9 ⟨b9, rfl, hb9⟩
    simp only [Act.put, List.setIfInBounds_toArray, List.set_cons_zero, List.set_cons_succ, List.drop_succ_cons, List.drop_zero]
    have hgx : Hid (w4.grownBy w8 none) := grown_trans (grown_drew (grown_refl w4 none)) hgw
    have hH8 := hid (hHb.out.kept0 hgx.out)
    have hown8 : Hid (w8.ownsRow w.heap.size 5 1 (.slice A3 4 c3) magic.length (magic.map (Value.int .u8))) := hown4.out.kept hgx.out (by cases A3 <;> simp [Value.ownBlock])
    have hsz8 : Hid (w.heap.size ≤ w8.heap.size) := Nat.le_trans hg4.out.size hgx.out.size
    have hg8 := hid (grown_trans hg4.out hgx.out)
    have hb1 : Hid (Arr w8 .u8 (some ⟨b9, 0, none⟩) [flag f]) := Arr.of_holds (k := .u8) hb9
    have hstep := hid (fun (A5 : Option Addr) (n5 c5 m5 : Nat) (w5 : World) (ys : List Value) (hown5 : w5.ownsRow w.heap.size 5 1 (.slice A5 n5 c5) m5 ys) (hg5 : w8.grownBy w5 (Value.slice A3 4 c3).ownBlock) => box_step (w := w) hH8.out hown8.out hg8.out hg5 hgl.out hown5)
    clear hgw hb9 c0
    gi_wp2_with (gi_at_builtin; refine wpListIn_append_arr rfl _ _ 23 rfl w.heap.size 5 i0 .u8 1 Try.underlying23 hi0 hz0 hz1 hz2 _ magic [flag f] _ _ _ _ hown8.out hb1.out rfl rfl rfl (by decide) (by simp [magic]) hsz8.out ?_; intro v5 w5 hown5 hg5; change World.ownsRow w5 w.heap.size 5 1 v5 5 _ at hown5; obtain ⟨A5, c5, rfl, _, _⟩ := own_form hown5; have hst := hid (hstep.out A5 _ c5 _ w5 _ hown5 hg5); have hH5 := hst.out.1; have c1 := hH5.cell 0; have f1 := hH5.free 0; have l1 := hH5.lt; simp at c1; clear hH5 hown5 hg5)
    refine ⟨trivial, rfl, ?_⟩
    obtain ⟨_, hHn, hOn, hGn⟩ := hst.out
    obtain ⟨W5, hW5⟩ : ∃ W5, w5.setCell ⟨g, 0, none⟩ (.slice A5 5 c5) = W5 := ⟨_, rfl⟩
    rw [hW5] at hHn hOn hGn ⊢
    replace hHn := hid hHn
    replace hOn := hid hOn
    replace hGn := hid hGn
    clear hW5 hst c1 f1 l1 hstep hb1 hg8 hsz8 hown8 hH8 hgx hg4 hown4 hHb
    obtain ⟨k, hk⟩ : ∃ k, W5.heap.size = k := ⟨_, rfl⟩
    have hgk : g < k := by have := hHn.out.lt; omega
    replace hk := hid hk
    refine (callsIn_wide.2 (packParts_is P xss.length d _)).mono ?_
    rintro e w2 ⟨rfl, rfl⟩
    gi_wp2
    refine range_wide (gf := 42) rfl (enters_of Try.func42 (by kernel_rfl) rfl) (fun fn rc hrc => ?_)
    replace hrc := hid hrc
    simp only [World.size_alloc, hk.out, Nat.add_assoc, Nat.reduceAdd] at hrc ⊢
    obtain ⟨W1, hW1⟩ : ∃ W1, (((W5.alloc (.cells #[.slice P xss.length d] 22)).alloc (Obj.deferred (some []))).alloc (Obj.loop (rc .ready none))) = W1 := ⟨_, rfl⟩
    rw [hW1]
    have hN : CollAt w g (k + 1) (k + 2) [(k, 22, #[.slice P xss.length d])] rc (magic ++ [flag f] ++ []) W1 := by
      subst hW1
      exact {
        var := ⟨A5, c5, ((hHn.out.alloc _).alloc _).alloc _, ((hOn.out.alloc _).alloc _).alloc _⟩
        held := fun x hx => by
          obtain rfl : x = (k, 22, #[.slice P xss.length d]) := by simpa using hx
          exact ((Holds.new_at 22 _ hk.out).alloc _).alloc _
        dfr := other_alloc (alloc_at _ (by simp [hk.out]))
        record := alloc_at _ (by simp [hk.out])
        gr := grown_alloc (grown_alloc (grown_alloc hGn.out _) _) _ }
    clear hW1
    have hwk : Hid (w.heap.size ≤ k) := hid (by have := hht.out; omega)
    refine CallsIn.mono (packParts_in (k + 2) k P d xss hn hl w hP.out (fun pre => CollAt w g (k + 1) (k + 2) [(k, 22, #[.slice P xss.length d])] rc (magic ++ [flag f] ++ pre)) W1
      (fun pre W s => ⟨s.gr, s.held (k, 22, #[.slice P xss.length d]) (by simp)⟩) (fun pre W W' s hg => s.grown hg) ?round hN) ?behind
    case round =>
      rintro pre ys A cp W s hpl hAy
      replace s : CollAt w g (k + 1) (k + 2) [(k, 22, #[.slice P xss.length d])] rc (magic ++ [flag f] ++ pre) W := s
      simp only [← List.append_assoc (magic ++ [flag f]) pre ys]
      have hzl : (magic ++ [flag f] ++ pre).length + ys.length ≤ 30000 := by
        rw [List.length_append] at hpl
        simp only [List.length_append, List.length_cons, List.length_nil, show magic.length = 4 from rfl]
        omega
      generalize magic ++ [flag f] ++ pre = zs at s hzl ⊢
      obtain ⟨A1, cp1, hH, hown⟩ := s.var
      have Hs := hid s
      refine round_wide hrc.out Hs.out.record rfl fun K hK => ?_
      replace hK := hid hK
      gi_wp2
      refine hK.out _ ?_
      clear hK
      clear K
      have hown' := hid hown
      have hHr : Holds (W.putObj (k + 2) (.loop (rc .busy none))) g 23 #[.slice A1 zs.length cp1] := hH.put (by omega) _
      have hownb := hid (ownsRow_putObj hown (.loop (rc .busy none)) s.record rfl)
      have hsz : Hid (w.heap.size ≤ (W.putObj (k + 2) (.loop (rc .busy none))).heap.size) := by have := s.gr.size; simpa [Hid] using this
      have hAb : Hid (Arr (W.putObj (k + 2) (.loop (rc .busy none))) .u8 A ys) := fun hz => by
        obtain ⟨b, off, hb0, hb1, hb2⟩ := hAy hz
        have hbr : ∀ i, i < ys.length → b ≠ k + 2 := fun i hi e => by
          subst e
          have := hb2 i hi
          simp [World.cell?, s.record] at this
        have hy0 : 0 < ys.length := List.length_pos_iff.2 hz
        refine ⟨b, off, hb0, by simpa using hb1, fun i hi => ?_⟩
        rw [← hb2 i hi]
        exact World.cell?_of_block (World.putObj_heap_other (hbr i hi))
      have hH' := hid hH
      clear hH hown s hAy
      obtain ⟨Wb, hWb⟩ : ∃ Wb, W.putObj (k + 2) (.loop (rc .busy none)) = Wb := ⟨_, rfl⟩
      rw [hWb] at hHr hownb hsz hAb
      rw [hWb]
      have c0 := hHr.cell 0
      simp at c0
      replace hWb := hid hWb
      have hstep := hid (fun (A' : Option Addr) (n cp' : Nat) (w1 : World) (hown1 : w1.ownsRow w.heap.size 5 1 (.slice A' n cp') (zs ++ ys).length ((zs ++ ys).map (Value.int .u8))) (hn1 : n = (zs ++ ys).length)
          (hg1 : Wb.grownBy w1 (Value.slice A1 zs.length cp1).ownBlock) =>
        Hs.out.step (wx := Wb) hgl.out (by have := hwk.out; omega) (by omega) (by
          intro x hx
          obtain rfl : x = (k, 22, #[.slice P xss.length d]) := by simpa using hx
          exact ⟨by simp; omega, by simp⟩) hH'.out hown'.out (by rw [hWb.out]; exact grown_refl Wb _) hg1 hown1 hn1)
      clear hHr
      gi_wp2_with (gi_at_builtin; refine wpListIn_append_all rfl _ _ 23 rfl w.heap.size 5 i0 .u8 1 Try.underlying23 hi0 hz0 hz1 hz2 _ zs ys _ _ _ _ hownb.out hAb.out rfl rfl rfl (by decide) (by omega) hsz.out ?_; intro v' w1 hown1 hg1; obtain ⟨A', cp', rfl, _, _⟩ := own_form hown1; have hst := hid (hstep.out A' _ cp' w1 hown1 rfl hg1); obtain ⟨c1, f1, l1, _, _⟩ := hst.out; clear hown1 hg1)
      exact ⟨by simpa using hst.out.2.2.2.1, by simpa using hst.out.2.2.2.2⟩
    case behind =>
      rintro e W2 ⟨hv, s⟩
      replace s : CollAt w g (k + 1) (k + 2) [(k, 22, #[.slice P xss.length d])] rc (aheadOf f xss) W2 := s
      refine ⟨hv, .inl ⟨s.record, fun o => ?_⟩⟩
      obtain ⟨A1, cp, hH, hown⟩ := s.var
      have hH2 := hH.put (l := k + 2) (by omega) o
      have hD := (World.putObj_heap_other (o := o) (r := k + 2) (k := k + 1) (by omega)).trans s.dfr
      have hG := grown_put (l := k + 2) s.gr (by have := hwk.out; omega) o
      have hO := ownsRow_putObj hown o s.record rfl
      obtain ⟨W3, hW3⟩ : ∃ W3, W2.putObj (k + 2) o = W3 := ⟨_, rfl⟩
      rw [hW3] at hH2 hD hG hO ⊢
      clear hW3 s hH hown
      have hzl : (aheadOf f xss).length ≤ 30000 := by
        have := hmid.out
        unfold aheadOf
        rw [List.length_append, List.length_append]
        simp only [List.length_cons, List.length_nil, show magic.length = 4 from rfl]
        omega
      obtain ⟨zs, hzs⟩ : ∃ zs, aheadOf f xss = zs := ⟨_, rfl⟩
      rw [hzs] at hH2 hO hzl hAB
      have hres : Hid (put f xss = zs ++ four (value (feed first zs))) := hid (by rw [← hzs]; rfl)
      clear hzs hmid
      have c0 := hH2.cell 0
      simp at c0
      replace c0 := hid c0
      have hAz := hid (Arr.of_own (k := .u8) hO)
      have hVr := hid (value_bd (feed first zs))
      replace hH2 := hid hH2
      replace hG := hid hG
      replace hO := hid hO
      replace hD := hid hD
      obtain ⟨V, hV⟩ : ∃ V, value (feed first zs) = V := ⟨_, rfl⟩
      rw [hV] at hres hVr
      replace hV := hid hV
      gi_wp2
      apply head_wide 5 [isv (.slice A1 zs.length cp), isv (.slice A1 zs.length cp), isRowOf 1 #[.slice A1 zs.length cp], isv (.int .u32 V), isArrOf (four V)]
        28 [some 22, some 23, some 24, some 25, some 26]
        [some 22, some 23, some 24, some 25, some 26]
        [[], [], [1], [2], [3]]
        [(5, .pointer (some ⟨g, 0, none⟩))] (by kernel_rfl) rfl (by kernel_rfl) (by kernel_rfl) rfl rfl (by kernel_rfl) (OutsOk.cons rfl rfl OutsOk.nil) ?st ?ob ?fin
      case ob =>
        refine Obs.consv rfl ?o0 (Obs.consv rfl ?o1 (Obs.consv rfl ?o2 (Obs.consv rfl ?o3 (Obs.consv rfl ?o4 Obs.nil))))
        case o0 =>
          go_light
          intro ac w' hgw
          have hc := ((gcell hgw).1 g 0 hH2.out.lt).trans c0.out
          have hAw := hid (hAz.out.grown (grown_trans (grown_drew (grown_refl W3 none)) hgw))
          replace hgw := hid hgw
          simp only [outThen, preThen, slotIs, factAt, isv, List.getElem?_cons_zero, List.getElem?_cons_succ, Option.getD_some, forall_eq]
          intros
          rename_i hK
          replace hK := hid hK
          simp only [wantedAt]
          go_simp
          exact hK.out _ _ rfl (grown_refl _ _)
        case o1 =>
          go_light
          intro ac w' hgw
          have hc := ((gcell hgw).1 g 0 hH2.out.lt).trans c0.out
          have hAw := hid (hAz.out.grown (grown_trans (grown_drew (grown_refl W3 none)) hgw))
          replace hgw := hid hgw
          simp only [outThen, preThen, slotIs, factAt, isv, List.getElem?_cons_zero, List.getElem?_cons_succ, Option.getD_some, forall_eq]
          intros
          rename_i hK
          replace hK := hid hK
          simp only [wantedAt]
          go_simp
          exact hK.out _ _ rfl (grown_refl _ _)
        case o2 =>
          go_light
          intro ac w' hgw
          have hc := ((gcell hgw).1 g 0 hH2.out.lt).trans c0.out
          have hAw := hid (hAz.out.grown (grown_trans (grown_drew (grown_refl W3 none)) hgw))
          replace hgw := hid hgw
          simp only [outThen, preThen, slotIs, factAt, isv, List.getElem?_cons_zero, List.getElem?_cons_succ, Option.getD_some, forall_eq]
          intros
          rename_i K hK
          replace hK := hid hK
          simp only [wantedAt]
          go_simp
          exact hK.out _ _ ⟨_, rfl, Holds.new _ _ _⟩ (grown_alloc (grown_refl _ _) _)
        case o3 =>
          go_light
          intro ac w' hgw
          have hc := ((gcell hgw).1 g 0 hH2.out.lt).trans c0.out
          have hAw := hid (hAz.out.grown (grown_trans (grown_drew (grown_refl W3 none)) hgw))
          replace hgw := hid hgw
          simp only [outThen, preThen, slotIs, factAt, isv, List.getElem?_cons_zero, List.getElem?_cons_succ, Option.getD_some, forall_eq]
          intros
          rename_i v1 h1 hv1 K hK
          obtain ⟨b1, rfl, hb1⟩ := h1
          replace hK := hid hK
          simp only [wantedAt]
          go_simp
          refine (sumOf_is (some ⟨b1, 0, none⟩) 1 [zs] _ (Arrs.one hb1 hAw.out) ⟨by simp, fun i => by
            rcases i with _ | i
            · exact ⟨by simp; omega, hAB.out⟩
            · exact ⟨by simp, fun k => by simp⟩⟩).mono ?_
          rintro e w9 ⟨rfl, hg9⟩
          rw [show [zs].flatten = zs by simp, hV.out]
          exact hK.out _ _ rfl hg9
        case o4 =>
          go_light
          intro ac w' hgw
          have hc := ((gcell hgw).1 g 0 hH2.out.lt).trans c0.out
          have hAw := hid (hAz.out.grown (grown_trans (grown_drew (grown_refl W3 none)) hgw))
          replace hgw := hid hgw
          simp only [outThen, preThen, slotIs, factAt, isv, List.getElem?_cons_zero, List.getElem?_cons_succ, Option.getD_some, forall_eq]
          intros
          rename_i K hK
          replace hK := hid hK
          simp only [wantedAt]
          go_simp
          refine (sumFour_is V _ hVr.out.1 hVr.out.2).mono ?_
          rintro e w9 ⟨A9, c9, rfl, _, _, hA9, hg9⟩
          exact hK.out _ _ ⟨_, _, rfl, hA9⟩ hg9
      case st =>
        repeat (first | exact AllStable.nil | (refine AllStable.cons ?_ ?_; focus (first | exact stable_isv _ | exact stable_isBytes _ | exact stable_isRow1 _ | exact stable_isRowOf _ _ | exact stable_isArrOf _)))
      case fin =>
        intro w8 hgw
        simp only [finalIn, factAt, isv, isRowOf, isArrOf, List.getElem?_cons_zero, List.getElem?_cons_succ, Option.getD_some, forall_eq, slotIs, subj, List.take_succ_cons, List.take_zero]
        rintro v9 ⟨b9, rfl, _⟩ v10 ⟨A10, c10, rfl, hA10⟩
        simp only [Act.put, List.setIfInBounds_toArray, List.set_cons_zero, List.set_cons_succ, List.drop_succ_cons, List.drop_zero]
        have hgx : Hid (W3.grownBy w8 none) := grown_trans (grown_drew (grown_refl W3 none)) hgw
        have hO8 : Hid (w8.ownsRow w.heap.size 5 1 (.slice A1 zs.length cp) zs.length (zs.map (Value.int .u8))) := hO.out.kept hgx.out (by cases A1 <;> simp [Value.ownBlock])
        have hD8 := hid (heap_kept hD.out hgx.out (by simp))
        have hG8 := hid (grown_trans hG.out hgx.out)
        have hsz8 : Hid (w.heap.size ≤ w8.heap.size) := hG8.out.size
        replace hA10 := hid hA10
        clear hgw c0
        have hl4 : (four V).length = 4 := rfl
        gi_wp2_with (gi_at_builtin; refine wpListIn_append_all rfl _ _ 23 rfl w.heap.size 5 i0 .u8 1 Try.underlying23 hi0 hz0 hz1 hz2 _ zs (four V) _ _ _ _ hO8.out hA10.out rfl rfl rfl (by decide) (by omega) hsz8.out ?_; intro v' w11 hown11 hg11; have hD11 := hid (heap_kept hD8.out hg11 (not_row_mark hD8.out rfl hO8.out)); have hG11 := hid (grown_own hG8.out hO8.out hg11); replace hown11 := hid hown11; clear hg11)
        refine put_leaves (v := v') rfl hD11.out ?_
        rw [hres.out]
        exact ⟨_, rfl, ownsRow_putObj hown11.out _ hD11.out rfl, Below.of_grown (grown_put hG11.out (by have := hwk.out; omega) _)⟩
end Go.Proofs.Ytghnbfphhmgcpaa
