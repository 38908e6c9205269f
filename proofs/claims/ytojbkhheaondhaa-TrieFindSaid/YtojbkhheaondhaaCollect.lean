/- A loop over an iterator that collects bytes in a variable of the call's own: the append in a round, what stands between the rounds. -/
import Derived.Test.YtojbkhheaondhaaK8
import Derived.Test.YtojbkhheaondhaaK7
import Derived.RangeFuncBox
import Derived.OwnWalkIn
set_option linter.unusedSimpArgs false
set_option linter.unusedVariables false
namespace Go.Proofs.Ytojbkhheaondhaa
open Go.RowKit

/-- All of a slice that reads as integers, in a fence. -/
theorem wpListIn_append_arr {F : Fence} {m0 : Nat} {P : Program} {ops : Array Oper} {rest : List Oper} {o : Oper} {a : Act} {Q : Exit → Act → World → Prop} (hgd : o.guard = none) (s x : Operand) (t : TypeId)
    (ho : o.op = .call { callee := .builtin .append, args := #[s, x], argTypes := #[t, t] })
    (base : Nat) (e : TypeId) (i : TypeInfo) (k : IntKind) (bytes : Nat) (ht : P.underlying t = some (.slice e)) (hi : P.info? e = some i) (hz : i.zero = some (.int k 0)) (hsize : i.size = 1) (hby : i.bytes = bytes)
    (v : Value) (xs zs : List Int) (ad : Addr) (m c : Nat) (w : World) (hown : w.ownsRow base e 1 v xs.length (xs.map (Value.int k))) (hA : Arr w k (some ad) zs) (hs : a.eval s = v)
    (hx : a.eval x = .slice (some ad) m c) (hm : zs.length = m) (hb8 : bytes ≤ 8) (hlen : xs.length + zs.length ≤ 1099511627776) (hbase : base ≤ w.heap.size)
    (h : ∀ v' w', w'.ownsRow base e 1 v' (xs ++ zs).length ((xs ++ zs).map (Value.int k)) → w.grownBy w' v.ownBlock → wpListIn F m0 P ops Q rest (a.put o.dst v') w') :
    wpListIn F m0 P ops Q (o :: rest) a w := by
  subst hm
  have hnews : ∀ (j : Nat) (u : Value), (zs.map (Value.int k))[j]? = some u → w.cell? (ad.add j) = some u := by
    intro j u hj
    have hjl : j < zs.length := by
      have := (List.getElem?_eq_some_iff.1 hj).1
      simpa using this
    obtain ⟨b, off, h0, _, hc⟩ := hA.at_ hjl
    injection h0 with h0
    subst h0
    rw [add_lit, hc j hjl]
    simp [hjl] at hj
    simp [List.getD, hjl, hj]
  refine wpListIn_append_own w hgd s x t ho base e i (.int k 0) 1 bytes ht hi hz hsize hby rfl (by decide) v xs.length (xs.map (Value.int k)) hs hown ad zs.length c (zs.map (Value.int k)) hx (by simp) hnews
    (by simp [Value.oneCell']) (by unfold maxLen; omega) ?_ hbase ?_
  · have : (xs.length + zs.length) * bytes ≤ (xs.length + zs.length) * 8 := Nat.mul_le_mul_left _ hb8
    omega
  · intro v' w' h1 h2 _
    exact h v' w' (by simpa using h1) h2

theorem Below.of_grown {w w' : World} (h : w.grownBy w' none) : Below w.heap.size w w' := below_of_grown h (Nat.le_refl _) (by simp)

/-- A block of cells of another type is not a row of bytes. -/
theorem not_row {w : World} {g : Nat} {t : TypeId} {cs : Array Value} (h : Holds w g t cs) (ht : t ≠ 5) {base n : Nat} {v : Value} {xs : List Value} (hr : w.ownsRow base 5 1 v n xs) : v.ownBlock ≠ some g := by
  rcases hr.2 with ⟨rfl, _⟩ | ⟨b, cap, cur, rfl, _, hb, _⟩
  · simp [Value.ownBlock]
  · intro e
    obtain rfl : b = g := by simpa [Value.ownBlock] using e
    unfold Holds at h
    rw [h] at hb
    injection hb with hb
    injection hb with _ hb
    exact ht hb
theorem not_row_mark {w : World} {g : Nat} {o : Obj} (h : w.heap[g]? = some o) (ho : o.isCells = false) {base n : Nat} {v : Value} {xs : List Value} (hr : w.ownsRow base 5 1 v n xs) : v.ownBlock ≠ some g := by
  rcases hr.2 with ⟨rfl, _⟩ | ⟨b, cap, cur, rfl, _, hb, _⟩
  · simp [Value.ownBlock]
  · intro e
    obtain rfl : b = g := by simpa [Value.ownBlock] using e
    rw [h] at hb
    injection hb with hb
    subst hb
    cases ho

theorem ne_of_mark {w : World} {g l : Nat} {t : TypeId} {cs : Array Value} (h : Holds w g t cs) {o : Obj} (hl : w.heap[l]? = some o) (ho : o.isCells = false) : g ≠ l := by
  rintro rfl
  unfold Holds at h
  rw [h] at hl
  injection hl with hl
  subst hl
  cases ho

/-- Blocks that are only read. -/
def AllHeld (ks : List (Nat × TypeId × Array Value)) (W : World) : Prop := ∀ x ∈ ks, Holds W x.1 x.2.1 x.2.2

/-- Between two rounds: block fb is the variable, its slice owns zs; ks: blocks that are only read; dl, rl: the loop's marks. -/
structure CollAt (w : World) (fb dl rl : Nat) (ks : List (Nat × TypeId × Array Value)) (rc : LoopState → Option Code → Loop) (zs : List Int) (W : World) : Prop where
  var : ∃ A cp, Holds W fb 28 #[.slice A zs.length cp] ∧ W.ownsRow w.heap.size 5 1 (.slice A zs.length cp) zs.length (zs.map (Value.int .u8))
  held : AllHeld ks W
  dfr : W.heap[dl]? = some (.deferred (some []))
  record : W.heap[rl]? = some (.loop (rc .ready none))
  gr : w.grownBy W none

/-- Bytes more. -/
theorem CollAt.step {w W wx w1 : World} {fb dl rl : Nat} {ks : List (Nat × TypeId × Array Value)} {rc : LoopState → Option Code → Loop} {zs : List Int} {ys : List Int} {A A' : Option Addr} {cp n cp' : Nat}
    (s : CollAt w fb dl rl ks rc zs W) (hfb : w.heap.size ≤ fb) (hrl : w.heap.size ≤ rl) (hdr : dl ≠ rl) (hks : ∀ x ∈ ks, x.1 ≠ fb ∧ x.2.1 ≠ 5)
    (hH : Holds W fb 28 #[.slice A zs.length cp]) (hown : W.ownsRow w.heap.size 5 1 (.slice A zs.length cp) zs.length (zs.map (Value.int .u8)))
    (hx : (W.putObj rl (.loop (rc .busy none))).grownBy wx none) (h1 : wx.grownBy w1 (Value.slice A zs.length cp).ownBlock)
    (hown1 : w1.ownsRow w.heap.size 5 1 (.slice A' n cp') (zs ++ ys).length ((zs ++ ys).map (Value.int .u8))) (hn : n = (zs ++ ys).length) :
    w1.cell? ⟨fb, 0, none⟩ = some (.slice A zs.length cp) ∧ w1.frozen? ⟨fb, 0, none⟩ = false ∧ fb < w1.heap.size ∧
    (w1.setCell ⟨fb, 0, none⟩ (.slice A' n cp')).heap[rl]? = some (.loop (rc .busy none)) ∧
      CollAt w fb dl rl ks rc (zs ++ ys) ((w1.setCell ⟨fb, 0, none⟩ (.slice A' n cp')).putObj rl (.loop (rc .ready none))) := by
  subst hn
  obtain ⟨Wb, hWb⟩ : ∃ Wb, W.putObj rl (.loop (rc .busy none)) = Wb := ⟨_, rfl⟩
  rw [hWb] at hx
  have rb : Wb.heap[rl]? = some (.loop (rc .busy none)) := hWb ▸ World.putObj_heap_same (Array.getElem?_eq_some_iff.1 s.record).1
  have nfr : fb ≠ rl := ne_of_mark hH s.record rfl
  have hHb : Holds Wb fb 28 #[.slice A zs.length cp] := hWb ▸ hH.put nfr _
  have hownb : Wb.ownsRow w.heap.size 5 1 (.slice A zs.length cp) zs.length (zs.map (Value.int .u8)) := hWb ▸ ownsRow_putObj hown _ s.record rfl
  have db : Wb.heap[dl]? = some (.deferred (some [])) := hWb ▸ (World.putObj_heap_other hdr).trans s.dfr
  have gb : w.grownBy Wb none := hWb ▸ grown_put s.gr hrl _
  have nfd : fb ≠ dl := ne_of_mark hH s.dfr rfl
  have kb : AllHeld ks Wb := fun x hx => hWb ▸ (s.held x hx).put (ne_of_mark (s.held x hx) s.record rfl) _
  clear hWb
  have hHx := hHb.kept0 hx
  have hownx := hownb.kept hx (by cases A <;> simp [Value.ownBlock])
  have rx : wx.heap[rl]? = some (.loop (rc .busy none)) := (hx.block rl (Array.getElem?_eq_some_iff.1 rb).1 (by simp)).trans rb
  have dx : wx.heap[dl]? = some (.deferred (some [])) := (hx.block dl (Array.getElem?_eq_some_iff.1 db).1 (by simp)).trans db
  have kx : AllHeld ks wx := fun x hx' => (kb x hx').kept0 hx
  have gx := grown_trans gb hx
  have hH1 : Holds w1 fb 28 #[.slice A zs.length cp] := hHx.kept h1 (not_row hHx (by decide) hownx)
  have r1 : w1.heap[rl]? = some (.loop (rc .busy none)) := (h1.block rl (Array.getElem?_eq_some_iff.1 rx).1 (fun e => not_row_mark rx rfl hownx e.symm)).trans rx
  have d1 : w1.heap[dl]? = some (.deferred (some [])) := (h1.block dl (Array.getElem?_eq_some_iff.1 dx).1 (fun e => not_row_mark dx rfl hownx e.symm)).trans dx
  have k1 : AllHeld ks w1 := fun x hx' => (kx x hx').kept h1 (not_row (kx x hx') (hks x hx').2 hownx)
  have g1 : w.grownBy w1 none := ⟨h1.os.trans gx.os, h1.tape.trans gx.tape, h1.output.trans gx.output, Nat.le_trans gx.size h1.size, fun j hj _ => (h1.block j (Nat.lt_of_lt_of_le hj gx.size) (fun e => by
    rcases hownx.2 with ⟨h0, _⟩ | ⟨b, cap, cur, h0, hb, _⟩
    · injection h0 with h0; subst h0; simp [Value.ownBlock] at e
    · injection h0 with h0; subst h0
      obtain rfl : b = j := by simpa [Value.ownBlock] using e.symm
      omega)).trans (gx.block j hj (by simp))⟩
  have c1 := hH1.cell 0
  simp at c1
  have hs2 : Holds (w1.setCell ⟨fb, 0, none⟩ (.slice A' (zs ++ ys).length cp')) fb 28 #[.slice A' (zs ++ ys).length cp'] := by simpa using hH1.set 0 (.slice A' (zs ++ ys).length cp')
  have r2 := other_set (p := ⟨fb, 0, none⟩) r1 (fun e => nfr e.symm) (.slice A' (zs ++ ys).length cp')
  have d2 := other_set (p := ⟨fb, 0, none⟩) d1 (fun e => nfd e.symm) (.slice A' (zs ++ ys).length cp')
  have o2 : (w1.setCell ⟨fb, 0, none⟩ (.slice A' (zs ++ ys).length cp')).ownsRow w.heap.size 5 1 (.slice A' (zs ++ ys).length cp') (zs ++ ys).length ((zs ++ ys).map (Value.int .u8)) :=
    hown1.kept (grownBy_setCell' w1 fb _) (.inr (not_row hH1 (by decide) hown1))
  have k2 : AllHeld ks (w1.setCell ⟨fb, 0, none⟩ (.slice A' (zs ++ ys).length cp')) := fun x hx' => (k1 x hx').far (hks x hx').1 _
  refine ⟨c1, hH1.free 0, hH1.lt, r2, ?_⟩
  exact {
    var := ⟨A', cp', hs2.put nfr _, ownsRow_putObj o2 _ r2 rfl⟩
    held := fun x hx' => (k2 x hx').put (ne_of_mark (k2 x hx') r2 rfl) _
    dfr := (World.putObj_heap_other hdr).trans d2
    record := World.putObj_heap_same (Array.getElem?_eq_some_iff.1 r2).1
    gr := grown_put (grown_set g1 (.inr hfb) _) hrl _ }

/-- New memory changes nothing of it. -/
theorem CollAt.grown {w W W' : World} {fb dl rl : Nat} {ks : List (Nat × TypeId × Array Value)} {rc : LoopState → Option Code → Loop} {zs : List Int} (s : CollAt w fb dl rl ks rc zs W) (hg : W.grownBy W' none) : CollAt w fb dl rl ks rc zs W' := by
  obtain ⟨A, cp, hH, hown⟩ := s.var
  exact {
    var := ⟨A, cp, hH.kept0 hg, hown.kept hg (by cases A <;> simp [Value.ownBlock])⟩
    held := fun x hx => (s.held x hx).kept0 hg
    dfr := (hg.block dl (Array.getElem?_eq_some_iff.1 s.dfr).1 (by simp)).trans s.dfr
    record := (hg.block rl (Array.getElem?_eq_some_iff.1 s.record).1 (by simp)).trans s.record
    gr := grown_trans s.gr hg }

/-- Nothing that is appended in a fence: a slice that is nil. -/
theorem wpListIn_append_all {F : Fence} {m0 : Nat} {P : Program} {ops : Array Oper} {rest : List Oper} {o : Oper} {a : Act} {Q : Exit → Act → World → Prop} (hgd : o.guard = none) (s x : Operand) (t : TypeId)
    (ho : o.op = .call { callee := .builtin .append, args := #[s, x], argTypes := #[t, t] })
    (base : Nat) (e : TypeId) (i : TypeInfo) (k : IntKind) (bytes : Nat) (ht : P.underlying t = some (.slice e)) (hi : P.info? e = some i) (hz : i.zero = some (.int k 0)) (hsize : i.size = 1) (hby : i.bytes = bytes)
    (v : Value) (xs zs : List Int) (A : Option Addr) (m c : Nat) (w : World) (hown : w.ownsRow base e 1 v xs.length (xs.map (Value.int k))) (hA : Arr w k A zs) (hs : a.eval s = v)
    (hx : a.eval x = .slice A m c) (hm : zs.length = m) (hb8 : bytes ≤ 8) (hlen : xs.length + zs.length ≤ 1099511627776) (hbase : base ≤ w.heap.size)
    (h : ∀ v' w', w'.ownsRow base e 1 v' (xs ++ zs).length ((xs ++ zs).map (Value.int k)) → w.grownBy w' v.ownBlock → wpListIn F m0 P ops Q rest (a.put o.dst v') w') :
    wpListIn F m0 P ops Q (o :: rest) a w := by
  subst hm
  cases A with
  | some ad => exact wpListIn_append_arr hgd s x t ho base e i k bytes ht hi hz hsize hby v xs zs ad zs.length c w hown hA hs hx rfl hb8 hlen hbase h
  | none =>
    have hzs : zs = [] := by
      by_cases hz : zs = []
      · exact hz
      · obtain ⟨_, _, h0, _⟩ := hA hz
        cases h0
    subst hzs
    refine wpListIn_plain hgd fun K hK => ?_
    have hrun := run_append_nothing (P := P) w base t o.type e i 1 ht hi v xs.length _ hown c
    unfold Oper.wpIn
    refine ⟨?_, ?_⟩
    · simp [Oper.about, ho, resolve, Target.leads, Sem.run_pure]
    · rw [Oper.semAt_plain F _ _ (by rw [ho]; intro c hc'; cases hc')]
      simp only [List.length_nil] at hx
      simp [execOp, ho, resolve, invoke, builtin, hs, hx, hrun, Result.andThen]
      exact hK _ _ (h v w (by simpa using hown) (grown_refl w _))

/-- Rows of bytes at known addresses. -/
def RowsAt (W : World) (P : Option Addr) (As : Nat → Option Addr) (Cs : Nat → Nat) (xss : List (List Int)) : Prop :=
  ∀ k, k < xss.length → ∃ b off, P = some ⟨b, off, none⟩ ∧ b < W.heap.size ∧ W.cell? ⟨b, off + k, none⟩ = some (.slice (As k) (xss.getD k []).length (Cs k)) ∧ Arr W .u8 (As k) (xss.getD k [])

theorem RowsAt.grown {w w' : World} {P : Option Addr} {As : Nat → Option Addr} {Cs : Nat → Nat} {xss : List (List Int)} (h : RowsAt w P As Cs xss) (hg : w.grownBy w' none) : RowsAt w' P As Cs xss := fun k hk => by
  obtain ⟨b, off, h1, h2, h3, h4⟩ := h k hk
  exact ⟨b, off, h1, Nat.lt_of_lt_of_le h2 hg.size, ((gcell hg).1 b _ h2).trans h3, h4.grown hg⟩

theorem RowsAt.of_arrs {w : World} {P : Option Addr} {xss : List (List Int)} (h : Arrs w P xss) : ∃ As Cs, RowsAt w P As Cs xss := by
  have : ∀ k, ∃ x : Option Addr × Nat, k < xss.length → ∃ b off, P = some ⟨b, off, none⟩ ∧ b < w.heap.size ∧ w.cell? ⟨b, off + k, none⟩ = some (.slice x.1 (xss.getD k []).length x.2) ∧ Arr w .u8 x.1 (xss.getD k []) := fun k => by
    by_cases hk : k < xss.length
    · obtain ⟨b, off, Ai, ci, h1, h2, h3, h4⟩ := h.at_ hk
      exact ⟨(Ai, ci), fun _ => ⟨b, off, h1, h2, h3, h4⟩⟩
    · exact ⟨(none, 0), fun h => absurd h hk⟩
  exact ⟨fun k => (Classical.choose (this k)).1, fun k => (Classical.choose (this k)).2, fun k hk => Classical.choose_spec (this k) hk⟩

end Go.Proofs.Ytojbkhheaondhaa
