/- One number, taken from where the walk stands. -/
import Derived.Test.YtghnbfphhmgcpaaLeft
import Derived.Test.YtghnbfphhmgcpaaBits
set_option linter.unusedSimpArgs false
set_option linter.unusedVariables false
set_option maxRecDepth 100000
namespace Go.Proofs.Ytghnbfphhmgcpaa
open Go.RowKit Plain Go.Shelf
attribute [local go_sem] Oper.semAt_some

/-- What taking a number has come to. -/
def Told (g : Got) (n er : Int) (rest : List Int) : Prop := (g = .good n rest ∧ er = 0) ∨ (g = .bad er ∧ n = 0)

/-- Between two bytes of a number: k: where it begins; i: how many bytes were passed; acc: the bits so far. h: the heap's size when the call began. -/
structure NumAt (w : World) (h bt k : Nat) (bs : List Int) (rc : LoopState → Option Code → Loop) (i : Nat) (acc : Int) (W : World) : Prop where
  lo : k ≤ i
  hi : i ≤ k + 5
  a0 : 0 ≤ acc
  a1 : acc < 128 ^ (i - k)
  a2 : acc ≤ 2147483647
  go : takeFrom (i - k) acc (bs.drop i) = take (bs.drop k)
  r0 : Holds W h 3 #[.int .i64 0]
  r1 : Holds W (h + 1) 26 #[.int .i64 0]
  n : Holds W (h + 2) 3 #[.int .i64 acc]
  ps : Holds W (h + 3) 3 #[.int .i64 ((i - k : Nat) : Int)]
  dfr : W.heap[h + 5]? = some (.deferred (some []))
  record : W.heap[h + 6]? = some (.loop (rc .ready none))
  gr : w.grownBy W (some bt)

theorem NumAt.set {w W : World} {h bt k i : Nat} {bs : List Int} {rc : LoopState → Option Code → Loop} {acc : Int} (s : NumAt w h bt k bs rc i acc W) (hb : bt < h) (v : Value) :
    NumAt w h bt k bs rc i acc (W.setCell ⟨bt, 1, none⟩ v) :=
  { s with
    r0 := s.r0.far (by simp; omega) v
    r1 := s.r1.far (by simp; omega) v
    n := s.n.far (by simp; omega) v
    ps := s.ps.far (by simp; omega) v
    dfr := other_set s.dfr (by simp; omega) v
    record := other_set s.record (by simp; omega) v
    gr := grown_set s.gr (.inl rfl) v }

theorem NumAt.drew {w W : World} {h bt k i : Nat} {bs : List Int} {rc : LoopState → Option Code → Loop} {acc : Int} (s : NumAt w h bt k bs rc i acc W) : NumAt w h bt k bs rc i acc W.drew :=
  { s with gr := grown_drew s.gr }

theorem Stands.set {bt bx : Nat} {A : Option Addr} {c : Nat} {bs : List Int} {i j : Nat} {W : World} (s : Stands bt bx A c bs i W) (hbx : bx ≠ bt) (hA : ∀ a, bs ≠ [] → A = some a → a.block ≠ bt) :
    Stands bt bx A c bs j (W.setCell ⟨bt, 1, none⟩ (.int .i64 j)) where
  at_ := by simpa using s.at_.set 1 (.int .i64 j)
  box := s.box.far hbx _
  bytes := fun hz => by
    obtain ⟨b, off, rfl, hb, hc⟩ := s.bytes hz
    have hne := hA _ hz rfl
    exact ⟨b, off, rfl, by simpa [World.setCell] using hb, fun j hj => (World.cell?_of_block (Below.heap_setCell W _ _ b hne)).trans (hc j hj)⟩

theorem Stands.drew {bt bx : Nat} {A : Option Addr} {c : Nat} {bs : List Int} {i : Nat} {W : World} (s : Stands bt bx A c bs i W) : Stands bt bx A c bs i W.drew := ⟨s.at_, s.box, s.bytes⟩

/-- Where the rounds have ended by a return. -/
def NumEnd (w : World) (h bt k : Nat) (A : Option Addr) (c : Nat) (bs : List Int) (rc : LoopState → Option Code → Loop) (W : World) : Prop :=
  ∃ (i : Nat) (n er : Int), i ≤ bs.length ∧ Told (take (bs.drop k)) n er (bs.drop i) ∧ Holds W h 3 #[.int .i64 n] ∧ Holds W (h + 1) 26 #[.int .i64 er] ∧
    Holds W bt 93 #[.slice A bs.length c, .int .i64 i] ∧ W.heap[h + 5]? = some (.deferred (some [])) ∧ W.heap[h + 6]? = some (.loop (rc .done (some .ret))) ∧ w.grownBy W (some bt)

/-- Within a round. -/
structure Busy (w : World) (h bt : Nat) (A : Option Addr) (c : Nat) (bs : List Int) (rc : LoopState → Option Code → Loop) (i : Nat) (W : World) : Prop where
  r0 : Holds W h 3 #[.int .i64 0]
  r1 : Holds W (h + 1) 26 #[.int .i64 0]
  at_ : Holds W bt 93 #[.slice A bs.length c, .int .i64 i]
  dfr : W.heap[h + 5]? = some (.deferred (some []))
  record : W.heap[h + 6]? = some (.loop (rc .busy none))
  gr : w.grownBy W (some bt)

section
variable {w W : World} {h bt c i k : Nat} {A : Option Addr} {bs : List Int} {rc : LoopState → Option Code → Loop}

theorem Busy.set (s : Busy w h bt A c bs rc i W) (hw : w.heap.size = h) (hb : bt < h) (d : Nat) (hd : d = 2 ∨ d = 3) (v : Value) : Busy w h bt A c bs rc i (W.setCell ⟨h + d, 0, none⟩ v) where
  r0 := s.r0.far (by simp; omega) v
  r1 := s.r1.far (by simp; omega) v
  at_ := s.at_.far (by simp; omega) v
  dfr := other_set s.dfr (by simp; omega) v
  record := other_set s.record (by simp; omega) v
  gr := grown_set s.gr (.inr (by simp; omega)) v

/-- A return: the results are laid, the round is over. -/
theorem Busy.ends (s : Busy w h bt A c bs rc i W) (hw : w.heap.size = h) (hb : bt < h) (n er : Int) (hi : i ≤ bs.length) (ht : Told (take (bs.drop k)) n er (bs.drop i)) :
    ((W.setCell ⟨h, 0, none⟩ (.int .i64 n)).setCell ⟨h + 1, 0, none⟩ (.int .i64 er)).heap[h + 6]? = some (.loop (rc .busy none)) ∧
      NumEnd w h bt k A c bs rc (((W.setCell ⟨h, 0, none⟩ (.int .i64 n)).setCell ⟨h + 1, 0, none⟩ (.int .i64 er)).putObj (h + 6) (.loop (rc .done (some .ret)))) := by
  have hr : ((W.setCell ⟨h, 0, none⟩ (.int .i64 n)).setCell ⟨h + 1, 0, none⟩ (.int .i64 er)).heap[h + 6]? = some (.loop (rc .busy none)) :=
    other_set (other_set s.record (by simp) _) (by simp) _
  have g0 : Holds (W.setCell ⟨h, 0, none⟩ (.int .i64 n)) h 3 #[.int .i64 n] := by simpa using s.r0.set 0 (.int .i64 n)
  have g1 : Holds ((W.setCell ⟨h, 0, none⟩ (.int .i64 n)).setCell ⟨h + 1, 0, none⟩ (.int .i64 er)) (h + 1) 26 #[.int .i64 er] := by
    simpa using (s.r1.far (p := ⟨h, 0, none⟩) (by simp) (.int .i64 n)).set 0 (.int .i64 er)
  refine ⟨hr, i, n, er, hi, ht, (g0.far (by simp) _).put (by omega) _, g1.put (by omega) _, ((s.at_.far (by simp; omega) _).far (by simp; omega) _).put (by omega) _, ?_, ?_, ?_⟩
  · exact (World.putObj_heap_other (by omega)).trans (other_set (other_set s.dfr (by simp) _) (by simp) _)
  · exact World.putObj_heap_same (Array.getElem?_eq_some_iff.1 hr).1
  · exact grown_put (grown_set (grown_set s.gr (.inr (by simp; omega)) _) (.inr (by simp; omega)) _) (by omega) _

theorem NumEnd.drew {l : Nat} {o : Obj} (s : NumEnd w h bt k A c bs rc (W.putObj l o)) : NumEnd w h bt k A c bs rc (W.drew.putObj l o) := by
  obtain ⟨i, n, er, hi, ht, a, b, d, e, f, g⟩ := s
  exact ⟨i, n, er, hi, ht, a, b, d, e, f, ⟨g.os, g.tape, g.output, g.size, g.block⟩⟩

theorem Busy.ends_drew (s : Busy w h bt A c bs rc i W) (hw : w.heap.size = h) (hb : bt < h) (n er : Int) (hi : i ≤ bs.length) (ht : Told (take (bs.drop k)) n er (bs.drop i)) :
    ((W.setCell ⟨h, 0, none⟩ (.int .i64 n)).setCell ⟨h + 1, 0, none⟩ (.int .i64 er)).drew.heap[h + 6]? = some (.loop (rc .busy none)) ∧
      NumEnd w h bt k A c bs rc (((W.setCell ⟨h, 0, none⟩ (.int .i64 n)).setCell ⟨h + 1, 0, none⟩ (.int .i64 er)).drew.putObj (h + 6) (.loop (rc .done (some .ret)))) :=
  ⟨(s.ends hw hb n er hi ht).1, (s.ends hw hb n er hi ht).2.drew⟩

/-- The round goes on: the bits and the count are laid. -/
theorem Busy.goes {q : Nat} {acc u z : Int} (s : Busy w h bt A c bs rc (k + q + 1) W) (hw : w.heap.size = h) (hb : bt < h) (hn : Holds W (h + 2) 3 #[.int .i64 acc]) (hps : Holds W (h + 3) 3 #[.int .i64 u])
    (hbox : Holds W (h + 4) 104 #[.pointer (some ⟨bt, 0, none⟩)]) (hA : Arr w .u8 A bs) (hAb : ∀ a, bs ≠ [] → A = some a → a.block ≠ bt) (hq : q ≤ 4) (hi : k + q < bs.length)
    (z0 : 0 ≤ z) (z1 : z < 128 ^ (q + 1)) (z2 : z ≤ 2147483647) (hgo : takeFrom (q + 1) z (bs.drop (k + q + 1)) = take (bs.drop k)) :
    ((W.setCell ⟨h + 2, 0, none⟩ (.int .i64 z)).setCell ⟨h + 3, 0, none⟩ (.int .i64 ((q : Int) + 1))).drew.heap[h + 6]? = some (.loop (rc .busy none)) ∧
      (∃ acc, NumAt w h bt k bs rc (k + q + 1) acc (((W.setCell ⟨h + 2, 0, none⟩ (.int .i64 z)).setCell ⟨h + 3, 0, none⟩ (.int .i64 ((q : Int) + 1))).drew.putObj (h + 6) (.loop (rc .ready none)))) ∧
      Stands bt (h + 4) A c bs (k + q + 1) (((W.setCell ⟨h + 2, 0, none⟩ (.int .i64 z)).setCell ⟨h + 3, 0, none⟩ (.int .i64 ((q : Int) + 1))).drew.putObj (h + 6) (.loop (rc .ready none))) ∧
      k + q + 1 ≤ bs.length := by
  have t := (s.set hw hb 2 (.inl rfl) (.int .i64 z)).set hw hb 3 (.inr rfl) (.int .i64 ((q : Int) + 1))
  have e2 : Holds (W.setCell ⟨h + 2, 0, none⟩ (.int .i64 z)) (h + 2) 3 #[.int .i64 z] := by simpa using hn.set 0 (.int .i64 z)
  have e3 : Holds ((W.setCell ⟨h + 2, 0, none⟩ (.int .i64 z)).setCell ⟨h + 3, 0, none⟩ (.int .i64 ((q : Int) + 1))) (h + 3) 3 #[.int .i64 ((q : Int) + 1)] := by
    simpa using (hps.far (p := ⟨h + 2, 0, none⟩) (by simp) (.int .i64 z)).set 0 (.int .i64 ((q : Int) + 1))
  obtain ⟨W', hW'⟩ : ∃ W', (W.setCell ⟨h + 2, 0, none⟩ (.int .i64 z)).setCell ⟨h + 3, 0, none⟩ (.int .i64 ((q : Int) + 1)) = W' := ⟨_, rfl⟩
  have e4 : Holds W' (h + 4) 104 #[.pointer (some ⟨bt, 0, none⟩)] := hW' ▸ (hbox.far (by simp) _).far (by simp) _
  have e2' : Holds W' (h + 2) 3 #[.int .i64 z] := hW' ▸ e2.far (by simp) _
  rw [hW'] at t e3 ⊢
  have g : w.grownBy (W'.drew.putObj (h + 6) (.loop (rc .ready none))) (some bt) := grown_put (grown_drew t.gr) (by omega) _
  refine ⟨t.record, ⟨z, ?_⟩, ?_, by omega⟩
  · exact {
      lo := by omega
      hi := by omega
      a0 := z0
      a1 := by rw [show k + q + 1 - k = q + 1 by omega]; exact z1
      a2 := z2
      go := by rw [show k + q + 1 - k = q + 1 by omega]; exact hgo
      r0 := t.r0.drew.put (by omega) _
      r1 := t.r1.drew.put (by omega) _
      n := e2'.drew.put (by omega) _
      ps := by rw [show k + q + 1 - k = q + 1 by omega]; exact e3.drew.put (by omega) _
      dfr := (World.putObj_heap_other (by omega)).trans t.dfr
      record := World.putObj_heap_same (Array.getElem?_eq_some_iff.1 t.record).1
      gr := g }
  · exact {
      at_ := t.at_.drew.put (by omega) _
      box := e4.drew.put (by omega) _
      bytes := hA.kept g (fun a hz ha e => hAb a hz ha (by injection e with e; exact e.symm)) }

/-- The function's return, its results in two cells, the loop's mark taken up. -/
theorem number_leaves {n er : Int} {T : Array Value} {R : Ending → World → Prop} (hT2 : T.getD 2 undef = .pointer (some ⟨h, 0, none⟩)) (hT3 : T.getD 3 undef = .pointer (some ⟨h + 1, 0, none⟩))
    (r0 : Holds W h 3 #[.int .i64 n]) (r1 : Holds W (h + 1) 26 #[.int .i64 er]) (hD : W.heap[h + 5]? = some (.deferred (some [])))
    (hR : R (.returned (.tuple #[.int .i64 n, .int .i64 er])) (W.putObj (h + 5) (.deferred none))) :
    bodyPostM Fence.wide 0 Try.prog Try.f54 R Exit.ret { tmps := T, defers := [{ target := .collected (h + 5), args := #[] }] } W := by
  refine ⟨by simp, .inl ⟨_, _, rfl, run_takeDeferred hD, ?_⟩⟩
  have c0 := (r0.put (l := h + 5) (by omega) (.deferred none)).cell 0
  have c1 := (r1.put (l := h + 5) (by omega) (.deferred none)).cell 0
  simp at c0 c1
  rw [Array.getD_eq_getD_getElem?] at hT2 hT3
  refine ⟨_, ?_, hR⟩
  simp [results, Try.results54, hT2, hT3, go_sem, c0, c1]
end

set_option maxHeartbeats 2000000 in
theorem number_any (bt : Nat) (A : Option Addr) (c : Nat) (bs : List Int) (k : Nat) (w : World) (hl : bs.length ≤ 100000) (hk : k ≤ bs.length) (hby : ∀ x ∈ bs, isByte x)
    (ht : Holds w bt 93 #[.slice A bs.length c, .int .i64 k]) (hA : Arr w .u8 A bs) (hAb : ∀ a, bs ≠ [] → A = some a → a.block ≠ bt) :
    Calls Try.prog 54 #[.pointer (some ⟨bt, 0, none⟩)] w fun e w' => ∃ (i : Nat) (n er : Int), e = .returned (.tuple #[.int .i64 n, .int .i64 er]) ∧ i ≤ bs.length ∧ Told (take (bs.drop k)) n er (bs.drop i) ∧
      Holds w' bt 93 #[.slice A bs.length c, .int .i64 i] ∧ w.grownBy w' (some bt) := by
  obtain ⟨h, hh⟩ : ∃ h, w.heap.size = h := ⟨_, rfl⟩
  have hbt : bt < h := hh ▸ ht.lt
  refine (callsIn_wide (n := 0)).1 ?_
  refine callsIn_of_wp_marks Try.func54 rfl trivial ?_ rfl
  simp only [Try.ntmps54, List.size_toArray, List.length_cons, List.length_nil, Nat.reduceAdd, Nat.reduceSub, Array.replicate_succ, Array.replicate_zero, List.push_toArray, List.append_toArray, List.nil_append, List.cons_append]
  have hht := hid hh
  have hT := hid ht
  have hArr := hid hA
  clear hh ht hA
  gi_wp2_with fail
  refine ⟨trivial, rfl, ?_⟩
  refine (callsIn_wide.2 (left_any _ _)).mono ?_
  rintro e w' ⟨rfl, rfl⟩
  gi_wp2
  refine range_wide (gf := 65) rfl (enters_of Try.func65 (by kernel_rfl) rfl) (fun fn rc hrc => ?_)
  replace hrc := hid hrc
  simp only [World.size_alloc, hht.out, Nat.add_assoc, Nat.reduceAdd] at hrc ⊢
  obtain ⟨W1, hW1⟩ : ∃ W1, (((((((w.alloc (Obj.cells #[.int .i64 0] 3)).alloc (Obj.cells #[.int .i64 0] 26)).alloc (Obj.cells #[.int .i64 0] 3)).alloc (Obj.cells #[.int .i64 0] 3)).alloc
    (Obj.cells #[.pointer (some ⟨bt, 0, none⟩)] 104)).alloc (Obj.deferred (some []))).alloc (Obj.loop (rc .ready none))) = W1 := ⟨_, rfl⟩
  rw [hW1]
  have hN : NumAt w h bt k bs rc k 0 W1 := by
    subst hW1
    exact {
      lo := Nat.le_refl _
      hi := by omega
      a0 := by omega
      a1 := by simp
      a2 := by omega
      go := by simp [take]
      r0 := ((((((Holds.new_at 3 _ hht.out).alloc _).alloc _).alloc _).alloc _).alloc _).alloc _
      r1 := (((((Holds.new_at 26 _ (by simp [hht.out])).alloc _).alloc _).alloc _).alloc _).alloc _
      n := ((((Holds.new_at 3 _ (by simp [hht.out])).alloc _).alloc _).alloc _).alloc _
      ps := by simpa using (((Holds.new_at (g := h + 3) 3 #[.int .i64 0] (by simp [hht.out])).alloc _).alloc _).alloc _
      dfr := other_alloc (alloc_at _ (by simp [hht.out]))
      record := alloc_at _ (by simp [hht.out])
      gr := grown_alloc (grown_alloc (grown_alloc (grown_alloc (grown_alloc (grown_alloc (grown_alloc (grown_refl w _) _) _) _) _) _) _) _ }
  have hS : Stands bt (h + 4) A c bs k W1 := by
    subst hW1
    exact {
      at_ := ((((((hT.out.alloc _).alloc _).alloc _).alloc _).alloc _).alloc _).alloc _
      box := ((Holds.new_at 104 _ (by simp [hht.out])).alloc _).alloc _
      bytes := hArr.out.grown (grown_alloc (grown_alloc (grown_alloc (grown_alloc (grown_alloc (grown_alloc (grown_alloc (grown_refl w _) _) _) _) _) _) _) _) }
  clear hW1
  refine CallsIn.mono (left_in (h + 6) bt (h + 4) A c bs hl (fun i W => ∃ acc, NumAt w h bt k bs rc i acc W ∧ Stands bt (h + 4) A c bs i W ∧ i ≤ bs.length)
    (fun i W => ∃ acc, NumAt w h bt k bs rc i acc W ∧ Stands bt (h + 4) A c bs (i + 1) W ∧ i < bs.length) (NumEnd w h bt k A c bs rc) k W1
    (fun i W ⟨acc, _, s, hi⟩ => ⟨hi, s⟩) (fun i W ⟨acc, s1, s2, hi⟩ => ⟨acc, s1.drew, s2.drew, hi⟩) (fun i W ⟨acc, _, s, hi⟩ => ⟨hi, s⟩)
    (fun i W ⟨acc, s1, s2, _⟩ hi => ⟨acc, (s1.set hbt _).drew.drew, (s2.set (j := i + 1) (by omega) hAb).drew.drew, hi⟩) ?round ⟨0, hN, hS, hk⟩) ?behind
  case round =>
    rintro i W ⟨acc, s, sS, hi⟩
    obtain ⟨q, rfl⟩ : ∃ q, i = k + q := ⟨i - k, by have := s.lo; omega⟩
    have hq5 : q ≤ 5 := by have := s.hi; omega
    have hgo := s.go
    have ha0 := s.a0
    have ha1 := s.a1
    have ha2 := s.a2
    have hyb : isByte (bs.getD (k + q) 0) := hby _ (by simp [List.getD, hi])
    have hd : bs.drop (k + q) = bs.getD (k + q) 0 :: bs.drop (k + q + 1) := by rw [List.drop_eq_getElem_cons hi]; simp [List.getD, hi]
    rw [hd, show k + q - k = q by omega] at hgo
    rw [show k + q - k = q by omega] at ha1
    clear hd
    unfold isByte at hyb
    generalize bs.getD (k + q) 0 = y at hyb hgo ⊢
    have Hgo := hid hgo
    have hs := hid s
    have hsS := hid sS
    clear hgo s sS
    refine round_wide hrc.out hs.out.record rfl fun K hK => ?_
    replace hK := hid hK
    gi_wp2
    refine hK.out _ ?_
    clear hK
    clear K
    have s := hs.out
    have sS := hsS.out
    clear hs hsS
    obtain ⟨Wb, hWb⟩ : ∃ Wb, W.putObj (h + 6) (.loop (rc .busy none)) = Wb := ⟨_, rfl⟩
    rw [hWb]
    have hn : Holds Wb (h + 2) 3 #[.int .i64 acc] := hWb ▸ s.n.put (by omega) _
    have hps : Holds Wb (h + 3) 3 #[.int .i64 (q : Int)] := hWb ▸ (by simpa using s.ps.put (l := h + 6) (by omega) _)
    have hB : Busy w h bt A c bs rc (k + q + 1) Wb := by
      subst hWb
      exact {
        r0 := s.r0.put (by omega) _
        r1 := s.r1.put (by omega) _
        at_ := sS.at_.put (by omega) _
        dfr := (World.putObj_heap_other (by omega)).trans s.dfr
        record := World.putObj_heap_same (Array.getElem?_eq_some_iff.1 s.record).1
        gr := grown_put s.gr (by have := hht.out; omega) _ }
    have hr0 := hB.r0
    have hr1 := hB.r1
    have hbox : Holds Wb (h + 4) 104 #[.pointer (some ⟨bt, 0, none⟩)] := hWb ▸ sS.box.put (by omega) _
    clear s sS hWb
    have c_n := hn.cell 0
    have c_p := hps.cell 0
    have c_0 := hr0.cell 0
    have c_1 := hr1.cell 0
    have f_n := hn.free 0
    have f_p := hps.free 0
    have f_0 := hr0.free 0
    have f_1 := hr1.free 0
    simp at c_n c_p c_0 c_1
    by_cases h5 : q = 5
    · subst h5
      gi_wp2
      exact hB.ends hht.out hbt 0 11 hi (.inr ⟨by rw [← Hgo.out]; rfl, rfl⟩)
    · have hne : ((q : Int) == 5) = false := by simp; omega
      gi_wp2
      have e0 : IntKind.i64.wrap (7 * (q : Int)) = 7 * (q : Int) := IntWalk.i64_in _ (by omega)
      have e1 : (7 * (q : Int)).toNat = 7 * q := by omega
      have e2 : (0 : Int) ≤ 7 * (q : Int) := by omega
      have e3 : 7 * (q : Int) ≤ 64 := by omega
      refine tail_round 8 (by kernel_rfl) (by kernel_rfl) rfl ?_
      simp only [List.take_succ_cons, List.take_zero, List.drop_succ_cons, List.drop_zero]
      repeat still_step
      rw [or_step acc y q (by omega) ha0 ha1 hyb.1 hyb.2]
      clear e0 e1 e2 e3 hne
      have hz0 : 0 ≤ y % 128 * 128 ^ q := Int.mul_nonneg (by omega) (Int.le_of_lt (Int.pow_pos (by omega)))
      have hgo := Hgo.out
      simp only [takeFrom, if_neg h5] at hgo
      have hz1 : acc + y % 128 * 128 ^ q < 128 ^ (q + 1) := by
        have hm : y % 128 * 128 ^ q ≤ 127 * 128 ^ q := Int.mul_le_mul_of_nonneg_right (by omega) (Int.le_of_lt (Int.pow_pos (by omega)))
        rw [Int.pow_succ]; omega
      have hz2 : 0 ≤ acc + y % 128 * 128 ^ q := by omega
      clear Hgo hz0
      generalize acc + y % 128 * 128 ^ q = z at hgo hz1 hz2 ⊢
      refine wpStill_nil ?_
      have Hgo := hid hgo
      have Hz1 := hid hz1
      clear hgo hz1 ha1
      by_cases hg : 2147483647 < z
      · gi_wp2
        exact (hB.set hht.out hbt 2 (.inl rfl) _).ends_drew hht.out hbt 0 11 hi (.inr ⟨by rw [← Hgo.out, if_pos hg], rfl⟩)
      · have hgo := Hgo.out
        rw [if_neg hg] at hgo
        replace Hgo := hid hgo
        clear hgo
        by_cases hy : y = 0 ∧ 0 < q
        · obtain ⟨rfl, hq⟩ := hy
          gi_wp2
          exact (hB.set hht.out hbt 2 (.inl rfl) _).ends_drew hht.out hbt 0 12 hi (.inr ⟨by rw [← Hgo.out]; simp [hq], rfl⟩)
        · have hgo := Hgo.out
          rw [if_neg hy] at hgo
          replace Hgo := hid hgo
          clear hgo
          by_cases hs : y < 128
          · by_cases hy0 : y = 0
            · obtain rfl : q = 0 := by omega
              subst hy0
              gi_wp2
              exact (hB.set hht.out hbt 2 (.inl rfl) _).ends_drew hht.out hbt z 0 hi (.inl ⟨by rw [← Hgo.out, if_pos hs], rfl⟩)
            · have hyf : (y == 0) = false := by simpa using hy0
              gi_wp2
              exact (hB.set hht.out hbt 2 (.inl rfl) _).ends_drew hht.out hbt z 0 hi (.inl ⟨by rw [← Hgo.out, if_pos hs], rfl⟩)
          · have hyf : (y == 0) = false := by simp; omega
            gi_wp2
            exact hB.goes hht.out hbt hn hps hbox hArr.out hAb (by omega) hi hz2 Hz1.out (by omega) (by rw [← Hgo.out, if_neg (by omega)])
  case behind =>
    rintro e W2 ⟨hv, hJ | hX⟩
    · obtain ⟨acc, s, sS, _⟩ := hJ
      refine ⟨hv, .inl ⟨s.record, fun o => ?_⟩⟩
      have hgo := s.go
      rw [List.drop_length] at hgo
      have r0 := s.r0.put (l := h + 6) (by omega) o
      have r1 := s.r1.put (l := h + 6) (by omega) o
      have hat := sS.at_.put (l := h + 6) (by omega) o
      have hD := (World.putObj_heap_other (o := o) (r := h + 6) (k := h + 5) (by omega)).trans s.dfr
      have hG := grown_put (l := h + 6) s.gr (by have := hht.out; omega) o
      obtain ⟨W3, hW3⟩ : ∃ W3, W2.putObj (h + 6) o = W3 := ⟨_, rfl⟩
      rw [hW3] at r0 r1 hat hD hG ⊢
      clear hW3 s sS
      have c_0 := r0.cell 0
      have c_1 := r1.cell 0
      have f_0 := r0.free 0
      have f_1 := r1.free 0
      simp at c_0 c_1
      have Hgo := hid hgo
      clear hgo
      gi_wp2
      refine number_leaves (n := 0) (er := 10) rfl rfl (by simpa using (r0.set 0 (.int .i64 0)).far (p := ⟨h + 1, 0, none⟩) (by simp) (.int .i64 10))
        (by simpa using (r1.far (p := ⟨h, 0, none⟩) (by simp) (.int .i64 0)).set 0 (.int .i64 10)) (other_set (other_set hD (by simp) _) (by simp) _) ?_
      exact ⟨bs.length, 0, 10, rfl, Nat.le_refl _, .inr ⟨by rw [← Hgo.out]; rfl, rfl⟩, ((hat.far (by simp; omega) _).far (by simp; omega) _).put (by omega) _,
        grown_put (grown_set (grown_set hG (.inr (by have := hht.out; simp; omega)) _) (.inr (by have := hht.out; simp; omega)) _) (by have := hht.out; omega) _⟩
    · obtain ⟨i, n, er, hi, htold, r0, r1, hat, hD, hrec, hG⟩ := hX
      refine ⟨hv, .inr ⟨_, hrec, fun o => ?_⟩⟩
      have hr0 := r0.put (l := h + 6) (by omega) o
      have hr1 := r1.put (l := h + 6) (by omega) o
      have hat' := hat.put (l := h + 6) (by omega) o
      have hD' := (World.putObj_heap_other (o := o) (r := h + 6) (k := h + 5) (by omega)).trans hD
      have hG' := grown_put (l := h + 6) hG (by have := hht.out; omega) o
      obtain ⟨W3, hW3⟩ : ∃ W3, W2.putObj (h + 6) o = W3 := ⟨_, rfl⟩
      rw [hW3] at hr0 hr1 hat' hD' hG' ⊢
      clear hW3 r0 r1 hat hD hG hrec
      gi_wp2
      refine number_leaves rfl rfl hr0 hr1 hD' ?_
      exact ⟨i, n, er, rfl, hi, htold, hat'.put (by omega) _, grown_put hG' (by have := hht.out; omega) _⟩
end Go.Proofs.Ytghnbfphhmgcpaa
