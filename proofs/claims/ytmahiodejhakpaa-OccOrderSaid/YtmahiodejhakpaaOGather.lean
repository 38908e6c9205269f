/- Package occ: all hits of a text. -/
import Derived.Test.YtmahiodejhakpaaORank
import Derived.Test.YtmahiodejhakpaaOAt
import Derived.Test.YtmahiodejhakpaaDrawRow
import Derived.Test.YtmahiodejhakpaaK7
set_option linter.unusedSimpArgs false
set_option linter.unusedVariables false
set_option maxRecDepth 100000
namespace Go.Proofs.Ytmahiodejhakpaa
open Go.RowKit PlainLetter PlainPatset PlainOcc Go.Shelf
attribute [local go_sem] Oper.semAt_some

theorem places_is (A : Option Addr) (n c : Nat) (w : World) : Calls Try.prog 39 #[.slice A n c] w fun e w' => e = .returned (.func (.func 55) #[] #[.pointer (some ⟨w.heap.size, 0, none⟩)]) ∧ w' = w.alloc (.cells #[.slice A n c] 25) := by
  have hmf : ∀ (fn : Fn) (first cap : Array Value) (w : World), (Instr.makeFunc fn first cap).run Try.prog w = .ok (.func fn first cap) w := fun _ _ _ _ => rfl
  go_enter Try.func39, Try.ntmps39
  go_wp2
  go_ret
  exact ⟨rfl, rfl⟩

set_option maxHeartbeats 1000000 in
theorem places_in (l bx n : Nat) (A : Option Addr) (d : Nat) (hn : n ≤ 100000) (J : Nat → World → Prop) (W0 : World)
    (hJs : ∀ p W, J p W → Holds W bx 25 #[.slice A n d])
    (hY : ∀ p W, J p W → p ≤ n → YieldAt Fence.wide 0 Try.prog l #[.int .i64 (p : Nat)] W (fun e W' => e = .returned (.bool true) ∧ J (p + 1) W'))
    (h0 : J 0 W0) :
    CallsIn Fence.wide 0 Try.prog 55 #[.func (.yield l) #[] #[], .pointer (some ⟨bx, 0, none⟩)] W0 fun e W' => (∃ v, e = .returned v) ∧ J (n + 1) W' := by
  have hc0 := ((hJs _ _ h0).cell 0).trans (show _ = some (Value.slice A n d) from rfl)
  replace hJs := hid hJs
  replace hY := hid hY
  have hw : IntKind.i64.wrap ((n : Int) + 1) = ((n + 1 : Nat) : Int) := by simp [IntKind.wrap, IntKind.bits, IntKind.signed]; omega
  refine callsIn_of_wp Try.func55 rfl trivial ?_ rfl
  simp only [Try.ntmps55, List.size_toArray, List.length_cons, List.length_nil, Nat.reduceAdd, Nat.reduceSub, Array.replicate_succ, Array.replicate_zero, List.push_toArray, List.append_toArray, List.nil_append, List.cons_append]
  gi_wp2
  gi_loopw [7] (fun i wr => ∃ k : Nat, k ≤ n + 1 ∧ i = .int .i64 k ∧ J k wr) (fun i _ => n + 1 - (intOf i).toNat)
  case atStart => exact ⟨0, by omega, rfl, h0⟩
  case round =>
    clear hc0 h0
    obtain ⟨k, hk, rfl, hJ⟩ := hrel
    by_cases hlt : k < n + 1
    · have hy := hY.out k wr hJ (by omega)
      have q1 : (k : Int) < ((n + 1 : Nat) : Int) := by omega
      replace hJ := hid hJ
      obtain ⟨fn, tmps, assign, body, hyy, hR⟩ := hy
      gi_wp2
      refine ⟨rfl, hR.mono ?_⟩
      rintro e W2 ⟨rfl, hJ2⟩
      gi_wp2
      go_roundw
      case rel => exact ⟨k + 1, by omega, by go_num, hJ2⟩
      case measure => simp [intOf]; omega
    · obtain rfl : k = n + 1 := by omega
      gi_wp2
      go_end0
      exact ⟨⟨_, rfl⟩, hJ⟩

/-- Between two rounds: nothing older than the loop has turned, but the hits' variable and the loop's record. -/
structure GAt (w0 W1 : World) (hg l base : Nat) (f : Bool) (P : Option Addr) (n c : Nat) (rc : LoopState → Option Code → Loop) (st : LoopState) (hits : List Hit) (W : World) : Prop where
  gr : w0.grownBy W none
  size : base ≤ W.heap.size
  keep : ∀ k, k < base → k ≠ hg → k ≠ l → W.heap[k]? = W1.heap[k]?
  own : ∃ A m, Holds W hg 52 #[.bool f, .slice P n c, .slice A hits.length m] ∧ OwnHits W base (.slice A hits.length m) hits
  record : W.heap[l]? = some (.loop (rc st none))

section
variable {w0 W1 W W' : World} {hg l base : Nat} {f : Bool} {P : Option Addr} {n c : Nat} {rc : LoopState → Option Code → Loop} {st st' : LoopState} {hits : List Hit}

theorem GAt.grown (s : GAt w0 W1 hg l base f P n c rc st hits W) (hl : l < base) (h : W.grownBy W' none) : GAt w0 W1 hg l base f P n c rc st hits W' := by
  obtain ⟨A, m, h1, h2⟩ := s.own
  exact ⟨grown_trans s.gr h, Nat.le_trans s.size h.size, fun k hk h3 h4 => (h.block k (Nat.lt_of_lt_of_le hk s.size) (by simp)).trans (s.keep k hk h3 h4), ⟨A, m, h1.kept0 h, h2.grown h⟩,
    (h.block l (Nat.lt_of_lt_of_le hl s.size) (by simp)).trans s.record⟩

theorem GAt.turn (s : GAt w0 W1 hg l base f P n c rc st hits W) (hl : l < base) (hlw : w0.heap.size ≤ l) (hne : hg ≠ l) : GAt w0 W1 hg l base f P n c rc st' hits (W.putObj l (.loop (rc st' none))) := by
  obtain ⟨A, m, h1, h2⟩ := s.own
  exact ⟨grown_put s.gr hlw _, by simpa using s.size, fun k hk h3 h4 => (World.putObj_heap_other h4).trans (s.keep k hk h3 h4), ⟨A, m, h1.put hne _, ownsRow_putObj h2 _ s.record rfl⟩,
    World.putObj_heap_same (Nat.lt_of_lt_of_le hl s.size)⟩

/-- Hits more: the row has turned, or is a new one; the variable is stored. -/
theorem GAt.more (s : GAt w0 W1 hg l base f P n c rc st hits W) (hl : l < base) (hgb : hg < base) (hgw : w0.heap.size ≤ hg) (hne : hg ≠ l) {A A' : Option Addr} {m m' q : Nat} {y : Hit} (h1 : Holds W hg 52 #[.bool f, .slice P n c, .slice A hits.length m])
    (h2 : OwnHits W base (.slice A hits.length m) hits) (hr : W.grownBy W' (Value.slice A hits.length m).ownBlock) (hq : q = (hits ++ [y]).length) (ho : OwnHits W' base (.slice A' q m') (hits ++ [y])) :
    W'.cell? ⟨hg, 2, none⟩ = some (.slice A hits.length m) ∧ W'.frozen? ⟨hg, 2, none⟩ = false ∧ hg < W'.heap.size ∧ GAt w0 W1 hg l base f P n c rc st (hits ++ [y]) (W'.setCell ⟨hg, 2, none⟩ (.slice A' q m')) := by
  subst hq
  have hb : ∀ k, k < base → W'.heap[k]? = W.heap[k]? := fun k hk => hr.block k (Nat.lt_of_lt_of_le hk s.size) (fun e => by have := (World.ownsRow.lt h2 k e.symm).1; omega)
  have hH : Holds W' hg 52 #[.bool f, .slice P n c, .slice A hits.length m] := (hb hg hgb).trans h1
  have hgr : w0.grownBy W' none := ⟨hr.os.trans s.gr.os, hr.tape.trans s.gr.tape, hr.output.trans s.gr.output, Nat.le_trans s.gr.size hr.size, fun k hk _ => (hr.block k (Nat.lt_of_lt_of_le hk s.gr.size) (fun e => by
    have := (World.ownsRow.lt h2 k e.symm).1
    omega)).trans (s.gr.block k hk (by simp))⟩
  refine ⟨hH.cell 2, hH.free 2, hH.lt, grown_set hgr (.inr hgw) _, ?_, fun k hk h3 h4 => ?_, ⟨A', m', ?_, ?_⟩, ?_⟩
  · have := Nat.le_trans s.size hr.size; simpa [World.setCell] using this
  · exact (Below.heap_setCell W' _ _ k (by simpa using h3)).trans ((hb k hk).trans (s.keep k hk h3 h4))
  · simpa using hH.set 2 (.slice A' (hits ++ [y]).length m')
  · exact World.ownsRow.kept ho (grown_set (grown_refl W' (some hg)) (.inl rfl) _) (.inr (fun e => by have := (World.ownsRow.lt ho hg e).1; omega))
  · exact (Below.heap_setCell W' _ _ l (by simpa using fun e => hne e.symm)).trans ((hb l hl).trans s.record)
end

/-- One hit in a block that is newer. -/
def isOneHit (B : Nat) (y : Hit) : Fact := fun v w => ∃ g, B ≤ g ∧ v = .slice (some ⟨g, 0, none⟩) 1 1 ∧ Holds w g 35 #[.int .i64 y.1, .int .i64 y.2]
theorem stable_isOneHit (B : Nat) (y : Hit) : Stable (isOneHit B y) := fun _ _ _ ⟨g, h0, h1, h2⟩ hg => ⟨g, h0, h1, h2.kept0 hg⟩
def isMoreHits (base : Nat) (hits : List Hit) (y : Hit) : Fact := fun v w => ∃ A m, v = .slice A (hits ++ [y]).length m ∧ OwnHits w base v (hits ++ [y])
theorem stable_isMoreHits (base : Nat) (hits : List Hit) (y : Hit) : Stable (isMoreHits base hits y) := fun _ _ _ ⟨A, m, h1, h2⟩ hg => ⟨A, m, h1, h2.grown hg⟩

/-- The end of the function: the loop's mark taken up. -/
theorem gather_leaves {W : World} {d : Nat} {T : Array Value} {R : Ending → World → Prop} (hD : W.heap[d]? = some (.deferred (some []))) (hR : ∀ v, R (.returned v) (W.putObj d (.deferred none))) {E : Exit} (hE : E = .normal ∨ E = .ret) :
    bodyPostM Fence.wide 0 Try.prog Try.f25 R E { tmps := T, defers := [{ target := .collected d, args := #[] }] } W := by
  have key : LeavesInM Fence.wide 0 Try.prog Try.f25 T R [{ target := .collected d, args := #[] }] .returning W := by
    refine ⟨by simp, .inl ⟨_, _, rfl, run_takeDeferred hD, ?_⟩⟩
    exact ⟨.tuple #[], by simp [results, Try.results25], hR _⟩
  rcases hE with rfl | rfl
  · exact key
  · exact key

set_option maxHeartbeats 8000000 in
theorem gather_is (f : Bool) (P A : Option Addr) (c d hg : Nat) (fr : Int) (text : List Int) (xss : List (List Int)) (w0 w : World) (hn : xss.length ≤ 1000) (hl : xss.flatten.length ≤ 10000) (hB : ∀ i, Bytes (xss.getD i [])) (hP : Arrs w0 P xss)
    (ht : text.length ≤ 10000) (hd : text.length ≤ d) (hdm : d ≤ maxLen) (htb : Bytes text) (hA : Arr w0 .u8 A text) (hf0 : 0 ≤ fr) (hf1 : fr ≤ 4611686018427387904) (hw0 : w0.grownBy w none) (hgw : w0.heap.size ≤ hg)
    (H : Holds w hg 52 #[.bool f, .slice P xss.length c, .slice none 0 0]) :
    Calls Try.prog 25 #[.pointer (some ⟨hg, 0, none⟩), .int .i64 fr, .slice A text.length d] w fun e w' => (∃ u, e = .returned u) ∧ w0.grownBy w' none ∧
      ∃ A' m, Holds w' hg 52 #[.bool f, .slice P xss.length c, .slice A' (occ f xss text fr).length m] ∧ OwnHits w' w0.heap.size (.slice A' (occ f xss text fr).length m) (occ f xss text fr) := by
  obtain ⟨i0, hi0, hz0, hz1, hz2⟩ := info_parts Try.hitInfo
  have hgl : Hid (∀ i, (xss.getD i []).length ≤ 100000) := hid (fun k => by
    by_cases hk : k < xss.length
    · have h1 := flatten_take_succ xss k hk
      have h2 := flatten_take_le xss (k + 1)
      rw [h1, List.length_append] at h2
      omega
    · simp [List.getD, List.getElem?_eq_none (Nat.le_of_not_lt hk)])
  obtain ⟨h, hh⟩ : ∃ h, w.heap.size = h := ⟨_, rfl⟩
  have hhg : hg < h := by have := H.lt; omega
  obtain ⟨W3, hW3⟩ : ∃ W3, ((w.alloc (.cells #[.pointer (some ⟨hg, 0, none⟩)] 63)).alloc (.cells #[.int .i64 fr] 3)).alloc (.cells #[.slice A text.length d] 25) = W3 := ⟨_, rfl⟩
  have hG3 : w0.grownBy W3 none := by rw [← hW3]; exact grown_alloc (grown_alloc (grown_alloc hw0 _) _) _
  have HH3 : Holds W3 hg 52 #[.bool f, .slice P xss.length c, .slice none 0 0] := by rw [← hW3]; exact ((H.alloc _).alloc _).alloc _
  have Hb0 : Holds W3 h 63 #[.pointer (some ⟨hg, 0, none⟩)] := by rw [← hW3]; exact ((Holds.new_at _ _ hh).alloc _).alloc _
  have Hb1 : Holds W3 (h + 1) 3 #[.int .i64 fr] := by rw [← hW3]; exact (Holds.new_at _ _ (by simp [hh])).alloc _
  have Hb2 : Holds W3 (h + 2) 25 #[.slice A text.length d] := by rw [← hW3]; exact Holds.new_at _ _ (by simp [hh])
  have hs3 : W3.heap.size = h + 3 := by rw [← hW3]; simp [hh]
  have hrank := hid (ranked_is f P c hg xss (.slice none 0 0) W3 hn HH3 (hP.grown hG3))
  have c0 := (Hb0.cell 0).trans (show _ = some (Value.pointer (some ⟨hg, 0, none⟩)) from rfl)
  replace hP := hid hP
  replace hA := hid hA
  replace hB := hid hB
  replace htb := hid htb
  replace hdm := hid hdm
  replace hgw := hid hgw
  replace hG3 := hid hG3
  replace HH3 := hid HH3
  replace Hb0 := hid Hb0
  replace Hb1 := hid Hb1
  replace Hb2 := hid Hb2
  replace hs3 := hid hs3
  replace hl := hid hl
  clear H hw0
  refine (callsIn_wide (n := 0)).1 ?_
  refine callsIn_of_wp_marks Try.func25 rfl trivial ?_ rfl
  simp only [Try.ntmps25, List.size_toArray, List.length_cons, List.length_nil, Nat.reduceAdd, Nat.reduceSub, Array.replicate_succ, Array.replicate_zero, List.push_toArray, List.append_toArray, List.nil_append, List.cons_append]
  gi_wp2
  try rw [hW3]
  simp only [Nat.add_assoc, Nat.reduceAdd]
  have hht := hid hh
  clear hW3 hh
  refine ⟨trivial, rfl, ?_⟩
  refine (callsIn_wide.2 hrank.out).mono ?_
  rintro e w4 ⟨R, zs, rfl, hR, hRA, hg4, hRs⟩
  clear hrank c0
  rw [hs3.out] at hRs
  have hG4 := hid (grown_trans hG3.out hg4)
  obtain ⟨q, hq⟩ : ∃ q, w4.heap.size = q := ⟨_, rfl⟩
  have hq3 : h + 3 ≤ q := by have := hg4.size; rw [hs3.out] at this; omega
  have K0 := hid (Hb0.out.kept0 hg4)
  have K1 := hid (Hb1.out.kept0 hg4)
  have K2 := Hb2.out.kept0 hg4
  have KH := hid (HH3.out.kept0 hg4)
  have d2 := ((K2.alloc (.cells #[.slice (some ⟨R, 0, none⟩) zs.length zs.length] 64)).cell 0).trans (show _ = some (Value.slice A text.length d) from rfl)
  replace K2 := hid K2
  replace hRA := hid hRA
  have hqh := hid hq
  clear hg4 hG3 HH3 Hb0 Hb1 Hb2 hs3
  gi_wp2
  refine ⟨trivial, rfl, ?_⟩
  refine (callsIn_wide.2 (places_is A text.length d _)).mono ?_
  rintro e w5 ⟨rfl, rfl⟩
  clear d2
  gi_wp2
  refine range_wide (gf := 55) rfl (enters_of Try.func55 (by kernel_rfl) rfl) (fun fn rc hrc => ?_)
  replace hrc := hid hrc
  simp only [World.size_alloc, hq, Nat.add_assoc, Nat.reduceAdd] at hrc ⊢
  obtain ⟨W1, hW1⟩ : ∃ W1, ((((w4.alloc (.cells #[.slice (some ⟨R, 0, none⟩) zs.length zs.length] 64)).alloc (.cells #[.slice A text.length d] 25)).alloc (Obj.deferred (some []))).alloc (Obj.loop (rc .ready none))) = W1 := ⟨_, rfl⟩
  rw [hW1]
  clear hq
  have hs1 : Hid (W1.heap.size = q + 4) := hid (by rw [← hW1]; simp [hqh.out])
  have hg1 : w4.grownBy W1 none := by rw [← hW1]; exact grown_alloc (grown_alloc (grown_alloc (grown_alloc (grown_refl w4 none) _) _) _) _
  have B0 : Hid (Holds W1 h 63 #[.pointer (some ⟨hg, 0, none⟩)]) := hid (K0.out.kept0 hg1)
  have B1 : Hid (Holds W1 (h + 1) 3 #[.int .i64 fr]) := hid (K1.out.kept0 hg1)
  have B2 : Hid (Holds W1 (h + 2) 25 #[.slice A text.length d]) := hid (K2.out.kept0 hg1)
  have B3 : Hid (Holds W1 q 64 #[.slice (some ⟨R, 0, none⟩) zs.length zs.length]) := hid (by rw [← hW1]; exact (((Holds.new_at _ _ hqh.out).alloc _).alloc _).alloc _)
  have B4 : Hid (Holds W1 (q + 1) 25 #[.slice A text.length d]) := hid (by rw [← hW1]; exact ((Holds.new_at _ _ (by simp [hqh.out])).alloc _).alloc _)
  have B5 : Hid (W1.heap[q + 2]? = some (.deferred (some []))) := hid (by rw [← hW1]; exact other_alloc (alloc_at _ (by simp [hqh.out])))
  have B6 : Hid (Arr W1 .i64 (some ⟨R, 0, none⟩) zs) := hid (hRA.out.grown hg1)
  have hRq : zs ≠ [] → R < q := fun hz => by
    obtain ⟨b, off, h1, h2, _⟩ := hRA.out hz
    injection h1 with h1
    injection h1 with h1
    subst h1
    rw [hqh.out] at h2
    exact h2
  have hN : GAt w0 W1 hg (q + 3) (q + 4) f P xss.length c rc .ready (occTo f xss text fr 0) W1 := by
    refine ⟨grown_trans hG4.out hg1, by rw [hs1.out]; exact Nat.le_refl _, fun _ _ _ _ => rfl, ⟨none, 0, KH.out.kept0 hg1, OwnHits.nil _ _⟩, ?_⟩
    rw [← hW1]
    exact alloc_at _ (by simp [hqh.out])
  have hw0q : w0.heap.size ≤ q := by have := hG4.out.size; have := hqh.out; omega
  clear hW1 K0 K1 K2 KH hRA hg1 hG4
  have hrl := hR.len
  have hRk := hid hR
  replace hRq := hid hRq
  clear hR
  refine CallsIn.mono (places_in (q + 3) (q + 1) text.length A d (by omega) (fun p => GAt w0 W1 hg (q + 3) (q + 4) f P xss.length c rc .ready (occTo f xss text fr p)) W1 ?at_ ?round hN) ?behind
  case at_ =>
    intro p W s
    exact (s.keep (q + 1) (by omega) (by omega) (by omega)).trans B4.out
  case round =>
    intro p W s hpl
    have Hs := hid s
    refine round_wide hrc.out Hs.out.record rfl fun K hK => ?_
    replace hK := hid hK
    gi_wp2
    refine hK.out _ ?_
    clear hK
    clear K
    have s1 : GAt w0 W1 hg (q + 3) (q + 4) f P xss.length c rc .busy (occTo f xss text fr p) (W.putObj (q + 3) (.loop (rc .busy none))) := s.turn (by omega) (by omega) (by omega)
    generalize W.putObj (q + 3) (.loop (rc .busy none)) = Wb at s1 ⊢
    have hsc := hid (occTo_succ f xss text fr p)
    have hol := hid (Nat.le_trans (occTo_le f xss text fr p) (Nat.mul_le_mul hpl (Nat.le_refl xss.length)))
    have hrh := hid (rankHits_here f xss text fr p zs hRk.out)
    generalize occTo f xss text fr p = outs at s1 hsc hol
    have cq := ((show Holds Wb q 64 #[.slice (some ⟨R, 0, none⟩) zs.length zs.length] from (s1.keep q (by omega) (by omega) (by omega)).trans B3.out).cell 0).trans (show _ = some (Value.slice (some ⟨R, 0, none⟩) zs.length zs.length) from rfl)
    clear s Hs
    replace s1 := hid s1
    gi_wp2
    gi_loopw [17] (fun i wx => ∃ k : Nat, k ≤ zs.length ∧ i = .int .i64 k ∧ GAt w0 W1 hg (q + 3) (q + 4) f P xss.length c rc .busy (outs ++ rankHits f xss text fr p (zs.take k)) wx) (fun i _ => zs.length - (intOf i).toNat)
    case atStart => exact ⟨0, by omega, rfl, by simpa [rankHits] using s1.out⟩
    case round =>
      clear s1 cq
      obtain ⟨k, hk, rfl, s⟩ := hrel
      by_cases hlt : k < zs.length
      · have hrs := hid (rankHits_snoc f xss text fr p (zs.take k) (zs.getD k 0))
        rw [← take_getD zs k 0 hlt] at hrs
        have hle := rankHits_le f xss text fr p (zs.take k)
        rw [List.length_take] at hle
        have hRw : Arr wr .i64 (some ⟨R, 0, none⟩) zs := fun hz => by
          obtain ⟨b, off, h1, h2, h3⟩ := B6.out hz
          have hRl := hRq.out hz
          injection h1 with h1
          injection h1 with e1 e2
          subst e1 e2
          refine ⟨R, 0, rfl, Nat.lt_of_lt_of_le (by omega) s.size, fun i hi => ?_⟩
          exact (World.cell?_of_block (s.keep R (by omega) (by omega) (by omega))).trans (h3 i hi)
        obtain ⟨b1, off1, hb0, hb1, hc⟩ := hRw.at_ hlt
        injection hb0 with hb0
        injection hb0 with e1 e2
        subst e1 e2
        have hck := hc k hlt
        rw [Nat.zero_add] at hck
        obtain ⟨hj0, hj1⟩ := hRk.out.at_ k hlt
        obtain ⟨j, hj⟩ : ∃ j : Nat, zs.getD k 0 = j := ⟨(zs.getD k 0).toNat, by omega⟩
        rw [hj] at hck hrs hj1
        rw [Int.toNat_natCast] at hrs
        have hjl : j < xss.length := by omega
        obtain ⟨A1, m1, HG, hown⟩ := s.own
        have hat := at_is f P A c d hg j _ text (p : Int) xss wr HG (hP.out.grown s.gr) hjl (hgl.out j) (hB.out j) (by omega) hd hdm.out htb.out (hA.out.grown s.gr)
        replace hat := hid hat
        have e0 := ((show Holds wr h 63 #[.pointer (some ⟨hg, 0, none⟩)] from (s.keep h (by omega) (by omega) (by omega)).trans B0.out).cell 0).trans (show _ = some (Value.pointer (some ⟨hg, 0, none⟩)) from rfl)
        have e2 := ((show Holds wr (h + 2) 25 #[.slice A text.length d] from (s.keep (h + 2) (by omega) (by omega) (by omega)).trans B2.out).cell 0).trans (show _ = some (Value.slice A text.length d) from rfl)
        generalize hrr : rankHits f xss text fr p (zs.take k) = rs at s hrs hle
        replace hrr := hid hrr
        generalize stands f text (p : Int) (xss.getD j []) = S at hat hrs
        have Ss := hid s
        have q0 : (0 : Int) ≤ (k : Int) := by omega
        have q1 : (k : Int) < (zs.length : Int) := by omega
        replace hj := hid hj
        clear hc HG hown hRw s hj0 hj1
        gi_wp2
        refine ⟨trivial, rfl, ?_⟩
        refine (callsIn_wide.2 hat.out).mono ?_
        rintro e w6 ⟨rfl, hg6⟩
        have s6 := hid (Ss.out.grown (by omega) hg6)
        clear hat Ss hg6 e0 e2 hck
        cases S with
        | false =>
          have hT := hid (hrs.out.trans ((by simp) : _ = rs))
          clear hrs
          gi_wp2
          go_roundw
          case rel => exact ⟨k + 1, by omega, by go_num, by rw [hT.out]; exact s6.out⟩
          case measure => simp [intOf]; omega
        | true =>
          have hT := hid (hrs.out.trans ((by simp) : _ = rs ++ [(fr + p, (j : Int))]))
          clear hrs
          obtain ⟨hits, hhits⟩ : ∃ hits, outs ++ rs = hits := ⟨_, rfl⟩
          have hlen : hits.length ≤ 1099511627776 := by
            rw [← hhits, List.length_append]
            have := hol.out
            have h5 : text.length * xss.length ≤ 10000 * 1000 := Nat.mul_le_mul (by omega) (by omega)
            omega
          rw [hhits] at s6
          obtain ⟨A1, m1, HG, hown⟩ := s6.out.own
          have hOB : Hid (∀ b, (Value.slice A1 hits.length m1).ownBlock = some b → q + 4 ≤ b ∧ b < w6.heap.size) := hid (fun b e => World.ownsRow.lt hown b e)
          have hmore := hid (fun (W' : World) (A' : Option Addr) (m' q' : Nat) (hr : w6.grownBy W' (Value.slice A1 hits.length m1).ownBlock) (hq : q' = (hits ++ [(fr + (p : Int), (j : Int))]).length) (ho : OwnHits W' (q + 4) (.slice A' q' m') (hits ++ [(fr + (p : Int), (j : Int))])) =>
            s6.out.more (by omega) (by omega) hgw.out (by omega) HG hown hr hq ho)
          have E0 : Hid (Holds w6 h 63 #[.pointer (some ⟨hg, 0, none⟩)]) := hid ((s6.out.keep h (by omega) (by omega) (by omega)).trans B0.out)
          have E1 : Hid (Holds w6 (h + 1) 3 #[.int .i64 fr]) := hid ((s6.out.keep (h + 1) (by omega) (by omega) (by omega)).trans B1.out)
          have hs6 := hid s6.out.size
          have HGh := hid HG
          have hownh := hid hown
          have hwf : IntKind.i64.wrap (fr + (p : Int)) = fr + p := by simp [IntKind.wrap, IntKind.bits, IntKind.signed]; omega
          have hbnd : Hid (h + 3 ≤ q ∧ hg < h) := hid ⟨hq3, hhg⟩
          replace hhits := hid hhits
          clear HG hown s6
          gi_wp2
          apply RowDraw.head_round (row := (Value.slice A1 hits.length m1).ownBlock) (i0 := 11) (I := fun W => OwnHits W (q + 4) (.slice A1 hits.length m1) hits) 14 [isv (.pointer (some ⟨hg, 0, none⟩)), isv (.pointer (some ⟨hg, 0, none⟩)), isv (.pointer (some ⟨hg, 0, none⟩)), isv (.pointer (some ⟨hg, 2, none⟩)), isv (.slice A1 hits.length m1), isv (.int .i64 fr), isv (.int .i64 (p : Nat)), isv (.int .i64 (fr + (p : Int))), isv (.int .i64 (j : Nat)), isv (.agg #[.int .i64 (fr + (p : Int)), .int .i64 (j : Nat)]), isOneHit w6.heap.size (fr + (p : Int), (j : Int)), isMoreHits (q + 4) hits (fr + (p : Int), (j : Int)), isv (.pointer (some ⟨hg, 0, none⟩)), isv (.pointer (some ⟨hg, 2, none⟩))]
            41 [some 26, some 27, some 28, some 29, some 30, some 31, some 32, some 33, some 34, some 35, some 36, some 37, some 38, some 39]
            [some 26, some 27, some 28, some 29, some 30, some 31, some 32, some 33, some 34, some 35, some 36, some 37, some 38, some 39]
            [[], [], [1], [2], [3], [], [], [5, 6], [], [7, 8], [9], [4, 10], [0], [12]]
            [(3, .pointer (some ⟨h, 0, none⟩)), (4, .pointer (some ⟨h + 1, 0, none⟩)), (7, .int .i64 (p : Nat)), (9, .int .i64 (j : Nat))] (by kernel_rfl) rfl (by kernel_rfl) (by kernel_rfl) rfl rfl (by kernel_rfl) (OutsOk.cons rfl rfl (OutsOk.cons rfl rfl (OutsOk.cons rfl rfl (OutsOk.cons rfl rfl OutsOk.nil)))) ?st (fun _ _ hg hr => hr.grown hg) hownh.out ?ob ?fin
          case ob =>
            refine RowDraw.Obs.consv rfl ?o0 (RowDraw.Obs.consv rfl ?o1 (RowDraw.Obs.consv rfl ?o2 (RowDraw.Obs.consv rfl ?o3 (RowDraw.Obs.consv rfl ?o4 (RowDraw.Obs.consv rfl ?o5 (RowDraw.Obs.consv rfl ?o6 (RowDraw.Obs.consv rfl ?o7 (RowDraw.Obs.consv rfl ?o8 (RowDraw.Obs.consv rfl ?o9 (RowDraw.Obs.consv rfl ?o10 (RowDraw.Obs.consa ?o11 (RowDraw.Obs.consv rfl ?o12 (RowDraw.Obs.consv rfl ?o13 RowDraw.Obs.nil)))))))))))))
            case o0 =>
              go_light
              intro ac w' hgw2
              have ne0 : (Value.slice A1 hits.length m1).ownBlock ≠ some h := fun e => by have := (hOB.out _ e).1; have := hbnd.out; omega
              have ne1 : (Value.slice A1 hits.length m1).ownBlock ≠ some (h + 1) := fun e => by have := (hOB.out _ e).1; have := hbnd.out; omega
              have neg : (Value.slice A1 hits.length m1).ownBlock ≠ some hg := fun e => by have := (hOB.out _ e).1; have := hbnd.out; omega
              have f0 := ((E0.out.drew.kept hgw2 ne0).cell 0).trans (show _ = some (Value.pointer (some ⟨hg, 0, none⟩)) from rfl)
              have f1 := ((E1.out.drew.kept hgw2 ne1).cell 0).trans (show _ = some (Value.int .i64 fr) from rfl)
              have f2 := ((HGh.out.drew.kept hgw2 neg).cell 2).trans (show _ = some (Value.slice A1 hits.length m1) from rfl)
              have hszw := hid (Nat.le_trans (show w6.heap.size ≤ w6.drew.heap.size from Nat.le_refl _) hgw2.size)
              clear ne0 ne1 neg
              replace hgw2 := hid hgw2
              simp only [outThen, preThen, slotIs, factAt, isv, List.getElem?_cons_zero, List.getElem?_cons_succ, Option.getD_some, forall_eq]
              intros
              rename_i hK
              replace hK := hid hK
              simp only [wantedAt]
              go_simp
              exact hK.out _ _ rfl (grown_refl _ _)
            case o1 =>
              go_light
              intro ac w' hgw2
              have ne0 : (Value.slice A1 hits.length m1).ownBlock ≠ some h := fun e => by have := (hOB.out _ e).1; have := hbnd.out; omega
              have ne1 : (Value.slice A1 hits.length m1).ownBlock ≠ some (h + 1) := fun e => by have := (hOB.out _ e).1; have := hbnd.out; omega
              have neg : (Value.slice A1 hits.length m1).ownBlock ≠ some hg := fun e => by have := (hOB.out _ e).1; have := hbnd.out; omega
              have f0 := ((E0.out.drew.kept hgw2 ne0).cell 0).trans (show _ = some (Value.pointer (some ⟨hg, 0, none⟩)) from rfl)
              have f1 := ((E1.out.drew.kept hgw2 ne1).cell 0).trans (show _ = some (Value.int .i64 fr) from rfl)
              have f2 := ((HGh.out.drew.kept hgw2 neg).cell 2).trans (show _ = some (Value.slice A1 hits.length m1) from rfl)
              have hszw := hid (Nat.le_trans (show w6.heap.size ≤ w6.drew.heap.size from Nat.le_refl _) hgw2.size)
              clear ne0 ne1 neg
              replace hgw2 := hid hgw2
              simp only [outThen, preThen, slotIs, factAt, isv, List.getElem?_cons_zero, List.getElem?_cons_succ, Option.getD_some, forall_eq]
              intros
              rename_i hK
              replace hK := hid hK
              simp only [wantedAt]
              go_simp
              exact hK.out _ _ rfl (grown_refl _ _)
            case o2 =>
              go_light
              intro ac w' hgw2
              have ne0 : (Value.slice A1 hits.length m1).ownBlock ≠ some h := fun e => by have := (hOB.out _ e).1; have := hbnd.out; omega
              have ne1 : (Value.slice A1 hits.length m1).ownBlock ≠ some (h + 1) := fun e => by have := (hOB.out _ e).1; have := hbnd.out; omega
              have neg : (Value.slice A1 hits.length m1).ownBlock ≠ some hg := fun e => by have := (hOB.out _ e).1; have := hbnd.out; omega
              have f0 := ((E0.out.drew.kept hgw2 ne0).cell 0).trans (show _ = some (Value.pointer (some ⟨hg, 0, none⟩)) from rfl)
              have f1 := ((E1.out.drew.kept hgw2 ne1).cell 0).trans (show _ = some (Value.int .i64 fr) from rfl)
              have f2 := ((HGh.out.drew.kept hgw2 neg).cell 2).trans (show _ = some (Value.slice A1 hits.length m1) from rfl)
              have hszw := hid (Nat.le_trans (show w6.heap.size ≤ w6.drew.heap.size from Nat.le_refl _) hgw2.size)
              clear ne0 ne1 neg
              replace hgw2 := hid hgw2
              simp only [outThen, preThen, slotIs, factAt, isv, List.getElem?_cons_zero, List.getElem?_cons_succ, Option.getD_some, forall_eq]
              intros
              rename_i hK
              replace hK := hid hK
              simp only [wantedAt]
              go_simp
              exact hK.out _ _ rfl (grown_refl _ _)
            case o3 =>
              go_light
              intro ac w' hgw2
              have ne0 : (Value.slice A1 hits.length m1).ownBlock ≠ some h := fun e => by have := (hOB.out _ e).1; have := hbnd.out; omega
              have ne1 : (Value.slice A1 hits.length m1).ownBlock ≠ some (h + 1) := fun e => by have := (hOB.out _ e).1; have := hbnd.out; omega
              have neg : (Value.slice A1 hits.length m1).ownBlock ≠ some hg := fun e => by have := (hOB.out _ e).1; have := hbnd.out; omega
              have f0 := ((E0.out.drew.kept hgw2 ne0).cell 0).trans (show _ = some (Value.pointer (some ⟨hg, 0, none⟩)) from rfl)
              have f1 := ((E1.out.drew.kept hgw2 ne1).cell 0).trans (show _ = some (Value.int .i64 fr) from rfl)
              have f2 := ((HGh.out.drew.kept hgw2 neg).cell 2).trans (show _ = some (Value.slice A1 hits.length m1) from rfl)
              have hszw := hid (Nat.le_trans (show w6.heap.size ≤ w6.drew.heap.size from Nat.le_refl _) hgw2.size)
              clear ne0 ne1 neg
              replace hgw2 := hid hgw2
              simp only [outThen, preThen, slotIs, factAt, isv, List.getElem?_cons_zero, List.getElem?_cons_succ, Option.getD_some, forall_eq]
              intros
              rename_i hK
              replace hK := hid hK
              simp only [wantedAt]
              go_simp
              exact hK.out _ _ rfl (grown_refl _ _)
            case o4 =>
              go_light
              intro ac w' hgw2
              have ne0 : (Value.slice A1 hits.length m1).ownBlock ≠ some h := fun e => by have := (hOB.out _ e).1; have := hbnd.out; omega
              have ne1 : (Value.slice A1 hits.length m1).ownBlock ≠ some (h + 1) := fun e => by have := (hOB.out _ e).1; have := hbnd.out; omega
              have neg : (Value.slice A1 hits.length m1).ownBlock ≠ some hg := fun e => by have := (hOB.out _ e).1; have := hbnd.out; omega
              have f0 := ((E0.out.drew.kept hgw2 ne0).cell 0).trans (show _ = some (Value.pointer (some ⟨hg, 0, none⟩)) from rfl)
              have f1 := ((E1.out.drew.kept hgw2 ne1).cell 0).trans (show _ = some (Value.int .i64 fr) from rfl)
              have f2 := ((HGh.out.drew.kept hgw2 neg).cell 2).trans (show _ = some (Value.slice A1 hits.length m1) from rfl)
              have hszw := hid (Nat.le_trans (show w6.heap.size ≤ w6.drew.heap.size from Nat.le_refl _) hgw2.size)
              clear ne0 ne1 neg
              replace hgw2 := hid hgw2
              simp only [outThen, preThen, slotIs, factAt, isv, List.getElem?_cons_zero, List.getElem?_cons_succ, Option.getD_some, forall_eq]
              intros
              rename_i hK
              replace hK := hid hK
              simp only [wantedAt]
              go_simp
              exact hK.out _ _ rfl (grown_refl _ _)
            case o5 =>
              go_light
              intro ac w' hgw2
              have ne0 : (Value.slice A1 hits.length m1).ownBlock ≠ some h := fun e => by have := (hOB.out _ e).1; have := hbnd.out; omega
              have ne1 : (Value.slice A1 hits.length m1).ownBlock ≠ some (h + 1) := fun e => by have := (hOB.out _ e).1; have := hbnd.out; omega
              have neg : (Value.slice A1 hits.length m1).ownBlock ≠ some hg := fun e => by have := (hOB.out _ e).1; have := hbnd.out; omega
              have f0 := ((E0.out.drew.kept hgw2 ne0).cell 0).trans (show _ = some (Value.pointer (some ⟨hg, 0, none⟩)) from rfl)
              have f1 := ((E1.out.drew.kept hgw2 ne1).cell 0).trans (show _ = some (Value.int .i64 fr) from rfl)
              have f2 := ((HGh.out.drew.kept hgw2 neg).cell 2).trans (show _ = some (Value.slice A1 hits.length m1) from rfl)
              have hszw := hid (Nat.le_trans (show w6.heap.size ≤ w6.drew.heap.size from Nat.le_refl _) hgw2.size)
              clear ne0 ne1 neg
              replace hgw2 := hid hgw2
              simp only [outThen, preThen, slotIs, factAt, isv, List.getElem?_cons_zero, List.getElem?_cons_succ, Option.getD_some, forall_eq]
              intros
              rename_i hK
              replace hK := hid hK
              simp only [wantedAt]
              go_simp
              exact hK.out _ _ rfl (grown_refl _ _)
            case o6 =>
              go_light
              intro ac w' hgw2
              have ne0 : (Value.slice A1 hits.length m1).ownBlock ≠ some h := fun e => by have := (hOB.out _ e).1; have := hbnd.out; omega
              have ne1 : (Value.slice A1 hits.length m1).ownBlock ≠ some (h + 1) := fun e => by have := (hOB.out _ e).1; have := hbnd.out; omega
              have neg : (Value.slice A1 hits.length m1).ownBlock ≠ some hg := fun e => by have := (hOB.out _ e).1; have := hbnd.out; omega
              have f0 := ((E0.out.drew.kept hgw2 ne0).cell 0).trans (show _ = some (Value.pointer (some ⟨hg, 0, none⟩)) from rfl)
              have f1 := ((E1.out.drew.kept hgw2 ne1).cell 0).trans (show _ = some (Value.int .i64 fr) from rfl)
              have f2 := ((HGh.out.drew.kept hgw2 neg).cell 2).trans (show _ = some (Value.slice A1 hits.length m1) from rfl)
              have hszw := hid (Nat.le_trans (show w6.heap.size ≤ w6.drew.heap.size from Nat.le_refl _) hgw2.size)
              clear ne0 ne1 neg
              replace hgw2 := hid hgw2
              simp only [outThen, preThen, slotIs, factAt, isv, List.getElem?_cons_zero, List.getElem?_cons_succ, Option.getD_some, forall_eq]
              intros
              rename_i hK
              replace hK := hid hK
              simp only [wantedAt]
              go_simp
              exact hK.out _ _ rfl (grown_refl _ _)
            case o7 =>
              go_light
              intro ac w' hgw2
              have ne0 : (Value.slice A1 hits.length m1).ownBlock ≠ some h := fun e => by have := (hOB.out _ e).1; have := hbnd.out; omega
              have ne1 : (Value.slice A1 hits.length m1).ownBlock ≠ some (h + 1) := fun e => by have := (hOB.out _ e).1; have := hbnd.out; omega
              have neg : (Value.slice A1 hits.length m1).ownBlock ≠ some hg := fun e => by have := (hOB.out _ e).1; have := hbnd.out; omega
              have f0 := ((E0.out.drew.kept hgw2 ne0).cell 0).trans (show _ = some (Value.pointer (some ⟨hg, 0, none⟩)) from rfl)
              have f1 := ((E1.out.drew.kept hgw2 ne1).cell 0).trans (show _ = some (Value.int .i64 fr) from rfl)
              have f2 := ((HGh.out.drew.kept hgw2 neg).cell 2).trans (show _ = some (Value.slice A1 hits.length m1) from rfl)
              have hszw := hid (Nat.le_trans (show w6.heap.size ≤ w6.drew.heap.size from Nat.le_refl _) hgw2.size)
              clear ne0 ne1 neg
              replace hgw2 := hid hgw2
              simp only [outThen, preThen, slotIs, factAt, isv, List.getElem?_cons_zero, List.getElem?_cons_succ, Option.getD_some, forall_eq]
              intros
              rename_i hK
              replace hK := hid hK
              simp only [wantedAt]
              go_simp
              exact hK.out _ _ rfl (grown_refl _ _)
            case o8 =>
              go_light
              intro ac w' hgw2
              have ne0 : (Value.slice A1 hits.length m1).ownBlock ≠ some h := fun e => by have := (hOB.out _ e).1; have := hbnd.out; omega
              have ne1 : (Value.slice A1 hits.length m1).ownBlock ≠ some (h + 1) := fun e => by have := (hOB.out _ e).1; have := hbnd.out; omega
              have neg : (Value.slice A1 hits.length m1).ownBlock ≠ some hg := fun e => by have := (hOB.out _ e).1; have := hbnd.out; omega
              have f0 := ((E0.out.drew.kept hgw2 ne0).cell 0).trans (show _ = some (Value.pointer (some ⟨hg, 0, none⟩)) from rfl)
              have f1 := ((E1.out.drew.kept hgw2 ne1).cell 0).trans (show _ = some (Value.int .i64 fr) from rfl)
              have f2 := ((HGh.out.drew.kept hgw2 neg).cell 2).trans (show _ = some (Value.slice A1 hits.length m1) from rfl)
              have hszw := hid (Nat.le_trans (show w6.heap.size ≤ w6.drew.heap.size from Nat.le_refl _) hgw2.size)
              clear ne0 ne1 neg
              replace hgw2 := hid hgw2
              simp only [outThen, preThen, slotIs, factAt, isv, List.getElem?_cons_zero, List.getElem?_cons_succ, Option.getD_some, forall_eq]
              intros
              rename_i hK
              replace hK := hid hK
              simp only [wantedAt]
              go_simp
              exact hK.out _ _ rfl (grown_refl _ _)
            case o9 =>
              go_light
              intro ac w' hgw2
              have ne0 : (Value.slice A1 hits.length m1).ownBlock ≠ some h := fun e => by have := (hOB.out _ e).1; have := hbnd.out; omega
              have ne1 : (Value.slice A1 hits.length m1).ownBlock ≠ some (h + 1) := fun e => by have := (hOB.out _ e).1; have := hbnd.out; omega
              have neg : (Value.slice A1 hits.length m1).ownBlock ≠ some hg := fun e => by have := (hOB.out _ e).1; have := hbnd.out; omega
              have f0 := ((E0.out.drew.kept hgw2 ne0).cell 0).trans (show _ = some (Value.pointer (some ⟨hg, 0, none⟩)) from rfl)
              have f1 := ((E1.out.drew.kept hgw2 ne1).cell 0).trans (show _ = some (Value.int .i64 fr) from rfl)
              have f2 := ((HGh.out.drew.kept hgw2 neg).cell 2).trans (show _ = some (Value.slice A1 hits.length m1) from rfl)
              have hszw := hid (Nat.le_trans (show w6.heap.size ≤ w6.drew.heap.size from Nat.le_refl _) hgw2.size)
              clear ne0 ne1 neg
              replace hgw2 := hid hgw2
              simp only [outThen, preThen, slotIs, factAt, isv, List.getElem?_cons_zero, List.getElem?_cons_succ, Option.getD_some, forall_eq]
              intros
              rename_i hK
              replace hK := hid hK
              simp only [wantedAt]
              go_simp
              exact hK.out _ _ rfl (grown_refl _ _)
            case o10 =>
              go_light
              intro ac w' hgw2
              have ne0 : (Value.slice A1 hits.length m1).ownBlock ≠ some h := fun e => by have := (hOB.out _ e).1; have := hbnd.out; omega
              have ne1 : (Value.slice A1 hits.length m1).ownBlock ≠ some (h + 1) := fun e => by have := (hOB.out _ e).1; have := hbnd.out; omega
              have neg : (Value.slice A1 hits.length m1).ownBlock ≠ some hg := fun e => by have := (hOB.out _ e).1; have := hbnd.out; omega
              have f0 := ((E0.out.drew.kept hgw2 ne0).cell 0).trans (show _ = some (Value.pointer (some ⟨hg, 0, none⟩)) from rfl)
              have f1 := ((E1.out.drew.kept hgw2 ne1).cell 0).trans (show _ = some (Value.int .i64 fr) from rfl)
              have f2 := ((HGh.out.drew.kept hgw2 neg).cell 2).trans (show _ = some (Value.slice A1 hits.length m1) from rfl)
              have hszw := hid (Nat.le_trans (show w6.heap.size ≤ w6.drew.heap.size from Nat.le_refl _) hgw2.size)
              clear ne0 ne1 neg
              replace hgw2 := hid hgw2
              simp only [outThen, preThen, slotIs, factAt, isv, List.getElem?_cons_zero, List.getElem?_cons_succ, Option.getD_some, forall_eq]
              intros
              rename_i hK
              replace hK := hid hK
              simp only [wantedAt]
              go_simp
              exact hK.out _ _ ⟨_, hszw.out, rfl, Holds.new _ _ _⟩ (grown_alloc (grown_refl _ _) _)
            case o11 =>
              go_light
              intro ac w' hgw2 hI
              have ne0 : (Value.slice A1 hits.length m1).ownBlock ≠ some h := fun e => by have := (hOB.out _ e).1; have := hbnd.out; omega
              have ne1 : (Value.slice A1 hits.length m1).ownBlock ≠ some (h + 1) := fun e => by have := (hOB.out _ e).1; have := hbnd.out; omega
              have neg : (Value.slice A1 hits.length m1).ownBlock ≠ some hg := fun e => by have := (hOB.out _ e).1; have := hbnd.out; omega
              have f0 := ((E0.out.drew.kept hgw2 ne0).cell 0).trans (show _ = some (Value.pointer (some ⟨hg, 0, none⟩)) from rfl)
              have f1 := ((E1.out.drew.kept hgw2 ne1).cell 0).trans (show _ = some (Value.int .i64 fr) from rfl)
              have f2 := ((HGh.out.drew.kept hgw2 neg).cell 2).trans (show _ = some (Value.slice A1 hits.length m1) from rfl)
              have hszw := hid (Nat.le_trans (show w6.heap.size ≤ w6.drew.heap.size from Nat.le_refl _) hgw2.size)
              clear ne0 ne1 neg
              replace hgw2 := hid hgw2
              simp only [outThen, preThen, slotIs, factAt, isv, List.getElem?_cons_zero, List.getElem?_cons_succ, Option.getD_some, forall_eq]
              intros
              rename_i hv4 v10 h10 hv10 K2 hK2
              obtain ⟨g10, hB10, rfl, hH10⟩ := h10
              replace hK2 := hid hK2
              have hrw := hI rfl
              simp only [wantedAt, if_true]
              refine wp_append_own (P := Try.prog) _ _ _ 28 rfl (q + 4) 35 i0 _ 2 16 Try.underlying28 hi0 hz0 hz1 hz2 rfl (by decide) (.slice A1 hits.length m1) hits.length (hitCells hits) (by simp [Act.eval, Array.getD_eq_getD_getElem?, hv4]) hrw ⟨g10, 0, none⟩ 1 1 (hitCells [(fr + (p : Int), (j : Int))]) (by simp [Act.eval, Array.getD_eq_getD_getElem?, hv10]) rfl
                ?_ (hitCells_one [(fr + (p : Int), (j : Int))]) (by unfold maxLen; omega) (by omega) (Nat.le_trans hs6.out hszw.out) ?_
              · refine hits_cells (off := 0) fun z hz => ?_
                have hz0 : z = 0 := by simpa using hz
                subst hz0
                exact ⟨by rw [hH10.cell]; rfl, by rw [hH10.cell]; rfl⟩
              · intro v9 w9 hown9 hgr9 _
                have hown9' : OwnHits w9 (q + 4) v9 (hits ++ [(fr + (p : Int), (j : Int))]) := by unfold OwnHits; rw [hitCells_append, List.length_append]; exact hown9
                obtain ⟨A9, m9, hv9, _⟩ := hown9'.form
                refine hK2.out _ _ _ rfl ⟨A9, m9, hv9, hown9'⟩ (grown_trans_same hgw2.out hgr9) (fun hne => absurd rfl hne) (fun z v hz hf => ?_)
                by_cases hz10 : z = 10
                · subst hz10
                  simp only [factAt, List.getElem?_cons_succ, List.getElem?_cons_zero, Option.getD_some] at hf ⊢
                  obtain ⟨g, h1, h2, h3⟩ := hf
                  exact ⟨g, h1, h2, h3.kept hgr9 (fun e => by have := (hOB.out _ e).2; omega)⟩
                · rcases z with _ | _ | _ | _ | _ | _ | _ | _ | _ | _ | _ | _ | _ | _ | z
                  all_goals first | exact absurd rfl hz | exact absurd rfl hz10 | exact hf | (simp [factAt]; done)
            case o12 =>
              go_light
              intro ac w' hgw2
              have ne0 : (Value.slice A1 hits.length m1).ownBlock ≠ some h := fun e => by have := (hOB.out _ e).1; have := hbnd.out; omega
              have ne1 : (Value.slice A1 hits.length m1).ownBlock ≠ some (h + 1) := fun e => by have := (hOB.out _ e).1; have := hbnd.out; omega
              have neg : (Value.slice A1 hits.length m1).ownBlock ≠ some hg := fun e => by have := (hOB.out _ e).1; have := hbnd.out; omega
              have f0 := ((E0.out.drew.kept hgw2 ne0).cell 0).trans (show _ = some (Value.pointer (some ⟨hg, 0, none⟩)) from rfl)
              have f1 := ((E1.out.drew.kept hgw2 ne1).cell 0).trans (show _ = some (Value.int .i64 fr) from rfl)
              have f2 := ((HGh.out.drew.kept hgw2 neg).cell 2).trans (show _ = some (Value.slice A1 hits.length m1) from rfl)
              have hszw := hid (Nat.le_trans (show w6.heap.size ≤ w6.drew.heap.size from Nat.le_refl _) hgw2.size)
              clear ne0 ne1 neg
              replace hgw2 := hid hgw2
              simp only [outThen, preThen, slotIs, factAt, isv, List.getElem?_cons_zero, List.getElem?_cons_succ, Option.getD_some, forall_eq]
              intros
              rename_i hK
              replace hK := hid hK
              simp only [wantedAt]
              go_simp
              exact hK.out _ _ rfl (grown_refl _ _)
            case o13 =>
              go_light
              intro ac w' hgw2
              have ne0 : (Value.slice A1 hits.length m1).ownBlock ≠ some h := fun e => by have := (hOB.out _ e).1; have := hbnd.out; omega
              have ne1 : (Value.slice A1 hits.length m1).ownBlock ≠ some (h + 1) := fun e => by have := (hOB.out _ e).1; have := hbnd.out; omega
              have neg : (Value.slice A1 hits.length m1).ownBlock ≠ some hg := fun e => by have := (hOB.out _ e).1; have := hbnd.out; omega
              have f0 := ((E0.out.drew.kept hgw2 ne0).cell 0).trans (show _ = some (Value.pointer (some ⟨hg, 0, none⟩)) from rfl)
              have f1 := ((E1.out.drew.kept hgw2 ne1).cell 0).trans (show _ = some (Value.int .i64 fr) from rfl)
              have f2 := ((HGh.out.drew.kept hgw2 neg).cell 2).trans (show _ = some (Value.slice A1 hits.length m1) from rfl)
              have hszw := hid (Nat.le_trans (show w6.heap.size ≤ w6.drew.heap.size from Nat.le_refl _) hgw2.size)
              clear ne0 ne1 neg
              replace hgw2 := hid hgw2
              simp only [outThen, preThen, slotIs, factAt, isv, List.getElem?_cons_zero, List.getElem?_cons_succ, Option.getD_some, forall_eq]
              intros
              rename_i hK
              replace hK := hid hK
              simp only [wantedAt]
              go_simp
              exact hK.out _ _ rfl (grown_refl _ _)
          case st =>
            repeat (first | exact AllStable.nil | (refine AllStable.cons ?_ ?_; focus (first | exact stable_isv _ | exact stable_isBytes _ | exact stable_isRow1 _ | exact stable_isRowOf _ _ | exact stable_isVar _ | exact stable_isVarOf _ _ _ | exact stable_isOneHit _ _ | exact stable_isMoreHits _ _ _)))
          case fin =>
            intro w8 hgw2
            simp only [finalIn, factAt, isv, isOneHit, isMoreHits, List.getElem?_cons_zero, List.getElem?_cons_succ, Option.getD_some, forall_eq, slotIs, subj, List.take_succ_cons, List.take_zero]
            rintro v10 ⟨g10, _, rfl, _⟩ v11 ⟨A11, m11, rfl, hown8⟩
            simp only [Act.put, List.setIfInBounds_toArray, List.set_cons_zero, List.set_cons_succ, List.drop_succ_cons, List.drop_zero]
            obtain ⟨x1, x2, x3, x4⟩ := hmore.out w8 A11 m11 _ (by exact ⟨hgw2.os, hgw2.tape, hgw2.output, hgw2.size, hgw2.block⟩) rfl hown8
            have X4 := hid x4
            obtain ⟨L, hL⟩ : ∃ L, (hits ++ [(fr + (p : Int), (j : Int))]).length = L := ⟨_, rfl⟩
            rw [hL] at X4 ⊢
            clear hgw2 hown8 x4
            gi_wp2
            go_roundw
            case rel => exact ⟨k + 1, by omega, by go_num, by rw [hT.out, ← List.append_assoc, hhits.out]; exact X4.out⟩
            case measure => simp [intOf]; omega
      · obtain rfl : k = zs.length := by omega
        rw [List.take_length, hrh.out] at s
        rw [hrl, ← hsc.out] at *
        replace s := hid s
        gi_wp2
        exact ⟨s.out.record, s.out.turn (by omega) (by omega) (by omega)⟩
  case behind =>
    rintro e W2 ⟨hv, s⟩
    refine ⟨hv, .inl ⟨s.record, fun o => ?_⟩⟩
    obtain ⟨A1, m1, HG, hown⟩ := s.own
    have hH2 := HG.put (l := q + 3) (by omega) o
    have hO2 := ownsRow_putObj hown o s.record rfl
    have hD := (World.putObj_heap_other (o := o) (r := q + 3) (k := q + 2) (w := W2) (by omega)).trans ((s.keep (q + 2) (by omega) (by omega) (by omega)).trans B5.out)
    have hG2 := grown_put (l := q + 3) s.gr (by omega) o
    generalize W2.putObj (q + 3) o = W3 at hH2 hO2 hD hG2 ⊢
    clear s HG hown
    replace hH2 := hid hH2
    replace hO2 := hid hO2
    replace hG2 := hid hG2
    replace hD := hid hD
    gi_wp2
    refine gather_leaves hD.out (fun v => ⟨⟨_, rfl⟩, grown_put hG2.out (by omega) _, A1, m1, hH2.out.put (by omega) _, ?_⟩) (.inl rfl)
    exact OwnHits.mono (ownsRow_putObj hO2.out _ hD.out rfl) (by omega)
end Go.Proofs.Ytmahiodejhakpaa
