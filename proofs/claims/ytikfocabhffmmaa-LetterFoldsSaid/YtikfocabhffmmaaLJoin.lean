/- Package letter: all texts, one behind the other. -/
import Derived.Test.YtikfocabhffmmaaLAll
set_option linter.unusedVariables false
namespace Go.Proofs.Ytikfocabhffmmaa
open Go.RowKit PlainLetter Go.Shelf
attribute [local go_sem] Oper.semAt_some

/-- The return, the result in slot 2, the loop's mark taken up. -/
theorem join_leaves {W : World} {d : Nat} {v : Value} {T : Array Value} {R : Ending → World → Prop} (hT : T.getD 2 undef = v)
    (hD : W.heap[d]? = some (.deferred (some []))) (hR : R (.returned v) (W.putObj d (.deferred none))) :
    bodyPostM Fence.wide 0 Try.prog Try.f20 R Exit.ret { tmps := T, defers := [{ target := .collected d, args := #[] }] } W := by
  refine ⟨by simp, .inl ⟨_, _, rfl, run_takeDeferred hD, ?_⟩⟩
  rw [Array.getD_eq_getD_getElem?] at hT
  refine ⟨_, ?_, hR⟩
  simp [results, Try.results20, hT]

set_option maxHeartbeats 2000000 in
theorem letJoin_is (P : Option Addr) (d : Nat) (xss : List (List Int)) (w : World) (hn : xss.length ≤ 100000) (hl : xss.flatten.length ≤ 100000) (hP : Arrs w P xss) :
    Calls Try.prog 20 #[.slice P xss.length d] w (Owns xss.flatten w) := by
  obtain ⟨i0, hi0, hz0, hz1, hz2⟩ := info_parts Try.info5
  obtain ⟨As, Cs, hR⟩ := RowsAt.of_arrs hP
  obtain ⟨h, hh⟩ : ∃ h, w.heap.size = h := ⟨_, rfl⟩
  refine (callsIn_wide (n := 0)).1 ?_
  refine callsIn_of_wp_marks Try.func20 rfl trivial ?_ rfl
  simp only [Try.ntmps20, List.size_toArray, List.length_cons, List.length_nil, Nat.reduceAdd, Nat.reduceSub, Array.replicate_succ, Array.replicate_zero, List.push_toArray, List.append_toArray, List.nil_append, List.cons_append]
  have hht := hid hh
  replace hR := hid hR
  have hS : Hid (∀ k, (xss.getD k []).length ≤ 100000) := fun k => by
    by_cases hk : k < xss.length
    · have h1 := congrArg (fun l => (List.flatten l).length) (List.take_append_drop (k + 1) xss)
      rw [List.flatten_append, List.length_append, take_getD xss k [] hk, List.flatten_append, List.length_append] at h1
      simp only [List.flatten_cons, List.flatten_nil, List.append_nil] at h1
      omega
    · simp [List.getD, List.getElem?_eq_none (Nat.le_of_not_lt hk)]
  clear hh hP
  gi_wp2_with fail
  refine ⟨trivial, rfl, ?_⟩
  refine (callsIn_wide.2 (letAll_is P xss.length d _)).mono ?_
  rintro e w2 ⟨rfl, rfl⟩
  gi_wp2
  refine range_wide (gf := 25) rfl (enters_of Try.func25 (by kernel_rfl) rfl) (fun fn rc hrc => ?_)
  replace hrc := hid hrc
  simp only [World.size_alloc, hht.out, Nat.add_assoc, Nat.reduceAdd] at hrc ⊢
  obtain ⟨W1, hW1⟩ : ∃ W1, ((((w.alloc (.cells #[.slice none 0 0] 22)).alloc (.cells #[.slice P xss.length d] 23)).alloc (Obj.deferred (some []))).alloc (Obj.loop (rc .ready none))) = W1 := ⟨_, rfl⟩
  rw [hW1]
  have hN : CollAt w h (h + 2) (h + 3) [(h + 1, 23, #[.slice P xss.length d])] rc [] W1 := by
    subst hW1
    exact {
      var := ⟨none, 0, (((Holds.new_at 22 _ hht.out).alloc _).alloc _).alloc _, by simpa using World.ownsRow_nil _ _ _ _⟩
      held := fun x hx => by
        obtain rfl : x = (h + 1, 23, #[.slice P xss.length d]) := by simpa using hx
        exact ((Holds.new_at 23 _ (by simp [hht.out])).alloc _).alloc _
      dfr := other_alloc (alloc_at _ (by simp [hht.out]))
      record := alloc_at _ (by simp [hht.out])
      gr := grown_alloc (grown_alloc (grown_alloc (grown_alloc (grown_refl w _) _) _) _) _ }
  clear hW1
  refine CallsIn.mono (letAll_in (h + 3) (h + 1) P d As Cs xss hn hS.out (CollAt w h (h + 2) (h + 3) [(h + 1, 23, #[.slice P xss.length d])] rc) W1
    (fun pre W s => ⟨hR.out.grown s.gr, s.held (h + 1, 23, #[.slice P xss.length d]) (by simp)⟩) ?round hN) ?behind
  case round =>
    rintro pre y W s hpl _
    obtain ⟨A, cp, hH, hown⟩ := s.var
    have Hs := hid s
    refine round_wide hrc.out Hs.out.record rfl fun K hK => ?_
    replace hK := hid hK
    gi_wp2
    refine hK.out _ ?_
    clear hK
    clear K
    have hown' := hid hown
    have hHb : Holds (W.putObj (h + 3) (.loop (rc .busy none))) h 22 #[.slice A pre.length cp] := hH.put (by omega) _
    have hownb := ownsRow_putObj hown (.loop (rc .busy none)) s.record rfl
    rw [hht.out] at hownb
    replace hownb := hid hownb
    have hsz : Hid (h ≤ (W.putObj (h + 3) (.loop (rc .busy none))).heap.size) := Nat.le_of_lt hHb.lt
    have c0 := hHb.cell 0
    simp at c0
    have hx : Hid ((W.putObj (h + 3) (.loop (rc .busy none))).grownBy (W.putObj (h + 3) (.loop (rc .busy none))) none) := grown_refl _ _
    have hH' := hid hH
    clear hH hown s hHb
    obtain ⟨Wb, hWb⟩ : ∃ Wb, W.putObj (h + 3) (.loop (rc .busy none)) = Wb := ⟨_, rfl⟩
    rw [hWb] at c0 hownb hsz
    rw [hWb]
    replace hWb := hid hWb
    have hstep := hid (fun (A' : Option Addr) (n cp' : Nat) (w1 : World) (hown1 : w1.ownsRow h 5 1 (.slice A' n cp') (pre ++ [y]).length ((pre ++ [y]).map (Value.int .u8))) (hn1 : n = (pre ++ [y]).length)
        (hg1 : (Wb.alloc (.cells #[.int .u8 y] 5)).grownBy w1 (Value.slice A pre.length cp).ownBlock) =>
      Hs.out.step (wx := Wb.alloc (.cells #[.int .u8 y] 5)) (by have := hht.out; omega) (by have := hht.out; omega) (by omega) (by
        intro x hx
        obtain rfl : x = (h + 1, 23, #[.slice P xss.length d]) := by simpa using hx
        exact ⟨by simp, by simp⟩) hH'.out hown'.out (by rw [hWb.out]; exact grown_alloc (grown_refl Wb _) _) hg1 (by rw [hht.out]; exact hown1) hn1)
    have hb1 := hid (bytes_new Wb [y])
    gi_wp2_with (gi_at_builtin; refine wpListIn_append_arr rfl _ _ 22 rfl h 5 i0 .u8 1 Try.underlying22 hi0 hz0 hz1 hz2 _ pre [y] _ _ _ _ (hownb.out.alloc _) hb1.out rfl rfl rfl (by decide) (by simp; omega) (by have := hsz.out; simp; omega) ?_; intro v' w1 hown1 hg1; obtain ⟨A', cp', rfl, _, _⟩ := own_form hown1; have hst := hid (hstep.out A' _ cp' w1 hown1 rfl hg1); obtain ⟨c1, f1, l1, _, _⟩ := hst.out; clear hown1 hg1)
    exact ⟨by simpa using hst.out.2.2.2.1, by simpa using hst.out.2.2.2.2⟩
  case behind =>
    rintro e W2 ⟨hv, s⟩
    refine ⟨hv, .inl ⟨s.record, fun o => ?_⟩⟩
    obtain ⟨A, cp, hH, hown⟩ := s.var
    have hH2 := hH.put (l := h + 3) (by omega) o
    have hD := (World.putObj_heap_other (o := o) (r := h + 3) (k := h + 2) (by omega)).trans s.dfr
    have hG := grown_put (l := h + 3) s.gr (by have := hht.out; omega) o
    have hO := ownsRow_putObj hown o s.record rfl
    obtain ⟨W3, hW3⟩ : ∃ W3, W2.putObj (h + 3) o = W3 := ⟨_, rfl⟩
    rw [hW3] at hH2 hD hG hO ⊢
    clear hW3 s hH hown
    obtain ⟨zs, hzs⟩ : ∃ zs, xss.flatten = zs := ⟨_, rfl⟩
    rw [hzs] at hH2 hO
    replace hzs := hid hzs
    have c0 := hH2.cell 0
    simp at c0
    replace hG := hid hG
    replace hO := hid hO
    replace hD := hid hD
    clear hH2
    gi_wp2
    refine join_leaves (v := .slice A zs.length cp) rfl hD.out ?_
    rw [hzs.out]
    exact ⟨_, rfl, ownsRow_putObj hO.out _ hD.out rfl, Below.of_grown (grown_put hG.out (by have := hht.out; omega) _)⟩
end Go.Proofs.Ytikfocabhffmmaa
