/- The document's own answer: numbers' bytes, how many they are. -/
import Derived.Test.YtdpdomdgmehomaaPuts
set_option linter.unusedVariables false
namespace Go.Proofs.Ytdpdomdgmehomaa
open Go.RowKit Plain

set_option maxRecDepth 100000 in
set_option maxHeartbeats 800000 in
theorem refPut_yes (n : Int) (w : World) (h0 : 0 ≤ n) (h1 : n ≤ 2147483647) : Calls Try.prog 9 #[.int .i64 n] w (Tells .u8 (enc n.toNat) 0 w) := by
  obtain ⟨i0, hi, hz0, hz1, hz2⟩ := info_parts Try.info5
  obtain ⟨N, rfl⟩ := Int.eq_ofNat_of_zero_le h0
  rw [Int.toNat_natCast]
  have h5 := enc_len5 N (by omega)
  go_enter Try.func9, Try.ntmps9
  go_wp2
  go_loopw [0, 4] (fun u v wr => ∃ (q : Nat) (xs : List Int), u = .int .i64 q ∧ (q : Int) ≤ 2147483647 ∧ Hid (xs ++ enc q = enc N) ∧ xs.length ≤ 5 ∧ wr.ownsRow w.heap.size 5 1 v xs.length (xs.map (Value.int .u8)) ∧ Below w.heap.size w wr)
    (fun u _ _ => (intOf u).toNat)
  case atStart => exact ⟨N, [], rfl, by omega, by simp [Hid], by simp, World.ownsRow_nil _ _ _ _, Below.refl _ _⟩
  case round =>
    obtain ⟨q, xs, rfl, hq, hE, hx, hrow, hB⟩ := hrel
    by_cases hlt : 128 ≤ q
    · have hE' : Hid ((xs ++ [128 + (q : Int) % 128]) ++ enc (q / 128) = enc N) := by
        show _ = _
        rw [← hE.out, enc_big q hlt, List.append_assoc]; rfl
      have hx' : (xs ++ [128 + (q : Int) % 128]).length ≤ 5 := by
        have hh := congrArg List.length hE'.out
        have := enc_pos (q / 128)
        rw [List.length_append] at hh
        omega
      clear hE h0 h1
      go_wp2_with (at_builtin; refine wpList_push rfl _ _ 23 rfl w.heap.size 5 i0 .u8 1 Try.underlying23 hi hz0 hz1 hz2 _ _ _ _ hrow rfl rfl (by decide) (by omega) (by have := hB.size; omega) ?_; intro v' w1 hrow1 hB1)
      go_roundw
      case rel => exact ⟨q / 128, xs ++ [128 + (q : Int) % 128], by simp, by omega, hE', hx', hrow1, hB.trans hB1⟩
      case measure => simp [intOf]; omega
    · have hE' : Hid (xs ++ [(q : Int)] = enc N) := by
        show _ = _
        rw [← hE.out, enc_small q (by omega)]
      clear hE h0 h1
      go_wp2_with (at_builtin; refine wpList_push rfl _ _ 23 rfl w.heap.size 5 i0 .u8 1 Try.underlying23 hi hz0 hz1 hz2 _ _ _ _ hrow rfl rfl (by decide) (by omega) (by have := hB.size; omega) ?_; intro v' w1 hrow1 hB1)
      rw [hE'.out] at hrow1
      obtain ⟨A', c', rfl, hc1, hc2⟩ := own_form hrow1
      have hA := hid (Arr.of_own (k := .u8) hrow1)
      go_ret2
      exact ⟨A', c', rfl, hc1, hc2, hA.out, below_grown (hB.trans hB1)⟩

theorem refPut_no (n : Int) (w : World) (h : n < 0 ∨ 2147483647 < n) : Calls Try.prog 9 #[.int .i64 n] w (Tells .u8 [] 2 w) := by
  by_cases h0 : n < 0
  · clear h
    go_enter Try.func9, Try.ntmps9
    go_wp2
    go_ret2
    exact ⟨none, 0, rfl, by simp, by simp, Arr.nil _, grown_refl _ _⟩
  · have h1 : 2147483647 < n := by omega
    clear h
    go_enter Try.func9, Try.ntmps9
    go_wp2
    go_ret2
    exact ⟨none, 0, rfl, by simp, by simp, Arr.nil _, grown_refl _ _⟩

set_option maxHeartbeats 400000 in
theorem refPuts_yes (A : Option Addr) (c : Nat) (zs : List Int) (w : World) (h : Arr w .i64 A zs) (hl : zs.length ≤ 1000) (ht : toldB zs = true) :
    Calls Try.prog 11 #[.slice A zs.length c] w (Tells .u8 (encs zs) 0 w) := by
  have htt := hid ht
  have hle := encs_len zs ht
  clear ht
  obtain ⟨i0, hi, hz0, hz1, hz2⟩ := info_parts Try.info5
  go_enter Try.func11, Try.ntmps11
  go_wp2_with fail
  go_loopw [4, 5] (fun v i wr => ∃ k : Nat, k ≤ zs.length ∧ i = .int .i64 k ∧ wr.ownsRow w.heap.size 5 1 v (encs (zs.take k)).length ((encs (zs.take k)).map (Value.int .u8)) ∧ Below w.heap.size w wr) (fun _ i _ => zs.length - (intOf i).toNat)
  case atStart => exact ⟨0, by omega, rfl, World.ownsRow_nil _ _ _ _, Below.refl _ _⟩
  case round =>
    obtain ⟨k, hk, rfl, hrow, hB⟩ := hrel
    by_cases hlt : k < zs.length
    · obtain ⟨b, off, rfl, hb, hc⟩ := (h.grown (below_grown hB)).at_ hlt
      have hck := hc k hlt
      have hr := (toldB_iff zs).1 htt.out (zs.getD k 0) (by simp [List.getD, hlt])
      have hs := hid (encs_take zs k hlt)
      have hsm := encs_len _ (told_take zs k htt.out)
      rw [List.length_take] at hsm
      have h5 := enc_len5 (zs.getD k 0).toNat (by omega)
      clear h hc
      generalize zs.getD k 0 = x at hck hr hs h5
      obtain ⟨hx0, hx1⟩ := hr
      go_wp2_with fail
      refine (refPut_yes x wr hx0 hx1).mono ?_
      rintro e w1 ⟨A1, c1, rfl, _, _, hA1, hg1⟩
      have hB1 : Below w.heap.size wr w1 := (grown_below hg1).mono hB.size
      have hrow1 := hrow.kept hg1 (by
        cases hv : u4.ownBlock with
        | none => exact .inl rfl
        | some j => exact .inr (by simp))
      clear hrow hck
      go_wp2_with (at_builtin; refine wpList_append_all rfl _ _ 23 rfl w.heap.size 5 i0 .u8 1 Try.underlying23 hi hz0 hz1 hz2 _ _ _ _ _ _ _ hrow1 hA1 rfl rfl rfl (by decide) (by omega) (by have := hB.size; have := hB1.size; omega) ?_; intro v' w2 hrow2 hB2)
      rw [hs.out] at hrow2
      go_roundw
      case rel => exact ⟨k + 1, by omega, by go_num, hrow2, (hB.trans hB1).trans hB2⟩
      case measure => simp [intOf]; omega
    · obtain rfl : k = zs.length := by omega
      obtain ⟨A', c', rfl, hc1, hc2⟩ := own_form hrow
      rw [List.take_length] at hrow
      have hA := hid (Arr.of_own (k := .u8) hrow)
      clear hrow
      simp only [List.take_length] at hc1 ⊢
      go_wp2
      go_ret2
      exact ⟨A', c', rfl, hc1, hc2, hA.out, below_grown hB⟩

set_option maxHeartbeats 400000 in
theorem refPuts_no (A : Option Addr) (c : Nat) (zs : List Int) (w : World) (h : Arr w .i64 A zs) (hl : zs.length ≤ 1000) (ht : toldB zs = false) :
    Calls Try.prog 11 #[.slice A zs.length c] w (Tells .u8 [] 2 w) := by
  obtain ⟨m, hm, hbad, hgood⟩ := find_first zs ht
  have hmt : toldB (zs.take m) = true := (toldB_iff _).2 fun x hx => by
    obtain ⟨j, hj, rfl⟩ := List.getElem_of_mem hx
    have hj' : j < m := by simp at hj; omega
    have := hgood j hj'
    simpa [List.getD, show j < zs.length by omega] using this
  have hbad := hid hbad
  have hgood := hid hgood
  have hmt := hid hmt
  clear ht
  obtain ⟨i0, hi, hz0, hz1, hz2⟩ := info_parts Try.info5
  go_enter Try.func11, Try.ntmps11
  go_wp2_with fail
  go_loopw [4, 5] (fun v i wr => ∃ k : Nat, k ≤ m ∧ i = .int .i64 k ∧ wr.ownsRow w.heap.size 5 1 v (encs (zs.take k)).length ((encs (zs.take k)).map (Value.int .u8)) ∧ Below w.heap.size w wr) (fun _ i _ => m - (intOf i).toNat)
  case atStart => exact ⟨0, by omega, rfl, World.ownsRow_nil _ _ _ _, Below.refl _ _⟩
  case round =>
    obtain ⟨k, hk, rfl, hrow, hB⟩ := hrel
    have hlt : k < zs.length := by omega
    obtain ⟨b, off, rfl, hb, hc⟩ := (h.grown (below_grown hB)).at_ hlt
    have hck := hc k hlt
    by_cases hkm : k < m
    · have hr := hgood.out k hkm
      have hs := hid (encs_take zs k hlt)
      have hsm := encs_len (zs.take k) (by
        have := told_take (zs.take m) k hmt.out
        rwa [List.take_take, Nat.min_eq_left (by omega)] at this)
      rw [List.length_take] at hsm
      have h5 := enc_len5 (zs.getD k 0).toNat (by omega)
      clear h hc hbad hgood hmt
      generalize zs.getD k 0 = x at hck hr hs h5
      obtain ⟨hx0, hx1⟩ := hr
      go_wp2_with fail
      refine (refPut_yes x wr hx0 hx1).mono ?_
      rintro e w1 ⟨A1, c1, rfl, _, _, hA1, hg1⟩
      have hB1 : Below w.heap.size wr w1 := (grown_below hg1).mono hB.size
      have hrow1 := hrow.kept hg1 (by
        cases hv : u4.ownBlock with
        | none => exact .inl rfl
        | some j => exact .inr (by simp))
      clear hrow hck
      go_wp2_with (at_builtin; refine wpList_append_all rfl _ _ 23 rfl w.heap.size 5 i0 .u8 1 Try.underlying23 hi hz0 hz1 hz2 _ _ _ _ _ _ _ hrow1 hA1 rfl rfl rfl (by decide) (by omega) (by have := hB.size; have := hB1.size; omega) ?_; intro v' w2 hrow2 hB2)
      rw [hs.out] at hrow2
      go_roundw
      case rel => exact ⟨k + 1, by omega, by go_num, hrow2, (hB.trans hB1).trans hB2⟩
      case measure => simp [intOf]; omega
    · obtain rfl : k = m := by omega
      have hr := hbad.out
      clear h hc hbad hgood hmt
      generalize zs.getD k 0 = x at hck hr
      have hr' := hid (show x < 0 ∨ 2147483647 < x by omega)
      clear hr hrow
      go_wp2_with fail
      refine (refPut_no x wr hr'.out).mono ?_
      rintro e w1 ⟨A1, c1, rfl, _, _, _, hg1⟩
      go_wp2
      go_ret2
      exact ⟨none, 0, rfl, by simp, by simp, Arr.nil _, grown_trans (below_grown hB) hg1⟩

theorem refSize_yes (A : Option Addr) (c : Nat) (zs : List Int) (w : World) (h : Arr w .i64 A zs) (hl : zs.length ≤ 1000) (ht : toldB zs = true) :
    Calls Try.prog 13 #[.slice A zs.length c] w fun e w' => e = .returned (.int .i64 ((encs zs).length : Int)) ∧ w.grownBy w' none := by
  go_enter Try.func13, Try.ntmps13
  go_wp2_with fail
  refine (refPuts_yes A c zs w h hl ht).mono ?_
  rintro e w1 ⟨A1, c1, rfl, _, _, _, hg1⟩
  go_wp2
  go_ret
  exact ⟨rfl, hg1⟩

theorem refSize_no (A : Option Addr) (c : Nat) (zs : List Int) (w : World) (h : Arr w .i64 A zs) (hl : zs.length ≤ 1000) (ht : toldB zs = false) :
    Calls Try.prog 13 #[.slice A zs.length c] w fun e w' => e = .returned (.int .i64 0) ∧ w.grownBy w' none := by
  go_enter Try.func13, Try.ntmps13
  go_wp2_with fail
  refine (refPuts_no A c zs w h hl ht).mono ?_
  rintro e w1 ⟨A1, c1, rfl, _, _, _, hg1⟩
  go_wp2
  go_ret
  exact ⟨rfl, hg1⟩
end Go.Proofs.Ytdpdomdgmehomaa
