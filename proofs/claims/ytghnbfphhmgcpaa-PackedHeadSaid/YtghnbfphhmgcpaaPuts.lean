/- All numbers' bytes, one behind the other; one number's bytes. -/
import Derived.Test.YtghnbfphhmgcpaaAdd
import Derived.Test.YtghnbfphhmgcpaaTelling
set_option linter.unusedSimpArgs false
set_option linter.unusedVariables false
namespace Go.Proofs.Ytghnbfphhmgcpaa
open Go.RowKit Plain

theorem encs_take (zs : List Int) (k : Nat) (h : k < zs.length) : encs (zs.take k) ++ enc (zs.getD k 0).toNat = encs (zs.take (k + 1)) := by
  rw [List.take_succ_eq_append_getElem h, encs_snoc]
  simp [List.getD, h]

theorem told_take (zs : List Int) (k : Nat) (h : toldB zs = true) : toldB (zs.take k) = true :=
  (toldB_iff _).2 fun n hn => (toldB_iff _).1 h n (List.mem_of_mem_take hn)

set_option maxHeartbeats 400000 in
theorem Puts_yes (A : Option Addr) (c : Nat) (zs : List Int) (w : World) (h : Arr w .i64 A zs) (hl : zs.length ≤ 1000) (ht : toldB zs = true) :
    Calls Try.prog 61 #[.slice A zs.length c] w (Tells .u8 (encs zs) 0 w) := by
  have htt := hid ht
  have hle := encs_len zs ht
  clear ht
  obtain ⟨i0, hi, hz0, hz1, hz2⟩ := info_parts Try.info5
  go_enter Try.func61, Try.ntmps61
  go_wp2_with (first
    | (go_at_call 56; refine (mayBeTold_yes _ _ _ _ h hl htt.out).mono ?_; rintro e w' ⟨rfl, rfl⟩)
    | (go_at_call 47; refine (Size_yes _ _ _ _ h hl htt.out).mono ?_; rintro e w' ⟨rfl, rfl⟩)
    | (at_make; refine wpList_make_own _ rfl _ _ 23 rfl w.heap.size 5 i0 (.int .u8 0) 1 Try.underlying23 hi hz0 hz1 _ _ _ (encs zs).length rfl rfl rfl (by rw [hz2]; omega) (by unfold maxLen; omega) (Nat.le_refl _) ?_; intro w1 hrow0 hg0))
  have hB0 := below_of_grown hg0 (Nat.le_refl _) (by simp)
  have h1 := h.grown hg0
  go_loopw [4, 15] (fun v i wr => ∃ k : Nat, k ≤ zs.length ∧ i = .int .i64 k ∧ wr.ownsRow w.heap.size 5 1 v (encs (zs.take k)).length ((encs (zs.take k)).map (Value.int .u8)) ∧ Below w.heap.size w wr) (fun _ i _ => zs.length - (intOf i).toNat)
  case atStart => exact ⟨0, by omega, rfl, by simpa [encs_nil] using hrow0, hB0⟩
  case round =>
    obtain ⟨k, hk, rfl, hrow, hB⟩ := hrel
    by_cases hlt : k < zs.length
    · obtain ⟨b, off, rfl, hb, hc⟩ := (h.grown (below_grown hB)).at_ hlt
      have hck := hc k hlt
      have hr := (toldB_iff zs).1 htt.out (zs.getD k 0) (by simp [List.getD, hlt])
      have hs := hid (encs_take zs k hlt)
      have hsm := encs_len _ (told_take zs k htt.out)
      rw [List.length_take] at hsm
      clear h h1 hc hrow0 hg0 hB0
      generalize zs.getD k 0 = x at hck hr hs
      obtain ⟨hx0, hx1⟩ := hr
      go_wp2_with (go_at_call 64; refine (add_any _ _ _ w.heap.size _ hrow hB.size (by omega) hx0 hx1).mono ?_; rintro e w2 ⟨v', rfl, hrow2, hB2⟩)
      rw [hs.out] at hrow2
      go_roundw
      case rel => exact ⟨k + 1, by omega, by go_num, hrow2, hB.trans hB2⟩
      case measure => simp [intOf]; omega
    · obtain rfl : k = zs.length := by omega
      obtain ⟨A', c', rfl, hc1, hc2⟩ := own_form hrow
      rw [List.take_length] at hrow
      have hA := hid (Arr.of_own (k := .u8) hrow)
      clear h1 hrow0 hg0 hB0
      simp only [List.take_length] at hc1 ⊢
      go_wp2
      go_ret2
      exact ⟨A', c', rfl, hc1, hc2, hA.out, below_grown hB⟩

theorem Puts_no (A : Option Addr) (c : Nat) (zs : List Int) (w : World) (h : Arr w .i64 A zs) (hl : zs.length ≤ 1000) (ht : toldB zs = false) :
    Calls Try.prog 61 #[.slice A zs.length c] w fun e w' => e = .returned (.tuple #[.slice none 0 0, .int .i64 2]) ∧ w = w' := by
  have htt := hid ht
  clear ht
  go_enter Try.func61, Try.ntmps61
  go_wp2_with (go_at_call 56; refine (mayBeTold_no _ _ _ _ h hl htt.out).mono ?_; rintro e w' ⟨rfl, rfl⟩)
  go_ret2
  exact ⟨rfl, rfl⟩

/-- A new block of integers reads as them. -/
theorem Arr.new (w : World) (k : IntKind) (zs : List Int) (t : TypeId) : Arr (w.alloc (.cells (zs.map (Value.int k)).toArray t)) k (some ⟨w.heap.size, 0, none⟩) zs := fun _ =>
  ⟨w.heap.size, 0, rfl, by simp, fun i hi => by
    rw [cell_of_row _ w.heap.size (0 + i) _ t (0, 0) (heap_alloc_new w _)]
    simp [List.getD, hi]⟩

theorem Arr.new1 (w : World) (k : IntKind) (n : Int) (t : TypeId) : Arr (w.alloc (.cells #[.int k n] t)) k (some ⟨w.heap.size, 0, none⟩) [n] := Arr.new w k [n] t

theorem Put_yes (n : Int) (w : World) (h0 : 0 ≤ n) (h1 : n ≤ 2147483647) : Calls Try.prog 53 #[.int .i64 n] w (Tells .u8 (enc n.toNat) 0 w) := by
  have ht : toldB [n] = true := by simp [toldB, h0, h1]
  have htt := hid ht
  clear ht
  have e1 : encs [n] = enc n.toNat := by simp [encs]
  go_enter Try.func53, Try.ntmps53
  go_wp2_with (go_at_call 61; refine (Puts_yes (some ⟨w.heap.size, 0, none⟩) 1 [n] (w.alloc (.cells #[.int .i64 n] 3)) (Arr.new1 w .i64 n 3) (by simp) htt.out).mono ?_; rintro e w' ⟨A, c, rfl, hc1, hc2, hA, hg⟩)
  go_ret2
  rw [e1] at hc1 hA
  exact ⟨A, c, rfl, hc1, hc2, hA, grown_trans (World.grownBy_alloc _ _ _) hg⟩

theorem Put_no (n : Int) (w : World) (h : n < 0 ∨ 2147483647 < n) : Calls Try.prog 53 #[.int .i64 n] w (Tells .u8 [] 2 w) := by
  have ht : toldB [n] = false := by simp [toldB]; omega
  have htt := hid ht
  clear ht h
  go_enter Try.func53, Try.ntmps53
  go_wp2_with (go_at_call 61; refine (Puts_no (some ⟨w.heap.size, 0, none⟩) 1 [n] (w.alloc (.cells #[.int .i64 n] 3)) (Arr.new1 w .i64 n 3) (by simp) htt.out).mono ?_; rintro e w' ⟨rfl, rfl⟩)
  go_ret2
  exact ⟨none, 0, rfl, by simp, by simp, Arr.nil _, World.grownBy_alloc _ _ _⟩
end Go.Proofs.Ytghnbfphhmgcpaa
