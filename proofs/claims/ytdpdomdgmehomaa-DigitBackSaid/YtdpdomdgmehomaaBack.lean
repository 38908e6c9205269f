/- The walk of the law DigitBack: it returns true at every input. -/
import Derived.Test.YtdpdomdgmehomaaWakes
import Derived.Test.YtdpdomdgmehomaaRow
set_option linter.unusedVariables false
namespace Go.Proofs.Ytdpdomdgmehomaa
open Go.RowKit Plain

theorem back_great (A1 A2 : Option Addr) (n1 c1 n2 c2 : Nat) (w : World) (h : 60 < n1 ∨ 100 < n2) :
    Calls Try.prog 4 #[.slice A1 n1 c1, .slice A2 n2 c2] w fun e w' => e = .returned (.bool true) ∧ w.grownBy w' none := by
  by_cases h1 : 60 < n1
  · clear h
    go_enter Try.func4, Try.ntmps4
    go_wp2_with (go_at_call 7; refine (wakes_any _).mono ?_; rintro e w' ⟨rfl, hg⟩)
    go_ret
    exact ⟨rfl, hg⟩
  · have h2 : 100 < n2 := by omega
    clear h
    go_enter Try.func4, Try.ntmps4
    go_wp2_with (go_at_call 7; refine (wakes_any _).mono ?_; rintro e w' ⟨rfl, hg⟩)
    go_ret
    exact ⟨rfl, hg⟩

set_option maxHeartbeats 400000 in
theorem back_untold (A1 A2 : Option Addr) (c1 n2 c2 : Nat) (zs : List Int) (w : World) (h1 : zs.length ≤ 60) (h2 : n2 ≤ 100) (h : Arr w .i64 A1 zs) (ht : toldB zs = false) :
    Calls Try.prog 4 #[.slice A1 zs.length c1, .slice A2 n2 c2] w fun e w' => e = .returned (.bool true) ∧ w.grownBy w' none := by
  obtain ⟨m, hm, hbad, hgood⟩ := find_first zs ht
  replace hbad := hid hbad
  replace hgood := hid hgood
  clear ht
  go_enter Try.func4, Try.ntmps4
  go_wp2_with fail
  go_loop [5] (fun i => ∃ k : Nat, k ≤ m ∧ i = .int .i64 k) (fun i => zs.length - (intOf i).toNat)
  case atStart => exact ⟨0, Nat.zero_le _, rfl⟩
  case round =>
    obtain ⟨k, hk, rfl⟩ := hrel
    have hlt : k < zs.length := by omega
    obtain ⟨b, off, rfl, hb, hc⟩ := h.at_ hlt
    have hck := hc k hlt
    by_cases hkm : k < m
    · have hr := hgood.out k hkm
      clear h hc hgood hbad
      generalize zs.getD k 0 = x at hck hr
      obtain ⟨hx0, hx1⟩ := hr
      go_wp2_with fail
      go_round
      case rel => exact ⟨k + 1, by omega, by go_num⟩
      case measure => simp [intOf]; omega
    · obtain rfl : k = m := by omega
      have hr := hbad.out
      clear h hc hgood hbad
      generalize zs.getD k 0 = x at hck hr
      by_cases hx0 : x < 0
      · clear hr
        go_wp2_with (go_at_call 7; refine (wakes_any _).mono ?_; rintro e w' ⟨rfl, hg⟩)
        go_ret
        exact ⟨rfl, hg⟩
      · have hx1 : 2147483647 < x := by omega
        clear hr
        go_wp2_with (go_at_call 7; refine (wakes_any _).mono ?_; rintro e w' ⟨rfl, hg⟩)
        go_ret
        exact ⟨rfl, hg⟩

theorem back_told (A1 A2 : Option Addr) (c1 c2 : Nat) (zs bs : List Int) (w : World) (h1 : zs.length ≤ 60) (h2 : bs.length ≤ 100) (hz : Arr w .i64 A1 zs) (hb : Arr w .u8 A2 bs) (ht : toldB zs = true) (hby : ∀ x ∈ bs, isByte x) :
    Calls Try.prog 4 #[.slice A1 zs.length c1, .slice A2 bs.length c2] w fun e w' => e = .returned (.bool true) ∧ w.grownBy w' none := by
  have htt := hid ht
  obtain ⟨i0, hi, hz0, hz1, hz2⟩ := info_parts Try.info5
  clear ht
  go_enter Try.func4, Try.ntmps4
  go_wp2_with fail
  go_loop [5] (fun i => ∃ k : Nat, k ≤ zs.length ∧ i = .int .i64 k) (fun i => zs.length - (intOf i).toNat)
  case atStart => exact ⟨0, Nat.zero_le _, rfl⟩
  case round =>
    obtain ⟨k, hk, rfl⟩ := hrel
    by_cases hlt : k < zs.length
    · obtain ⟨b, off, rfl, hb, hc⟩ := hz.at_ hlt
      have hck := hc k hlt
      have hr := (toldB_iff zs).1 htt.out (zs.getD k 0) (by simp [List.getD, hlt])
      clear hz hc
      generalize zs.getD k 0 = x at hck hr
      obtain ⟨hx0, hx1⟩ := hr
      go_wp2_with fail
      go_round
      case rel => exact ⟨k + 1, by omega, by go_num⟩
      case measure => simp [intOf]; omega
    · obtain rfl : k = zs.length := by omega
      have hle := encs_len zs htt.out
      have hge := encs_len_ge zs
      go_wp2_with fail
      refine (Puts_yes A1 c1 zs w hz (by omega) htt.out).mono ?_
      rintro e w1 ⟨A3, c3, rfl, hc3, hd3, hA3, hg⟩
      have hz1' := hz.grown hg
      have hb1' := hb.grown hg
      obtain ⟨n, hn⟩ : ∃ n, (encs zs).length = n := ⟨_, rfl⟩
      have hSize := hid (fun w => (hn ▸ Size_yes A1 c1 zs w : Arr w .i64 A1 zs → _))
      rw [hn] at hc3 hle hge
      simp only [hn]
      replace hn := hid hn
      have hrow0 : (w1.alloc (.cells #[] 5)).ownsRow w1.heap.size 5 1 (.slice (some ⟨w1.heap.size, 0, none⟩) 0 0) ([] : List Int).length (([] : List Int).map (Value.int .u8)) :=
        World.ownsRow_made w1 #[] 0 (Nat.le_refl _) (by simp) (by simp)
      have hA3' := hA3.grown (World.grownBy_alloc w1 (.cells #[] 5) none)
      replace hg := hid hg
      clear hz hb
      go_wp2_with (first
        | (at_builtin; refine wpList_append_all rfl _ _ 23 rfl w1.heap.size 5 i0 .u8 1 Try.underlying23 hi hz0 hz1 hz2 _ _ bs _ _ _ _ hrow2 hb2 rfl rfl rfl (by decide) (by rw [hn.out]; omega) (by have := hB2.size; simp at this; omega) ?_; intro v3 w3 hrow3 hB3)
        | (at_builtin; refine wpList_append_all rfl _ _ 23 rfl w1.heap.size 5 i0 .u8 1 Try.underlying23 hi hz0 hz1 hz2 _ [] (encs zs) _ _ _ _ hrow0 hA3' rfl rfl hn.out (by decide) (by rw [hn.out]; simp; omega) (by simp) ?_; intro v2 w2 hrow2 hB2; rw [List.nil_append] at hrow2; have hb2 := hb1'.grown (below_grown (((Below.refl _ w1).alloc (Nat.le_refl _) _).trans hB2))))
      obtain ⟨A4, c4, rfl, hc4, hd4⟩ := own_form hrow3
      have hA4 := Arr.of_own (k := .u8) hrow3
      have hB13 : w1.grownBy w3 none := below_grown ((((Below.refl _ w1).alloc (Nat.le_refl _) _).trans hB2).trans hB3)
      have hFl : (encs zs ++ bs).length ≤ 1000 := by rw [List.length_append, hn.out]; omega
      refine (Takes_any A4 c4 (encs zs ++ bs) zs.length w3 (by omega) hc4 hd4 (fun x hx => by
        rcases List.mem_append.1 hx with h | h
        · exact encs_byte zs x h
        · exact hby x h) hA4 (by omega) (by omega)).mono ?_
      rintro e w4 ⟨l, rest, er, A5, A6, c5, c6, rfl, _, _, hA5, _, _, hA6, hg4, hT⟩
      rw [Int.toNat_natCast, takes_encs zs htt.out bs] at hT
      obtain ⟨rfl, rfl, rfl⟩ : l = zs ∧ rest = bs ∧ er = 0 := by
        rcases hT with ⟨h, rfl⟩ | ⟨h, _⟩
        · injection h with h1 h2; exact ⟨h1.symm, h2.symm, rfl⟩
        · cases h
      have hg14 := grown_trans hB13 hg4
      have hz4 := hid (hz1'.grown hg14)
      have hb4 := hid (hb1'.grown hg14)
      have hA34 := hid (hA3.grown hg14)
      replace hA5 := hid hA5
      replace hA6 := hid hA6
      have hG4 := hid (grown_trans hg.out hg14)
      clear hT hA4 hrow3 hrow2 hB2 hB3 hB13 hb2 hg4 hg14 hrow0 hA3' hz1' hb1' hA3 hg
      generalize (encs l ++ rest).length = q at hc4 hFl ⊢
      go_wp2_with fail
      refine (Ints_yes A5 A1 c5 c1 l w4 (by omega) hA5.out hz4.out).mono ?_
      rintro e w5 ⟨rfl, hg5⟩
      have cv1 := conv_arr w5 A6 c6 rest (hA6.out.grown hg5)
      have cv2 := conv_arr w5 A2 c2 rest (hb4.out.grown hg5)
      have hz5 := hid (hz4.out.grown hg5)
      have hA35 := hid (hA34.out.grown hg5)
      have hG5 := hid (grown_trans hG4.out hg5)
      clear hg5 hz4 hb4 hA34 hA5 hA6 hG4
      go_wp2_with fail
      refine (hSize.out w5 hz5.out (by omega) htt.out).mono ?_
      rintro e w6 ⟨rfl, rfl⟩
      clear cv1 cv2
      by_cases hne : l = []
      · subst hne
        obtain rfl : n = 0 := by have := hn.out; simp [encs] at this; omega
        go_wp2_with (go_at_call 7; refine (wakes_any _).mono ?_; rintro e w' ⟨rfl, hg⟩)
        go_ret
        exact ⟨rfl, grown_trans hG5.out hg⟩
      · have hl0 : 0 < l.length := List.length_pos_iff.2 hne
        obtain ⟨m, rfl⟩ : ∃ m, n = m + 1 := ⟨n - 1, by omega⟩
        have hD : ((encs l).dropLast).length = m := by rw [List.length_dropLast, hn.out]; rfl
        have hAD : Arr w5 .u8 A3 ((encs l).dropLast) := by rw [List.dropLast_eq_take]; exact hA35.out.take _
        have hshort := takes_short l htt.out hne
        have hT := Takes_any A3 c3 ((encs l).dropLast) l.length w5 (by rw [hD]; omega) (by rw [hD]; omega) hd3 (fun x hx => encs_byte l x (List.dropLast_subset _ hx)) hAD (by omega) (by omega)
        rw [Int.toNat_natCast, hshort, hD] at hT
        replace hT := hid hT
        have hl0' : ((l.length : Int) == 0) = false := by simp; omega
        clear hAD hshort hD
        go_wp2_with fail
        refine hT.out.mono ?_
        rintro e w6 ⟨l2, rest2, er, A7, A8, c7, c8, rfl, _, _, _, _, _, _, hg6, h⟩
        obtain ⟨rfl, rfl, rfl⟩ : er = 10 ∧ l2 = [] ∧ rest2 = [] := by
          rcases h with ⟨h, _⟩ | ⟨h, _, h3, h4⟩
          · cases h
          · injection h with h; exact ⟨h.symm, h3, h4⟩
        clear h
        go_wp2_with (go_at_call 7; refine (wakes_any _).mono ?_; rintro e w' ⟨rfl, hg⟩)
        go_ret
        exact ⟨rfl, grown_trans hG5.out (grown_trans hg6 hg)⟩

/-- **The law DigitBack, walked.** -/
theorem back_walk (A1 A2 : Option Addr) (c1 c2 : Nat) (zs bs : List Int) (w : World) (hz : Arr w .i64 A1 zs) (hb : Arr w .u8 A2 bs) (hby : ∀ x ∈ bs, isByte x) :
    Calls Try.prog 4 #[.slice A1 zs.length c1, .slice A2 bs.length c2] w fun e w' => e = .returned (.bool true) ∧ w.grownBy w' none := by
  by_cases h1 : 60 < zs.length
  · exact back_great _ _ _ _ _ _ _ (.inl h1)
  by_cases h2 : 100 < bs.length
  · exact back_great _ _ _ _ _ _ _ (.inr h2)
  cases ht : toldB zs with
  | true => exact back_told _ _ _ _ zs bs w (by omega) (by omega) hz hb ht hby
  | false => exact back_untold _ _ _ _ _ zs w (by omega) (by omega) hz ht
end Go.Proofs.Ytdpdomdgmehomaa
