/- The document's own answer: what is wrong with a list. -/
import Derived.Test.YtojbfjlihenjaaaQNodes
set_option linter.unusedSimpArgs false
set_option linter.unusedVariables false
namespace Go.Proofs.Ytojbfjlihenjaaa
open Go.RowKit PlainLetter PlainPatset

theorem getD_in {l : List (List Int)} {j : Nat} (h : j < l.length) : l.getD j [] ∈ l := by simp [List.getD, h]

set_option maxRecDepth 100000 in
set_option maxHeartbeats 4000000 in
theorem refCheck_is (f : Bool) (P : Option Addr) (c : Nat) (xss : List (List Int)) (w : World) (hn : xss.length ≤ 100000) (hl : xss.flatten.length ≤ 100000) (hB : ∀ i, Bytes (xss.getD i [])) (hP : Arrs w P xss) :
    Calls Try.prog 17 #[.bool f, .slice P xss.length c] w fun e w' => e = .returned (.int .i64 (check f xss)) ∧ w.grownBy w' none := by
  replace hP := hid hP
  replace hB := hid hB
  have hE : Hid (check f xss = if xss = [] then 50 else if 64 < xss.length then 51 else if ∃ x ∈ xss, x = [] then 52 else if ∃ x ∈ xss, 32 < x.length then 53 else if 600 < total xss then 54 else if 400 < nodes f xss then 55 else 0) := hid rfl
  by_cases h0 : xss = []
  · have hE' : Hid (check f xss = 50) := hid (by rw [hE.out, if_pos h0])
    have d0 : ((xss.length : Int) == 0) = true := by rw [h0]; rfl
    clear h0 hE
    go_enter Try.func17, Try.ntmps17
    go_wp2_with fail
    go_ret
    exact ⟨by rw [hE'.out]; rfl, grown_refl _ _⟩
  have hE1 := hid ((hE.out).trans (if_neg h0))
  have d0 : ((xss.length : Int) == 0) = false := by rw [beq_eq_false_iff_ne]; have := List.length_pos_iff.2 h0; omega
  clear hE h0
  by_cases h1 : 64 < xss.length
  · have hE' : Hid (check f xss = 51) := hid (by rw [hE1.out, if_pos h1])
    have d1 : (64 : Int) < (xss.length : Int) := by omega
    clear hE1 h1
    go_enter Try.func17, Try.ntmps17
    go_wp2_with fail
    go_ret
    exact ⟨by rw [hE'.out]; rfl, grown_refl _ _⟩
  have hE2 := hid ((hE1.out).trans (if_neg h1))
  have d1 : ¬ (64 : Int) < (xss.length : Int) := by omega
  clear hE1 h1
  go_enter Try.func17, Try.ntmps17
  go_wp2_with fail
  go_loopw [6] (fun v wr => ∃ i : Nat, i ≤ xss.length ∧ v = .int .i64 i ∧ Hid (∀ j, j < i → xss.getD j [] ≠ []) ∧ w.grownBy wr none) (fun v _ => xss.length - (intOf v).toNat)
  case atStart => exact ⟨0, by omega, rfl, hid (fun j hj => absurd hj (Nat.not_lt_zero _)), grown_refl _ _⟩
  case round =>
    obtain ⟨i, hi, rfl, hall, hG0⟩ := hrel
    have hG0' := hid hG0
    by_cases hlt : i < xss.length
    · obtain ⟨b, off, Ai, ci, rfl, hb, hcell0, _⟩ := hP.out.at_ hlt
      have hcell := ((gcell hG0).1 b (off + i) hb).trans hcell0
      clear hcell0 hG0
      have hmem := hid (getD_in hlt)
      have i0 : (0 : Int) ≤ (i : Int) := by omega
      have i1 : (i : Int) < (xss.length : Int) := by omega
      by_cases hx : xss.getD i [] = []
      · have hE' : Hid (check f xss = 52) := hid (by rw [hE2.out, if_pos ⟨_, hmem.out, hx⟩])
        rw [hx] at hcell
        clear hE2 hmem hx hall
        simp only [List.length_nil] at hcell
        go_wp2_with fail
        go_ret
        exact ⟨by rw [hE'.out]; rfl, hG0'.out⟩
      · have d2 : (((xss.getD i []).length : Int) == 0) = false := by rw [beq_eq_false_iff_ne]; have := List.length_pos_iff.2 hx; omega
        have hnext : Hid (∀ j, j < i + 1 → xss.getD j [] ≠ []) := hid (fun j hj => by
          by_cases hji : j < i
          · exact hall.out j hji
          · obtain rfl : j = i := by omega
            exact hx)
        clear hmem hx hall
        generalize (xss.getD i []).length = n at hcell d2
        go_wp2_with fail
        go_roundw
        case rel => exact ⟨i + 1, by omega, by go_num, hnext.out, hG0'.out⟩
        case measure => simp [intOf]; omega
    · obtain rfl : i = xss.length := by omega
      have hE3 := hid ((hE2.out).trans (if_neg (by
        rintro ⟨x, hx, hxn⟩
        obtain ⟨k, hk, rfl⟩ := List.mem_iff_getElem.1 hx
        have := hall.out k hk
        simp only [List.getD, List.getElem?_eq_getElem hk, Option.getD_some] at this
        exact this hxn)))
      clear hE2 hall hG0
      go_wp2_with fail
      obtain ⟨wo, rfl⟩ : ∃ wo : World, wo = wr := ⟨_, rfl⟩
      go_loopw [5, 7] (fun u v wr => ∃ i s : Nat, i ≤ xss.length ∧ v = .int .i64 i ∧ u = .int .i64 s ∧ s = (xss.take i).flatten.length ∧ Hid (∀ j, j < i → (xss.getD j []).length ≤ 32) ∧ w.grownBy wr none) (fun _ v _ => xss.length - (intOf v).toNat)
      case atStart => exact ⟨0, 0, by omega, rfl, rfl, by simp, hid (fun j hj => absurd hj (Nat.not_lt_zero _)), hG0'.out⟩
      case round =>
        obtain ⟨i, s, hi, rfl, rfl, hs, hall, hG⟩ := hrel
        have hsl := flatten_take_le xss i
        rw [← hs] at hsl
        replace hs := hid hs
        have hG' := hid hG
        by_cases hlt : i < xss.length
        · obtain ⟨b, off, Ai, ci, rfl, hb, hcell0, _⟩ := hP.out.at_ hlt
          have hcell := ((gcell hG).1 b (off + i) hb).trans hcell0
          have hmem := hid (getD_in hlt)
          have hsn := flatten_take_succ xss i hlt
          have hsn2 := flatten_take_le xss (i + 1)
          rw [hsn, List.length_append, ← hs.out] at hsn2
          have hnew := hid (show s + (xss.getD i []).length = (xss.take (i + 1)).flatten.length by rw [hsn, List.length_append, ← hs.out])
          clear hsn hcell0 hG
          have i0 : (0 : Int) ≤ (i : Int) := by omega
          have i1 : (i : Int) < (xss.length : Int) := by omega
          by_cases hx : 32 < (xss.getD i []).length
          · have hE' : Hid (check f xss = 53) := hid (by rw [hE3.out, if_pos ⟨_, hmem.out, hx⟩])
            have d3 : (32 : Int) < ((xss.getD i []).length : Int) := by omega
            clear hE3 hmem hall hnew
            generalize (xss.getD i []).length = n at hcell d3 hx hsn2
            go_wp2_with fail
            go_ret
            exact ⟨by rw [hE'.out]; rfl, hG'.out⟩
          · have d3 : ¬ (32 : Int) < ((xss.getD i []).length : Int) := by omega
            have hnext : Hid (∀ j, j < i + 1 → (xss.getD j []).length ≤ 32) := hid (fun j hj => by
              by_cases hji : j < i
              · exact hall.out j hji
              · obtain rfl : j = i := by omega
                omega)
            clear hmem hall
            generalize (xss.getD i []).length = n at hcell d3 hx hsn2 hnew
            go_wp2_with fail
            go_roundw
            case rel => exact ⟨i + 1, s + n, by omega, by go_num, by go_num, hnew.out, hnext.out, hG'.out⟩
            case measure => simp [intOf]; omega
        · obtain rfl : i = xss.length := by omega
          have hs2 : Hid (s = total xss) := hid (by rw [hs.out, List.take_length]; rfl)
          have hE4 := hid ((hE3.out).trans (if_neg (by
            rintro ⟨x, hx, hxn⟩
            obtain ⟨k, hk, rfl⟩ := List.mem_iff_getElem.1 hx
            have := hall.out k hk
            simp only [List.getD, List.getElem?_eq_getElem hk, Option.getD_some] at this
            omega)))
          clear hE3 hall hG
          by_cases h5 : 600 < s
          · have hE' : Hid (check f xss = 54) := hid (by rw [hE4.out, if_pos (by rw [← hs2.out]; exact h5)])
            have d5 : (600 : Int) < (s : Int) := by omega
            clear hE4
            go_wp2_with fail
            go_ret
            exact ⟨by rw [hE'.out]; rfl, hG'.out⟩
          · have hE5 := hid ((hE4.out).trans (if_neg (by rw [← hs2.out]; exact h5)))
            have d5 : ¬ (600 : Int) < (s : Int) := by omega
            clear hE4
            go_wp2_with fail
            refine (refNodes_is f P c xss _ hn hl hB.out (hP.out.grown hG'.out)).mono ?_
            rintro e w2 ⟨rfl, hg2⟩
            have hG2 := hid (grown_trans hG'.out hg2)
            clear hg2
            generalize nodes f xss = N at hE5 ⊢
            by_cases h6 : 400 < N
            · have hE' : Hid (check f xss = 55) := hid (by rw [hE5.out, if_pos h6])
              have d6 : (400 : Int) < (N : Int) := by omega
              clear hE5
              go_wp2_with fail
              go_ret
              exact ⟨by rw [hE'.out]; rfl, hG2.out⟩
            · have hE' : Hid (check f xss = 0) := hid (by rw [hE5.out, if_neg h6])
              have d6 : ¬ (400 : Int) < (N : Int) := by omega
              clear hE5
              go_wp2_with fail
              go_ret
              exact ⟨by rw [hE'.out]; rfl, hG2.out⟩
end Go.Proofs.Ytojbfjlihenjaaa
