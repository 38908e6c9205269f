/- The document's own answer: where words stand, which word a text is, texts joined, texts that are too great. -/
import Derived.Test.YtikfocabhffmmaaLSame
set_option linter.unusedVariables false
namespace Go.Proofs.Ytikfocabhffmmaa
open Go.RowKit PlainLetter

set_option maxHeartbeats 800000 in
theorem refAt_is (f : Bool) (A B : Option Addr) (c d : Nat) (text word : List Int) (place : Int) (w : World) (hla : text.length ≤ 100000) (hlb : word.length ≤ 100000) (hc : text.length ≤ c) (hc2 : c ≤ maxLen) (ha : Bytes text) (hb : Bytes word)
    (hA : Arr w .u8 A text) (hB : Arr w .u8 B word) :
    Calls Try.prog 17 #[.bool f, .slice A text.length c, .int .i64 place, .slice B word.length d] w fun e w' => e = .returned (.bool (stands f text place word)) ∧ w.grownBy w' none := by
  unfold maxLen at hc2
  by_cases h : (word.length : Int) ≤ place ∧ place ≤ text.length
  · obtain ⟨h1, h2⟩ := h
    obtain ⟨p, rfl⟩ := Int.eq_ofNat_of_zero_le (show 0 ≤ place by omega)
    have hs := hid (stands_eq f text word p (by omega) (by omega))
    have hlen : ((text.take p).drop (p - word.length)).length = word.length := by simp; omega
    have hArr := (hA.take p).drop (i := p - word.length) (c := c) (by simp; omega)
    have hby : Bytes ((text.take p).drop (p - word.length)) := (ha.take p).drop _
    generalize (text.take p).drop (p - word.length) = sub at hs hlen hArr hby
    have hl2 : p - (p - word.length) = sub.length := by omega
    have q1 : (0 : Int) ≤ (p : Int) - (word.length : Int) := by omega
    have q2 : (p : Int) - (word.length : Int) ≤ (p : Int) := by omega
    have q3 : (p : Int) ≤ (c : Int) := by omega
    have q4 : ((p : Int) - (word.length : Int)).toNat = p - word.length := by omega
    replace hs := hid hs.out
    replace hlen := hid hlen
    replace hby := hid hby
    replace ha := hid ha
    replace hb := hid hb
    replace hl2 := hid hl2
    replace hB := hid hB
    clear hA hlen
    by_cases hcp : c = p - word.length
    all_goals
      first | rw [if_pos hcp] at hArr | rw [if_neg hcp] at hArr
      have hArr' := hid hArr
      clear hArr
      go_enter Try.func17, Try.ntmps17
      go_wp2_with fail
      rw [hl2.out]
      refine (refSame_is f _ B _ d sub word w (by have := hl2.out; omega) hlb hby.out hb.out hArr'.out hB.out).mono ?_
      rintro e w1 ⟨rfl, hg⟩
      rw [← hs.out]
      go_wp2_with fail
      go_ret
      exact ⟨rfl, hg⟩
  · have hs := hid (stands_none f text word place h)
    by_cases h1 : (word.length : Int) ≤ place
    · have h2 : ¬ place ≤ text.length := by omega
      clear h
      go_enter Try.func17, Try.ntmps17
      go_wp2_with fail
      go_ret
      exact ⟨by rw [hs.out]; rfl, grown_refl _ _⟩
    · clear h
      go_enter Try.func17, Try.ntmps17
      go_wp2_with fail
      go_ret
      exact ⟨by rw [hs.out]; rfl, grown_refl _ _⟩

theorem getD_mem {l : List (List Int)} {j : Nat} (h : j < l.length) : l.getD j [] ∈ l := by simp [List.getD, h]

set_option maxHeartbeats 800000 in
theorem refWhich_is (f : Bool) (A P : Option Addr) (c d : Nat) (text : List Int) (xss : List (List Int)) (w : World) (hla : text.length ≤ 100000) (ha : Bytes text) (hA : Arr w .u8 A text) (hP : Arrs w P xss) (hS : Small xss) :
    Calls Try.prog 19 #[.bool f, .slice A text.length c, .slice P xss.length d] w fun e w' => e = .returned (.int .i64 (which f text xss)) ∧ w.grownBy w' none := by
  obtain ⟨hS1, hS2⟩ := hS
  replace hS2 := hid hS2
  replace ha := hid ha
  replace hA := hid hA
  replace hP := hid hP
  go_enter Try.func19, Try.ntmps19
  go_wp2
  go_loopw [7] (fun i wr => ∃ k : Nat, k ≤ xss.length ∧ i = .int .i64 k ∧ (∀ j, j < k → same f text (xss.getD j []) = false) ∧ w.grownBy wr none) (fun i _ => xss.length - (intOf i).toNat)
  case atStart => exact ⟨0, Nat.zero_le _, rfl, fun j hj => absurd hj (Nat.not_lt_zero j), grown_refl _ _⟩
  case round =>
    obtain ⟨k, hk, rfl, hall, hG⟩ := hrel
    replace hall := hid hall
    by_cases hlt : k < xss.length
    · obtain ⟨b, off, Ai, ci, rfl, hb, hcell0, hAi⟩ := hP.out.at_ hlt
      have hcell := ((gcell hG).1 b (off + k) hb).trans hcell0
      have hAi' := hid (hAi.grown hG)
      have hA' := hid (hA.out.grown hG)
      obtain ⟨hxl, hxb⟩ := hS2.out k
      replace hxb := hid hxb
      replace hG := hid hG
      clear hcell0 hAi
      have hhit := hid (fun h => which_hit f text xss k hlt hall.out h)
      have hmiss : Hid (same f text (xss.getD k []) = false → ∀ j, j < k + 1 → same f text (xss.getD j []) = false) := fun h j hj => by
        by_cases hjk : j = k
        · subst hjk; exact h
        · exact hall.out j (by omega)
      generalize xss.getD k [] = xs at hcell hAi' hxl hxb hhit hmiss
      cases hsame : same f text xs with
      | true =>
        have hw := hid (hhit.out hsame)
        replace hsame := hid hsame
        go_wp2_with fail
        refine (refSame_is f A Ai c ci text xs wr hla hxl ha.out hxb.out hA'.out hAi'.out).mono ?_
        rintro e w1 ⟨rfl, hg⟩
        rw [hsame.out]
        go_wp2_with fail
        go_ret
        exact ⟨by rw [hw.out]; rfl, grown_trans hG.out hg⟩
      | false =>
        have hw := hid (hmiss.out hsame)
        replace hsame := hid hsame
        go_wp2_with fail
        refine (refSame_is f A Ai c ci text xs wr hla hxl ha.out hxb.out hA'.out hAi'.out).mono ?_
        rintro e w1 ⟨rfl, hg⟩
        rw [hsame.out]
        go_wp2_with fail
        go_roundw
        case rel => exact ⟨k + 1, by omega, by go_num, hw.out, grown_trans hG.out hg⟩
        case measure => simp [intOf]; omega
    · obtain rfl : k = xss.length := by omega
      have hw := hid (which_none f text xss hall.out)
      go_wp2
      go_ret
      exact ⟨by rw [hw.out]; rfl, hG⟩

theorem flatten_take_succ (xss : List (List Int)) (k : Nat) (h : k < xss.length) : (xss.take (k + 1)).flatten = (xss.take k).flatten ++ xss.getD k [] := by
  rw [take_getD xss k [] h, List.flatten_append]; simp

theorem flatten_take_le (xss : List (List Int)) (k : Nat) : (xss.take k).flatten.length ≤ xss.flatten.length := by
  conv => rhs; rw [← List.take_append_drop k xss]
  rw [List.flatten_append, List.length_append]; omega

set_option maxHeartbeats 800000 in
theorem refJoinTexts_is (P : Option Addr) (d : Nat) (xss : List (List Int)) (w : World) (hn : xss.length ≤ 100000) (hl : xss.flatten.length ≤ 100000) (hP : Arrs w P xss) :
    Calls Try.prog 21 #[.slice P xss.length d] w (Owns xss.flatten w) := by
  obtain ⟨i0, hi0, hz0, hz1, hz2⟩ := info_parts Try.info5
  replace hP := hid hP
  go_enter Try.func21, Try.ntmps21
  go_wp2
  go_loopw [3, 4] (fun v i wr => ∃ k : Nat, k ≤ xss.length ∧ i = .int .i64 k ∧ wr.ownsRow w.heap.size 5 1 v (xss.take k).flatten.length ((xss.take k).flatten.map (Value.int .u8)) ∧ Below w.heap.size w wr) (fun _ i _ => xss.length - (intOf i).toNat)
  case atStart => exact ⟨0, Nat.zero_le _, rfl, by simpa using World.ownsRow_nil _ _ _ _, Below.refl _ _⟩
  case round =>
    obtain ⟨k, hk, rfl, hown, hB⟩ := hrel
    by_cases hlt : k < xss.length
    · obtain ⟨b, off, Ai, ci, rfl, hb, hcell0, hAi⟩ := hP.out.at_ hlt
      have hcell := ((gcell (below_grown hB)).1 b (off + k) hb).trans hcell0
      have hAi' := hAi.grown (below_grown hB)
      have hT := hid (flatten_take_succ xss k hlt)
      have hle := flatten_take_le xss (k + 1)
      rw [hT.out, List.length_append] at hle
      clear hcell0 hAi
      generalize xss.getD k [] = xs at hcell hAi' hT hle
      generalize (xss.take k).flatten = zs at hown hT hle
      have hsz := hB.size
      have hz : zs.length + xs.length ≤ 1099511627776 := by omega
      replace hT := hid hT.out
      replace hown := hid hown
      replace hB := hid hB
      replace hAi' := hid hAi'
      clear hle
      go_wp2_with (at_builtin; refine wpList_append_all rfl _ _ 22 rfl w.heap.size 5 i0 .u8 1 Try.underlying22 hi0 hz0 hz1 hz2 _ zs xs _ _ _ _ hown.out hAi'.out rfl rfl rfl (by decide) hz hsz ?_; intro v' w1 hrow1 hB1)
      go_roundw
      case rel => exact ⟨k + 1, by omega, by go_num, by rw [hT.out]; exact hrow1, hB.out.trans hB1⟩
      case measure => simp [intOf]; omega
    · obtain rfl : k = xss.length := by omega
      rw [List.take_length] at hown
      go_wp2
      go_ret
      exact ⟨_, rfl, hown, hB⟩

/-- What Great tells: where it says no, the texts are few and together short. -/
def GreatTexts (xss : List (List Int)) (w : World) : Ending → World → Prop := fun e w' =>
  w = w' ∧ (e = .returned (.bool true) ∨ (e = .returned (.bool false) ∧ xss.length ≤ 80 ∧ xss.flatten.length ≤ 3000))

set_option maxRecDepth 100000 in
set_option maxHeartbeats 800000 in
theorem greatTexts_is (P : Option Addr) (c : Nat) (xss : List (List Int)) (w : World) (hP : Arrs w P xss) (hl : xss.length ≤ 9223372036854775807) :
    Calls Try.prog 8 #[.slice P xss.length c] w (GreatTexts xss w) := by
  replace hP := hid hP
  go_enter Try.func8, Try.ntmps8
  go_wp2
  go_loop [3, 4] (fun s i => ∃ (k : Nat) (m : Int), k ≤ xss.length ∧ i = .int .i64 k ∧ s = .int .i64 m ∧ 0 ≤ m ∧ m ≤ 7000 ∧ (m ≤ 3000 → ((xss.take k).flatten.length : Int) = m)) (fun _ i => xss.length - (intOf i).toNat)
  case atStart => exact ⟨0, 0, by omega, rfl, rfl, by omega, by omega, fun _ => by simp⟩
  case round =>
    obtain ⟨k, m, hk, rfl, rfl, hm0, hm1, hall⟩ := hrel
    replace hall := hid hall
    by_cases hlt : k < xss.length
    · by_cases h80 : (k : Int) ≤ 80
      · by_cases h3 : m ≤ 3000
        · obtain ⟨b, off, Ai, ci, rfl, hb, hcell, _⟩ := hP.out.at_ hlt
          have hstep : Hid (∀ m' : Int, m' = m + min ((xss.getD k []).length : Int) 4000 → m' ≤ 3000 → ((xss.take (k + 1)).flatten.length : Int) = m') := by
            intro m' hm' h3'
            rw [flatten_take_succ xss k hlt, List.length_append]
            have := hall.out h3
            omega
          generalize (xss.getD k []).length = ln at hcell hstep
          have k0 : (0 : Int) ≤ (k : Int) := by omega
          have k1 : (k : Int) < (xss.length : Int) := by omega
          by_cases hmin : (ln : Int) ≤ 4000
          all_goals
            go_wp2
            go_round
            case rel => exact ⟨k + 1, m + min (ln : Int) 4000, by omega, by go_num, by first | (rw [Int.min_eq_left (by omega)]; done) | (rw [Int.min_eq_right (by omega)]; done) | (go_num), by omega, by omega, hstep.out _ rfl⟩
            case measure => simp [intOf]; omega
        · have h3' : 3000 < m := by omega
          by_cases hg : 80 < xss.length
          all_goals
            go_wp2
            go_ret
            exact ⟨rfl, .inl rfl⟩
      · have hg : 80 < xss.length := by omega
        go_wp2
        go_ret
        exact ⟨rfl, .inl rfl⟩
    · obtain rfl : k = xss.length := by omega
      by_cases hg : 80 < xss.length
      · go_wp2
        go_ret
        exact ⟨rfl, .inl rfl⟩
      · by_cases h3 : m ≤ 3000
        · have d1 : decide (80 < (xss.length : Int)) = false := by simp; omega
          have d2 : decide (3000 < m) = false := by simp; omega
          go_wp2
          go_ret
          exact ⟨rfl, .inr ⟨rfl, by omega, by have := hall.out h3; rw [List.take_length] at this; omega⟩⟩
        · go_wp2
          go_ret
          exact ⟨rfl, .inl rfl⟩

end Go.Proofs.Ytikfocabhffmmaa
