/- The walk of the law LetterStands: it returns true at every input. -/
import Derived.Test.YtikfocabhffmmaaLTells
set_option linter.unusedVariables false
namespace Go.Proofs.Ytikfocabhffmmaa
open Go.RowKit PlainLetter

theorem flatten_parts (xss : List (List Int)) (k : Nat) (h : k < xss.length) : xss.flatten = (xss.take k).flatten ++ xss.getD k [] ++ (xss.drop (k + 1)).flatten := by
  conv => lhs; rw [← List.take_append_drop (k + 1) xss]
  rw [List.flatten_append, flatten_take_succ xss k h]

theorem bytes_flatten {xss : List (List Int)} (h : ∀ i, Bytes (xss.getD i [])) : Bytes xss.flatten := by
  have hm : ∀ x ∈ xss.flatten, 0 ≤ x ∧ x ≤ 255 := by
    intro x hx
    obtain ⟨l, hl, hxl⟩ := List.mem_flatten.1 hx
    obtain ⟨i, hi, rfl⟩ := List.mem_iff_getElem.1 hl
    obtain ⟨j, hj, rfl⟩ := List.mem_iff_getElem.1 hxl
    have := h i j
    simpa [List.getD, hi, hj] using this
  intro k
  by_cases hk : k < xss.flatten.length
  · exact hm _ (by simp only [List.getD, List.getElem?_eq_getElem hk, Option.getD_some]; exact List.getElem_mem hk)
  · simp [List.getD, List.getElem?_eq_none (Nat.le_of_not_lt hk)]

theorem lstands_out (f : Bool) (place : Int) (P B : Option Addr) (m c1 c2 : Nat) (xss : List (List Int)) (w : World) (hP : Arrs w P xss) (hl : xss.length ≤ 9223372036854775807) (h : 400 < m) :
    Calls Try.prog 5 #[.bool f, .slice P xss.length c1, .slice B m c2, .int .i64 place] w fun e w' => e = .returned (.bool true) ∧ w.grownBy w' none := by
  replace hP := hid hP
  go_enter Try.func5, Try.ntmps5
  go_wp2_with fail
  refine (greatTexts_is P c1 xss w hP.out hl).mono ?_
  rintro e w1 ⟨rfl, rfl | ⟨rfl, _, _⟩⟩
  all_goals
    go_wp2_with fail
    refine (lwakes_true _).mono ?_
    rintro e w' ⟨rfl, hg⟩
    go_wp2_with fail
    go_ret
    exact ⟨rfl, hg⟩

set_option maxRecDepth 100000 in
set_option maxHeartbeats 4000000 in
theorem lstands_in (f : Bool) (place : Int) (P B : Option Addr) (c1 c2 : Nat) (xss : List (List Int)) (b : List Int) (w : World) (hlb : b.length ≤ 400)
    (hb : Bytes b) (hB : ∀ i, Bytes (xss.getD i [])) (hBb : Arr w .u8 B b) (hP : Arrs w P xss) (hl : xss.length ≤ 9223372036854775807) (hp0 : -9223372036854775808 ≤ place) (hp1 : place ≤ 9223372036854775807) :
    Calls Try.prog 5 #[.bool f, .slice P xss.length c1, .slice B b.length c2, .int .i64 place] w fun e w' => e = .returned (.bool true) ∧ w.grownBy w' none := by
  replace hP := hid hP
  replace hb := hid hb
  replace hB := hid hB
  replace hBb := hid hBb
  go_enter Try.func5, Try.ntmps5
  go_wp2_with fail
  refine (greatTexts_is P c1 xss w hP.out hl).mono ?_
  rintro e w1 ⟨rfl, rfl | ⟨rfl, h80, h3000⟩⟩
  · go_wp2_with fail
    refine (lwakes_true _).mono ?_
    rintro e w' ⟨rfl, hg⟩
    go_wp2_with fail
    go_ret
    exact ⟨rfl, hg⟩
  have hSm := hid (small_texts h80 h3000 hB.out)
  have hby := hid (bytes_flatten hB.out)
  have hparts := hid (flatten_parts xss)
  have htl := hid (show (xss.take xss.length).flatten = xss.flatten by rw [List.take_length])
  have hts := hid (flatten_take_succ xss)
  go_wp2_with fail
  refine (letJoin_is P c1 xss w (by omega) (by omega) hP.out).mono ?_
  rintro e w2 ho
  generalize xss.flatten = jn at h3000 hby hparts htl ho
  obtain ⟨A9, c9, rfl, hc9, hm9, h9, hg2⟩ := ho.arr
  clear hB
  revert ho
  intro _
  unfold maxLen at hm9
  have hG2 := hid hg2
  replace h9 := hid h9
  clear hg2
  go_wp2_with fail
  go_loopw [10, 11] (fun p i wr => ∃ k : Nat, k ≤ xss.length ∧ i = .int .i64 k ∧ p = .int .i64 ((xss.take k).flatten.length : Int) ∧ w2.grownBy wr none) (fun _ i _ => xss.length - (intOf i).toNat)
  case atStart => exact ⟨0, Nat.zero_le _, rfl, rfl, grown_refl _ _⟩
  case round =>
    obtain ⟨k, hk0, rfl, rfl, hG⟩ := hrel
    by_cases hlt : k < xss.length
    · have hGw := grown_trans hG2.out hG
      obtain ⟨b0, off, Ai, ci, rfl, hb0, hcell0, hAi⟩ := hP.out.at_ hlt
      have hcell := ((gcell hGw).1 b0 (off + k) hb0).trans hcell0
      have hAi' := hid (hAi.grown hGw)
      have h9' := hid (h9.out.grown hG)
      obtain ⟨hxl, hxb⟩ := hSm.out.2 k
      replace hxb := hid hxb
      have hpk := hparts.out k hlt
      have hsk := hts.out k hlt
      replace hG := hid hG
      clear hcell0 hAi hGw
      have hlen' : (xss.take (k + 1)).flatten.length = (xss.take k).flatten.length + (xss.getD k []).length := by rw [hsk, List.length_append]
      have hle : (xss.take k).flatten.length + (xss.getD k []).length ≤ jn.length := by rw [hpk, List.length_append, List.length_append]; omega
      have hst : Hid (∀ f, stands f jn (((xss.take k).flatten.length : Int) + ((xss.getD k []).length : Int)) (xss.getD k []) = true) := fun f => by
        have := stands_joined f (xss.take k).flatten (xss.getD k []) (xss.drop (k + 1)).flatten
        rw [← hpk] at this
        simpa using this
      clear hpk hsk
      replace hlen' := hid hlen'
      generalize xss.getD k [] = xs at hcell hAi' hxl hxb hst hlen' hle
      generalize (xss.take k).flatten.length = pn at hst hlen' hle ⊢
      go_wp2_with fail
      refine (letAt_is false A9 Ai c9 ci jn xs _ wr (by omega) (by omega) hc9 (by unfold maxLen; omega) hby.out hxb.out h9'.out hAi'.out).mono ?_
      rintro e w3 ⟨rfl, hg⟩
      rw [hst.out]
      have hcell3 := (gcell hg).1 b0 (off + k) (World.block_lt_of_cell? wr ⟨b0, off + k, none⟩ (by rw [hcell]))
      rw [hcell] at hcell3
      replace hG := hid (grown_trans hG.out hg)
      replace hAi' := hid (hAi'.out.grown hg)
      replace h9' := hid (h9'.out.grown hg)
      clear hg
      go_wp2_with fail
      refine (letAt_is true A9 Ai c9 ci jn xs _ w3 (by omega) (by omega) hc9 (by unfold maxLen; omega) hby.out hxb.out h9'.out hAi'.out).mono ?_
      rintro e w4 ⟨rfl, hg⟩
      rw [hst.out]
      replace hG := hid (grown_trans hG.out hg)
      clear hg
      go_wp2_with fail
      go_roundw
      case rel => exact ⟨k + 1, by omega, by go_num, by rw [hlen'.out]; go_num, hG.out⟩
      case measure => simp [intOf]; omega
    · obtain rfl : k = xss.length := by omega
      rw [htl.out]
      have h9' := hid (h9.out.grown hG)
      have hBw := hid (hBb.out.grown (grown_trans hG2.out hG))
      replace hG := hid (grown_trans hG2.out hG)
      go_wp2_with fail
      refine (letAt_is f A9 B c9 c2 jn b place wr (by omega) (by omega) hc9 (by unfold maxLen; omega) hby.out hb.out h9'.out hBw.out).mono ?_
      rintro e w3 ⟨rfl, hg⟩
      replace hG := hid (grown_trans hG.out hg)
      replace h9' := hid (h9'.out.grown hg)
      replace hBw := hid (hBw.out.grown hg)
      clear hg
      by_cases hin : (b.length : Int) ≤ place ∧ place ≤ jn.length
      · obtain ⟨g1, g2⟩ := hin
        obtain ⟨p, rfl⟩ := Int.eq_ofNat_of_zero_le (show 0 ≤ place by omega)
        have hs := hid (stands_eq f jn b p (by omega) (by omega))
        rw [hs.out]
        have hlen : ((jn.take p).drop (p - b.length)).length = b.length := by simp; omega
        have hArr := (h9'.out.take p).drop (i := p - b.length) (c := c9) (by simp; omega)
        have hbs : Bytes ((jn.take p).drop (p - b.length)) := (hby.out.take p).drop _
        generalize (jn.take p).drop (p - b.length) = sub at hlen hArr hbs ⊢
        have q1 : (0 : Int) ≤ (p : Int) - (b.length : Int) := by omega
        have q2 : (p : Int) - (b.length : Int) ≤ (p : Int) := by omega
        have q3 : (p : Int) ≤ (c9 : Int) := by omega
        have q4 : ((p : Int) - (b.length : Int)).toNat = p - b.length := by omega
        have hl2 := hid (show p - (p - b.length) = sub.length by omega)
        have hsl : sub.length ≤ 100000 := by omega
        replace hbs := hid hbs
        replace hlen := hid hlen
        by_cases hcp : c9 = p - b.length
        all_goals
          first | rw [if_pos hcp] at hArr | rw [if_neg hcp] at hArr
          have hArr' := hid hArr
          clear hArr
          go_wp2_with fail
          rw [hl2.out]
          refine (letSame_is f _ B _ c2 sub b w3 hsl (by omega) hbs.out hb.out hArr'.out hBw.out).mono ?_
          rintro e w4 ⟨rfl, hg⟩
          replace hG := hid (grown_trans hG.out hg)
          clear hg
          go_wp2_with fail
          refine (lwakes_true _).mono ?_
          rintro e w' ⟨rfl, hg⟩
          go_wp2_with fail
          go_ret
          exact ⟨rfl, grown_trans hG.out hg⟩
      · rw [stands_none f jn b place hin]
        by_cases g1 : (b.length : Int) ≤ place
        · have g2 : (jn.length : Int) < place := by omega
          clear hin
          go_wp2_with fail
          refine (lwakes_true _).mono ?_
          rintro e w' ⟨rfl, hg⟩
          go_wp2_with fail
          go_ret
          exact ⟨rfl, grown_trans hG.out hg⟩
        · clear hin
          go_wp2_with fail
          refine (lwakes_true _).mono ?_
          rintro e w' ⟨rfl, hg⟩
          go_wp2_with fail
          go_ret
          exact ⟨rfl, grown_trans hG.out hg⟩

/-- **The law LetterStands, walked.** -/
theorem lstands_walk (f : Bool) (place : Int) (P B : Option Addr) (c1 c2 : Nat) (xss : List (List Int)) (b : List Int) (w : World)
    (hb : Bytes b) (hB : ∀ i, Bytes (xss.getD i [])) (hBb : Arr w .u8 B b) (hP : Arrs w P xss) (hl : xss.length ≤ 9223372036854775807) (hp0 : -9223372036854775808 ≤ place) (hp1 : place ≤ 9223372036854775807) :
    Calls Try.prog 5 #[.bool f, .slice P xss.length c1, .slice B b.length c2, .int .i64 place] w fun e w' => e = .returned (.bool true) ∧ w.grownBy w' none := by
  by_cases h : 400 < b.length
  · exact lstands_out f place P B b.length c1 c2 xss w hP hl h
  · exact lstands_in f place P B c1 c2 xss b w (by omega) hb hB hBb hP hl hp0 hp1

end Go.Proofs.Ytikfocabhffmmaa
