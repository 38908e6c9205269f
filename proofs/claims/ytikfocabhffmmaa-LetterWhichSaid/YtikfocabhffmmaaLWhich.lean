/- The walk of the law LetterWhich: it returns true at every input. -/
import Derived.Test.YtikfocabhffmmaaLTells
set_option linter.unusedVariables false
namespace Go.Proofs.Ytikfocabhffmmaa
open Go.RowKit PlainLetter

theorem lwhich_out (f : Bool) (A P : Option Addr) (n c1 m c2 : Nat) (w : World) (h : 400 < n) :
    Calls Try.prog 6 #[.bool f, .slice A n c1, .slice P m c2] w fun e w' => e = .returned (.bool true) ∧ w.grownBy w' none := by
  go_enter Try.func6, Try.ntmps6
  go_wp2_with fail
  refine (lwakes_true _).mono ?_
  rintro e w' ⟨rfl, hg⟩
  go_wp2_with fail
  go_ret
  exact ⟨rfl, hg⟩

set_option maxRecDepth 100000 in
set_option maxHeartbeats 4000000 in
theorem lwhich_in (f : Bool) (A P : Option Addr) (c1 c2 : Nat) (a : List Int) (xss : List (List Int)) (w : World) (hla : a.length ≤ 400)
    (ha : Bytes a) (hB : ∀ i, Bytes (xss.getD i [])) (hA : Arr w .u8 A a) (hP : Arrs w P xss) (hl : xss.length ≤ 9223372036854775807) :
    Calls Try.prog 6 #[.bool f, .slice A a.length c1, .slice P xss.length c2] w fun e w' => e = .returned (.bool true) ∧ w.grownBy w' none := by
  have hspec := hid (which_spec f a xss)
  replace hP := hid hP
  replace hA := hid hA
  replace ha := hid ha
  replace hB := hid hB
  go_enter Try.func6, Try.ntmps6
  go_wp2_with fail
  refine (greatTexts_is P c2 xss w hP.out hl).mono ?_
  rintro e w1 ⟨rfl, rfl | ⟨rfl, h80, h3000⟩⟩
  · go_wp2_with fail
    refine (lwakes_true _).mono ?_
    rintro e w' ⟨rfl, hg⟩
    go_wp2_with fail
    go_ret
    exact ⟨rfl, hg⟩
  have hSm := hid (small_texts h80 h3000 hB.out)
  clear h3000 hB
  go_wp2_with fail
  refine (letWhich_is f A P c1 c2 a xss w (by omega) ha.out hA.out hP.out hSm.out).mono ?_
  rintro e w2 ⟨rfl, hg2⟩
  generalize hk : which f a xss = K
  rw [hk] at hspec
  replace hk := hid hk
  have hb : -1 ≤ K ∧ K < xss.length := by
    rcases hspec.out with ⟨h, _⟩ | ⟨k, h1, h2, _⟩ <;> omega
  obtain ⟨hb1, hb2⟩ := hb
  have hG2 := hid hg2
  clear hg2
  go_wp2_with fail
  go_loopw [8] (fun i wr => ∃ k : Nat, k ≤ xss.length ∧ i = .int .i64 k ∧ w.grownBy wr none) (fun i _ => xss.length - (intOf i).toNat)
  case atStart => exact ⟨0, Nat.zero_le _, rfl, hG2.out⟩
  case round =>
    obtain ⟨k, hk0, rfl, hG⟩ := hrel
    by_cases hlt : k < xss.length
    · obtain ⟨b, off, Ai, ci, rfl, hb0, hcell0, hAi⟩ := hP.out.at_ hlt
      have hcell := ((gcell hG).1 b (off + k) hb0).trans hcell0
      have hAi' := hid (hAi.grown hG)
      have hA' := hid (hA.out.grown hG)
      obtain ⟨hxl, hxb⟩ := hSm.out.2 k
      replace hxb := hid hxb
      replace hG := hid hG
      clear hcell0 hAi
      -- what the test comes to
      have htest : Hid ((same f a (xss.getD k []) = false ∧ (k : Int) ≠ K) ∨ (same f a (xss.getD k []) = true ∧ (k : Int) = K) ∨ (same f a (xss.getD k []) = true ∧ 0 ≤ K ∧ K < k)) := by
        rcases hspec.out with ⟨h1, h2⟩ | ⟨m, h1, h2, h3, h4⟩
        · exact .inl ⟨h2 k hlt, by omega⟩
        · by_cases hkm : k < m
          · exact .inl ⟨h4 k hkm, by omega⟩
          · by_cases hkm' : k = m
            · subst hkm'; exact .inr (.inl ⟨h3, h2.symm⟩)
            · cases hs : same f a (xss.getD k []) with
              | false => exact .inl ⟨rfl, by omega⟩
              | true => exact .inr (.inr ⟨rfl, by omega, by omega⟩)
      generalize xss.getD k [] = xs at hcell hAi' hxl hxb htest
      go_wp2_with fail
      refine (letSame_is f A Ai c1 ci a xs wr (by omega) (by omega) ha.out hxb.out hA'.out hAi'.out).mono ?_
      rintro e w3 ⟨rfl, hg⟩
      have hG3 := hid (grown_trans hG.out hg)
      clear hg
      rcases htest.out with ⟨hs, hne⟩ | ⟨hs, he⟩ | ⟨hs, h0, hgt⟩
      · rw [hs]
        have n1 : ((k : Int) == K) = false := by simpa using hne
        replace hs := hid hs
        replace hne := hid hne
        go_wp2_with fail
        go_roundw
        case rel => exact ⟨k + 1, by omega, by go_num, hG3.out⟩
        case measure => simp [intOf]; omega
      · rw [hs]
        have n1 : ((k : Int) == K) = true := by simpa using he
        have n2 : K ≤ (k : Int) := by omega
        have n3 : 0 ≤ K := by omega
        replace hs := hid hs
        replace he := hid he
        go_wp2_with fail
        go_roundw
        case rel => exact ⟨k + 1, by omega, by go_num, hG3.out⟩
        case measure => simp [intOf]; omega
      · rw [hs]
        have n1 : ((k : Int) == K) = false := by simp; omega
        replace hs := hid hs
        go_wp2_with fail
        go_roundw
        case rel => exact ⟨k + 1, by omega, by go_num, hG3.out⟩
        case measure => simp [intOf]; omega
    · replace hG := hid hG
      go_wp2_with fail
      refine (lwakes_true _).mono ?_
      rintro e w' ⟨rfl, hg⟩
      go_wp2_with fail
      go_ret
      exact ⟨rfl, grown_trans hG.out hg⟩

/-- **The law LetterWhich, walked.** -/
theorem lwhich_walk (f : Bool) (A P : Option Addr) (c1 c2 : Nat) (a : List Int) (xss : List (List Int)) (w : World)
    (ha : Bytes a) (hB : ∀ i, Bytes (xss.getD i [])) (hA : Arr w .u8 A a) (hP : Arrs w P xss) (hl : xss.length ≤ 9223372036854775807) :
    Calls Try.prog 6 #[.bool f, .slice A a.length c1, .slice P xss.length c2] w fun e w' => e = .returned (.bool true) ∧ w.grownBy w' none := by
  by_cases h : 400 < a.length
  · exact lwhich_out f A P a.length c1 xss.length c2 w h
  · exact lwhich_in f A P c1 c2 a xss w (by omega) ha hB hA hP hl

end Go.Proofs.Ytikfocabhffmmaa
