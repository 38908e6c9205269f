/- The walk of the law DigitOnly: it returns true at every input. -/
import Derived.Test.YtdpdomdgmehomaaWakes
import Derived.Test.YtdpdomdgmehomaaRow
set_option linter.unusedVariables false
namespace Go.Proofs.Ytdpdomdgmehomaa
open Go.RowKit Plain

theorem only_great (A1 : Option Addr) (n1 c1 : Nat) (many : Int) (w : World) (h : 400 < n1 ∨ 400 < many) :
    Calls Try.prog 5 #[.slice A1 n1 c1, .int .i64 many] w fun e w' => e = .returned (.bool true) ∧ w.grownBy w' none := by
  by_cases h1 : 400 < n1
  · clear h
    go_enter Try.func5, Try.ntmps5
    go_wp2_with (go_at_call 7; refine (wakes_any _).mono ?_; rintro e w' ⟨rfl, hg⟩)
    go_ret
    exact ⟨rfl, hg⟩
  · have h2 : 400 < many := by omega
    clear h
    go_enter Try.func5, Try.ntmps5
    go_wp2_with (go_at_call 7; refine (wakes_any _).mono ?_; rintro e w' ⟨rfl, hg⟩)
    go_ret
    exact ⟨rfl, hg⟩

theorem only_neg (A1 : Option Addr) (n1 c1 : Nat) (many : Int) (w : World) (h1 : n1 ≤ 400) (h : many < 0) :
    Calls Try.prog 5 #[.slice A1 n1 c1, .int .i64 many] w fun e w' => e = .returned (.bool true) ∧ w.grownBy w' none := by
  have hm : many ≤ 400 := by omega
  go_enter Try.func5, Try.ntmps5
  go_wp2_with (first
    | (go_at_call 16; refine (Takes_neg _ _ _ _ _ h).mono ?_; rintro e w' ⟨rfl, rfl⟩)
    | (go_at_call 7; refine (wakes_any _).mono ?_; rintro e w' ⟨rfl, hg⟩))
  go_ret
  exact ⟨rfl, hg⟩

theorem strOfNums_append (a b : List Int) : strOfNums a ++ strOfNums b = strOfNums (a ++ b) := by
  apply ByteArray.ext
  simp [strOfNums]

set_option maxHeartbeats 1000000 in
theorem only_some (A1 : Option Addr) (c1 : Nat) (bs : List Int) (many : Int) (w : World) (h1 : bs.length ≤ 400) (h0 : 0 ≤ many) (hm : many ≤ 400) (hb : Arr w .u8 A1 bs) (hc : bs.length ≤ c1) (hd : c1 ≤ maxLen) (hby : ∀ x ∈ bs, isByte x) :
    Calls Try.prog 5 #[.slice A1 bs.length c1, .int .i64 many] w fun e w' => e = .returned (.bool true) ∧ w.grownBy w' none := by
  go_enter Try.func5, Try.ntmps5
  go_wp2_with fail
  refine (Takes_any A1 c1 bs many w (by omega) hc hd hby hb h0 (by omega)).mono ?_
  rintro e w1 ⟨l, rest, er, A5, A6, c5, c6, rfl, _, _, hA5, _, _, hA6, hg, hT⟩
  rcases hT with ⟨hT, rfl⟩ | ⟨hT, hne, rfl, rfl⟩
  · obtain ⟨hl, ht, hbe⟩ := takes_only _ _ _ _ hby hT
    have hb1 := hid (hb.grown hg)
    have htt := hid ht
    have hbe' := hid hbe
    have hll := hid hl
    have hl2 : l.length ≤ 400 := by omega
    have hl3 : ((l.length : Int) == many) = true := by simp; omega
    clear hT hb hl hbe ht
    go_wp2_with fail
    refine (Puts_yes A5 c5 l w1 hA5 (by omega) htt.out).mono ?_
    rintro e w2 ⟨A7, c7, rfl, _, _, hA7, hg2⟩
    have cv1 := conv_arr w2 A7 c7 (encs l) hA7
    have cv2 := conv_arr w2 A6 c6 rest (hA6.grown hg2)
    have cv3 := conv_arr w2 A1 c1 bs (hb1.out.grown hg2)
    have hst : strOfNums (encs l) ++ strOfNums rest = strOfNums bs := by rw [strOfNums_append, ← hbe'.out]
    have hsz : ¬ 9223372036854775807 < (strOfNums (encs l)).size + (strOfNums rest).size := by
      rw [strOfNums_size, strOfNums_size]
      have := congrArg List.length hbe'.out
      rw [List.length_append] at this
      omega
    have hG := hid (grown_trans hg hg2)
    clear hA7 hA6 hA5 hg hg2
    go_wp2_with (go_at_call 7; refine (wakes_any _).mono ?_; rintro e w' ⟨rfl, hg⟩)
    go_ret
    exact ⟨rfl, grown_trans hG.out hg⟩
  · have h2 : (er == 2) = false := by
      have := takes_bad _ _ _ hT
      simp; omega
    have hne' : (er != 0) = true := by simpa using hne
    have hneg : decide (many < 0) = false := by simpa using h0
    clear hT hb hne
    go_wp2_with (go_at_call 7; refine (wakes_any _).mono ?_; rintro e w' ⟨rfl, hg2⟩)
    go_ret
    exact ⟨rfl, grown_trans hg hg2⟩

/-- **The law DigitOnly, walked.** -/
theorem only_walk (A1 : Option Addr) (c1 : Nat) (bs : List Int) (many : Int) (w : World) (hb : Arr w .u8 A1 bs) (hc : bs.length ≤ c1) (hd : c1 ≤ maxLen) (hby : ∀ x ∈ bs, isByte x) :
    Calls Try.prog 5 #[.slice A1 bs.length c1, .int .i64 many] w fun e w' => e = .returned (.bool true) ∧ w.grownBy w' none := by
  by_cases h1 : 400 < bs.length
  · exact only_great _ _ _ _ _ (.inl h1)
  by_cases h2 : 400 < many
  · exact only_great _ _ _ _ _ (.inr h2)
  by_cases h3 : many < 0
  · exact only_neg _ _ _ _ _ (by omega) h3
  · exact only_some A1 c1 bs many w (by omega) (by omega) (by omega) hb hc hd hby
end Go.Proofs.Ytdpdomdgmehomaa
