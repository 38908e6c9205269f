/- The walk of the law DigitTells: it returns true at every input. -/
import Derived.Test.YtdpdomdgmehomaaWakes
import Derived.Test.YtdpdomdgmehomaaRow
import Derived.Test.YtdpdomdgmehomaaRefTake
set_option linter.unusedVariables false
namespace Go.Proofs.Ytdpdomdgmehomaa
open Go.RowKit Plain

/-- What one number's bytes are, and the error. -/
def putL (n : Int) : List Int := if 0 ≤ n ∧ n ≤ 2147483647 then enc n.toNat else []
def putE (n : Int) : Int := if 0 ≤ n ∧ n ≤ 2147483647 then 0 else 2
def putsL (zs : List Int) : List Int := if toldB zs = true then encs zs else []
def putsE (zs : List Int) : Int := if toldB zs = true then 0 else 2
def sizeL (zs : List Int) : Int := if toldB zs = true then ((encs zs).length : Int) else 0

theorem Put_all (n : Int) (w : World) : Calls Try.prog 8 #[.int .i64 n] w (Tells .u8 (putL n) (putE n) w) := by
  unfold putL putE
  by_cases h : 0 ≤ n ∧ n ≤ 2147483647
  · rw [if_pos h, if_pos h]; exact Put_yes n w h.1 h.2
  · rw [if_neg h, if_neg h]; exact Put_no n w (by omega)
theorem refPut_all (n : Int) (w : World) : Calls Try.prog 9 #[.int .i64 n] w (Tells .u8 (putL n) (putE n) w) := by
  unfold putL putE
  by_cases h : 0 ≤ n ∧ n ≤ 2147483647
  · rw [if_pos h, if_pos h]; exact refPut_yes n w h.1 h.2
  · rw [if_neg h, if_neg h]; exact refPut_no n w (by omega)
theorem Puts_all (A : Option Addr) (c : Nat) (zs : List Int) (w : World) (h : Arr w .i64 A zs) (hl : zs.length ≤ 1000) : Calls Try.prog 10 #[.slice A zs.length c] w (Tells .u8 (putsL zs) (putsE zs) w) := by
  unfold putsL putsE
  cases ht : toldB zs with
  | true => exact Puts_yes A c zs w h hl ht
  | false => exact (Puts_no A c zs w h hl ht).mono fun e w' ⟨h1, h2⟩ => ⟨none, 0, h1, by simp, by simp, Arr.nil _, h2 ▸ grown_refl _ _⟩
theorem refPuts_all (A : Option Addr) (c : Nat) (zs : List Int) (w : World) (h : Arr w .i64 A zs) (hl : zs.length ≤ 1000) : Calls Try.prog 11 #[.slice A zs.length c] w (Tells .u8 (putsL zs) (putsE zs) w) := by
  unfold putsL putsE
  cases ht : toldB zs with
  | true => exact refPuts_yes A c zs w h hl ht
  | false => exact refPuts_no A c zs w h hl ht
theorem Size_all (A : Option Addr) (c : Nat) (zs : List Int) (w : World) (h : Arr w .i64 A zs) (hl : zs.length ≤ 1000) : Calls Try.prog 12 #[.slice A zs.length c] w fun e w' => e = .returned (.int .i64 (sizeL zs)) ∧ w = w' := by
  unfold sizeL
  cases ht : toldB zs with
  | true => exact Size_yes A c zs w h hl ht
  | false => exact Size_no A c zs w h hl ht
theorem refSize_all (A : Option Addr) (c : Nat) (zs : List Int) (w : World) (h : Arr w .i64 A zs) (hl : zs.length ≤ 1000) : Calls Try.prog 13 #[.slice A zs.length c] w fun e w' => e = .returned (.int .i64 (sizeL zs)) ∧ w.grownBy w' none := by
  unfold sizeL
  cases ht : toldB zs with
  | true => exact refSize_yes A c zs w h hl ht
  | false => exact refSize_no A c zs w h hl ht

/-- What was taken, part by part. -/
def gotN : Got → Int | .good n _ => n | .bad _ => 0
def gotR : Got → List Int | .good _ r => r | .bad _ => []
def gotE : Got → Int | .good _ _ => 0 | .bad e => e
def allL : GotAll → List Int | .good l _ => l | .bad _ => []
def allR : GotAll → List Int | .good _ r => r | .bad _ => []
def allE : GotAll → Int | .good _ _ => 0 | .bad e => e

theorem TakeLeaves.parts {b : List Int} {w w' : World} {e : Ending} (h : TakeLeaves b w e w') :
    ∃ A c, e = .returned (.tuple #[.int .i64 (gotN (take b)), .slice A (gotR (take b)).length c, .int .i64 (gotE (take b))]) ∧ Arr w' .u8 A (gotR (take b)) ∧ w.grownBy w' none := by
  obtain ⟨n, er, rest, A, c, rfl, _, _, h1, h2, ⟨h3, rfl⟩ | ⟨h3, _, rfl, rfl⟩⟩ := h
  · rw [h3]; exact ⟨A, c, rfl, h1, h2⟩
  · rw [h3]; exact ⟨A, c, rfl, h1, h2⟩

theorem TakesLeaves.parts {g : GotAll} {w w' : World} {e : Ending} (h : TakesLeaves g w e w') :
    ∃ A1 A2 c1 c2, e = .returned (.tuple #[.slice A1 (allL g).length c1, .slice A2 (allR g).length c2, .int .i64 (allE g)]) ∧ Arr w' .i64 A1 (allL g) ∧ Arr w' .u8 A2 (allR g) ∧ w.grownBy w' none := by
  obtain ⟨l, rest, er, A1, A2, c1, c2, rfl, _, _, h1, _, _, h2, h3, ⟨rfl, rfl⟩ | ⟨rfl, _, rfl, rfl⟩⟩ := h
  · exact ⟨A1, A2, c1, c2, rfl, h1, h2, h3⟩
  · exact ⟨A1, A2, c1, c2, rfl, h1, h2, h3⟩

def allOf (many : Int) (bs : List Int) : GotAll := if many < 0 then .bad 2 else takes many.toNat bs

theorem TakesLeaves.neg (w : World) : TakesLeaves (.bad 2) w (.returned (.tuple #[.slice none 0 0, .slice none 0 0, .int .i64 2])) w :=
  ⟨[], [], 2, none, none, 0, 0, rfl, by simp, by simp, Arr.nil _, by simp, by simp, Arr.nil _, grown_refl _ _, .inr ⟨rfl, by decide, rfl, rfl⟩⟩

theorem Takes_all (A : Option Addr) (c : Nat) (bs : List Int) (many : Int) (w : World) (hl : bs.length ≤ 100000) (hc : bs.length ≤ c) (hc2 : c ≤ maxLen) (hby : ∀ x ∈ bs, isByte x) (hA : Arr w .u8 A bs) (hm1 : many ≤ 9223372036854775807) :
    Calls Try.prog 16 #[.slice A bs.length c, .int .i64 many] w (TakesLeaves (allOf many bs) w) := by
  unfold allOf
  by_cases h : many < 0
  · rw [if_pos h]; exact (Takes_neg A _ c many w h).mono fun e w' ⟨h1, h2⟩ => by subst h1 h2; exact TakesLeaves.neg w
  · rw [if_neg h]; exact Takes_any A c bs many w hl hc hc2 hby hA (by omega) hm1
theorem refTakes_all (A : Option Addr) (c : Nat) (bs : List Int) (many : Int) (w : World) (hl : bs.length ≤ 100000) (hc : bs.length ≤ c) (hc2 : c ≤ maxLen) (hby : ∀ x ∈ bs, isByte x) (hA : Arr w .u8 A bs) (hm1 : many ≤ 9223372036854775807) :
    Calls Try.prog 17 #[.slice A bs.length c, .int .i64 many] w (TakesLeaves (allOf many bs) w) := by
  unfold allOf
  by_cases h : many < 0
  · rw [if_pos h]; exact (refTakes_neg A _ c many w h).mono fun e w' ⟨h1, h2⟩ => by subst h1 h2; exact TakesLeaves.neg w
  · rw [if_neg h]; exact refTakes_any A c bs many w hl hc hc2 hby hA (by omega) hm1

theorem allL_short (many : Int) (bs : List Int) (hby : ∀ x ∈ bs, isByte x) : (allL (allOf many bs)).length ≤ bs.length := by
  unfold allOf
  split
  · simp [allL]
  · cases h : takes many.toNat bs with
    | bad e => simp [allL]
    | good l r =>
      obtain ⟨_, _, he⟩ := takes_only _ _ _ _ hby h
      have := congrArg List.length he
      have h2 := encs_len_ge l
      rw [List.length_append] at this
      simp only [allL]
      omega

theorem tells_great (n many : Int) (A1 A2 : Option Addr) (n1 c1 n2 c2 : Nat) (w : World) (h : 60 < n1 ∨ 400 < n2) :
    Calls Try.prog 3 #[.int .i64 n, .slice A1 n1 c1, .slice A2 n2 c2, .int .i64 many] w fun e w' => e = .returned (.bool true) ∧ w.grownBy w' none := by
  by_cases h1 : 60 < n1
  · clear h
    go_enter Try.func3, Try.ntmps3
    go_wp2_with (go_at_call 7; refine (wakes_any _).mono ?_; rintro e w' ⟨rfl, hg⟩)
    go_ret
    exact ⟨rfl, hg⟩
  · have h2 : 400 < n2 := by omega
    clear h
    go_enter Try.func3, Try.ntmps3
    go_wp2_with (go_at_call 7; refine (wakes_any _).mono ?_; rintro e w' ⟨rfl, hg⟩)
    go_ret
    exact ⟨rfl, hg⟩

set_option maxRecDepth 100000 in
set_option maxHeartbeats 2000000 in
theorem tells_some (n many : Int) (A1 A2 : Option Addr) (c1 c2 : Nat) (zs bs : List Int) (w : World) (h1 : zs.length ≤ 60) (h2 : bs.length ≤ 400) (hz : Arr w .i64 A1 zs) (hb : Arr w .u8 A2 bs)
    (hc : bs.length ≤ c2) (hd : c2 ≤ maxLen) (hby : ∀ x ∈ bs, isByte x) (hm1 : many ≤ 9223372036854775807) :
    Calls Try.prog 3 #[.int .i64 n, .slice A1 zs.length c1, .slice A2 bs.length c2, .int .i64 many] w fun e w' => e = .returned (.bool true) ∧ w.grownBy w' none := by
  have hmh := hid hm1
  have hdh := hid hd
  clear hm1 hd
  go_enter Try.func3, Try.ntmps3
  go_wp2_with fail
  refine (Put_all n w).mono ?_
  rintro e w1 ⟨B1, d1, rfl, _, _, hB1, g1⟩
  go_wp2_with fail
  refine (refPut_all n w1).mono ?_
  rintro e w2 ⟨B2, d2, rfl, _, _, hB2, g2⟩
  go_wp2_with fail
  refine (Puts_all A1 c1 zs w2 ((hz.grown g1).grown g2) (by omega)).mono ?_
  rintro e w3 ⟨B3, d3, rfl, _, _, hB3, g3⟩
  go_wp2_with fail
  refine (refPuts_all A1 c1 zs w3 (((hz.grown g1).grown g2).grown g3) (by omega)).mono ?_
  rintro e w4 ⟨B4, d4, rfl, _, _, hB4, g4⟩
  have cv1 := conv_arr w4 B1 d1 (putL n) (((hB1.grown g2).grown g3).grown g4)
  have cv2 := conv_arr w4 B2 d2 (putL n) ((hB2.grown g3).grown g4)
  have cv3 := conv_arr w4 B3 d3 (putsL zs) (hB3.grown g4)
  have cv4 := conv_arr w4 B4 d4 (putsL zs) hB4
  have G4 := hid (grown_trans (grown_trans (grown_trans g1 g2) g3) g4)
  have hz4 := hid (hz.grown G4.out)
  clear hB1 hB2 hB3 hB4 g1 g2 g3 g4 hz
  go_wp2_with fail
  refine (Size_all A1 c1 zs w4 hz4.out (by omega)).mono ?_
  rintro e w5 ⟨rfl, rfl⟩
  clear cv1 cv2 cv3 cv4
  go_wp2_with fail
  refine (refSize_all A1 c1 zs w4 hz4.out (by omega)).mono ?_
  rintro e w5 ⟨rfl, g5⟩
  go_wp2_with fail
  have G5 := hid (grown_trans G4.out g5)
  clear g5 hz4 G4
  refine (Take_any A2 c2 bs w5 (by omega) hc hdh.out hby (hb.grown G5.out)).mono ?_
  rintro e w6 hT
  obtain ⟨C1, f1, rfl, hC1, g6⟩ := hT.parts
  clear hT
  go_wp2_with fail
  refine (refTake_any A2 c2 bs w6 (by omega) hc hdh.out hby ((hb.grown G5.out).grown g6)).mono ?_
  rintro e w7 hT
  obtain ⟨C2, f2, rfl, hC2, g7⟩ := hT.parts
  clear hT
  have hshort := allL_short many bs hby
  go_wp2_with fail
  refine (Takes_all A2 c2 bs many w7 (by omega) hc hdh.out hby (((hb.grown G5.out).grown g6).grown g7) hmh.out).mono ?_
  rintro e w8 hT
  obtain ⟨C3, C4, f3, f4, rfl, hC3, hC4, g8⟩ := hT.parts
  clear hT
  go_wp2_with fail
  refine (refTakes_all A2 c2 bs many w8 (by omega) hc hdh.out hby ((((hb.grown G5.out).grown g6).grown g7).grown g8) hmh.out).mono ?_
  rintro e w9 hT
  obtain ⟨C5, C6, f5, f6, rfl, hC5, hC6, g9⟩ := hT.parts
  clear hT
  have cv1 := conv_arr w9 C1 f1 (gotR (take bs)) (((hC1.grown g7).grown g8).grown g9)
  have cv2 := conv_arr w9 C2 f2 (gotR (take bs)) ((hC2.grown g8).grown g9)
  have hC39 := hid (hC3.grown g9)
  have hC49 := hid (hC4.grown g9)
  have hC59 := hid hC5
  have hC69 := hid hC6
  have G9 := hid (grown_trans (grown_trans (grown_trans (grown_trans G5.out g6) g7) g8) g9)
  clear hC1 hC2 hC3 hC4 hC5 hC6 g6 g7 g8 g9 G5 hb
  go_wp2_with fail
  refine (Ints_yes C3 C5 f3 f5 _ w9 (by omega) hC39.out hC59.out).mono ?_
  rintro e w10 ⟨rfl, g10⟩
  clear cv1 cv2
  have cv3 := conv_arr w10 C4 f4 _ (hC49.out.grown g10)
  have cv4 := conv_arr w10 C6 f6 _ (hC69.out.grown g10)
  have G10 := hid (grown_trans G9.out g10)
  clear g10 G9 hC39 hC49 hC59 hC69
  go_wp2_with (go_at_call 7; refine (wakes_any _).mono ?_; rintro e w' ⟨rfl, hg⟩)
  go_ret
  exact ⟨rfl, grown_trans G10.out hg⟩

/-- **The law DigitTells, walked.** -/
theorem tells_walk (n many : Int) (A1 A2 : Option Addr) (c1 c2 : Nat) (zs bs : List Int) (w : World) (hz : Arr w .i64 A1 zs) (hb : Arr w .u8 A2 bs)
    (hc : bs.length ≤ c2) (hd : c2 ≤ maxLen) (hby : ∀ x ∈ bs, isByte x) (hm1 : many ≤ 9223372036854775807) :
    Calls Try.prog 3 #[.int .i64 n, .slice A1 zs.length c1, .slice A2 bs.length c2, .int .i64 many] w fun e w' => e = .returned (.bool true) ∧ w.grownBy w' none := by
  by_cases h1 : 60 < zs.length
  · exact tells_great _ _ _ _ _ _ _ _ _ (.inl h1)
  by_cases h2 : 400 < bs.length
  · exact tells_great _ _ _ _ _ _ _ _ _ (.inr h2)
  · exact tells_some n many A1 A2 c1 c2 zs bs w (by omega) (by omega) hz hb hc hd hby hm1
end Go.Proofs.Ytdpdomdgmehomaa
