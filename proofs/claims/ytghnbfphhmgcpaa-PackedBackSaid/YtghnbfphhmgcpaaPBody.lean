/- The document's own answer: packed words. -/
import Derived.Test.YtghnbfphhmgcpaaPSum
import Derived.Test.YtghnbfphhmgcpaaRefTake
import Derived.Test.YtghnbfphhmgcpaaConst
import Derived.Test.YtghnbfphhmgcpaaFull
import Derived.Test.YtghnbfphhmgcpaaGreat
set_option linter.unusedSimpArgs false
set_option linter.unusedVariables false
set_option maxRecDepth 100000
namespace Go.Proofs.Ytghnbfphhmgcpaa
open Go.RowKit Plain PlainSum PlainPacked

theorem words_snoc (ws : List (List Int)) (x : List Int) : words (ws ++ [x]) = words ws ++ enc x.length ++ x := by
  induction ws with
  | nil => simp [words]
  | cons y ys ih => simp [words, ih]

theorem words_take (xss : List (List Int)) (k : Nat) (h : k < xss.length) : words (xss.take (k + 1)) = words (xss.take k) ++ enc (xss.getD k []).length ++ xss.getD k [] := by
  rw [take_getD xss k [] h, words_snoc]

theorem words_len : ∀ (xss : List (List Int)), xss.flatten.length ≤ 2147483647 → (words xss).length ≤ 5 * xss.length + xss.flatten.length
  | [], _ => by simp [words]
  | w :: ws, h => by
    simp only [List.flatten_cons, List.length_append] at h
    have ih := words_len ws (by omega)
    have := enc_len5 w.length (by omega)
    simp only [words, List.length_append, List.length_cons, List.flatten_cons]
    omega

theorem words_take_len (xss : List (List Int)) (k : Nat) (h : xss.flatten.length ≤ 2147483647) : (words (xss.take k)).length ≤ 5 * xss.length + xss.flatten.length := by
  have h1 := flatten_take_le xss k
  have := words_len (xss.take k) (by omega)
  rw [List.length_take] at this
  omega

/-- Ahead of the first k words. -/
def aheadTo (f : Bool) (xss : List (List Int)) (k : Nat) : List Int := magic ++ [flag f] ++ (enc xss.length ++ words (xss.take k))
theorem aheadTo_succ (f : Bool) (xss : List (List Int)) (k : Nat) (h : k < xss.length) : aheadTo f xss (k + 1) = aheadTo f xss k ++ enc (xss.getD k []).length ++ xss.getD k [] := by
  unfold aheadTo; rw [words_take xss k h]; simp only [List.append_assoc]
theorem aheadTo_all (f : Bool) (xss : List (List Int)) : aheadTo f xss xss.length = aheadOf f xss := by unfold aheadTo aheadOf; rw [List.take_length]
theorem aheadTo_len (f : Bool) (xss : List (List Int)) (k : Nat) (hn : xss.length ≤ 3000) (hl : xss.flatten.length ≤ 3000) : (aheadTo f xss k).length ≤ 20000 := by
  have h1 := words_take_len xss k (by omega)
  have h2 := enc_len5 xss.length (by omega)
  simp [aheadTo, magic]
  omega
theorem getD_flatten_len (xss : List (List Int)) (k : Nat) : (xss.getD k []).length ≤ xss.flatten.length := by
  by_cases hk : k < xss.length
  · have h1 := flatten_take_succ xss k hk
    have h2 := flatten_take_le xss (k + 1)
    rw [h1, List.length_append] at h2
    omega
  · simp [List.getD, List.getElem?_eq_none (Nat.le_of_not_lt hk)]

theorem own_grown {w w' : World} {base e n : Nat} {v : Value} {xs : List Value} (h : w.ownsRow base e 1 v n xs) (hg : w.grownBy w' none) : w'.ownsRow base e 1 v n xs :=
  h.kept hg (by cases v.ownBlock <;> simp)

theorem Below.of_grown' {w w' : World} (h : w.grownBy w' none) : Below w.heap.size w w' := below_of_grown h (Nat.le_refl _) (by simp)

set_option maxRecDepth 100000 in
set_option maxHeartbeats 1000000 in
theorem refBody_false (P : Option Addr) (d : Nat) (xss : List (List Int)) (w : World) (hn : xss.length ≤ 3000) (hl : xss.flatten.length ≤ 3000) (hP : Arrs w P xss) :
    Calls Try.prog 30 #[.bool false, .slice P xss.length d] w (Owns (aheadOf false xss) w) := by
  obtain ⟨i0, hi0, hz0, hz1, hz2⟩ := info_parts Try.info5
  have kc := conv_const
  have hC : Hid (Arr (w.alloc (.cells #[.int .u8 84, .int .u8 83, .int .u8 76, .int .u8 49] 5 (4, 5))) .u8 (some ⟨w.heap.size, 0, none⟩) magic) := const_at magic (4, 5) rfl
  replace hP := hid hP
  have hlen := hid (fun k => aheadTo_len false xss k hn hl)
  have hxl := hid (fun k => getD_flatten_len xss k)
  have hstart : Hid (aheadTo false xss 0 = magic ++ [0] ++ enc xss.length) := hid (by simp [aheadTo, words, flag])
  have hend := hid (aheadTo_all false xss)
  have hsucc := hid (fun k h => aheadTo_succ false xss k h)
  have hm4 : Hid (magic.length = 4) := rfl
  go_enter Try.func30, Try.ntmps30
  go_upto_region 2 with fail
  have hg0 : Hid (w.grownBy (w.alloc (.cells #[.int .u8 84, .int .u8 83, .int .u8 76, .int .u8 49] 5 (4, 5))) none) := grown_alloc (grown_refl w none) _
  obtain ⟨W0, hW0⟩ : ∃ W0, w.alloc (.cells #[.int .u8 84, .int .u8 83, .int .u8 76, .int .u8 49] 5 (4, 5)) = W0 := ⟨_, rfl⟩
  rw [hW0] at hC hg0 ⊢
  clear hW0
  obtain ⟨h, hh⟩ : ∃ h, w.heap.size = h := ⟨_, rfl⟩
  rw [hh] at hC ⊢
  replace hh := hid hh
  have hs0 : Hid (w.heap.size ≤ W0.heap.size) := hg0.out.size
  go_wp2_with (at_builtin; refine wpList_push_full rfl _ _ 23 rfl w.heap.size 5 i0 .u8 1 Try.underlying23 hi0 hz0 hz1 hz2 _ _ _ magic _ _ hC.out rfl hm4.out rfl rfl (by decide) (by rw [hm4.out]; omega) hs0.out ?_; intro v' w1 hrow1 hB1)
  have hG1 := hid ((Below.of_grown' hg0.out).trans hB1)
  clear hB1
  refine (refPut_yes _ _ (by omega) (by omega)).mono ?_
  rintro e w2 ⟨A2, c2, rfl, hc2, hm2, hA2, hg2⟩
  rw [Int.toNat_natCast] at hc2 hA2 ⊢
  have hrow2 := hid (own_grown hrow1 hg2)
  have hB2 := hid (hG1.out.trans (below_of_grown hg2 hG1.out.size (by simp)))
  clear hrow1 hg2 hG1
  have hst2 := hstart.out
  have hel := hlen.out 0
  rw [hst2, List.length_append] at hel
  generalize enc xss.length = en at hc2 hA2 hst2 hel ⊢
  generalize magic ++ [(0 : Int)] = pre at hst2 hel hrow2
  replace hst2 := hid hst2
  replace hA2 := hid hA2
  have hsz2 : Hid (w.heap.size ≤ w2.heap.size) := hB2.out.size
  go_wp2_with (at_builtin; refine wpList_append_all rfl _ _ 23 rfl w.heap.size 5 i0 .u8 1 Try.underlying23 hi0 hz0 hz1 hz2 _ pre en _ _ _ _ hrow2.out hA2.out rfl rfl rfl (by decide) (by omega) hsz2.out ?_; intro v3 w3 hrow3 hB3)
  have hB3' := hB2.out.trans hB3
  rw [← hst2.out] at hrow3
  clear hB3 hB2 hrow2 hA2 hC
  go_loopw [5, 8] (fun v i wr => ∃ k : Nat, k ≤ xss.length ∧ i = .int .i64 k ∧ wr.ownsRow w.heap.size 5 1 v (aheadTo false xss k).length ((aheadTo false xss k).map (Value.int .u8)) ∧ Below w.heap.size w wr) (fun _ i _ => xss.length - (intOf i).toNat)
  case atStart => exact ⟨0, Nat.zero_le _, rfl, hrow3, hB3'⟩
  case round =>
    clear hrow3 hB3'
    obtain ⟨k, hk, rfl, hown, hB⟩ := hrel
    by_cases hlt : k < xss.length
    · obtain ⟨b, off, Ai, ci, rfl, hb, hcell0, hAi⟩ := hP.out.at_ hlt
      have hcell := ((gcell (below_grown hB)).1 b (off + k) hb).trans hcell0
      have hT := hsucc.out k hlt
      have hx3 := hxl.out k
      have hle := hlen.out (k + 1)
      rw [hT, List.length_append, List.length_append] at hle
      have hAi' := hid (hAi.grown (below_grown hB))
      have hAiw := hid hAi
      clear hcell0 hAi
      generalize xss.getD k [] = xs at hcell hAi' hAiw hT hx3 hle
      generalize aheadTo false xss k = zs at hown hT hle
      replace hT := hid hT
      replace hown := hid hown
      have hblt : Hid (b < wr.heap.size) := Nat.lt_of_lt_of_le hb (below_grown hB).size
      replace hB := hid hB
      have k0 : (0 : Int) ≤ (k : Int) := by omega
      have k1 : (k : Int) < (xss.length : Int) := by omega
      go_wp2_with fail
      refine (refPut_yes _ _ (by omega) (by omega)).mono ?_
      rintro e w4 ⟨A4, c4, rfl, hc4, hm4', hA4, hg4⟩
      rw [Int.toNat_natCast] at hc4 hA4 ⊢
      have hown4 := hid (own_grown hown.out hg4)
      have hB4 := hid (hB.out.trans (below_of_grown hg4 hB.out.size (by simp)))
      have hcell4 := ((gcell hg4).1 b (off + k) hblt.out).trans hcell
      have hAi4 := hid (hAi'.out.grown hg4)
      have hnl := enc_len5 xs.length (by omega)
      generalize enc xs.length = en4 at hc4 hA4 hT hle hnl ⊢
      replace hA4 := hid hA4
      have hsz4 : Hid (w.heap.size ≤ w4.heap.size) := hB4.out.size
      clear hg4 hcell hown hB
      have hlow : Hid (b < w.heap.size) := hb
      go_upto_region 12 with (at_builtin; refine wpList_append_all rfl _ _ 23 rfl w.heap.size 5 i0 .u8 1 Try.underlying23 hi0 hz0 hz1 hz2 _ zs en4 _ _ _ _ hown4.out hA4.out rfl rfl rfl (by decide) (by omega) hsz4.out ?_; intro v5 w5 hown5 hB5)
      have hcell5 := (World.cell?_of_block (a := ⟨b, off + k, none⟩) (hB5.block b hlow.out)).trans hcell4
      have hB5' := hid (hB4.out.trans hB5)
      have hAi5 := hid (hAiw.out.grown (below_grown hB5'.out))
      have hle5 : (zs ++ en4).length ≤ 20000 := by rw [List.length_append]; omega
      clear hcell4 hB5 hown4 hA4 hB4 hAi4 hAi'
      generalize zs ++ en4 = zs5 at hown5 hT hle5
      replace hown5 := hid hown5
      have hsz5 : Hid (w.heap.size ≤ w5.heap.size) := hB5'.out.size
      go_wp2_with (at_builtin; refine wpList_append_all rfl _ _ 23 rfl w.heap.size 5 i0 .u8 1 Try.underlying23 hi0 hz0 hz1 hz2 _ zs5 xs _ _ _ _ hown5.out hAi5.out rfl rfl rfl (by decide) (by omega) hsz5.out ?_; intro v6 w6 hown6 hB6)
      go_roundw
      case rel => exact ⟨k + 1, by omega, by go_num, by rw [hT.out]; exact hown6, hB5'.out.trans hB6⟩
      case measure => simp [intOf]; omega
    · obtain rfl : k = xss.length := by omega
      rw [hend.out] at hown
      go_wp2
      go_ret
      exact ⟨_, rfl, hown, hB⟩
set_option maxRecDepth 100000 in
set_option maxHeartbeats 1000000 in
theorem refBody_true (P : Option Addr) (d : Nat) (xss : List (List Int)) (w : World) (hn : xss.length ≤ 3000) (hl : xss.flatten.length ≤ 3000) (hP : Arrs w P xss) :
    Calls Try.prog 30 #[.bool true, .slice P xss.length d] w (Owns (aheadOf true xss) w) := by
  obtain ⟨i0, hi0, hz0, hz1, hz2⟩ := info_parts Try.info5
  have kc := conv_const
  have hC : Hid (Arr (w.alloc (.cells #[.int .u8 84, .int .u8 83, .int .u8 76, .int .u8 49] 5 (4, 5))) .u8 (some ⟨w.heap.size, 0, none⟩) magic) := const_at magic (4, 5) rfl
  replace hP := hid hP
  have hlen := hid (fun k => aheadTo_len true xss k hn hl)
  have hxl := hid (fun k => getD_flatten_len xss k)
  have hstart : Hid (aheadTo true xss 0 = magic ++ [1] ++ enc xss.length) := hid (by simp [aheadTo, words, flag])
  have hend := hid (aheadTo_all true xss)
  have hsucc := hid (fun k h => aheadTo_succ true xss k h)
  have hm4 : Hid (magic.length = 4) := rfl
  go_enter Try.func30, Try.ntmps30
  go_upto_region 2 with fail
  have hg0 : Hid (w.grownBy (w.alloc (.cells #[.int .u8 84, .int .u8 83, .int .u8 76, .int .u8 49] 5 (4, 5))) none) := grown_alloc (grown_refl w none) _
  obtain ⟨W0, hW0⟩ : ∃ W0, w.alloc (.cells #[.int .u8 84, .int .u8 83, .int .u8 76, .int .u8 49] 5 (4, 5)) = W0 := ⟨_, rfl⟩
  rw [hW0] at hC hg0 ⊢
  clear hW0
  obtain ⟨h, hh⟩ : ∃ h, w.heap.size = h := ⟨_, rfl⟩
  rw [hh] at hC ⊢
  replace hh := hid hh
  have hs0 : Hid (w.heap.size ≤ W0.heap.size) := hg0.out.size
  go_wp2_with (at_builtin; refine wpList_push_full rfl _ _ 23 rfl w.heap.size 5 i0 .u8 1 Try.underlying23 hi0 hz0 hz1 hz2 _ _ _ magic _ _ hC.out rfl hm4.out rfl rfl (by decide) (by rw [hm4.out]; omega) hs0.out ?_; intro v' w1 hrow1 hB1)
  have hG1 := hid ((Below.of_grown' hg0.out).trans hB1)
  clear hB1
  refine (refPut_yes _ _ (by omega) (by omega)).mono ?_
  rintro e w2 ⟨A2, c2, rfl, hc2, hm2, hA2, hg2⟩
  rw [Int.toNat_natCast] at hc2 hA2 ⊢
  have hrow2 := hid (own_grown hrow1 hg2)
  have hB2 := hid (hG1.out.trans (below_of_grown hg2 hG1.out.size (by simp)))
  clear hrow1 hg2 hG1
  have hst2 := hstart.out
  have hel := hlen.out 0
  rw [hst2, List.length_append] at hel
  generalize enc xss.length = en at hc2 hA2 hst2 hel ⊢
  generalize magic ++ [(1 : Int)] = pre at hst2 hel hrow2
  replace hst2 := hid hst2
  replace hA2 := hid hA2
  have hsz2 : Hid (w.heap.size ≤ w2.heap.size) := hB2.out.size
  go_wp2_with (at_builtin; refine wpList_append_all rfl _ _ 23 rfl w.heap.size 5 i0 .u8 1 Try.underlying23 hi0 hz0 hz1 hz2 _ pre en _ _ _ _ hrow2.out hA2.out rfl rfl rfl (by decide) (by omega) hsz2.out ?_; intro v3 w3 hrow3 hB3)
  have hB3' := hB2.out.trans hB3
  rw [← hst2.out] at hrow3
  clear hB3 hB2 hrow2 hA2 hC
  go_loopw [5, 8] (fun v i wr => ∃ k : Nat, k ≤ xss.length ∧ i = .int .i64 k ∧ wr.ownsRow w.heap.size 5 1 v (aheadTo true xss k).length ((aheadTo true xss k).map (Value.int .u8)) ∧ Below w.heap.size w wr) (fun _ i _ => xss.length - (intOf i).toNat)
  case atStart => exact ⟨0, Nat.zero_le _, rfl, hrow3, hB3'⟩
  case round =>
    clear hrow3 hB3'
    obtain ⟨k, hk, rfl, hown, hB⟩ := hrel
    by_cases hlt : k < xss.length
    · obtain ⟨b, off, Ai, ci, rfl, hb, hcell0, hAi⟩ := hP.out.at_ hlt
      have hcell := ((gcell (below_grown hB)).1 b (off + k) hb).trans hcell0
      have hT := hsucc.out k hlt
      have hx3 := hxl.out k
      have hle := hlen.out (k + 1)
      rw [hT, List.length_append, List.length_append] at hle
      have hAi' := hid (hAi.grown (below_grown hB))
      have hAiw := hid hAi
      clear hcell0 hAi
      generalize xss.getD k [] = xs at hcell hAi' hAiw hT hx3 hle
      generalize aheadTo true xss k = zs at hown hT hle
      replace hT := hid hT
      replace hown := hid hown
      have hblt : Hid (b < wr.heap.size) := Nat.lt_of_lt_of_le hb (below_grown hB).size
      replace hB := hid hB
      have k0 : (0 : Int) ≤ (k : Int) := by omega
      have k1 : (k : Int) < (xss.length : Int) := by omega
      go_wp2_with fail
      refine (refPut_yes _ _ (by omega) (by omega)).mono ?_
      rintro e w4 ⟨A4, c4, rfl, hc4, hm4', hA4, hg4⟩
      rw [Int.toNat_natCast] at hc4 hA4 ⊢
      have hown4 := hid (own_grown hown.out hg4)
      have hB4 := hid (hB.out.trans (below_of_grown hg4 hB.out.size (by simp)))
      have hcell4 := ((gcell hg4).1 b (off + k) hblt.out).trans hcell
      have hAi4 := hid (hAi'.out.grown hg4)
      have hnl := enc_len5 xs.length (by omega)
      generalize enc xs.length = en4 at hc4 hA4 hT hle hnl ⊢
      replace hA4 := hid hA4
      have hsz4 : Hid (w.heap.size ≤ w4.heap.size) := hB4.out.size
      clear hg4 hcell hown hB
      have hlow : Hid (b < w.heap.size) := hb
      go_upto_region 12 with (at_builtin; refine wpList_append_all rfl _ _ 23 rfl w.heap.size 5 i0 .u8 1 Try.underlying23 hi0 hz0 hz1 hz2 _ zs en4 _ _ _ _ hown4.out hA4.out rfl rfl rfl (by decide) (by omega) hsz4.out ?_; intro v5 w5 hown5 hB5)
      have hcell5 := (World.cell?_of_block (a := ⟨b, off + k, none⟩) (hB5.block b hlow.out)).trans hcell4
      have hB5' := hid (hB4.out.trans hB5)
      have hAi5 := hid (hAiw.out.grown (below_grown hB5'.out))
      have hle5 : (zs ++ en4).length ≤ 20000 := by rw [List.length_append]; omega
      clear hcell4 hB5 hown4 hA4 hB4 hAi4 hAi'
      generalize zs ++ en4 = zs5 at hown5 hT hle5
      replace hown5 := hid hown5
      have hsz5 : Hid (w.heap.size ≤ w5.heap.size) := hB5'.out.size
      go_wp2_with (at_builtin; refine wpList_append_all rfl _ _ 23 rfl w.heap.size 5 i0 .u8 1 Try.underlying23 hi0 hz0 hz1 hz2 _ zs5 xs _ _ _ _ hown5.out hAi5.out rfl rfl rfl (by decide) (by omega) hsz5.out ?_; intro v6 w6 hown6 hB6)
      go_roundw
      case rel => exact ⟨k + 1, by omega, by go_num, by rw [hT.out]; exact hown6, hB5'.out.trans hB6⟩
      case measure => simp [intOf]; omega
    · obtain rfl : k = xss.length := by omega
      rw [hend.out] at hown
      go_wp2
      go_ret
      exact ⟨_, rfl, hown, hB⟩

theorem refBody_is (f : Bool) (P : Option Addr) (d : Nat) (xss : List (List Int)) (w : World) (hn : xss.length ≤ 3000) (hl : xss.flatten.length ≤ 3000) (hP : Arrs w P xss) :
    Calls Try.prog 30 #[.bool f, .slice P xss.length d] w (Owns (aheadOf f xss) w) := by
  cases f with
  | true => exact refBody_true P d xss w hn hl hP
  | false => exact refBody_false P d xss w hn hl hP

/-- Words whose bytes are all bytes. -/
def AllBytes (xss : List (List Int)) : Prop := ∀ k, Bytes (xss.getD k [])
theorem AllBytes.mem {xss : List (List Int)} (h : AllBytes xss) : ∀ w ∈ xss, ∀ c ∈ w, isByte c := fun w hw c hc => by
  obtain ⟨k, hk, rfl⟩ := List.mem_iff_getElem.1 hw
  obtain ⟨i, hi, rfl⟩ := List.mem_iff_getElem.1 hc
  have := h k i
  simpa [List.getD, hk, hi, isByte] using this
theorem bytes_of {xs : List Int} (h : ∀ c ∈ xs, isByte c) : Bytes xs := fun k => by
  by_cases hk : k < xs.length
  · have := h (xs.getD k 0) (by simp [List.getD, hk])
    exact this
  · simp [List.getD, List.getElem?_eq_none (Nat.le_of_not_lt hk)]
theorem of_bytes {xs : List Int} (h : Bytes xs) : ∀ c ∈ xs, isByte c := fun c hc => by
  obtain ⟨i, hi, rfl⟩ := List.mem_iff_getElem.1 hc
  have := h i
  simpa [List.getD, hi, isByte] using this

theorem ahead_bytes (f : Bool) (xss : List (List Int)) (h : AllBytes xss) : Bytes (aheadOf f xss) := bytes_of (PlainPacked.ahead_byte f xss h.mem)
theorem ahead_le (f : Bool) (xss : List (List Int)) (hn : xss.length ≤ 3000) (hl : xss.flatten.length ≤ 3000) : (aheadOf f xss).length ≤ 20000 := by
  have := aheadTo_len f xss xss.length hn hl
  rwa [aheadTo_all] at this

theorem refPacked_is (f : Bool) (P : Option Addr) (d : Nat) (xss : List (List Int)) (w : World) (hn : xss.length ≤ 3000) (hl : xss.flatten.length ≤ 3000) (hb : AllBytes xss) (hP : Arrs w P xss) :
    Calls Try.prog 16 #[.bool f, .slice P xss.length d] w (Owns (put f xss) w) := by
  have hal := ahead_le f xss hn hl
  have hab := hid (ahead_bytes f xss hb)
  have hput : Hid (put f xss = summed (aheadOf f xss)) := rfl
  replace hP := hid hP
  go_enter Try.func16, Try.ntmps16
  go_wp2_with fail
  refine (refBody_is f P d xss _ hn hl hP.out).mono ?_
  intro e w1 ho
  obtain ⟨A1, c1, rfl, _, _, hA1, hg1⟩ := ho.arr
  generalize aheadOf f xss = zs at hal hab hput hA1 ⊢
  replace hA1 := hid hA1
  have hB1 := hid (below_of_grown hg1 (Nat.le_refl _) (by simp))
  clear hg1 ho
  go_wp2_with fail
  refine (refSummed_is A1 c1 zs _ (by omega) hab.out hA1.out).mono ?_
  rintro e w2 ⟨v2, rfl, hown, hB2⟩
  have ho2 := hid (own_mono hown hB1.out.size)
  have hB := hid (hB1.out.trans (hB2.mono hB1.out.size))
  clear hown hB2
  go_wp2_with fail
  go_ret
  exact ⟨v2, rfl, by rw [hput.out]; exact ho2.out, hB.out⟩
end Go.Proofs.Ytghnbfphhmgcpaa
