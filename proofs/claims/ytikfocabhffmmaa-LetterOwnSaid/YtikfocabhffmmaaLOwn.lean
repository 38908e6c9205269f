/- The walk of the law LetterOwn: it returns true at every input. -/
import Derived.Test.YtikfocabhffmmaaLStands
set_option linter.unusedVariables false
namespace Go.Proofs.Ytikfocabhffmmaa
open Go.RowKit PlainLetter

/-- The first n cells behind A are bytes, in a block from base on. -/
def Mine (base : Nat) (A : Option Addr) (n : Nat) (w : World) : Prop :=
  0 < n → ∃ g cur, A = some ⟨g, 0, none⟩ ∧ base ≤ g ∧ Holds w g 5 cur ∧ ∀ i, i < n → ∃ x : Int, cur[i]? = some (.int .u8 x) ∧ 0 ≤ x ∧ x ≤ 255

theorem Mine.of_owns {zs : List Int} {w : World} {e : Ending} {w' : World} (h : Owns zs w e w') (hz : Bytes zs) :
    ∃ A c, e = .returned (.slice A zs.length c) ∧ zs.length ≤ c ∧ c ≤ maxLen ∧ Mine w.heap.size A zs.length w' ∧ w.grownBy w' none := by
  obtain ⟨v, rfl, h1, h2⟩ := h
  obtain ⟨A, c, rfl, hc, hm⟩ := own_form h1
  refine ⟨A, c, rfl, hc, hm, fun hn => ?_, below_grown h2⟩
  obtain ⟨g, cap, cur, hv, hb, _, _, hH, _, hx⟩ := own_holds h1 hn
  injection hv with hA _ _
  exact ⟨g, cur, hA, hb, hH, fun i hi => ⟨_, hx i hi, hz i⟩⟩

theorem Mine.mono {base b : Nat} {A : Option Addr} {n : Nat} {w : World} (h : Mine base A n w) (hb : b ≤ base) : Mine b A n w := fun hn => by
  obtain ⟨g, cur, h1, h2, h3, h4⟩ := h hn
  exact ⟨g, cur, h1, by omega, h3, h4⟩

/-- One of them, and what stays when another byte is put in its place. -/
theorem Mine.at_ {base : Nat} {A : Option Addr} {n : Nat} {w : World} (h : Mine base A n w) {k : Nat} (hk : k < n) :
    ∃ g x, A = some ⟨g, 0, none⟩ ∧ base ≤ g ∧ w.cell? ⟨g, k, none⟩ = some (.int .u8 x) ∧ w.frozen? ⟨g, k, none⟩ = false ∧ g < w.heap.size ∧ 0 ≤ x ∧ x ≤ 255 ∧
      ∀ y, 0 ≤ y → y ≤ 255 → Mine base A n (w.setCell ⟨g, k, none⟩ (.int .u8 y)) := by
  obtain ⟨g, cur, rfl, h2, h3, h4⟩ := h (by omega)
  obtain ⟨x, hx, x0, x1⟩ := h4 k hk
  refine ⟨g, x, rfl, h2, (h3.cell k).trans hx, h3.free k, h3.lt, x0, x1, fun y y0 y1 _ => ⟨g, _, rfl, h2, h3.set k _, fun i hi => ?_⟩⟩
  have hki : k < cur.size := (Array.getElem?_eq_some_iff.1 hx).1
  by_cases hik : k = i
  · subst hik; exact ⟨y, by simp [hki], y0, y1⟩
  · rw [Array.getElem?_setIfInBounds_ne hik]; exact h4 i hi

set_option maxRecDepth 100000 in
set_option maxHeartbeats 4000000 in
theorem lown_walk (P : Option Addr) (c : Nat) (xss : List (List Int)) (w : World) (hB : ∀ i, Bytes (xss.getD i [])) (hP : Arrs w P xss) (hl : xss.length ≤ 9223372036854775807) :
    Calls Try.prog 7 #[.slice P xss.length c] w fun e w' => e = .returned (.bool true) ∧ w.grownBy w' none := by
  replace hP := hid hP
  replace hB := hid hB
  go_enter Try.func7, Try.ntmps7
  go_wp2_with fail
  refine (greatTexts_is P c xss w hP.out hl).mono ?_
  rintro e w1 ⟨rfl, rfl | ⟨rfl, h80, h3000⟩⟩
  · go_wp2_with fail
    refine (lwakes_true _).mono ?_
    rintro e w' ⟨rfl, hg⟩
    go_wp2_with fail
    go_ret
    exact ⟨rfl, hg⟩
  have hSm := hid (small_texts h80 h3000 hB.out)
  have hby := hid (bytes_flatten hB.out)
  go_wp2_with fail
  refine (refJoinTexts_is P c xss w (by omega) (by omega) hP.out).mono ?_
  rintro e w1 ho
  have hj2 := hid (fun w => letJoin_is P c xss w (by omega) (by omega))
  have hj3 := hid (fun w => refJoinTexts_is P c xss w (by omega) (by omega))
  generalize xss.flatten = jn at h3000 hby ho hj2 hj3
  obtain ⟨A1, c1, rfl, _, _, h1, hg1⟩ := ho.arr
  clear hB
  revert ho
  intro _
  have cv := conv_arr w1 A1 c1 jn h1
  have hG1 := hid hg1
  have hst : Hid (∀ w, Arr w .u8 A1 jn → True) := hid (fun _ _ => trivial)
  clear hg1 h1 hst
  generalize hsj : strOfNums jn = sj at cv
  replace hsj := hid hsj
  go_wp2_with fail
  clear cv
  refine (hj2.out w1 (hP.out.grown hG1.out)).mono ?_
  rintro e w2 ho
  obtain ⟨A2, c2, rfl, hc2, hm2, hM2, hg2⟩ := Mine.of_owns ho hby.out
  revert ho
  intro _
  unfold maxLen at hm2
  have hM := hid (hM2.mono hG1.out.size)
  have hG2 := hid (grown_trans hG1.out hg2)
  clear hM2 hg2 hG1
  go_wp2_with fail
  go_loopw [5] (fun i wr => ∃ k : Nat, k ≤ jn.length ∧ i = .int .i64 k ∧ w.grownBy wr none ∧ Mine w.heap.size A2 jn.length wr) (fun i _ => jn.length - (intOf i).toNat)
  case atStart => exact ⟨0, Nat.zero_le _, rfl, hG2.out, hM.out⟩
  case round =>
    obtain ⟨k, hk0, rfl, hG, hMk⟩ := hrel
    by_cases hlt : k < jn.length
    · obtain ⟨g, x, rfl, hbg, ck, fk, hlg, x0, x1, hset⟩ := hMk.at_ hlt
      obtain ⟨y0, y1, _⟩ := xor_u8 x 255 ⟨x0, x1⟩ (by omega) (by omega)
      have hM' := hid (hset _ y0 y1)
      have hG' := hid (grown_set (p := ⟨g, k, none⟩) hG (.inr hbg) (.int .u8 (bits BinOp.xor .u8 x 255)))
      clear hset y0 y1 hMk hM
      replace hG := hid hG
      go_wp2_with fail
      go_roundw
      case rel => exact ⟨k + 1, by omega, by go_num, hG'.out, hM'.out⟩
      case measure => simp [intOf]; omega
    · replace hG := hid hG
      clear hMk hM
      go_wp2_with fail
      go_loopw [6] (fun i wr => ∃ k : Nat, k ≤ xss.length ∧ i = .int .i64 k ∧ w.grownBy wr none) (fun i _ => xss.length - (intOf i).toNat)
      case atStart => exact ⟨0, Nat.zero_le _, rfl, hG.out⟩
      case round =>
        obtain ⟨k, hk0, rfl, hG⟩ := hrel
        by_cases hlt : k < xss.length
        · obtain ⟨b, off, Ai, ci, rfl, hb0, hcell0, hAi⟩ := hP.out.at_ hlt
          have hcell := ((gcell hG).1 b (off + k) hb0).trans hcell0
          have hAi' := hid (hAi.grown hG)
          obtain ⟨hxl, hxb⟩ := hSm.out.2 k
          replace hxb := hid hxb
          replace hG := hid hG
          clear hcell0 hAi
          generalize xss.getD k [] = xs at hcell hAi' hxl hxb
          go_wp2_with fail
          refine (letFolded_is Ai ci xs _ hxl hxb.out hAi'.out).mono ?_
          rintro e w3 ho
          obtain ⟨A3, c3, rfl, hc3, hm3, hM3, hg3⟩ := Mine.of_owns ho hxb.out.fold
          revert ho
          intro _
          unfold maxLen at hm3
          have hM := hid (hM3.mono hG.out.size)
          have hG3 := hid (grown_trans hG.out hg3)
          clear hM3 hg3 hcell hAi'
          have hfl : (xs.map fold).length ≤ 100000 := by rw [List.length_map]; exact hxl
          generalize (xs.map fold).length = n at hM hfl hc3 ⊢
          go_wp2_with fail
          go_loopw [8] (fun i wr => ∃ j : Nat, j ≤ n ∧ i = .int .i64 j ∧ w.grownBy wr none ∧ Mine w.heap.size A3 n wr) (fun i _ => n - (intOf i).toNat)
          case atStart => exact ⟨0, Nat.zero_le _, rfl, hG3.out, hM.out⟩
          case round =>
            obtain ⟨j, hj0, rfl, hG4, hMk⟩ := hrel
            by_cases hjn : j < n
            · obtain ⟨g, x, rfl, hbg, ck, fk, hlg, x0, x1, hset⟩ := hMk.at_ hjn
              obtain ⟨y0, y1, _⟩ := xor_u8 x 255 ⟨x0, x1⟩ (by omega) (by omega)
              have hM' := hid (hset _ y0 y1)
              have hG' := hid (grown_set (p := ⟨g, j, none⟩) hG4 (.inr hbg) (.int .u8 (bits BinOp.xor .u8 x 255)))
              clear hset y0 y1 hMk hM
              replace hG4 := hid hG4
              go_wp2_with fail
              go_roundw
              case rel => exact ⟨j + 1, by omega, by go_num, hG'.out, hM'.out⟩
              case measure => simp [intOf]; omega
            · replace hG4 := hid hG4
              clear hMk hM
              go_wp2_with fail
              go_roundw
              case rel => exact ⟨k + 1, by omega, by go_num, hG4.out⟩
              case measure => simp [intOf]; omega
        · replace hG := hid hG
          go_wp2_with fail
          refine (hj3.out _ (hP.out.grown hG.out)).mono ?_
          rintro e w3 ho
          obtain ⟨A4, c4, rfl, _, _, h4, hg4⟩ := ho.arr
          revert ho
          intro _
          have cv := conv_arr w3 A4 c4 jn h4
          rw [hsj.out] at cv
          have hG5 := hid (grown_trans hG.out hg4)
          clear hg4 h4
          go_wp2_with fail
          refine (lwakes_true _).mono ?_
          rintro e w' ⟨rfl, hg⟩
          go_wp2_with fail
          go_ret
          exact ⟨rfl, grown_trans hG5.out hg⟩

end Go.Proofs.Ytikfocabhffmmaa
