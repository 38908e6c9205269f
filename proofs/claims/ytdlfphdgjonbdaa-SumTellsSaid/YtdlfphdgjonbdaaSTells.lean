/- The walk of the law SumTells: it returns true at every input. -/
import Derived.Test.YtdlfphdgjonbdaaWakes
import Derived.Test.YtdlfphdgjonbdaaCame
set_option linter.unusedVariables false
namespace Go.Proofs.Ytdlfphdgjonbdaa
open Go.RowKit PlainSum

/-- What great tells: where it says no, the parts are few and short. -/
def GreatSays (xss : List (List Int)) (w : World) : Ending → World → Prop := fun e w' =>
  w = w' ∧ (e = .returned (.bool true) ∨ (e = .returned (.bool false) ∧ xss.length ≤ 80 ∧ ∀ i, (xss.getD i []).length ≤ 3000))

set_option maxRecDepth 100000 in
set_option maxHeartbeats 800000 in
theorem great_is (P : Option Addr) (c : Nat) (xss : List (List Int)) (w : World) (hP : Arrs w P xss) (hl : xss.length ≤ 9223372036854775807) :
    Calls Try.prog 7 #[.slice P xss.length c] w (GreatSays xss w) := by
  replace hP := hid hP
  go_enter Try.func7, Try.ntmps7
  go_wp2
  go_loop [3, 4] (fun s i => ∃ (k : Nat) (m : Int), k ≤ xss.length ∧ i = .int .i64 k ∧ s = .int .i64 m ∧ 0 ≤ m ∧ m ≤ 7000 ∧ (m ≤ 3000 → ∀ j, j < k → (xss.getD j []).length ≤ 3000)) (fun _ i => xss.length - (intOf i).toNat)
  case atStart => exact ⟨0, 0, by omega, rfl, rfl, by omega, by omega, fun _ j hj => by omega⟩
  case round =>
    obtain ⟨k, m, hk, rfl, rfl, hm0, hm1, hall⟩ := hrel
    replace hall := hid hall
    by_cases hlt : k < xss.length
    · by_cases h80 : (k : Int) ≤ 80
      · by_cases h3 : m ≤ 3000
        · obtain ⟨b, off, Ai, ci, rfl, hb, hcell, _⟩ := hP.out.at_ hlt
          have hstep : Hid (∀ m' : Int, m' = m + min ((xss.getD k []).length : Int) 4000 → m' ≤ 3000 → ∀ j, j < k + 1 → (xss.getD j []).length ≤ 3000) := by
            intro m' hm' h3' j hj
            by_cases hjk : j = k
            · subst hjk; omega
            · exact hall.out h3 j (by omega)
          have hxl : Hid (xss.getD k [] = xss.getD k []) := rfl
          generalize (xss.getD k []).length = ln at hcell hstep
          clear hxl
          have k0 : (0 : Int) ≤ (k : Int) := by omega
          have k1 : (k : Int) < (xss.length : Int) := by omega
          by_cases hmin : (ln : Int) ≤ 4000
          all_goals
            go_wp2
            go_round
            case rel => exact ⟨k + 1, m + min (ln : Int) 4000, by omega, by go_num, by first | (rw [Int.min_eq_left (by omega)]; done) | (rw [Int.min_eq_right (by omega)]; done) | (go_num), by omega, by omega, hstep.out _ rfl⟩
            case measure => simp [intOf]; omega
        · have h3' : 3000 < m := by omega
          by_cases hg : 80 < xss.length
          all_goals
            go_wp2
            go_ret
            exact ⟨rfl, .inl rfl⟩
      · have hg : 80 < xss.length := by omega
        go_wp2
        go_ret
        exact ⟨rfl, .inl rfl⟩
    · obtain rfl : k = xss.length := by omega
      by_cases hg : 80 < xss.length
      · go_wp2
        go_ret
        exact ⟨rfl, .inl rfl⟩
      · by_cases h3 : m ≤ 3000
        · have d1 : decide (80 < (xss.length : Int)) = false := by simp; omega
          have d2 : decide (3000 < m) = false := by simp; omega
          go_wp2
          go_ret
          exact ⟨rfl, .inr ⟨rfl, by omega, fun i => by
            by_cases hi : i < xss.length
            · exact hall.out h3 i hi
            · simp [List.getD, List.getElem?_eq_none (Nat.le_of_not_lt hi)]⟩⟩
        · go_wp2
          go_ret
          exact ⟨rfl, .inl rfl⟩

/-- A slice that reads as these bytes. -/
def isArrOf (zs : List Int) : Fact := fun v w => ∃ A c, v = .slice A zs.length c ∧ Arr w .u8 A zs
theorem stable_isArrOf (zs : List Int) : Stable (isArrOf zs) := fun _ _ _ ⟨A, c, h1, h2⟩ hg => ⟨A, c, h1, h2.grown hg⟩

/-- What Join tells, and how it ends. -/
def joined (a b : S) (n : Int) : S × Int := if mayJoin a b n = true then (join a b n, 0) else ((0, 0), 2)

theorem mayJoin_iff (a b : S) (n : Int) : mayJoin a b n = true ↔ right a = true ∧ right b = true ∧ 0 ≤ n ∧ n ≤ 2147483647 := by simp [mayJoin, and_assoc]

theorem sumJoin_is (A B C D n : Int) (w : World) :
    Calls Try.prog 9 #[.agg #[.int .i64 A, .int .i64 B], .agg #[.int .i64 C, .int .i64 D], .int .i64 n] w fun e w' =>
      e = .returned (.tuple #[.agg #[.int .i64 (joined (A, B) (C, D) n).1.1, .int .i64 (joined (A, B) (C, D) n).1.2], .int .i64 (joined (A, B) (C, D) n).2]) ∧ w.grownBy w' none := by
  cases h : mayJoin (A, B) (C, D) n with
  | true =>
    obtain ⟨h1, h2, h3, h4⟩ := (mayJoin_iff _ _ _).1 h
    rw [show joined (A, B) (C, D) n = (join (A, B) (C, D) n, 0) from if_pos h]
    exact sumJoin_yes A B C D n w h1 h2 h3 h4
  | false =>
    rw [show joined (A, B) (C, D) n = ((0, 0), 2) from if_neg (by simp [h])]
    exact sumJoin_no A B C D n w h

theorem refJoin_is (A B C D n : Int) (w : World) :
    Calls Try.prog 10 #[.agg #[.int .i64 A, .int .i64 B], .agg #[.int .i64 C, .int .i64 D], .int .i64 n] w fun e w' =>
      e = .returned (.tuple #[.agg #[.int .i64 (joined (A, B) (C, D) n).1.1, .int .i64 (joined (A, B) (C, D) n).1.2], .int .i64 (joined (A, B) (C, D) n).2]) ∧ w.grownBy w' none := by
  cases h : mayJoin (A, B) (C, D) n with
  | true =>
    obtain ⟨h1, h2, h3, h4⟩ := (mayJoin_iff _ _ _).1 h
    rw [show joined (A, B) (C, D) n = (join (A, B) (C, D) n, 0) from if_pos h]
    exact refJoin_yes A B C D n w h1 h2 h3 h4
  | false =>
    rw [show joined (A, B) (C, D) n = ((0, 0), 2) from if_neg (by simp [h])]
    exact refJoin_no A B C D n w h

/-- What Take tells. -/
def taken (bs : List Int) : Int × List Int × Int := if bs.length < 4 then (0, [], 10) else (number bs, bs.drop 4, 0)
def TakeTells (bs : List Int) (w : World) : Ending → World → Prop := fun e w' =>
  ∃ A c, e = .returned (.tuple #[.int .u32 (taken bs).1, .slice A (taken bs).2.1.length c, .int .i64 (taken bs).2.2]) ∧ Arr w' .u8 A (taken bs).2.1 ∧ w.grownBy w' none

theorem sumTake_is (A : Option Addr) (c : Nat) (bs : List Int) (w : World) (hl : bs.length ≤ 100000) (hc : bs.length ≤ c) (hc2 : c ≤ maxLen) (hb : Bytes bs) (hA : Arr w .u8 A bs) :
    Calls Try.prog 11 #[.slice A bs.length c] w (TakeTells bs w) := by
  unfold TakeTells
  by_cases h : bs.length < 4
  · rw [show taken bs = (0, [], 10) from if_pos h]
    exact (sumTakeFour_no A c bs w h).mono fun e w' ⟨⟨A', c', h1⟩, h2⟩ => ⟨A', c', h1, Arr.nil _, h2⟩
  · rw [show taken bs = (number bs, bs.drop 4, 0) from if_neg h]
    exact (sumTakeFour_yes A c bs w (by omega) hl hc hc2 hb hA).mono fun e w' ⟨A', c', h1, _, _, h2, h3⟩ => ⟨A', c', h1, h2, h3⟩

theorem refTake_is (A : Option Addr) (c : Nat) (bs : List Int) (w : World) (hl : bs.length ≤ 100000) (hc : bs.length ≤ c) (hc2 : c ≤ maxLen) (hb : Bytes bs) (hA : Arr w .u8 A bs) :
    Calls Try.prog 12 #[.slice A bs.length c] w (TakeTells bs w) := by
  unfold TakeTells
  by_cases h : bs.length < 4
  · rw [show taken bs = (0, [], 10) from if_pos h]
    exact (refTakeFour_no A c bs w h).mono fun e w' ⟨h1, h2⟩ => ⟨none, 0, h1, Arr.nil _, h2⟩
  · rw [show taken bs = (number bs, bs.drop 4, 0) from if_neg h]
    exact (refTakeFour_yes A c bs w (by omega) hl hc hc2 hb hA).mono fun e w' ⟨A', c', h1, _, _, h2, h3⟩ => ⟨A', c', h1, h2, h3⟩

theorem sumRight_is (A B : Int) (w : World) : Calls Try.prog 19 #[.agg #[.int .i64 A, .int .i64 B]] w fun e w' => e = .returned (.bool (right (A, B))) ∧ w.grownBy w' none := by
  cases h : right (A, B) with
  | true => exact sumRight_yes A B w h
  | false => exact sumRight_no A B w h
theorem refRight_is (A B : Int) (w : World) : Calls Try.prog 20 #[.agg #[.int .i64 A, .int .i64 B]] w fun e w' => e = .returned (.bool (right (A, B))) ∧ w.grownBy w' none := by
  cases h : right (A, B) with
  | true => exact refRight_yes A B w h
  | false => exact refRight_no A B w h

theorem tells_long (A B C D n v : Int) (P X : Option Addr) (c c2 : Nat) (xss : List (List Int)) (m : Nat) (w : World) (hm : 300 < m) (hP : Arrs w P xss) (hl : xss.length ≤ 9223372036854775807) :
    Calls Try.prog 3 #[.agg #[.int .i64 A, .int .i64 B], .agg #[.int .i64 C, .int .i64 D], .int .i64 n, .slice P xss.length c, .int .u32 v, .slice X m c2] w fun e w' => e = .returned (.bool true) ∧ w.grownBy w' none := by
  have hP' := hid hP
  clear hP
  go_enter Try.func3, Try.ntmps3
  go_wp2_with fail
  refine (great_is P c xss _ (hP'.out.grown (grown_alloc (grown_alloc (grown_refl _ _) _) _)) hl).mono ?_
  rintro e w1 ⟨rfl, rfl | ⟨rfl, _, _⟩⟩
  all_goals
    go_wp2_with fail
    refine (wakes_true _).mono ?_
    rintro e w' ⟨rfl, hg⟩
    go_wp2_with fail
    go_ret
    exact ⟨rfl, grown_trans (grown_alloc (grown_alloc (grown_refl _ _) _) _) hg⟩

set_option maxRecDepth 100000 in
set_option maxHeartbeats 4000000 in
theorem tells_short (A B C D n v : Int) (P X : Option Addr) (c c2 : Nat) (xss : List (List Int)) (bs : List Int) (w : World) (hm : bs.length ≤ 300) (hP : Arrs w P xss) (hl : xss.length ≤ 9223372036854775807) (hB : ∀ i, Bytes (xss.getD i []))
    (hv0 : 0 ≤ v) (hv1 : v ≤ 4294967295) (hc : bs.length ≤ c2) (hc2 : c2 ≤ maxLen) (hb : Bytes bs) (hX : Arr w .u8 X bs) :
    Calls Try.prog 3 #[.agg #[.int .i64 A, .int .i64 B], .agg #[.int .i64 C, .int .i64 D], .int .i64 n, .slice P xss.length c, .int .u32 v, .slice X bs.length c2] w fun e w' => e = .returned (.bool true) ∧ w.grownBy w' none := by
  replace hP := hid hP
  replace hX := hid hX
  replace hB := hid hB
  replace hb := hid hb
  go_enter Try.func3, Try.ntmps3
  go_wp2_with fail
  refine (great_is P c xss _ (hP.out.grown (grown_alloc (grown_alloc (grown_refl _ _) _) _)) hl).mono ?_
  rintro e w1 ⟨rfl, rfl | ⟨rfl, h80, h3000⟩⟩
  · go_wp2_with fail
    refine (wakes_true _).mono ?_
    rintro e w' ⟨rfl, hg⟩
    go_wp2_with fail
    go_ret
    exact ⟨rfl, grown_trans (grown_alloc (grown_alloc (grown_refl _ _) _) _) hg⟩
  have hSm : Hid (Small xss) := ⟨by omega, fun i => ⟨by have := h3000 i; omega, hB.out i⟩⟩
  clear h3000 hB
  have hS := Holds.new w 23 #[.int .i64 A, .int .i64 B]
  have hT := Holds.new (w.alloc (.cells #[.int .i64 A, .int .i64 B] 23)) 23 #[.int .i64 C, .int .i64 D]
  replace hS := hS.alloc (.cells #[.int .i64 C, .int .i64 D] 23)
  have hG := hid (grown_alloc (grown_alloc (grown_refl w none) (.cells #[.int .i64 A, .int .i64 B] 23)) (.cells #[.int .i64 C, .int .i64 D] 23))
  obtain ⟨W1, hW1⟩ : ∃ W1, (w.alloc (.cells #[.int .i64 A, .int .i64 B] 23)).alloc (.cells #[.int .i64 C, .int .i64 D] 23) = W1 := ⟨_, rfl⟩
  rw [hW1] at hS hT hG ⊢
  rw [show (w.alloc (.cells #[.int .i64 A, .int .i64 B] 23)).heap.size = w.heap.size + 1 by simp] at hT
  clear hW1
  generalize w.heap.size = gs at hS hT ⊢
  generalize gs + 1 = gt at hT ⊢
  obtain ⟨s0, s1⟩ := hold2 hS
  obtain ⟨t0, t1⟩ := hold2 hT
  have ls := hS.lt
  have lt := hT.lt
  replace hS := hid hS
  replace hT := hid hT
  go_wp2_with fail
  refine (sumJoin_is A B C D n _).mono ?_
  rintro e w2 ⟨rfl, hg⟩
  generalize hJ : joined (A, B) (C, D) n = J
  obtain ⟨⟨j1, j2⟩, j3⟩ := J
  simp only
  replace hJ := hid hJ
  replace hS := hid (hS.out.kept0 hg)
  replace hT := hid (hT.out.kept0 hg)
  replace hG := hid (grown_trans hG.out hg)
  clear s0 s1 t0 t1 ls lt hg
  obtain ⟨s0, s1⟩ := hold2 hS.out
  obtain ⟨t0, t1⟩ := hold2 hT.out
  have ls := hS.out.lt
  have lt := hT.out.lt
  go_wp2_with fail
  refine (refJoin_is A B C D n _).mono ?_
  rintro e w3 ⟨rfl, hg⟩
  rw [hJ.out]
  have h13 := hid ((Holds.new w2 23 #[.int .i64 j1, .int .i64 j2]).kept0 hg)
  replace hS := hid ((hS.out.alloc _).kept0 hg)
  replace hG := hid (grown_trans hG.out (grown_trans (grown_alloc (grown_refl w2 none) _) hg))
  clear s0 s1 t0 t1 ls lt hg hT
  generalize w2.heap.size = g13 at h13 ⊢
  have hX3 := hX.out.grown (grown_trans hG.out (grown_alloc (grown_refl w3 none) (.cells #[.int .i64 j1, .int .i64 j2] 23)))
  have l13 := h13.out.lt
  go_wp2_with fail
  refine (sumTake_is X c2 bs _ (by omega) hc hc2 hb.out hX3).mono ?_
  rintro e w4 ⟨X1, d1, rfl, hz1, hg⟩
  have h15 := hid ((Holds.new w3 23 #[.int .i64 j1, .int .i64 j2]).kept0 hg)
  replace h13 := hid ((h13.out.alloc _).kept0 hg)
  replace hS := hid ((hS.out.alloc _).kept0 hg)
  replace hG := hid (grown_trans hG.out (grown_trans (grown_alloc (grown_refl w3 none) _) hg))
  clear hX3 hg l13
  generalize w3.heap.size = g15 at h15 ⊢
  have hX4 := hX.out.grown hG.out
  generalize hTk : taken bs = Tk at hz1 ⊢
  obtain ⟨N, zs, E⟩ := Tk
  simp only at hz1 ⊢
  replace hTk := hid hTk
  replace hz1 := hid hz1
  go_wp2_with fail
  refine (refTake_is X c2 bs _ (by omega) hc hc2 hb.out hX4).mono ?_
  rintro e w5 ⟨X2, d2, rfl, hz2, hg⟩
  rw [hTk.out] at hz2 ⊢
  simp only at hz2 ⊢
  replace h15 := hid (h15.out.kept0 hg)
  replace h13 := hid (h13.out.kept0 hg)
  replace hS := hid (hS.out.kept0 hg)
  replace hG := hid (grown_trans hG.out hg)
  replace hz1 := hid (hz1.out.grown hg)
  clear hX4 hg
  obtain ⟨a0, a1⟩ := hold2 h13.out
  obtain ⟨b0, b1⟩ := hold2 h15.out
  have cv1 := conv_arr w5 X1 d1 zs hz1.out
  have cv2 := conv_arr w5 X2 d2 zs hz2
  clear hz1 hz2
  go_wp2_with fail
  clear cv1 cv2 a0 a1 b0 b1 h13 h15
  have hP5 : Hid (Arrs w5.drew P xss) := hP.out.grown (grown_drew hG.out)
  have hl4 : (four v).length = 4 := rfl
  generalize hff : four v = ff at hl4
  replace hff := hid hff
  replace hl4 := hid hl4
  obtain ⟨F1, F2, hF⟩ : ∃ x y, fed (A, B) xss.flatten = (x, y) := ⟨_, _, rfl⟩
  replace hF := hid hF
  apply wp_region_each [isv _, isv _, isv (.agg #[.int .i64 F1, .int .i64 F2]), isv _, isv _, isv (.agg #[.int .i64 F1, .int .i64 F2]), isv _, isv _, isv _, isv (.int .u32 (value (A, B))), isv _, isv (.int .u32 (value (A, B))), isv _, isv _, isv _, isv _, isv (.int .u32 (value (feed first xss.flatten))), isv _, isv (.int .u32 (value (feed first xss.flatten))), isv _, isv _, isv _, isv _, isv (.bool (right (A, B))), isv _, isv (.bool (right (A, B))), isv _, isv _, isv _, isv (.agg #[.int .i64 1, .int .i64 0]), isv (.agg #[.int .i64 1, .int .i64 0]), isv _, isv _, isv _, isv _, isArrOf ff, isv (.string (strOfNums ff)), isv _, isArrOf ff, isv (.string (strOfNums ff)), isv _, isv _, isv _, isv (.bool true), isv _, isv _]
    127 [some 82, some 83, some 84, some 85, some 86, some 87, some 88, some 89, some 90, some 91, some 92, some 93, some 94, some 95, some 96, some 97, some 98, some 99, some 100, some 101, some 102, some 103, some 104, some 105, some 106, some 107, some 108, some 109, some 110, some 111, some 112, some 113, some 114, some 115, some 116, some 117, some 118, some 119, some 120, some 121, some 122, some 123, some 124, some 125, some 126, some 12]
    [some 82, some 83, some 84, some 85, some 86, some 87, some 88, some 89, some 90, some 91, some 92, some 93, some 94, some 95, some 96, some 97, some 98, some 99, some 100, some 101, some 102, some 103, some 104, some 105, some 106, some 107, some 108, some 109, some 110, some 111, some 112, some 113, some 114, some 115, some 116, some 117, some 118, some 119, some 120, some 121, some 122, some 123, some 124, some 125, some 126, some 12]
    [[], [], [0, 1], [], [], [3, 4], [2, 5], [6], [7], [8, 7], [7], [10, 7], [9, 11, 7], [7, 12], [13], [14], [15, 14], [14], [17, 14], [16, 18, 14], [14, 19], [20], [21], [22, 21], [21], [24, 21], [23, 25, 21], [21, 26], [27], [28], [28], [29, 30, 28], [28, 31], [32], [33], [34, 33], [35, 33], [33], [37, 33], [38, 33], [36, 39, 33], [33, 40], [41], [42], [42, 43], [44]]
    [(3, .slice P xss.length c), (4, .int .u32 v), (6, .pointer (some ⟨gs, 0, none⟩))] (by kernel_rfl) rfl (by kernel_rfl) rfl rfl (by kernel_rfl) (OutsOk.cons rfl rfl (OutsOk.cons rfl rfl (OutsOk.cons rfl rfl OutsOk.nil))) ?st ?ob ?fin
  case ob =>
    refine Obs.consv rfl ?o0 (Obs.consv rfl ?o1 (Obs.consv rfl ?o2 (Obs.consv rfl ?o3 (Obs.consv rfl ?o4 (Obs.consv rfl ?o5 (Obs.consv rfl ?o6 (Obs.consv rfl ?o7 (Obs.consv rfl ?o8 (Obs.consv rfl ?o9 (Obs.consv rfl ?o10 (Obs.consv rfl ?o11 (Obs.consv rfl ?o12 (Obs.consv rfl ?o13 (Obs.consv rfl ?o14 (Obs.consv rfl ?o15 (Obs.consv rfl ?o16 (Obs.consv rfl ?o17 (Obs.consv rfl ?o18 (Obs.consv rfl ?o19 (Obs.consv rfl ?o20 (Obs.consv rfl ?o21 (Obs.consv rfl ?o22 (Obs.consv rfl ?o23 (Obs.consv rfl ?o24 (Obs.consv rfl ?o25 (Obs.consv rfl ?o26 (Obs.consv rfl ?o27 (Obs.consv rfl ?o28 (Obs.consv rfl ?o29 (Obs.consv rfl ?o30 (Obs.consv rfl ?o31 (Obs.consv rfl ?o32 (Obs.consv rfl ?o33 (Obs.consv rfl ?o34 (Obs.consv rfl ?o35 (Obs.consv rfl ?o36 (Obs.consv rfl ?o37 (Obs.consv rfl ?o38 (Obs.consv rfl ?o39 (Obs.consv rfl ?o40 (Obs.consv rfl ?o41 (Obs.consv rfl ?o42 (Obs.consv rfl ?o43 (Obs.consv rfl ?o44 (Obs.consv rfl ?o45 Obs.nil)))))))))))))))))))))))))))))))))))))))))))))
    case o0 =>
      go_light
      intro a w' hgw
      obtain ⟨p0, p1⟩ := hold2 (Holds.kept0 hgw hS.out.drew)
      replace hgw := hid hgw
      simp only [outThen, preThen, slotIs, factAt, isv, List.getElem?_cons_zero, List.getElem?_cons_succ, Option.getD_some, forall_eq]
      intros
      rename_i hK
      replace hK := hid hK
      simp only [wantedAt]
      go_simp
      exact hK.out _ _ rfl (grown_refl _ _)
    case o1 =>
      go_light
      intro a w' hgw
      obtain ⟨p0, p1⟩ := hold2 (Holds.kept0 hgw hS.out.drew)
      replace hgw := hid hgw
      simp only [outThen, preThen, slotIs, factAt, isv, List.getElem?_cons_zero, List.getElem?_cons_succ, Option.getD_some, forall_eq]
      intros
      rename_i hK
      replace hK := hid hK
      simp only [wantedAt]
      go_simp
      exact hK.out _ _ rfl (grown_refl _ _)
    case o2 =>
      go_light
      intro a w' hgw
      obtain ⟨p0, p1⟩ := hold2 (Holds.kept0 hgw hS.out.drew)
      replace hgw := hid hgw
      simp only [outThen, preThen, slotIs, factAt, isv, List.getElem?_cons_zero, List.getElem?_cons_succ, Option.getD_some, forall_eq]
      intros
      rename_i hK
      replace hK := hid hK
      have hPw := hP5.out.grown hgw.out
      replace hPw := hid hPw
      simp only [wantedAt]
      go_simp
      refine (sumFeed_is A B P c xss _ hPw.out hSm.out).mono ?_
      rintro e w9 ⟨rfl, hg⟩
      rw [hF.out]
      exact hK.out _ _ rfl hg
    case o3 =>
      go_light
      intro a w' hgw
      obtain ⟨p0, p1⟩ := hold2 (Holds.kept0 hgw hS.out.drew)
      replace hgw := hid hgw
      simp only [outThen, preThen, slotIs, factAt, isv, List.getElem?_cons_zero, List.getElem?_cons_succ, Option.getD_some, forall_eq]
      intros
      rename_i hK
      replace hK := hid hK
      simp only [wantedAt]
      go_simp
      exact hK.out _ _ rfl (grown_refl _ _)
    case o4 =>
      go_light
      intro a w' hgw
      obtain ⟨p0, p1⟩ := hold2 (Holds.kept0 hgw hS.out.drew)
      replace hgw := hid hgw
      simp only [outThen, preThen, slotIs, factAt, isv, List.getElem?_cons_zero, List.getElem?_cons_succ, Option.getD_some, forall_eq]
      intros
      rename_i hK
      replace hK := hid hK
      simp only [wantedAt]
      go_simp
      exact hK.out _ _ rfl (grown_refl _ _)
    case o5 =>
      go_light
      intro a w' hgw
      obtain ⟨p0, p1⟩ := hold2 (Holds.kept0 hgw hS.out.drew)
      replace hgw := hid hgw
      simp only [outThen, preThen, slotIs, factAt, isv, List.getElem?_cons_zero, List.getElem?_cons_succ, Option.getD_some, forall_eq]
      intros
      rename_i hK
      replace hK := hid hK
      have hPw := hP5.out.grown hgw.out
      replace hPw := hid hPw
      simp only [wantedAt]
      go_simp
      refine (refFeed_is A B P c xss _ hPw.out hSm.out).mono ?_
      rintro e w9 ⟨rfl, hg⟩
      rw [hF.out]
      exact hK.out _ _ rfl hg
    case o6 =>
      go_light
      intro a w' hgw
      obtain ⟨p0, p1⟩ := hold2 (Holds.kept0 hgw hS.out.drew)
      replace hgw := hid hgw
      simp only [outThen, preThen, slotIs, factAt, isv, List.getElem?_cons_zero, List.getElem?_cons_succ, Option.getD_some, forall_eq]
      intros
      rename_i hK
      replace hK := hid hK
      simp only [wantedAt]
      go_simp
      exact hK.out _ _ rfl (grown_refl _ _)
    case o7 =>
      go_light
      intro a w' hgw
      obtain ⟨p0, p1⟩ := hold2 (Holds.kept0 hgw hS.out.drew)
      replace hgw := hid hgw
      simp only [outThen, preThen, slotIs, factAt, isv, List.getElem?_cons_zero, List.getElem?_cons_succ, Option.getD_some, forall_eq]
      intros
      rename_i hK
      replace hK := hid hK
      simp only [wantedAt]
      go_simp
      exact hK.out _ _ rfl (grown_refl _ _)
    case o8 =>
      go_light
      intro a w' hgw
      obtain ⟨p0, p1⟩ := hold2 (Holds.kept0 hgw hS.out.drew)
      replace hgw := hid hgw
      simp only [outThen, preThen, slotIs, factAt, isv, List.getElem?_cons_zero, List.getElem?_cons_succ, Option.getD_some, forall_eq]
      intros
      rename_i hK
      replace hK := hid hK
      simp only [wantedAt]
      go_simp
      exact hK.out _ _ rfl (grown_refl _ _)
    case o9 =>
      go_light
      intro a w' hgw
      obtain ⟨p0, p1⟩ := hold2 (Holds.kept0 hgw hS.out.drew)
      replace hgw := hid hgw
      simp only [outThen, preThen, slotIs, factAt, isv, List.getElem?_cons_zero, List.getElem?_cons_succ, Option.getD_some, forall_eq]
      intros
      rename_i hK
      replace hK := hid hK
      simp only [wantedAt]
      go_simp
      refine (sumValue_is A B _).mono ?_
      rintro e w9 ⟨rfl, hg⟩
      exact hK.out _ _ rfl hg
    case o10 =>
      go_light
      intro a w' hgw
      obtain ⟨p0, p1⟩ := hold2 (Holds.kept0 hgw hS.out.drew)
      replace hgw := hid hgw
      simp only [outThen, preThen, slotIs, factAt, isv, List.getElem?_cons_zero, List.getElem?_cons_succ, Option.getD_some, forall_eq]
      intros
      rename_i hK
      replace hK := hid hK
      simp only [wantedAt]
      go_simp
      exact hK.out _ _ rfl (grown_refl _ _)
    case o11 =>
      go_light
      intro a w' hgw
      obtain ⟨p0, p1⟩ := hold2 (Holds.kept0 hgw hS.out.drew)
      replace hgw := hid hgw
      simp only [outThen, preThen, slotIs, factAt, isv, List.getElem?_cons_zero, List.getElem?_cons_succ, Option.getD_some, forall_eq]
      intros
      rename_i hK
      replace hK := hid hK
      simp only [wantedAt]
      go_simp
      refine (refValue_is A B _).mono ?_
      rintro e w9 ⟨rfl, hg⟩
      exact hK.out _ _ rfl hg
    case o12 =>
      go_light
      intro a w' hgw
      obtain ⟨p0, p1⟩ := hold2 (Holds.kept0 hgw hS.out.drew)
      replace hgw := hid hgw
      simp only [outThen, preThen, slotIs, factAt, isv, List.getElem?_cons_zero, List.getElem?_cons_succ, Option.getD_some, forall_eq]
      intros
      rename_i hK
      replace hK := hid hK
      simp only [wantedAt]
      go_simp
      exact hK.out _ _ rfl (grown_refl _ _)
    case o13 =>
      go_light
      intro a w' hgw
      obtain ⟨p0, p1⟩ := hold2 (Holds.kept0 hgw hS.out.drew)
      replace hgw := hid hgw
      simp only [outThen, preThen, slotIs, factAt, isv, List.getElem?_cons_zero, List.getElem?_cons_succ, Option.getD_some, forall_eq]
      intros
      rename_i hK
      replace hK := hid hK
      simp only [wantedAt]
      go_simp
      exact hK.out _ _ rfl (grown_refl _ _)
    case o14 =>
      go_light
      intro a w' hgw
      obtain ⟨p0, p1⟩ := hold2 (Holds.kept0 hgw hS.out.drew)
      replace hgw := hid hgw
      simp only [outThen, preThen, slotIs, factAt, isv, List.getElem?_cons_zero, List.getElem?_cons_succ, Option.getD_some, forall_eq]
      intros
      rename_i hK
      replace hK := hid hK
      simp only [wantedAt]
      go_simp
      exact hK.out _ _ rfl (grown_refl _ _)
    case o15 =>
      go_light
      intro a w' hgw
      obtain ⟨p0, p1⟩ := hold2 (Holds.kept0 hgw hS.out.drew)
      replace hgw := hid hgw
      simp only [outThen, preThen, slotIs, factAt, isv, List.getElem?_cons_zero, List.getElem?_cons_succ, Option.getD_some, forall_eq]
      intros
      rename_i hK
      replace hK := hid hK
      simp only [wantedAt]
      go_simp
      exact hK.out _ _ rfl (grown_refl _ _)
    case o16 =>
      go_light
      intro a w' hgw
      obtain ⟨p0, p1⟩ := hold2 (Holds.kept0 hgw hS.out.drew)
      replace hgw := hid hgw
      simp only [outThen, preThen, slotIs, factAt, isv, List.getElem?_cons_zero, List.getElem?_cons_succ, Option.getD_some, forall_eq]
      intros
      rename_i hK
      replace hK := hid hK
      have hPw := hP5.out.grown hgw.out
      replace hPw := hid hPw
      simp only [wantedAt]
      go_simp
      refine (sumOf_is P c xss _ hPw.out hSm.out).mono ?_
      rintro e w9 ⟨rfl, hg⟩
      exact hK.out _ _ rfl hg
    case o17 =>
      go_light
      intro a w' hgw
      obtain ⟨p0, p1⟩ := hold2 (Holds.kept0 hgw hS.out.drew)
      replace hgw := hid hgw
      simp only [outThen, preThen, slotIs, factAt, isv, List.getElem?_cons_zero, List.getElem?_cons_succ, Option.getD_some, forall_eq]
      intros
      rename_i hK
      replace hK := hid hK
      simp only [wantedAt]
      go_simp
      exact hK.out _ _ rfl (grown_refl _ _)
    case o18 =>
      go_light
      intro a w' hgw
      obtain ⟨p0, p1⟩ := hold2 (Holds.kept0 hgw hS.out.drew)
      replace hgw := hid hgw
      simp only [outThen, preThen, slotIs, factAt, isv, List.getElem?_cons_zero, List.getElem?_cons_succ, Option.getD_some, forall_eq]
      intros
      rename_i hK
      replace hK := hid hK
      have hPw := hP5.out.grown hgw.out
      replace hPw := hid hPw
      simp only [wantedAt]
      go_simp
      refine (refOf_is P c xss _ hPw.out hSm.out).mono ?_
      rintro e w9 ⟨rfl, hg⟩
      exact hK.out _ _ rfl hg
    case o19 =>
      go_light
      intro a w' hgw
      obtain ⟨p0, p1⟩ := hold2 (Holds.kept0 hgw hS.out.drew)
      replace hgw := hid hgw
      simp only [outThen, preThen, slotIs, factAt, isv, List.getElem?_cons_zero, List.getElem?_cons_succ, Option.getD_some, forall_eq]
      intros
      rename_i hK
      replace hK := hid hK
      simp only [wantedAt]
      go_simp
      exact hK.out _ _ rfl (grown_refl _ _)
    case o20 =>
      go_light
      intro a w' hgw
      obtain ⟨p0, p1⟩ := hold2 (Holds.kept0 hgw hS.out.drew)
      replace hgw := hid hgw
      simp only [outThen, preThen, slotIs, factAt, isv, List.getElem?_cons_zero, List.getElem?_cons_succ, Option.getD_some, forall_eq]
      intros
      rename_i hK
      replace hK := hid hK
      simp only [wantedAt]
      go_simp
      exact hK.out _ _ rfl (grown_refl _ _)
    case o21 =>
      go_light
      intro a w' hgw
      obtain ⟨p0, p1⟩ := hold2 (Holds.kept0 hgw hS.out.drew)
      replace hgw := hid hgw
      simp only [outThen, preThen, slotIs, factAt, isv, List.getElem?_cons_zero, List.getElem?_cons_succ, Option.getD_some, forall_eq]
      intros
      rename_i hK
      replace hK := hid hK
      simp only [wantedAt]
      go_simp
      exact hK.out _ _ rfl (grown_refl _ _)
    case o22 =>
      go_light
      intro a w' hgw
      obtain ⟨p0, p1⟩ := hold2 (Holds.kept0 hgw hS.out.drew)
      replace hgw := hid hgw
      simp only [outThen, preThen, slotIs, factAt, isv, List.getElem?_cons_zero, List.getElem?_cons_succ, Option.getD_some, forall_eq]
      intros
      rename_i hK
      replace hK := hid hK
      simp only [wantedAt]
      go_simp
      exact hK.out _ _ rfl (grown_refl _ _)
    case o23 =>
      go_light
      intro a w' hgw
      obtain ⟨p0, p1⟩ := hold2 (Holds.kept0 hgw hS.out.drew)
      replace hgw := hid hgw
      simp only [outThen, preThen, slotIs, factAt, isv, List.getElem?_cons_zero, List.getElem?_cons_succ, Option.getD_some, forall_eq]
      intros
      rename_i hK
      replace hK := hid hK
      simp only [wantedAt]
      go_simp
      refine (sumRight_is A B _).mono ?_
      rintro e w9 ⟨rfl, hg⟩
      exact hK.out _ _ rfl hg
    case o24 =>
      go_light
      intro a w' hgw
      obtain ⟨p0, p1⟩ := hold2 (Holds.kept0 hgw hS.out.drew)
      replace hgw := hid hgw
      simp only [outThen, preThen, slotIs, factAt, isv, List.getElem?_cons_zero, List.getElem?_cons_succ, Option.getD_some, forall_eq]
      intros
      rename_i hK
      replace hK := hid hK
      simp only [wantedAt]
      go_simp
      exact hK.out _ _ rfl (grown_refl _ _)
    case o25 =>
      go_light
      intro a w' hgw
      obtain ⟨p0, p1⟩ := hold2 (Holds.kept0 hgw hS.out.drew)
      replace hgw := hid hgw
      simp only [outThen, preThen, slotIs, factAt, isv, List.getElem?_cons_zero, List.getElem?_cons_succ, Option.getD_some, forall_eq]
      intros
      rename_i hK
      replace hK := hid hK
      simp only [wantedAt]
      go_simp
      refine (refRight_is A B _).mono ?_
      rintro e w9 ⟨rfl, hg⟩
      exact hK.out _ _ rfl hg
    case o26 =>
      go_light
      intro a w' hgw
      obtain ⟨p0, p1⟩ := hold2 (Holds.kept0 hgw hS.out.drew)
      replace hgw := hid hgw
      simp only [outThen, preThen, slotIs, factAt, isv, List.getElem?_cons_zero, List.getElem?_cons_succ, Option.getD_some, forall_eq]
      intros
      rename_i hK
      replace hK := hid hK
      simp only [wantedAt]
      go_simp
      exact hK.out _ _ rfl (grown_refl _ _)
    case o27 =>
      go_light
      intro a w' hgw
      obtain ⟨p0, p1⟩ := hold2 (Holds.kept0 hgw hS.out.drew)
      replace hgw := hid hgw
      simp only [outThen, preThen, slotIs, factAt, isv, List.getElem?_cons_zero, List.getElem?_cons_succ, Option.getD_some, forall_eq]
      intros
      rename_i hK
      replace hK := hid hK
      simp only [wantedAt]
      go_simp
      exact hK.out _ _ rfl (grown_refl _ _)
    case o28 =>
      go_light
      intro a w' hgw
      obtain ⟨p0, p1⟩ := hold2 (Holds.kept0 hgw hS.out.drew)
      replace hgw := hid hgw
      simp only [outThen, preThen, slotIs, factAt, isv, List.getElem?_cons_zero, List.getElem?_cons_succ, Option.getD_some, forall_eq]
      intros
      rename_i hK
      replace hK := hid hK
      simp only [wantedAt]
      go_simp
      exact hK.out _ _ rfl (grown_refl _ _)
    case o29 =>
      go_light
      intro a w' hgw
      obtain ⟨p0, p1⟩ := hold2 (Holds.kept0 hgw hS.out.drew)
      replace hgw := hid hgw
      simp only [outThen, preThen, slotIs, factAt, isv, List.getElem?_cons_zero, List.getElem?_cons_succ, Option.getD_some, forall_eq]
      intros
      rename_i hK
      replace hK := hid hK
      simp only [wantedAt]
      go_simp
      refine (sumNew_is _).mono ?_
      rintro e w9 ⟨rfl, hg⟩
      exact hK.out _ _ rfl hg
    case o30 =>
      go_light
      intro a w' hgw
      obtain ⟨p0, p1⟩ := hold2 (Holds.kept0 hgw hS.out.drew)
      replace hgw := hid hgw
      simp only [outThen, preThen, slotIs, factAt, isv, List.getElem?_cons_zero, List.getElem?_cons_succ, Option.getD_some, forall_eq]
      intros
      rename_i hK
      replace hK := hid hK
      simp only [wantedAt]
      go_simp
      refine (refNew_is _).mono ?_
      rintro e w9 ⟨rfl, hg⟩
      exact hK.out _ _ rfl hg
    case o31 =>
      go_light
      intro a w' hgw
      obtain ⟨p0, p1⟩ := hold2 (Holds.kept0 hgw hS.out.drew)
      replace hgw := hid hgw
      simp only [outThen, preThen, slotIs, factAt, isv, List.getElem?_cons_zero, List.getElem?_cons_succ, Option.getD_some, forall_eq]
      intros
      rename_i hK
      replace hK := hid hK
      simp only [wantedAt]
      go_simp
      exact hK.out _ _ rfl (grown_refl _ _)
    case o32 =>
      go_light
      intro a w' hgw
      obtain ⟨p0, p1⟩ := hold2 (Holds.kept0 hgw hS.out.drew)
      replace hgw := hid hgw
      simp only [outThen, preThen, slotIs, factAt, isv, List.getElem?_cons_zero, List.getElem?_cons_succ, Option.getD_some, forall_eq]
      intros
      rename_i hK
      replace hK := hid hK
      simp only [wantedAt]
      go_simp
      exact hK.out _ _ rfl (grown_refl _ _)
    case o33 =>
      go_light
      intro a w' hgw
      obtain ⟨p0, p1⟩ := hold2 (Holds.kept0 hgw hS.out.drew)
      replace hgw := hid hgw
      simp only [outThen, preThen, slotIs, factAt, isv, List.getElem?_cons_zero, List.getElem?_cons_succ, Option.getD_some, forall_eq]
      intros
      rename_i hK
      replace hK := hid hK
      simp only [wantedAt]
      go_simp
      exact hK.out _ _ rfl (grown_refl _ _)
    case o34 =>
      go_light
      intro a w' hgw
      obtain ⟨p0, p1⟩ := hold2 (Holds.kept0 hgw hS.out.drew)
      replace hgw := hid hgw
      simp only [outThen, preThen, slotIs, factAt, isv, List.getElem?_cons_zero, List.getElem?_cons_succ, Option.getD_some, forall_eq]
      intros
      rename_i hK
      replace hK := hid hK
      simp only [wantedAt]
      go_simp
      exact hK.out _ _ rfl (grown_refl _ _)
    case o35 =>
      go_light
      intro a w' hgw
      obtain ⟨p0, p1⟩ := hold2 (Holds.kept0 hgw hS.out.drew)
      replace hgw := hid hgw
      simp only [outThen, preThen, slotIs, factAt, isv, List.getElem?_cons_zero, List.getElem?_cons_succ, Option.getD_some, forall_eq]
      intros
      rename_i hK
      replace hK := hid hK
      simp only [wantedAt]
      go_simp
      refine (sumFour_is v _ hv0 hv1).mono ?_
      rintro e w9 ⟨X9, d9, rfl, _, _, h9, hg⟩
      rw [hff.out] at h9 ⊢
      exact hK.out _ _ ⟨X9, d9, rfl, h9⟩ hg
    case o36 =>
      go_light
      intro a w' hgw
      obtain ⟨p0, p1⟩ := hold2 (Holds.kept0 hgw hS.out.drew)
      replace hgw := hid hgw
      simp only [outThen, preThen, slotIs, factAt, isv, List.getElem?_cons_zero, List.getElem?_cons_succ, Option.getD_some, forall_eq]
      intro _ _ _ v1 h1 hv hq K hK
      replace hK := hid hK
      obtain ⟨X9, d9, rfl, h9⟩ := h1
      have cv := conv_arr w' X9 d9 ff h9
      clear h9
      simp only [wantedAt]
      go_simp
      exact hK.out _ _ rfl (grown_refl _ _)
    case o37 =>
      go_light
      intro a w' hgw
      obtain ⟨p0, p1⟩ := hold2 (Holds.kept0 hgw hS.out.drew)
      replace hgw := hid hgw
      simp only [outThen, preThen, slotIs, factAt, isv, List.getElem?_cons_zero, List.getElem?_cons_succ, Option.getD_some, forall_eq]
      intros
      rename_i hK
      replace hK := hid hK
      simp only [wantedAt]
      go_simp
      exact hK.out _ _ rfl (grown_refl _ _)
    case o38 =>
      go_light
      intro a w' hgw
      obtain ⟨p0, p1⟩ := hold2 (Holds.kept0 hgw hS.out.drew)
      replace hgw := hid hgw
      simp only [outThen, preThen, slotIs, factAt, isv, List.getElem?_cons_zero, List.getElem?_cons_succ, Option.getD_some, forall_eq]
      intros
      rename_i hK
      replace hK := hid hK
      simp only [wantedAt]
      go_simp
      refine (refFour_is v _ hv0 hv1).mono ?_
      rintro e w9 ⟨X9, d9, rfl, _, _, h9, hg⟩
      rw [hff.out] at h9 ⊢
      exact hK.out _ _ ⟨X9, d9, rfl, h9⟩ hg
    case o39 =>
      go_light
      intro a w' hgw
      obtain ⟨p0, p1⟩ := hold2 (Holds.kept0 hgw hS.out.drew)
      replace hgw := hid hgw
      simp only [outThen, preThen, slotIs, factAt, isv, List.getElem?_cons_zero, List.getElem?_cons_succ, Option.getD_some, forall_eq]
      intro _ _ _ v1 h1 hv hq K hK
      replace hK := hid hK
      obtain ⟨X9, d9, rfl, h9⟩ := h1
      have cv := conv_arr w' X9 d9 ff h9
      clear h9
      simp only [wantedAt]
      go_simp
      exact hK.out _ _ rfl (grown_refl _ _)
    case o40 =>
      go_light
      intro a w' hgw
      obtain ⟨p0, p1⟩ := hold2 (Holds.kept0 hgw hS.out.drew)
      replace hgw := hid hgw
      simp only [outThen, preThen, slotIs, factAt, isv, List.getElem?_cons_zero, List.getElem?_cons_succ, Option.getD_some, forall_eq]
      intros
      rename_i hK
      replace hK := hid hK
      simp only [wantedAt]
      go_simp
      exact hK.out _ _ rfl (grown_refl _ _)
    case o41 =>
      go_light
      intro a w' hgw
      obtain ⟨p0, p1⟩ := hold2 (Holds.kept0 hgw hS.out.drew)
      replace hgw := hid hgw
      simp only [outThen, preThen, slotIs, factAt, isv, List.getElem?_cons_zero, List.getElem?_cons_succ, Option.getD_some, forall_eq]
      intros
      rename_i hK
      replace hK := hid hK
      simp only [wantedAt]
      go_simp
      exact hK.out _ _ rfl (grown_refl _ _)
    case o42 =>
      go_light
      intro a w' hgw
      obtain ⟨p0, p1⟩ := hold2 (Holds.kept0 hgw hS.out.drew)
      replace hgw := hid hgw
      simp only [outThen, preThen, slotIs, factAt, isv, List.getElem?_cons_zero, List.getElem?_cons_succ, Option.getD_some, forall_eq]
      intros
      rename_i hK
      replace hK := hid hK
      simp only [wantedAt]
      go_simp
      exact hK.out _ _ rfl (grown_refl _ _)
    case o43 =>
      go_light
      intro a w' hgw
      obtain ⟨p0, p1⟩ := hold2 (Holds.kept0 hgw hS.out.drew)
      replace hgw := hid hgw
      simp only [outThen, preThen, slotIs, factAt, isv, List.getElem?_cons_zero, List.getElem?_cons_succ, Option.getD_some, forall_eq]
      intros
      rename_i hK
      replace hK := hid hK
      simp only [wantedAt]
      go_simp
      refine (wakes_true _).mono ?_
      rintro e w9 ⟨rfl, hg⟩
      exact hK.out _ _ rfl hg
    case o44 =>
      go_light
      intro a w' hgw
      obtain ⟨p0, p1⟩ := hold2 (Holds.kept0 hgw hS.out.drew)
      replace hgw := hid hgw
      simp only [outThen, preThen, slotIs, factAt, isv, List.getElem?_cons_zero, List.getElem?_cons_succ, Option.getD_some, forall_eq]
      intros
      rename_i hK
      replace hK := hid hK
      simp only [wantedAt]
      go_simp
      exact hK.out _ _ rfl (grown_refl _ _)
    case o45 =>
      go_light
      intro a w' hgw
      obtain ⟨p0, p1⟩ := hold2 (Holds.kept0 hgw hS.out.drew)
      replace hgw := hid hgw
      simp only [outThen, preThen, slotIs, factAt, isv, List.getElem?_cons_zero, List.getElem?_cons_succ, Option.getD_some, forall_eq]
      intros
      rename_i hK
      replace hK := hid hK
      simp only [wantedAt]
      go_simp
      exact hK.out _ _ rfl (grown_refl _ _)
  case st =>
    repeat (first | exact AllStable.nil | (refine AllStable.cons ?_ ?_; focus (first | exact stable_isv _ | exact stable_isBytes _ | exact stable_isRow1 _ | exact stable_isRowOf _ _ | exact stable_isVar _ | exact stable_isVarOf _ _ _ | exact stable_isArrOf _)))
  case fin =>
    intro w8 hgw
    simp only [finalIn, factAt, isv, List.getElem?_cons_zero, List.getElem?_cons_succ, Option.getD_some, forall_eq, slotIs, subj]
    rintro v1 ⟨X8, d8, rfl, _⟩ v2 ⟨X9, d9, rfl, _⟩
    simp only [Act.put, List.setIfInBounds_toArray, List.set_cons_zero, List.set_cons_succ]
    replace hG := hid (grown_trans (grown_drew hG.out) hgw)
    clear hgw
    go_wp2_with fail
    go_ret
    exact ⟨rfl, hG.out⟩

/-- **The law SumTells, walked.** -/
theorem tells_walk (A B C D n v : Int) (P X : Option Addr) (c c2 : Nat) (xss : List (List Int)) (bs : List Int) (w : World) (hP : Arrs w P xss) (hl : xss.length ≤ 9223372036854775807) (hB : ∀ i, Bytes (xss.getD i []))
    (hv0 : 0 ≤ v) (hv1 : v ≤ 4294967295) (hc : bs.length ≤ c2) (hc2 : c2 ≤ maxLen) (hb : Bytes bs) (hX : Arr w .u8 X bs) :
    Calls Try.prog 3 #[.agg #[.int .i64 A, .int .i64 B], .agg #[.int .i64 C, .int .i64 D], .int .i64 n, .slice P xss.length c, .int .u32 v, .slice X bs.length c2] w fun e w' => e = .returned (.bool true) ∧ w.grownBy w' none := by
  by_cases hm : 300 < bs.length
  · exact tells_long A B C D n v P X c c2 xss bs.length w hm hP hl
  · exact tells_short A B C D n v P X c c2 xss bs w (by omega) hP hl hB hv0 hv1 hc hc2 hb hX

end Go.Proofs.Ytdlfphdgjonbdaa
