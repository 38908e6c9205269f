/- The document's own answer: bytes folded, texts that are the same. The document's own answer: texts that are the same. The document's own answer: which word a text is. Package letter: two bytes alike, folded or as they are; the judge; the iterators. Package letter: two texts side by side, for a loop body that may stop; are they the same?. -/
import Derived.Test.YtojbkhheaondhaaK7
import Derived.Test.YtojbkhheaondhaaK1
import Derived.StillTailTactics
import Derived.Deep.Light
import Derived.Test.YtojbkhheaondhaaK8
import Derived.Shelf.Abstract
import Derived.Shelf.RegionOpen
import Derived.OwnWalkIn
import Derived.TacticsInMore
import Derived.LoopNIn
import Derived.LoopIn
import Derived.Outline
set_option linter.unusedSimpArgs false
set_option linter.unusedVariables false
set_option maxRecDepth 100000
namespace Go.Proofs.Ytojbkhheaondhaa
open Go.RowKit PlainLetter

theorem refFold_is (c : Int) (w : World) (h0 : 0 ≤ c) (h1 : c ≤ 255) : Calls Try.prog 69 #[.int .u8 c] w fun e w' => e = .returned (.int .u8 (fold c)) ∧ w = w' := by
  by_cases h : 65 ≤ c ∧ c ≤ 90
  · have hf := hid (fold_in c h)
    obtain ⟨h2, h3⟩ := h
    have hw : IntKind.u8.wrap (c + 32) = c + 32 := by simp [IntKind.wrap, IntKind.bits, IntKind.signed]; omega
    go_enter Try.func69, Try.ntmps69
    go_wp2
    go_ret
    exact ⟨by rw [hf.out]; rfl, rfl⟩
  · have hf := hid (fold_out c h)
    by_cases h2 : 65 ≤ c
    · have h3 : ¬ c ≤ 90 := by omega
      clear h
      go_enter Try.func69, Try.ntmps69
      go_wp2
      go_ret
      exact ⟨by rw [hf.out]; rfl, rfl⟩
    · clear h
      go_enter Try.func69, Try.ntmps69
      go_wp2
      go_ret
      exact ⟨by rw [hf.out]; rfl, rfl⟩

theorem map_take_succ (f : Int → Int) (xs : List Int) (k : Nat) (h : k < xs.length) : (xs.take (k + 1)).map f = (xs.take k).map f ++ [f (xs.getD k 0)] := by rw [take_getD xs k 0 h, List.map_append]; rfl

set_option maxHeartbeats 800000 in
theorem refFolded_is (A : Option Addr) (c : Nat) (xs : List Int) (w : World) (hl : xs.length ≤ 100000) (hb : Bytes xs) (hA : Arr w .u8 A xs) :
    Calls Try.prog 57 #[.slice A xs.length c] w (Owns (xs.map fold) w) := by
  obtain ⟨i0, hi0, hz0, hz1, hz2⟩ := info_parts Try.info5
  replace hb := hid hb
  replace hA := hid hA
  go_enter Try.func57, Try.ntmps57
  go_wp2
  go_loopw [3, 4] (fun v i wr => ∃ k : Nat, k ≤ xs.length ∧ i = .int .i64 k ∧ wr.ownsRow w.heap.size 5 1 v ((xs.take k).map fold).length (((xs.take k).map fold).map (Value.int .u8)) ∧ Below w.heap.size w wr) (fun _ i _ => xs.length - (intOf i).toNat)
  case atStart => exact ⟨0, Nat.zero_le _, rfl, by simpa using World.ownsRow_nil _ _ _ _, Below.refl _ _⟩
  case round =>
    obtain ⟨k, hk, rfl, hown, hB⟩ := hrel
    by_cases hlt : k < xs.length
    · obtain ⟨b, off, rfl, hb0, hc⟩ := (hA.out.grown (below_grown hB)).at_ hlt
      have hck := hc k hlt
      obtain ⟨hy0, hy1⟩ := hb.out k
      have hT := hid (map_take_succ fold xs k hlt)
      have hlen : ((xs.take k).map fold).length = k := by simp; omega
      clear hc
      generalize xs.getD k 0 = y at hck hy0 hy1 hT
      generalize (xs.take k).map fold = zs at hown hT hlen
      have hlen' := hid hlen
      replace hT := hid hT.out
      replace hown := hid hown
      have hz : zs.length ≤ 1099511627776 := by omega
      have hsz := hB.size
      replace hB := hid hB
      clear hlen
      go_wp2_with (first
        | (go_at_call 69; refine (refFold_is y _ hy0 hy1).mono ?_; rintro e w' ⟨rfl, rfl⟩)
        | (at_builtin; refine wpList_push rfl _ _ 28 rfl w.heap.size 5 i0 .u8 1 Try.underlying28 hi0 hz0 hz1 hz2 _ zs (fold y) _ hown.out rfl rfl (by decide) hz hsz ?_; intro v' w1 hrow1 hB1))
      go_roundw
      case rel => exact ⟨k + 1, by omega, by go_num, by rw [hT.out]; exact hrow1, hB.out.trans hB1⟩
      case measure => simp [intOf]; omega
    · obtain rfl : k = xs.length := by omega
      rw [List.take_length] at hown
      go_wp2
      go_ret
      exact ⟨_, rfl, hown, hB⟩

end Go.Proofs.Ytojbkhheaondhaa

namespace Go.Proofs.Ytojbkhheaondhaa
open Go.RowKit PlainLetter

theorem Bytes.fold {xs : List Int} (h : Bytes xs) : Bytes (xs.map fold) := fun k => by
  by_cases hk : k < xs.length
  · have := fold_byte (xs.getD k 0) (h k)
    simpa [List.getD, hk] using this
  · simp [List.getD, List.getElem?_eq_none (Nat.le_of_not_lt hk)]

set_option maxHeartbeats 800000 in
theorem refSame_is (f : Bool) (A B : Option Addr) (c d : Nat) (a b : List Int) (w : World) (hla : a.length ≤ 100000) (hlb : b.length ≤ 100000) (ha : Bytes a) (hb : Bytes b) (hA : Arr w .u8 A a) (hB : Arr w .u8 B b) :
    Calls Try.prog 41 #[.bool f, .slice A a.length c, .slice B b.length d] w fun e w' => e = .returned (.bool (same f a b)) ∧ w.grownBy w' none := by
  cases f with
  | false =>
    have hs := hid (str_eq a b ha hb)
    have hr := hid (same_false a b)
    have cv1 := conv_arr w A c a hA
    have cv2 := conv_arr w B d b hB
    clear ha hb hA hB
    generalize strOfNums a = sa at cv1 hs
    generalize strOfNums b = sb at cv2 hs
    go_enter Try.func41, Try.ntmps41
    go_wp2
    go_ret
    exact ⟨by rw [hr.out, ← hs.out]; rfl, grown_refl _ _⟩
  | true =>
    have hs := hid (str_eq (a.map fold) (b.map fold) ha.fold hb.fold)
    have hr := hid (same_true a b)
    replace ha := hid ha
    replace hb := hid hb
    have hA' : Hid (Arr w.drew .u8 A a) := hA
    have hB' : Hid (Arr w.drew .u8 B b) := hB
    clear hA hB
    go_enter Try.func41, Try.ntmps41
    go_wp2
    apply wp_region_each [isv _, isArrOf (a.map fold), isv (.string (strOfNums (a.map fold))), isv _, isArrOf (b.map fold), isv (.string (strOfNums (b.map fold))), isv _, isv _]
      20 [some 8, some 9, some 10, some 11, some 12, some 13, some 14, some 6]
      [some 8, some 9, some 10, some 11, some 12, some 13, some 14, some 6]
      [[], [0], [1], [], [3], [4], [2, 5], [6]]
      [(1, .slice A a.length c), (2, .slice B b.length d)] (by kernel_rfl) rfl (by kernel_rfl) rfl rfl (by kernel_rfl) (OutsOk.cons rfl rfl (OutsOk.cons rfl rfl OutsOk.nil)) ?st ?ob ?fin
    case ob =>
      refine Obs.consv rfl ?o0 (Obs.consv rfl ?o1 (Obs.consv rfl ?o2 (Obs.consv rfl ?o3 (Obs.consv rfl ?o4 (Obs.consv rfl ?o5 (Obs.consv rfl ?o6 (Obs.consv rfl ?o7 Obs.nil)))))))
      case o0 =>
        go_light
        intro ac w' hgw
        replace hgw := hid hgw
        simp only [outThen, preThen, slotIs, factAt, isv, List.getElem?_cons_zero, List.getElem?_cons_succ, Option.getD_some, forall_eq]
        intros
        rename_i hK
        replace hK := hid hK
        simp only [wantedAt]
        go_simp
        exact hK.out _ _ rfl (grown_refl _ _)
      case o1 =>
        go_light
        intro ac w' hgw
        replace hgw := hid hgw
        simp only [outThen, preThen, slotIs, factAt, isv, List.getElem?_cons_zero, List.getElem?_cons_succ, Option.getD_some, forall_eq]
        intros
        rename_i hK
        replace hK := hid hK
        simp only [wantedAt]
        go_simp
        refine (refFolded_is A c a _ hla ha.out (hA'.out.grown hgw.out)).mono ?_
        rintro e w9 ho
        obtain ⟨X9, d9, rfl, _, _, h9, hg⟩ := ho.arr
        exact hK.out _ _ ⟨X9, d9, rfl, h9⟩ hg
      case o2 =>
        go_light
        intro ac w' hgw
        replace hgw := hid hgw
        simp only [outThen, preThen, slotIs, factAt, isv, List.getElem?_cons_zero, List.getElem?_cons_succ, Option.getD_some, forall_eq]
        intro _ _ v1 h1 hv K hK
        replace hK := hid hK
        obtain ⟨X9, d9, rfl, h9⟩ := h1
        have cv := conv_arr w' X9 d9 (a.map fold) h9
        simp only [List.length_map] at cv hv
        clear h9
        simp only [wantedAt]
        go_simp
        exact hK.out _ _ rfl (grown_refl _ _)
      case o3 =>
        go_light
        intro ac w' hgw
        replace hgw := hid hgw
        simp only [outThen, preThen, slotIs, factAt, isv, List.getElem?_cons_zero, List.getElem?_cons_succ, Option.getD_some, forall_eq]
        intros
        rename_i hK
        replace hK := hid hK
        simp only [wantedAt]
        go_simp
        exact hK.out _ _ rfl (grown_refl _ _)
      case o4 =>
        go_light
        intro ac w' hgw
        replace hgw := hid hgw
        simp only [outThen, preThen, slotIs, factAt, isv, List.getElem?_cons_zero, List.getElem?_cons_succ, Option.getD_some, forall_eq]
        intros
        rename_i hK
        replace hK := hid hK
        simp only [wantedAt]
        go_simp
        refine (refFolded_is B d b _ hlb hb.out (hB'.out.grown hgw.out)).mono ?_
        rintro e w9 ho
        obtain ⟨X9, d9, rfl, _, _, h9, hg⟩ := ho.arr
        exact hK.out _ _ ⟨X9, d9, rfl, h9⟩ hg
      case o5 =>
        go_light
        intro ac w' hgw
        replace hgw := hid hgw
        simp only [outThen, preThen, slotIs, factAt, isv, List.getElem?_cons_zero, List.getElem?_cons_succ, Option.getD_some, forall_eq]
        intro _ _ v1 h1 hv K hK
        replace hK := hid hK
        obtain ⟨X9, d9, rfl, h9⟩ := h1
        have cv := conv_arr w' X9 d9 (b.map fold) h9
        simp only [List.length_map] at cv hv
        clear h9
        simp only [wantedAt]
        go_simp
        exact hK.out _ _ rfl (grown_refl _ _)
      case o6 =>
        go_light
        intro ac w' hgw
        replace hgw := hid hgw
        simp only [outThen, preThen, slotIs, factAt, isv, List.getElem?_cons_zero, List.getElem?_cons_succ, Option.getD_some, forall_eq]
        intros
        rename_i hK
        replace hK := hid hK
        simp only [wantedAt]
        go_simp
        exact hK.out _ _ rfl (grown_refl _ _)
      case o7 =>
        go_light
        intro ac w' hgw
        replace hgw := hid hgw
        simp only [outThen, preThen, slotIs, factAt, isv, List.getElem?_cons_zero, List.getElem?_cons_succ, Option.getD_some, forall_eq]
        intros
        rename_i hK
        replace hK := hid hK
        simp only [wantedAt]
        go_simp
        exact hK.out _ _ rfl (grown_refl _ _)
    case st =>
      repeat (first | exact AllStable.nil | (refine AllStable.cons ?_ ?_; focus (first | exact stable_isv _ | exact stable_isBytes _ | exact stable_isRow1 _ | exact stable_isRowOf _ _ | exact stable_isArrOf _)))
    case fin =>
      intro w8 hgw
      simp only [finalIn, factAt, isv, List.getElem?_cons_zero, List.getElem?_cons_succ, Option.getD_some, forall_eq, slotIs, subj]
      rintro v1 ⟨X8, d8, rfl, _⟩ v2 ⟨X9, d9, rfl, _⟩
      simp only [Act.put, List.setIfInBounds_toArray, List.set_cons_zero, List.set_cons_succ]
      replace hgw := hid (grown_trans (grown_drew (grown_refl w none)) hgw)
      go_wp2_with fail
      go_ret
      exact ⟨by rw [hr.out, ← hs.out]; rfl, hgw.out⟩

end Go.Proofs.Ytojbkhheaondhaa

namespace Go.Proofs.Ytojbkhheaondhaa
open Go.RowKit PlainLetter

theorem getD_mem {l : List (List Int)} {j : Nat} (h : j < l.length) : l.getD j [] ∈ l := by simp [List.getD, h]

set_option maxHeartbeats 800000 in
theorem refWhich_is (f : Bool) (A P : Option Addr) (c d : Nat) (text : List Int) (xss : List (List Int)) (w : World) (hla : text.length ≤ 100000) (ha : Bytes text) (hA : Arr w .u8 A text) (hP : Arrs w P xss) (hS : Small xss) :
    Calls Try.prog 43 #[.bool f, .slice A text.length c, .slice P xss.length d] w fun e w' => e = .returned (.int .i64 (which f text xss)) ∧ w.grownBy w' none := by
  obtain ⟨hS1, hS2⟩ := hS
  replace hS2 := hid hS2
  replace ha := hid ha
  replace hA := hid hA
  replace hP := hid hP
  go_enter Try.func43, Try.ntmps43
  go_wp2
  go_loopw [7] (fun i wr => ∃ k : Nat, k ≤ xss.length ∧ i = .int .i64 k ∧ (∀ j, j < k → same f text (xss.getD j []) = false) ∧ w.grownBy wr none) (fun i _ => xss.length - (intOf i).toNat)
  case atStart => exact ⟨0, Nat.zero_le _, rfl, fun j hj => absurd hj (Nat.not_lt_zero j), grown_refl _ _⟩
  case round =>
    obtain ⟨k, hk, rfl, hall, hG⟩ := hrel
    replace hall := hid hall
    by_cases hlt : k < xss.length
    · obtain ⟨b, off, Ai, ci, rfl, hb, hcell0, hAi⟩ := hP.out.at_ hlt
      have hcell := ((gcell hG).1 b (off + k) hb).trans hcell0
      have hAi' := hid (hAi.grown hG)
      have hA' := hid (hA.out.grown hG)
      obtain ⟨hxl, hxb⟩ := hS2.out k
      replace hxb := hid hxb
      replace hG := hid hG
      clear hcell0 hAi
      have hhit := hid (fun h => which_hit f text xss k hlt hall.out h)
      have hmiss : Hid (same f text (xss.getD k []) = false → ∀ j, j < k + 1 → same f text (xss.getD j []) = false) := fun h j hj => by
        by_cases hjk : j = k
        · subst hjk; exact h
        · exact hall.out j (by omega)
      generalize xss.getD k [] = xs at hcell hAi' hxl hxb hhit hmiss
      cases hsame : same f text xs with
      | true =>
        have hw := hid (hhit.out hsame)
        replace hsame := hid hsame
        go_wp2_with fail
        refine (refSame_is f A Ai c ci text xs wr hla hxl ha.out hxb.out hA'.out hAi'.out).mono ?_
        rintro e w1 ⟨rfl, hg⟩
        rw [hsame.out]
        go_wp2_with fail
        go_ret
        exact ⟨by rw [hw.out]; rfl, grown_trans hG.out hg⟩
      | false =>
        have hw := hid (hmiss.out hsame)
        replace hsame := hid hsame
        go_wp2_with fail
        refine (refSame_is f A Ai c ci text xs wr hla hxl ha.out hxb.out hA'.out hAi'.out).mono ?_
        rintro e w1 ⟨rfl, hg⟩
        rw [hsame.out]
        go_wp2_with fail
        go_roundw
        case rel => exact ⟨k + 1, by omega, by go_num, hw.out, grown_trans hG.out hg⟩
        case measure => simp [intOf]; omega
    · obtain rfl : k = xss.length := by omega
      have hw := hid (which_none f text xss hall.out)
      go_wp2
      go_ret
      exact ⟨by rw [hw.out]; rfl, hG⟩

end Go.Proofs.Ytojbkhheaondhaa

namespace Go.Proofs.Ytojbkhheaondhaa
open Go.RowKit PlainLetter Go.Shelf
attribute [local go_sem] Oper.semAt_some

theorem letFold_is (c : Int) (w : World) (h0 : 0 ≤ c) (h1 : c ≤ 255) : Calls Try.prog 88 #[.int .u8 c] w fun e w' => e = .returned (.int .u8 (fold c)) ∧ w = w' := by
  by_cases h : 65 ≤ c ∧ c ≤ 90
  · have hf := hid (fold_in c h)
    obtain ⟨h2, h3⟩ := h
    have hw : IntKind.u8.wrap (c + 32) = c + 32 := by simp [IntKind.wrap, IntKind.bits, IntKind.signed]; omega
    go_enter Try.func88, Try.ntmps88
    go_wp2
    go_ret
    exact ⟨by rw [hf.out]; rfl, rfl⟩
  · have hf := hid (fold_out c h)
    by_cases h2 : 65 ≤ c
    · have h3 : ¬ c ≤ 90 := by omega
      clear h
      go_enter Try.func88, Try.ntmps88
      go_wp2
      go_ret
      exact ⟨by rw [hf.out]; rfl, rfl⟩
    · clear h
      go_enter Try.func88, Try.ntmps88
      go_wp2
      go_ret
      exact ⟨by rw [hf.out]; rfl, rfl⟩

theorem plainAlike_is (v : Value) (x y : Int) (w : World) : Calls Try.prog 98 #[.agg #[v], .int .u8 x, .int .u8 y] w fun e w' => e = .returned (.bool (x == y)) ∧ w.grownBy w' none := by
  go_enter Try.func98, Try.ntmps98
  go_wp2_with fail
  go_ret
  exact ⟨rfl, grown_alloc (grown_refl _ _) _⟩

set_option maxRecDepth 100000 in
set_option maxHeartbeats 1000000 in
theorem foldAlike_is (v : Value) (x y : Int) (w : World) (x0 : 0 ≤ x) (x1 : x ≤ 255) (y0 : 0 ≤ y) (y1 : y ≤ 255) :
    Calls Try.prog 97 #[.agg #[v], .int .u8 x, .int .u8 y] w fun e w' => e = .returned (.bool (fold x == fold y)) ∧ w.grownBy w' none := by
  go_enter Try.func97, Try.ntmps97
  go_upto_region 1 with fail
  have hc0 : Hid ((w.alloc (.cells #[v] 119)).drew.cell? ⟨w.heap.size, 0, none⟩ = some v) := by
    exact hid (by simp)
  apply wp_region_each [isv _, isv (.agg #[v]), isv _, isv (.int .u8 (fold x)), isv _, isv (.int .u8 (fold y)), isv (.bool (fold x == fold y)), isv _]
    14 [some 7, some 8, some 9, some 10, some 11, some 12, some 13, some 6]
    [some 7, some 8, some 9, some 10, some 11, some 12, some 13, some 6]
    [[], [0], [], [2], [], [4], [1, 3, 5], [6]]
    [(1, .int .u8 x), (2, .int .u8 y), (3, .pointer (some ⟨w.heap.size, 0, none⟩))] (by kernel_rfl) rfl (by kernel_rfl) rfl rfl (by kernel_rfl) (OutsOk.cons rfl rfl (OutsOk.cons rfl rfl (OutsOk.cons rfl rfl OutsOk.nil))) ?st ?ob ?fin
  case ob =>
    refine Obs.consv rfl ?o0 (Obs.consv rfl ?o1 (Obs.consv rfl ?o2 (Obs.consv rfl ?o3 (Obs.consv rfl ?o4 (Obs.consv rfl ?o5 (Obs.consv rfl ?o6 (Obs.consv rfl ?o7 Obs.nil)))))))
    case o0 =>
      go_light
      intro ac w' hgw
      have hc := ((gcell hgw).1 w.heap.size 0 (by simp)).trans hc0.out
      replace hgw := hid hgw
      simp only [outThen, preThen, slotIs, factAt, isv, List.getElem?_cons_zero, List.getElem?_cons_succ, Option.getD_some, forall_eq]
      intros
      rename_i hK
      replace hK := hid hK
      simp only [wantedAt]
      go_simp
      exact hK.out _ _ rfl (grown_refl _ _)
    case o1 =>
      go_light
      intro ac w' hgw
      have hc := ((gcell hgw).1 w.heap.size 0 (by simp)).trans hc0.out
      replace hgw := hid hgw
      simp only [outThen, preThen, slotIs, factAt, isv, List.getElem?_cons_zero, List.getElem?_cons_succ, Option.getD_some, forall_eq]
      intros
      rename_i hK
      replace hK := hid hK
      simp only [wantedAt]
      go_simp
      exact hK.out _ _ rfl (grown_refl _ _)
    case o2 =>
      go_light
      intro ac w' hgw
      have hc := ((gcell hgw).1 w.heap.size 0 (by simp)).trans hc0.out
      replace hgw := hid hgw
      simp only [outThen, preThen, slotIs, factAt, isv, List.getElem?_cons_zero, List.getElem?_cons_succ, Option.getD_some, forall_eq]
      intros
      rename_i hK
      replace hK := hid hK
      simp only [wantedAt]
      go_simp
      exact hK.out _ _ rfl (grown_refl _ _)
    case o3 =>
      go_light
      intro ac w' hgw
      have hc := ((gcell hgw).1 w.heap.size 0 (by simp)).trans hc0.out
      replace hgw := hid hgw
      simp only [outThen, preThen, slotIs, factAt, isv, List.getElem?_cons_zero, List.getElem?_cons_succ, Option.getD_some, forall_eq]
      intros
      rename_i hK
      replace hK := hid hK
      simp only [wantedAt]
      go_simp
      refine (letFold_is x _ x0 x1).mono ?_
      rintro e w3 ⟨rfl, rfl⟩
      exact hK.out _ _ rfl (grown_refl _ _)
    case o4 =>
      go_light
      intro ac w' hgw
      have hc := ((gcell hgw).1 w.heap.size 0 (by simp)).trans hc0.out
      replace hgw := hid hgw
      simp only [outThen, preThen, slotIs, factAt, isv, List.getElem?_cons_zero, List.getElem?_cons_succ, Option.getD_some, forall_eq]
      intros
      rename_i hK
      replace hK := hid hK
      simp only [wantedAt]
      go_simp
      exact hK.out _ _ rfl (grown_refl _ _)
    case o5 =>
      go_light
      intro ac w' hgw
      have hc := ((gcell hgw).1 w.heap.size 0 (by simp)).trans hc0.out
      replace hgw := hid hgw
      simp only [outThen, preThen, slotIs, factAt, isv, List.getElem?_cons_zero, List.getElem?_cons_succ, Option.getD_some, forall_eq]
      intros
      rename_i hK
      replace hK := hid hK
      simp only [wantedAt]
      go_simp
      refine (letFold_is y _ y0 y1).mono ?_
      rintro e w3 ⟨rfl, rfl⟩
      exact hK.out _ _ rfl (grown_refl _ _)
    case o6 =>
      go_light
      intro ac w' hgw
      have hc := ((gcell hgw).1 w.heap.size 0 (by simp)).trans hc0.out
      replace hgw := hid hgw
      simp only [outThen, preThen, slotIs, factAt, isv, List.getElem?_cons_zero, List.getElem?_cons_succ, Option.getD_some, forall_eq]
      intros
      rename_i hK
      replace hK := hid hK
      simp only [wantedAt]
      go_simp
      refine (plainAlike_is v (fold x) (fold y) _).mono ?_
      rintro e w3 ⟨rfl, hg⟩
      exact hK.out _ _ rfl hg
    case o7 =>
      go_light
      intro ac w' hgw
      have hc := ((gcell hgw).1 w.heap.size 0 (by simp)).trans hc0.out
      replace hgw := hid hgw
      simp only [outThen, preThen, slotIs, factAt, isv, List.getElem?_cons_zero, List.getElem?_cons_succ, Option.getD_some, forall_eq]
      intros
      rename_i hK
      replace hK := hid hK
      simp only [wantedAt]
      go_simp
      exact hK.out _ _ rfl (grown_refl _ _)
  case st =>
    repeat (first | exact AllStable.nil | (refine AllStable.cons ?_ ?_; focus (first | exact stable_isv _ | exact stable_isBytes _ | exact stable_isRow1 _ | exact stable_isRowOf _ _ | exact stable_isArrOf _)))
  case fin =>
    intro w3 hgw
    simp only [finalIn, factAt, isv, List.getElem?_cons_zero, List.getElem?_cons_succ, Option.getD_some, forall_eq, slotIs, subj]
    simp only [Act.put, List.setIfInBounds_toArray, List.set_cons_zero, List.set_cons_succ]
    have hG := hid (grown_trans (grown_drew (grown_alloc (grown_refl w none) _)) hgw)
    go_wp2_with fail
    go_ret
    exact ⟨rfl, hG.out⟩

theorem judge_yes (u : Value) (w : World) :
    Calls Try.prog 95 #[.agg #[u], .bool true] w fun e w' => e = .returned (.func (.func 97) #[.agg #[u]] #[]) ∧ w.grownBy w' none := by
  have hmf : ∀ (fn : Fn) (first cap : Array Value) (w : World), (Instr.makeFunc fn first cap).run Try.prog w = .ok (.func fn first cap) w := fun _ _ _ _ => rfl
  go_enter Try.func95, Try.ntmps95
  go_wp2_with fail
  go_ret
  exact ⟨rfl, grown_alloc (grown_refl _ _) _⟩
theorem judge_no (u : Value) (w : World) :
    Calls Try.prog 95 #[.agg #[u], .bool false] w fun e w' => e = .returned (.func (.func 98) #[.agg #[u]] #[]) ∧ w.grownBy w' none := by
  have hmf : ∀ (fn : Fn) (first cap : Array Value) (w : World), (Instr.makeFunc fn first cap).run Try.prog w = .ok (.func fn first cap) w := fun _ _ _ _ => rfl
  go_enter Try.func95, Try.ntmps95
  go_wp2_with fail
  go_ret
  exact ⟨rfl, grown_alloc (grown_refl _ _) _⟩

theorem beside_is (u : Value) (B : Option Addr) (n c : Nat) (w : World) :
    Calls Try.prog 96 #[.agg #[u], .slice B n c] w fun e w' => e = .returned (.func (.func 99) #[] #[.pointer (some ⟨w.heap.size, 0, none⟩), .pointer (some ⟨w.heap.size + 1, 0, none⟩)]) ∧
      w' = (w.alloc (.cells #[u] 117)).alloc (.cells #[.slice B n c] 28) := by
  have hmf : ∀ (fn : Fn) (first cap : Array Value) (w : World), (Instr.makeFunc fn first cap).run Try.prog w = .ok (.func fn first cap) w := fun _ _ _ _ => rfl
  go_enter Try.func96, Try.ntmps96
  go_wp2_with fail
  go_ret
  exact ⟨by simp, rfl⟩

theorem letAll_is (A : Option Addr) (n c : Nat) (w : World) : Calls Try.prog 87 #[.slice A n c] w fun e w' => e = .returned (.func (.func 93) #[] #[.pointer (some ⟨w.heap.size, 0, none⟩)]) ∧ w' = w.alloc (.cells #[.slice A n c] 22) := by
  have hmf : ∀ (fn : Fn) (first cap : Array Value) (w : World), (Instr.makeFunc fn first cap).run Try.prog w = .ok (.func fn first cap) w := fun _ _ _ _ => rfl
  go_enter Try.func87, Try.ntmps87
  go_wp2
  go_ret
  exact ⟨rfl, rfl⟩
end Go.Proofs.Ytojbkhheaondhaa

namespace Go.Proofs.Ytojbkhheaondhaa
open Go.RowKit PlainLetter Go.Shelf
attribute [local go_sem] Oper.semAt_some

set_option maxHeartbeats 1000000 in
theorem beside_in (l bx by_ : Nat) (A B : Option Addr) (c d : Nat) (xs ys : List Int) (hl : xs.length = ys.length) (hx : xs.length ≤ 100000) (w0 : World) (hA : Arr w0 .u8 A xs) (hB : Arr w0 .u8 B ys) (J : Nat → World → Prop) (Jx : World → Prop) (W0 : World)
    (hJs : ∀ i W, J i W → w0.grownBy W none ∧ Holds W bx 117 #[.slice A xs.length c] ∧ Holds W by_ 28 #[.slice B ys.length d])
    (hY : ∀ i W, J i W → i < xs.length → YieldAt Fence.wide 0 Try.prog l #[.int .u8 (xs.getD i 0), .int .u8 (ys.getD i 0)] W (fun e W' => (e = .returned (.bool true) ∧ J (i + 1) W') ∨ (e = .returned (.bool false) ∧ Jx W')))
    (h0 : J 0 W0) :
    CallsIn Fence.wide 0 Try.prog 99 #[.func (.yield l) #[] #[], .pointer (some ⟨bx, 0, none⟩), .pointer (some ⟨by_, 0, none⟩)] W0 fun e W' => (∃ v, e = .returned v) ∧ (J xs.length W' ∨ Jx W') := by
  replace hJs := hid hJs
  replace hY := hid hY
  replace hA := hid hA
  replace hB := hid hB
  replace hl := hid hl
  have hc0 := (hJs.out _ _ h0).2.1.cell 0
  simp at hc0
  refine callsIn_of_wp Try.func99 rfl trivial ?_ rfl
  simp only [Try.ntmps99, List.size_toArray, List.length_cons, List.length_nil, Nat.reduceAdd, Nat.reduceSub, Array.replicate_succ, Array.replicate_zero, List.push_toArray, List.append_toArray, List.nil_append, List.cons_append]
  gi_wp2
  gi_loopw [9] (fun i wr => ∃ k : Nat, k ≤ xs.length ∧ i = .int .i64 k ∧ J k wr) (fun i _ => xs.length - (intOf i).toNat)
  case atStart => exact ⟨0, by omega, rfl, h0⟩
  case round =>
    clear hc0 h0
    obtain ⟨k, hk, rfl, hJ⟩ := hrel
    by_cases hlt : k < xs.length
    · obtain ⟨hG0, hX, hY0⟩ := hJs.out _ _ hJ
      have hdb := hY0.cell 0
      simp at hdb
      obtain ⟨b1, off1, rfl, hb1, hc1⟩ := (hA.out.grown hG0).at_ hlt
      obtain ⟨b2, off2, rfl, hb2, hc2⟩ := (hB.out.grown hG0).at_ (i := k) (by rw [← hl.out]; exact hlt)
      have hca := hc1 k hlt
      have hcb := hc2 k (by rw [← hl.out]; exact hlt)
      have hylt : (k : Int) < (ys.length : Int) := by have := hl.out; omega
      have hy := hY.out k _ hJ hlt
      clear hc1 hc2 hG0 hX hY0
      generalize xs.getD k 0 = x at hca hy
      generalize ys.getD k 0 = y at hcb hy
      replace hJ := hid hJ
      obtain ⟨fn, tmps, assign, body, hyy, hR⟩ := hy
      gi_wp2
      refine ⟨rfl, hR.mono ?_⟩
      rintro e W2 (⟨rfl, hJ2⟩ | ⟨rfl, hJ2⟩)
      · gi_wp2
        go_roundw
        case rel => exact ⟨k + 1, by omega, by go_num, hJ2⟩
        case measure => simp [intOf]; omega
      · gi_wp2
        refine bodyPost_ret (results_none rfl _ _ _) rfl ?_
        exact ⟨⟨_, rfl⟩, .inr hJ2⟩
    · obtain rfl : k = xs.length := by omega
      gi_wp2
      go_end0
      exact ⟨⟨_, rfl⟩, .inl hJ⟩
end Go.Proofs.Ytojbkhheaondhaa
