/- Hits: two lists in a row, what Occ tells, how many there are. The document's own answer: how many bytes a hit's word has. The document's own answer: which of two hits comes ahead. -/
import Derived.Test.YtmahiodejhakpaaGreatOWakes
import Derived.Test.YtmahiodejhakpaaGreatK19
import Derived.Deep.Light
set_option linter.unusedVariables false
set_option linter.unusedSimpArgs false
namespace Go.Proofs.YtmahiodejhakpaaGreat
open Go.RowKit PlainLetter PlainPatset PlainOcc

theorem hitRows_two (w : World) (P1 P2 : Option Addr) (d1 d2 : Nat) (l m : List Hit) (h1 : Hits w P1 l) (h2 : Hits w P2 m) :
    HitRows (w.alloc (.cells #[.slice P1 l.length d1, .slice P2 m.length d2] 26)) (some ⟨w.heap.size, 0, none⟩) [l, m] := fun _ => by
  have H : Holds (w.alloc (.cells #[.slice P1 l.length d1, .slice P2 m.length d2] 26)) w.heap.size 26 #[.slice P1 l.length d1, .slice P2 m.length d2] := Holds.new _ _ _
  have hg := grown_alloc (grown_refl w none) (.cells #[.slice P1 l.length d1, .slice P2 m.length d2] 26)
  refine ⟨w.heap.size, 0, rfl, H.lt, fun i hi => ?_⟩
  have hi' : i < 2 := hi
  rcases i with _ | _ | i
  · exact ⟨P1, d1, by rw [H.cell]; rfl, h1.grown hg⟩
  · exact ⟨P2, d2, by rw [H.cell]; rfl, h2.grown hg⟩
  · omega

theorem occ_fewer (f : Bool) (ws : List (List Int)) (text : List Int) (fr : Int) (h1 : ws.length ≤ 80) (h2 : text.length ≤ 300) : (occ f ws text fr).length ≤ 24080 := by
  have h : (occ f ws text fr).length ≤ (text.length + 1) * ws.length := occTo_le f ws text fr _
  have h3 : (text.length + 1) * ws.length ≤ 301 * 80 := Nat.mul_le_mul (by omega) h1
  omega

theorem sumTo_le (g : Nat → Nat) (b : Nat) (h : ∀ k, g k ≤ b) : ∀ n, sumTo g n ≤ n * b
  | 0 => by simp [sumTo]
  | n + 1 => by
    have := sumTo_le g b h n
    have := h n
    rw [Nat.succ_mul]
    unfold sumTo
    omega
theorem longest_all : ∀ xss : List (List Int), longest xss ≤ xss.flatten.length
  | [] => by simp [longest]
  | x :: l => by
    have := longest_all l
    rw [List.flatten_cons, List.length_append]
    unfold longest at *
    rw [List.foldr_cons]
    omega
theorem bytes_part1 {t : List Int} (h : Bytes t) (n : Nat) : Bytes (t.take n) := fun k => by
  by_cases hk : k < n
  · have := h k
    simpa [List.getD, List.getElem?_take, hk] using this
  · simp [List.getD, List.getElem?_take, hk]
theorem bytes_part2 {t : List Int} (h : Bytes t) (n : Nat) : Bytes (t.drop n) := fun k => by
  have := h (n + k)
  simpa [List.getD, List.getElem?_drop] using this

/-- A tuple of hits of the call's own, and no error. -/
def isTold (l : List Hit) : Fact := fun v w => ∃ A c, v = .tuple #[.slice A l.length c, .int .i64 0] ∧ Hits w A l
theorem stable_isTold (l : List Hit) : Stable (isTold l) := fun _ _ _ ⟨A, c, h1, h2⟩ hg => ⟨A, c, h1, h2.grown hg⟩

theorem OccTold.hits {base : Nat} {f : Bool} {xss : List (List Int)} {text : List Int} {fr : Int} {v : Value} {w : World} (h : OccTold base f xss text fr v w) (hr : right f xss = true) (h0 : 0 ≤ fr) (h1 : fr ≤ 4611686018427387904) :
    ∃ A c, v = .tuple #[.slice A (occ f xss text fr).length c, .int .i64 0] ∧ Hits w A (occ f xss text fr) ∧ (occ f xss text fr).length ≤ c ∧ c ≤ maxLen := by
  unfold OccTold at h
  rw [if_pos ⟨hr, h0, h1⟩] at h
  obtain ⟨u, rfl, hu⟩ := h
  obtain ⟨A, c, rfl, h2, h3, h4⟩ := hu.form
  exact ⟨A, c, rfl, h2, h3, h4⟩

end Go.Proofs.YtmahiodejhakpaaGreat

namespace Go.Proofs.YtmahiodejhakpaaGreat
open Go.RowKit PlainLetter PlainPatset PlainOcc

/-- A word's length. -/
theorem refLength_is (f : Bool) (P : Option Addr) (c : Nat) (xss : List (List Int)) (k : Int) (w : World) (hP : Arrs w P xss) :
    Calls Tryz.prog 29 #[.agg #[.bool f, .slice P xss.length c], .int .i64 k] w fun e w' => e = .returned (.int .i64 (lenOf xss k)) ∧ w.grownBy w' none := by
  have hL : Hid (lenOf xss k = if k < 0 ∨ (xss.length : Int) ≤ k then 0 else ((xss.getD k.toNat []).length : Int)) := hid rfl
  by_cases h0 : k < 0
  · have e := hid (hL.out.trans (if_pos (.inl h0)))
    clear hL hP
    go_enter Tryz.func29, Tryz.ntmps29
    go_wp2_with fail
    go_ret
    exact ⟨by rw [e.out]; rfl, grown_alloc (grown_refl w none) _⟩
  · by_cases h1 : (xss.length : Int) ≤ k
    · have e := hid (hL.out.trans (if_pos (.inr h1)))
      have hH : Holds (w.alloc (.cells #[.bool f, .slice P xss.length c] 24)) w.heap.size 24 #[.bool f, .slice P xss.length c] := Holds.new _ _ _
      have c1 := hH.cell 1
      simp at c1
      clear hL hP hH
      go_enter Tryz.func29, Tryz.ntmps29
      go_wp2_with fail
      go_ret
      exact ⟨by rw [e.out]; rfl, grown_alloc (grown_refl w none) _⟩
    · have e := hid (hL.out.trans (if_neg (by omega)))
      have hP1 := hid (hP.grown (grown_alloc (grown_refl w none) (.cells #[.bool f, .slice P xss.length c] 24)))
      clear hL hP
      obtain ⟨i, rfl⟩ : ∃ i : Nat, k = i := ⟨k.toNat, by omega⟩
      have hi : i < xss.length := by omega
      obtain ⟨b, off, Ai, ci, rfl, hb, hcell, _⟩ := hP1.out.at_ hi
      rw [Int.toNat_natCast] at e
      generalize (xss.getD i []).length = n at hcell e
      have i0 : (0 : Int) ≤ (i : Int) := by omega
      have i1 : (i : Int) < (xss.length : Int) := by omega
      have i2 : ((decide ((i : Int) < 0)) || decide ((xss.length : Int) ≤ (i : Int))) = false := by simp; omega
      go_enter Tryz.func29, Tryz.ntmps29
      go_wp2_with fail
      go_ret
      exact ⟨by rw [e.out]; rfl, grown_alloc (grown_refl w none) _⟩
end Go.Proofs.YtmahiodejhakpaaGreat

namespace Go.Proofs.YtmahiodejhakpaaGreat
open Go.RowKit PlainLetter PlainPatset PlainOcc

set_option maxRecDepth 100000 in
set_option maxHeartbeats 2000000 in
theorem refLess_is (f : Bool) (P : Option Addr) (c : Nat) (xss : List (List Int)) (a b : Hit) (w : World) (hP : Arrs w P xss) :
    Calls Tryz.prog 12 #[.agg #[.bool f, .slice P xss.length c], hitV a, hitV b] w fun e w' => e = .returned (.bool (less xss a b)) ∧ w.grownBy w' none := by
  obtain ⟨a1, a2⟩ := a
  obtain ⟨b1, b2⟩ := b
  have hL : Hid (less xss (a1, a2) (b1, b2) = if a1 = b1 then if lenOf xss a2 = lenOf xss b2 then decide (a2 < b2) else decide (lenOf xss b2 < lenOf xss a2) else decide (a1 < b1)) := hid rfl
  replace hP := hid hP
  have hG0 : Hid (w.grownBy (((w.alloc (.cells #[.bool f, .slice P xss.length c] 24)).alloc (.cells #[.int .i64 a1, .int .i64 a2] 28)).alloc (.cells #[.int .i64 b1, .int .i64 b2] 28)) none) := grown_alloc (grown_alloc (grown_alloc (grown_refl w none) _) _) _
  by_cases h1 : a1 = b1
  · subst h1
    have hL1 := hid (hL.out.trans (if_pos rfl))
    clear hL
    have H1 : Holds (((w.alloc (.cells #[.bool f, .slice P xss.length c] 24)).alloc (.cells #[.int .i64 a1, .int .i64 a2] 28)).alloc (.cells #[.int .i64 a1, .int .i64 b2] 28)) w.heap.size 24 #[.bool f, .slice P xss.length c] := ((Holds.new _ _ _).alloc _).alloc _
    have H2 : Holds (((w.alloc (.cells #[.bool f, .slice P xss.length c] 24)).alloc (.cells #[.int .i64 a1, .int .i64 a2] 28)).alloc (.cells #[.int .i64 a1, .int .i64 b2] 28)) (w.heap.size + 1) 28 #[.int .i64 a1, .int .i64 a2] := by
      refine Holds.alloc (Holds.new_at _ _ ?_) _
      simp
    have H3 : Holds (((w.alloc (.cells #[.bool f, .slice P xss.length c] 24)).alloc (.cells #[.int .i64 a1, .int .i64 a2] 28)).alloc (.cells #[.int .i64 a1, .int .i64 b2] 28)) (w.heap.size + 2) 28 #[.int .i64 a1, .int .i64 b2] := by
      refine Holds.new_at _ _ ?_
      simp
    have hne : (a1 != a1) = false := by simp
    go_enter Tryz.func12, Tryz.ntmps12
    go_upto_region 3 with fail
    obtain ⟨W0, hW0⟩ : ∃ W0, ((w.alloc (.cells #[.bool f, .slice P xss.length c] 24)).alloc (.cells #[.int .i64 a1, .int .i64 a2] 28)).alloc (.cells #[.int .i64 a1, .int .i64 b2] 28) = W0 := ⟨_, rfl⟩
    rw [hW0] at H1 H2 H3 hG0 ⊢
    clear hW0
    obtain ⟨h, hh⟩ : ∃ h, w.heap.size = h := ⟨_, rfl⟩
    rw [hh] at H1 H2 H3 ⊢
    replace hh := hid hh
    replace H1 := hid H1
    replace H2 := hid H2
    replace H3 := hid H3
    apply wp_region_each [isv (.agg #[.bool f, .slice P xss.length c]), isv _, isv (.int .i64 a2), isv (.int .i64 (lenOf xss a2)), isv (.agg #[.bool f, .slice P xss.length c]), isv _, isv (.int .i64 b2), isv (.int .i64 (lenOf xss b2)), isv (.int .i64 (lenOf xss a2)), isv (.int .i64 (lenOf xss b2))]
      38 [some 19, some 20, some 21, some 22, some 23, some 24, some 25, some 26, some 7, some 8]
      [some 19, some 20, some 21, some 22, some 23, some 24, some 25, some 26, some 7, some 8]
      [[], [], [1], [0, 2], [], [], [5], [4, 6], [3], [7]]
      [(3, .pointer (some ⟨h, 0, none⟩)), (4, .pointer (some ⟨h + 1, 0, none⟩)), (5, .pointer (some ⟨h + 2, 0, none⟩))] (by kernel_rfl) rfl (by kernel_rfl) rfl rfl (by kernel_rfl) (OutsOk.cons rfl rfl (OutsOk.cons rfl rfl (OutsOk.cons rfl rfl OutsOk.nil))) ?st ?ob ?fin
    case ob =>
      refine Obs.consv rfl ?o0 (Obs.consv rfl ?o1 (Obs.consv rfl ?o2 (Obs.consv rfl ?o3 (Obs.consv rfl ?o4 (Obs.consv rfl ?o5 (Obs.consv rfl ?o6 (Obs.consv rfl ?o7 (Obs.consv rfl ?o8 (Obs.consv rfl ?o9 Obs.nil)))))))))
      case o0 =>
        go_light
        intro ac w' hgw
        have k1 := H1.out.kept0 (grown_trans (grown_drew (grown_refl W0 none)) hgw)
        have k2 := H2.out.kept0 (grown_trans (grown_drew (grown_refl W0 none)) hgw)
        have k3 := H3.out.kept0 (grown_trans (grown_drew (grown_refl W0 none)) hgw)
        have c0 := k1.cell 0
        have c1 := k1.cell 1
        have d1 := k2.cell 1
        have e1 := k3.cell 1
        simp at c0 c1 d1 e1
        have hPw := hid (hP.out.grown (grown_trans hG0.out (grown_trans (grown_drew (grown_refl W0 none)) hgw)))
        clear k1 k2 k3
        replace hgw := hid hgw
        simp only [outThen, preThen, slotIs, factAt, isv, List.getElem?_cons_zero, List.getElem?_cons_succ, Option.getD_some, forall_eq]
        intros
        rename_i hK
        replace hK := hid hK
        simp only [wantedAt]
        go_simp
        exact hK.out _ _ rfl (grown_refl _ _)
      case o1 =>
        go_light
        intro ac w' hgw
        have k1 := H1.out.kept0 (grown_trans (grown_drew (grown_refl W0 none)) hgw)
        have k2 := H2.out.kept0 (grown_trans (grown_drew (grown_refl W0 none)) hgw)
        have k3 := H3.out.kept0 (grown_trans (grown_drew (grown_refl W0 none)) hgw)
        have c0 := k1.cell 0
        have c1 := k1.cell 1
        have d1 := k2.cell 1
        have e1 := k3.cell 1
        simp at c0 c1 d1 e1
        have hPw := hid (hP.out.grown (grown_trans hG0.out (grown_trans (grown_drew (grown_refl W0 none)) hgw)))
        clear k1 k2 k3
        replace hgw := hid hgw
        simp only [outThen, preThen, slotIs, factAt, isv, List.getElem?_cons_zero, List.getElem?_cons_succ, Option.getD_some, forall_eq]
        intros
        rename_i hK
        replace hK := hid hK
        simp only [wantedAt]
        go_simp
        exact hK.out _ _ rfl (grown_refl _ _)
      case o2 =>
        go_light
        intro ac w' hgw
        have k1 := H1.out.kept0 (grown_trans (grown_drew (grown_refl W0 none)) hgw)
        have k2 := H2.out.kept0 (grown_trans (grown_drew (grown_refl W0 none)) hgw)
        have k3 := H3.out.kept0 (grown_trans (grown_drew (grown_refl W0 none)) hgw)
        have c0 := k1.cell 0
        have c1 := k1.cell 1
        have d1 := k2.cell 1
        have e1 := k3.cell 1
        simp at c0 c1 d1 e1
        have hPw := hid (hP.out.grown (grown_trans hG0.out (grown_trans (grown_drew (grown_refl W0 none)) hgw)))
        clear k1 k2 k3
        replace hgw := hid hgw
        simp only [outThen, preThen, slotIs, factAt, isv, List.getElem?_cons_zero, List.getElem?_cons_succ, Option.getD_some, forall_eq]
        intros
        rename_i hK
        replace hK := hid hK
        simp only [wantedAt]
        go_simp
        exact hK.out _ _ rfl (grown_refl _ _)
      case o3 =>
        go_light
        intro ac w' hgw
        have k1 := H1.out.kept0 (grown_trans (grown_drew (grown_refl W0 none)) hgw)
        have k2 := H2.out.kept0 (grown_trans (grown_drew (grown_refl W0 none)) hgw)
        have k3 := H3.out.kept0 (grown_trans (grown_drew (grown_refl W0 none)) hgw)
        have c0 := k1.cell 0
        have c1 := k1.cell 1
        have d1 := k2.cell 1
        have e1 := k3.cell 1
        simp at c0 c1 d1 e1
        have hPw := hid (hP.out.grown (grown_trans hG0.out (grown_trans (grown_drew (grown_refl W0 none)) hgw)))
        clear k1 k2 k3
        replace hgw := hid hgw
        simp only [outThen, preThen, slotIs, factAt, isv, List.getElem?_cons_zero, List.getElem?_cons_succ, Option.getD_some, forall_eq]
        intros
        rename_i K hK
        replace hK := hid hK
        simp only [wantedAt]
        go_simp
        refine (refLength_is f P c xss a2 w' hPw.out).mono ?_
        rintro e w3 ⟨rfl, hg⟩
        exact hK.out _ _ rfl hg
      case o4 =>
        go_light
        intro ac w' hgw
        have k1 := H1.out.kept0 (grown_trans (grown_drew (grown_refl W0 none)) hgw)
        have k2 := H2.out.kept0 (grown_trans (grown_drew (grown_refl W0 none)) hgw)
        have k3 := H3.out.kept0 (grown_trans (grown_drew (grown_refl W0 none)) hgw)
        have c0 := k1.cell 0
        have c1 := k1.cell 1
        have d1 := k2.cell 1
        have e1 := k3.cell 1
        simp at c0 c1 d1 e1
        have hPw := hid (hP.out.grown (grown_trans hG0.out (grown_trans (grown_drew (grown_refl W0 none)) hgw)))
        clear k1 k2 k3
        replace hgw := hid hgw
        simp only [outThen, preThen, slotIs, factAt, isv, List.getElem?_cons_zero, List.getElem?_cons_succ, Option.getD_some, forall_eq]
        intros
        rename_i hK
        replace hK := hid hK
        simp only [wantedAt]
        go_simp
        exact hK.out _ _ rfl (grown_refl _ _)
      case o5 =>
        go_light
        intro ac w' hgw
        have k1 := H1.out.kept0 (grown_trans (grown_drew (grown_refl W0 none)) hgw)
        have k2 := H2.out.kept0 (grown_trans (grown_drew (grown_refl W0 none)) hgw)
        have k3 := H3.out.kept0 (grown_trans (grown_drew (grown_refl W0 none)) hgw)
        have c0 := k1.cell 0
        have c1 := k1.cell 1
        have d1 := k2.cell 1
        have e1 := k3.cell 1
        simp at c0 c1 d1 e1
        have hPw := hid (hP.out.grown (grown_trans hG0.out (grown_trans (grown_drew (grown_refl W0 none)) hgw)))
        clear k1 k2 k3
        replace hgw := hid hgw
        simp only [outThen, preThen, slotIs, factAt, isv, List.getElem?_cons_zero, List.getElem?_cons_succ, Option.getD_some, forall_eq]
        intros
        rename_i hK
        replace hK := hid hK
        simp only [wantedAt]
        go_simp
        exact hK.out _ _ rfl (grown_refl _ _)
      case o6 =>
        go_light
        intro ac w' hgw
        have k1 := H1.out.kept0 (grown_trans (grown_drew (grown_refl W0 none)) hgw)
        have k2 := H2.out.kept0 (grown_trans (grown_drew (grown_refl W0 none)) hgw)
        have k3 := H3.out.kept0 (grown_trans (grown_drew (grown_refl W0 none)) hgw)
        have c0 := k1.cell 0
        have c1 := k1.cell 1
        have d1 := k2.cell 1
        have e1 := k3.cell 1
        simp at c0 c1 d1 e1
        have hPw := hid (hP.out.grown (grown_trans hG0.out (grown_trans (grown_drew (grown_refl W0 none)) hgw)))
        clear k1 k2 k3
        replace hgw := hid hgw
        simp only [outThen, preThen, slotIs, factAt, isv, List.getElem?_cons_zero, List.getElem?_cons_succ, Option.getD_some, forall_eq]
        intros
        rename_i hK
        replace hK := hid hK
        simp only [wantedAt]
        go_simp
        exact hK.out _ _ rfl (grown_refl _ _)
      case o7 =>
        go_light
        intro ac w' hgw
        have k1 := H1.out.kept0 (grown_trans (grown_drew (grown_refl W0 none)) hgw)
        have k2 := H2.out.kept0 (grown_trans (grown_drew (grown_refl W0 none)) hgw)
        have k3 := H3.out.kept0 (grown_trans (grown_drew (grown_refl W0 none)) hgw)
        have c0 := k1.cell 0
        have c1 := k1.cell 1
        have d1 := k2.cell 1
        have e1 := k3.cell 1
        simp at c0 c1 d1 e1
        have hPw := hid (hP.out.grown (grown_trans hG0.out (grown_trans (grown_drew (grown_refl W0 none)) hgw)))
        clear k1 k2 k3
        replace hgw := hid hgw
        simp only [outThen, preThen, slotIs, factAt, isv, List.getElem?_cons_zero, List.getElem?_cons_succ, Option.getD_some, forall_eq]
        intros
        rename_i K hK
        replace hK := hid hK
        simp only [wantedAt]
        go_simp
        refine (refLength_is f P c xss b2 w' hPw.out).mono ?_
        rintro e w3 ⟨rfl, hg⟩
        exact hK.out _ _ rfl hg
      case o8 =>
        go_light
        intro ac w' hgw
        have k1 := H1.out.kept0 (grown_trans (grown_drew (grown_refl W0 none)) hgw)
        have k2 := H2.out.kept0 (grown_trans (grown_drew (grown_refl W0 none)) hgw)
        have k3 := H3.out.kept0 (grown_trans (grown_drew (grown_refl W0 none)) hgw)
        have c0 := k1.cell 0
        have c1 := k1.cell 1
        have d1 := k2.cell 1
        have e1 := k3.cell 1
        simp at c0 c1 d1 e1
        have hPw := hid (hP.out.grown (grown_trans hG0.out (grown_trans (grown_drew (grown_refl W0 none)) hgw)))
        clear k1 k2 k3
        replace hgw := hid hgw
        simp only [outThen, preThen, slotIs, factAt, isv, List.getElem?_cons_zero, List.getElem?_cons_succ, Option.getD_some, forall_eq]
        intros
        rename_i hK
        replace hK := hid hK
        simp only [wantedAt]
        go_simp
        exact hK.out _ _ rfl (grown_refl _ _)
      case o9 =>
        go_light
        intro ac w' hgw
        have k1 := H1.out.kept0 (grown_trans (grown_drew (grown_refl W0 none)) hgw)
        have k2 := H2.out.kept0 (grown_trans (grown_drew (grown_refl W0 none)) hgw)
        have k3 := H3.out.kept0 (grown_trans (grown_drew (grown_refl W0 none)) hgw)
        have c0 := k1.cell 0
        have c1 := k1.cell 1
        have d1 := k2.cell 1
        have e1 := k3.cell 1
        simp at c0 c1 d1 e1
        have hPw := hid (hP.out.grown (grown_trans hG0.out (grown_trans (grown_drew (grown_refl W0 none)) hgw)))
        clear k1 k2 k3
        replace hgw := hid hgw
        simp only [outThen, preThen, slotIs, factAt, isv, List.getElem?_cons_zero, List.getElem?_cons_succ, Option.getD_some, forall_eq]
        intros
        rename_i hK
        replace hK := hid hK
        simp only [wantedAt]
        go_simp
        exact hK.out _ _ rfl (grown_refl _ _)
    case st =>
      repeat (first | exact AllStable.nil | (refine AllStable.cons ?_ ?_; focus (first | exact stable_isv _ | exact stable_isBytes _ | exact stable_isRow1 _ | exact stable_isRowOf _ _ | exact stable_isArrOf _)))
    case fin =>
      intro w3 hgw
      simp only [finalIn, factAt, isv, List.getElem?_cons_zero, List.getElem?_cons_succ, Option.getD_some, forall_eq, slotIs, subj]
      simp only [Act.put, List.setIfInBounds_toArray, List.set_cons_zero, List.set_cons_succ]
      have hG3 := hid (grown_trans hG0.out (grown_trans (grown_drew (grown_refl W0 none)) hgw))
      have k2 := H2.out.kept0 (grown_trans (grown_drew (grown_refl W0 none)) hgw)
      have k3 := H3.out.kept0 (grown_trans (grown_drew (grown_refl W0 none)) hgw)
      have d1 := k2.cell 1
      have e1 := k3.cell 1
      simp at d1 e1
      clear hgw k2 k3
      by_cases heq : lenOf xss a2 = lenOf xss b2
      · have hL2 := hid (hL1.out.trans (if_pos heq))
        have hb : (lenOf xss a2 != lenOf xss b2) = false := by rw [heq]; simp
        generalize lenOf xss a2 = m at hb ⊢
        generalize lenOf xss b2 = n at hb ⊢
        go_wp2_with fail
        go_ret
        exact ⟨by rw [hL2.out]; rfl, hG3.out⟩
      · have hL2 := hid (hL1.out.trans (if_neg heq))
        have hb : (lenOf xss a2 != lenOf xss b2) = true := by rw [bne_iff_ne]; exact heq
        replace heq := hid heq
        go_wp2_with fail
        go_ret
        exact ⟨by rw [hL2.out]; rfl, hG3.out⟩
  · have hL1 := hid (hL.out.trans (if_neg h1))
    clear hL
    have hne : (a1 != b1) = true := by rw [bne_iff_ne]; exact h1
    replace h1 := hid h1
    go_enter Tryz.func12, Tryz.ntmps12
    go_wp2_with fail
    go_ret
    exact ⟨by rw [hL1.out]; rfl, hG0.out⟩

end Go.Proofs.YtmahiodejhakpaaGreat
