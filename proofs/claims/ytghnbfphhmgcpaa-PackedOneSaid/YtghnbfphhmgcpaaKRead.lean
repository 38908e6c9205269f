/- Package packed: packed words, taken. -/
import Derived.Test.YtghnbfphhmgcpaaPTake
import Derived.Test.YtghnbfphhmgcpaaRest
import Derived.Test.YtghnbfphhmgcpaaCollect
import Derived.Deep.Light
import Derived.Shelf.Abstract
import Derived.Shelf.RegionOpen
import Derived.TacticsInMore
import Derived.LoopNIn
import Derived.LoopIn
import Derived.Outline
import Derived.Test.YtghnbfphhmgcpaaKRows
import Derived.Test.YtghnbfphhmgcpaaKHead
set_option linter.unusedSimpArgs false
set_option linter.unusedVariables false
set_option maxRecDepth 100000
namespace Go.Proofs.Ytghnbfphhmgcpaa
open Go.RowKit Plain PlainSum PlainPacked

theorem size_most : (encs [2147483647]).length = 5 := by
  rw [encs_cons, encs_nil, List.append_nil]
  show (enc 2147483647).length = 5
  rw [enc_big _ (by omega), List.length_cons, enc_big _ (by omega), List.length_cons, enc_big _ (by omega), List.length_cons, enc_big _ (by omega), List.length_cons, enc_small _ (by omega), List.length_singleton]

/-- A number needs no more than five bytes. -/
theorem take_five_good (rs r : List Int) (n : Int) (hb : ∀ c ∈ rs, isByte c) (h : take (rs.take 5) = .good n r) :
    0 ≤ n ∧ n ≤ 2147483647 ∧ (enc n.toNat).length ≤ rs.length ∧ take rs = .good n (rs.drop (enc n.toNat).length) := by
  obtain ⟨h0, h1, he⟩ := take_only (rs.take 5) n r (fun c hc => hb c (List.mem_of_mem_take hc)) h
  have e : rs = enc n.toNat ++ (r ++ rs.drop 5) := by rw [← List.append_assoc, ← he, List.take_append_drop]
  have hl : (enc n.toNat).length ≤ rs.length := by rw [e]; simp
  refine ⟨h0, h1, hl, ?_⟩
  have ed : rs.drop (enc n.toNat).length = r ++ rs.drop 5 := by
    have := congrArg (fun l => l.drop (enc n.toNat).length) e
    simp only [List.drop_left] at this
    exact this
  rw [ed]
  have := congrArg take e
  rw [take_enc n h0 h1] at this
  exact this

theorem take_five_bad (rs : List Int) (e : Int) (hb : ∀ c ∈ rs, isByte c) (h : take (rs.take 5) = .bad e) : ∃ e', take rs = .bad e' := by
  cases ht : take rs with
  | bad e' => exact ⟨e', rfl⟩
  | good n r =>
    obtain ⟨h0, h1, he⟩ := take_only rs n r hb ht
    have hl := enc_len5 n.toNat (by omega)
    have e5 : rs.take 5 = enc n.toNat ++ r.take (5 - (enc n.toNat).length) := by
      rw [he, List.take_append, List.take_of_length_le hl]
    rw [e5, take_enc n h0 h1] at h
    cases h

/-- Block g holds what is left: rs, whose bytes lay there in w0. -/
structure RdAt (w0 : World) (g : Nat) (rs : List Int) (W : World) : Prop where
  cell : ∃ A c, Holds W g 48 #[.slice A rs.length c] ∧ rs.length ≤ c ∧ c ≤ maxLen ∧ Arr w0 .u8 A rs
  gr : w0.grownBy W none

theorem RdAt.grown {w0 W W' : World} {g : Nat} {rs : List Int} (s : RdAt w0 g rs W) (hg : W.grownBy W' none) : RdAt w0 g rs W' := by
  obtain ⟨A, c, h1, h2, h3, h4⟩ := s.cell
  exact ⟨⟨A, c, h1.kept0 hg, h2, h3, h4⟩, grown_trans s.gr hg⟩

theorem leftNone_is (w0 : World) (g : Nat) (rs : List Int) (w : World) (hs : RdAt w0 g rs w) :
    Calls Try.prog 38 #[.pointer (some ⟨g, 0, none⟩)] w fun e w' => e = .returned (.bool (decide (rs = []))) ∧ w = w' := by
  obtain ⟨A, c, hH, _, _, _⟩ := hs.cell
  have c0 := hH.cell 0
  simp at c0
  have hd : Hid (((rs.length : Int) == 0) = decide (rs = [])) := by
    cases rs with
    | nil => rfl
    | cons x xs => show _ = _; rw [decide_eq_false (by simp)]; rw [beq_eq_false_iff_ne]; simp; omega
  clear hH hs
  go_enter Try.func38, Try.ntmps38
  go_wp2_with fail
  go_ret
  exact ⟨by rw [← hd.out]; rfl, rfl⟩

/-- What text leaves. -/
def TextLeaves (w0 : World) (g : Nat) (rs : List Int) (N : Nat) (w : World) (e : Ending) (w' : World) : Prop :=
  (rs.length < N ∧ e = .returned (.tuple #[.slice none 0 0, .int .i64 12]) ∧ w.grownBy w' (some g)) ∨
  (N ≤ rs.length ∧ ∃ A c, e = .returned (.tuple #[.slice A N c, .int .i64 0]) ∧ OwnBytes w' w.heap.size (A, rs.take N, c) ∧ w.grownBy w' (some g) ∧ RdAt w0 g (rs.drop N) w')

set_option maxHeartbeats 1000000 in
theorem leftText_is (w0 : World) (g : Nat) (rs : List Int) (N : Nat) (w : World) (hl : rs.length ≤ 100000) (hN : (N : Int) ≤ 2147483647) (h0 : w0.heap.size ≤ g) (hs : RdAt w0 g rs w) :
    Calls Try.prog 58 #[.pointer (some ⟨g, 0, none⟩), .int .i64 N] w (TextLeaves w0 g rs N w) := by
  obtain ⟨i0, hi, hz0, hz1, hz2⟩ := info_parts Try.info5
  obtain ⟨A, c, hH, hc, hc2, hA⟩ := hs.cell
  have hgr := hs.gr
  have c0 := hH.cell 0
  have f0 := hH.free 0
  have l0 := hH.lt
  simp at c0
  by_cases hlt : rs.length < N
  · have q : (rs.length : Int) < (N : Int) := by omega
    clear hH hs hA
    go_enter Try.func58, Try.ntmps58
    go_wp2_with fail
    go_ret2
    exact .inl ⟨hlt, rfl, grown_refl _ _⟩
  · have q : ¬ (rs.length : Int) < (N : Int) := by omega
    have q1 : (N : Int) ≤ (c : Int) := by omega
    have q2 : (N : Int) ≤ (rs.length : Int) := by omega
    have htl : (rs.take N).length = N := by rw [List.length_take]; omega
    have hdl := hid (List.length_drop (i := N) (l := rs))
    have hAt := hid ((hA.take N).grown hgr)
    have hAd := hid (hA.drop (i := N) hc)
    have hrow := hid (World.ownsRow_nil w w.heap.size 5 1)
    unfold maxLen at hc2
    replace hH := hid hH
    replace hgr := hid hgr
    clear hs hA
    obtain ⟨tk, htk⟩ : ∃ tk, rs.take N = tk := ⟨_, rfl⟩
    rw [htk] at hAt htl
    obtain rfl : N = tk.length := htl.symm
    replace htk := hid htk
    clear htl
    by_cases hcn : c = tk.length
    all_goals
      go_enter Try.func58, Try.ntmps58
      go_wp2_with (at_builtin; refine wpList_append_all rfl _ _ 23 rfl w.heap.size 5 i0 .u8 1 Try.underlying23 hi hz0 hz1 hz2 _ [] tk _ _ _ w hrow.out hAt.out rfl rfl rfl (by decide) (by simp; omega) (Nat.le_refl _) ?_; intro v7 w7 hrow7 hB7; rw [List.nil_append] at hrow7; obtain ⟨A7, c7, rfl, hc7, hd7⟩ := own_form hrow7; have hH7 := hH.out.below hB7 l0; have d0 := hH7.cell 0; have e0 := hH7.free 0; have k0 := hH7.lt; simp at d0; replace hrow7 := hid hrow7; replace hH7 := hid hH7; replace hB7 := hid hB7; clear hc7 hd7)
      go_ret2
      first | rw [if_pos hcn] at hAd | rw [if_neg hcn] at hAd
      refine .inr ⟨by omega, A7, c7, rfl, ?_, ?_, ?_⟩
      · rw [htk.out]; exact World.ownsRow.kept hrow7.out (grownBy_setCell' w7 g _) (.inr (not_row hH7.out (by decide) hrow7.out))
      · exact grown_set (grown_row (below_grown hB7.out) _) (.inl rfl) _
      · exact ⟨⟨_, _, by rw [hdl.out]; simpa using hH7.out.set 0 _, by rw [hdl.out]; omega, by unfold maxLen; omega, hAd.out⟩, grown_set (grown_trans hgr.out (below_grown hB7.out)) (.inr h0) _⟩

/-- A new row of one number. -/
def isInts1 (n : Int) : Fact := fun v w => ∃ g, v = .slice (some ⟨g, 0, none⟩) 1 1 ∧ Holds w g 3 #[.int .i64 n]
/-- What a number's reading told: the number, some slice, the error. -/
def isTook (n er : Int) : Fact := fun v _ => ∃ A m c, v = .tuple #[.int .i64 n, .slice A m c, .int .i64 er]
/-- Some slice. -/
def isSlice : Fact := fun v _ => ∃ A m c, v = .slice A m c
theorem stable_isInts1 (n : Int) : Stable (isInts1 n) := fun _ _ _ ⟨g, h1, h2⟩ hg => ⟨g, h1, h2.kept0 hg⟩
theorem stable_isTook (n er : Int) : Stable (isTook n er) := fun _ _ _ h _ => h
theorem stable_isSlice : Stable isSlice := fun _ _ _ h _ => h

/-- What number leaves. -/
def NumLeaves (w0 : World) (g : Nat) (rs : List Int) (w : World) (e : Ending) (w' : World) : Prop :=
  w.grownBy w' (some g) ∧ ((∃ n, e = .returned (.tuple #[.int .i64 n, .int .i64 0]) ∧ 0 ≤ n ∧ n ≤ 2147483647 ∧ ∃ rest, take rs = .good n rest ∧ RdAt w0 g rest w' ∧ rest.length ≤ rs.length ∧ (∀ x ∈ rest, isByte x)) ∨
    (e = .returned (.tuple #[.int .i64 0, .int .i64 12]) ∧ ∃ e', take rs = .bad e'))

set_option maxHeartbeats 16000000 in
theorem leftNum_bad (w0 : World) (g : Nat) (rs r5 : List Int) (A : Option Addr) (c : Nat) (er : Int) (w : World) (hc5 : r5.length ≤ c) (hcm : c ≤ 9223372036854775807) (hle2 : r5.length ≤ 5) (hmin : min (rs.length : Int) 5 = (r5.length : Int)) (hb5 : ∀ x ∈ r5, isByte x)
    (hA5 : Arr w .u8 A r5) (c0 : w.cell? ⟨g, 0, none⟩ = some (.slice A rs.length c)) (l0 : g < w.heap.size) (hE : ∃ e', take rs = .bad e') (htk : take r5 = .bad er) :
    Calls Try.prog 36 #[.pointer (some ⟨g, 0, none⟩)] w (NumLeaves w0 g rs w) := by
  replace c0 := hid c0
  replace l0 := hid l0
  replace hA5 := hid hA5
  replace hb5 := hid hb5
  replace hmin := hid hmin
  replace hE := hid hE
  have hcc := hid hc5
  have hne := take_bad_ne _ _ htk
  replace htk := hid htk
  have hne' : (er != 0) = true := by rw [bne_iff_ne]; exact hne
  replace hne := hid hne
  go_enter Try.func36, Try.ntmps36
  go_upto_region 1 with fail
  apply wp_region_each [isv _, isv _, isv _, isv (.slice A rs.length c), isv _, isv _, isv _, isv (.slice A rs.length c), isv (.int .i64 rs.length), isInts1 2147483647, isv (.int .i64 5), isv (.int .i64 r5.length), isv (.slice A r5.length c), isTook 0 er, isTook 0 er, isv (.int .i64 0), isSlice, isv (.int .i64 er), isv (.int .i64 0), isSlice, isv (.int .i64 er)]
    39 [some 8, some 9, some 10, some 11, some 12, some 13, some 14, some 15, some 16, some 17, some 18, some 19, some 20, some 21, some 7, some 22, some 23, some 24, some 4, some 5, some 6]
    [some 8, some 9, some 10, some 11, some 12, some 13, some 14, some 15, some 16, some 17, some 18, some 19, some 20, some 21, some 7, some 22, some 23, some 24, some 4, some 5, some 6]
    [[], [0], [1], [2], [], [4], [5], [6], [7], [], [9], [8, 10], [3, 11], [12], [13], [14], [14], [14], [15], [16], [17]]
    [(0, .pointer (some ⟨g, 0, none⟩))] (by kernel_rfl) rfl (by kernel_rfl) rfl rfl (by kernel_rfl) (OutsOk.cons rfl rfl OutsOk.nil) ?st ?ob ?fin
  case ob =>
    refine Obs.consv rfl ?o0 (Obs.consv rfl ?o1 (Obs.consv rfl ?o2 (Obs.consv rfl ?o3 (Obs.consv rfl ?o4 (Obs.consv rfl ?o5 (Obs.consv rfl ?o6 (Obs.consv rfl ?o7 (Obs.consv rfl ?o8 (Obs.consv rfl ?o9 (Obs.consv rfl ?o10 (Obs.consv rfl ?o11 (Obs.consv rfl ?o12 (Obs.consv rfl ?o13 (Obs.consv rfl ?o14 (Obs.consv rfl ?o15 (Obs.consv rfl ?o16 (Obs.consv rfl ?o17 (Obs.consv rfl ?o18 (Obs.consv rfl ?o19 (Obs.consv rfl ?o20 Obs.nil))))))))))))))))))))
    case o0 =>
      go_light
      intro ac w' hgw
      have hcw := ((gcell hgw).1 g 0 l0.out).trans c0.out
      have hAw := hid (hA5.out.grown (grown_trans (grown_drew (grown_refl w none)) hgw))
      replace hgw := hid hgw
      simp only [outThen, preThen, slotIs, factAt, isv, List.getElem?_cons_zero, List.getElem?_cons_succ, Option.getD_some, forall_eq]
      intros
      rename_i hK
      replace hK := hid hK
      simp only [wantedAt]
      go_simp
      exact hK.out _ _ rfl (grown_refl _ _)
    case o1 =>
      go_light
      intro ac w' hgw
      have hcw := ((gcell hgw).1 g 0 l0.out).trans c0.out
      have hAw := hid (hA5.out.grown (grown_trans (grown_drew (grown_refl w none)) hgw))
      replace hgw := hid hgw
      simp only [outThen, preThen, slotIs, factAt, isv, List.getElem?_cons_zero, List.getElem?_cons_succ, Option.getD_some, forall_eq]
      intros
      rename_i hK
      replace hK := hid hK
      simp only [wantedAt]
      go_simp
      exact hK.out _ _ rfl (grown_refl _ _)
    case o2 =>
      go_light
      intro ac w' hgw
      have hcw := ((gcell hgw).1 g 0 l0.out).trans c0.out
      have hAw := hid (hA5.out.grown (grown_trans (grown_drew (grown_refl w none)) hgw))
      replace hgw := hid hgw
      simp only [outThen, preThen, slotIs, factAt, isv, List.getElem?_cons_zero, List.getElem?_cons_succ, Option.getD_some, forall_eq]
      intros
      rename_i hK
      replace hK := hid hK
      simp only [wantedAt]
      go_simp
      exact hK.out _ _ rfl (grown_refl _ _)
    case o3 =>
      go_light
      intro ac w' hgw
      have hcw := ((gcell hgw).1 g 0 l0.out).trans c0.out
      have hAw := hid (hA5.out.grown (grown_trans (grown_drew (grown_refl w none)) hgw))
      replace hgw := hid hgw
      simp only [outThen, preThen, slotIs, factAt, isv, List.getElem?_cons_zero, List.getElem?_cons_succ, Option.getD_some, forall_eq]
      intros
      rename_i hK
      replace hK := hid hK
      simp only [wantedAt]
      go_simp
      exact hK.out _ _ rfl (grown_refl _ _)
    case o4 =>
      go_light
      intro ac w' hgw
      have hcw := ((gcell hgw).1 g 0 l0.out).trans c0.out
      have hAw := hid (hA5.out.grown (grown_trans (grown_drew (grown_refl w none)) hgw))
      replace hgw := hid hgw
      simp only [outThen, preThen, slotIs, factAt, isv, List.getElem?_cons_zero, List.getElem?_cons_succ, Option.getD_some, forall_eq]
      intros
      rename_i hK
      replace hK := hid hK
      simp only [wantedAt]
      go_simp
      exact hK.out _ _ rfl (grown_refl _ _)
    case o5 =>
      go_light
      intro ac w' hgw
      have hcw := ((gcell hgw).1 g 0 l0.out).trans c0.out
      have hAw := hid (hA5.out.grown (grown_trans (grown_drew (grown_refl w none)) hgw))
      replace hgw := hid hgw
      simp only [outThen, preThen, slotIs, factAt, isv, List.getElem?_cons_zero, List.getElem?_cons_succ, Option.getD_some, forall_eq]
      intros
      rename_i hK
      replace hK := hid hK
      simp only [wantedAt]
      go_simp
      exact hK.out _ _ rfl (grown_refl _ _)
    case o6 =>
      go_light
      intro ac w' hgw
      have hcw := ((gcell hgw).1 g 0 l0.out).trans c0.out
      have hAw := hid (hA5.out.grown (grown_trans (grown_drew (grown_refl w none)) hgw))
      replace hgw := hid hgw
      simp only [outThen, preThen, slotIs, factAt, isv, List.getElem?_cons_zero, List.getElem?_cons_succ, Option.getD_some, forall_eq]
      intros
      rename_i hK
      replace hK := hid hK
      simp only [wantedAt]
      go_simp
      exact hK.out _ _ rfl (grown_refl _ _)
    case o7 =>
      go_light
      intro ac w' hgw
      have hcw := ((gcell hgw).1 g 0 l0.out).trans c0.out
      have hAw := hid (hA5.out.grown (grown_trans (grown_drew (grown_refl w none)) hgw))
      replace hgw := hid hgw
      simp only [outThen, preThen, slotIs, factAt, isv, List.getElem?_cons_zero, List.getElem?_cons_succ, Option.getD_some, forall_eq]
      intros
      rename_i hK
      replace hK := hid hK
      simp only [wantedAt]
      go_simp
      exact hK.out _ _ rfl (grown_refl _ _)
    case o8 =>
      go_light
      intro ac w' hgw
      have hcw := ((gcell hgw).1 g 0 l0.out).trans c0.out
      have hAw := hid (hA5.out.grown (grown_trans (grown_drew (grown_refl w none)) hgw))
      replace hgw := hid hgw
      simp only [outThen, preThen, slotIs, factAt, isv, List.getElem?_cons_zero, List.getElem?_cons_succ, Option.getD_some, forall_eq]
      intros
      rename_i hK
      replace hK := hid hK
      simp only [wantedAt]
      go_simp
      exact hK.out _ _ rfl (grown_refl _ _)
    case o9 =>
      go_light
      intro ac w' hgw
      have hcw := ((gcell hgw).1 g 0 l0.out).trans c0.out
      have hAw := hid (hA5.out.grown (grown_trans (grown_drew (grown_refl w none)) hgw))
      replace hgw := hid hgw
      simp only [outThen, preThen, slotIs, factAt, isv, List.getElem?_cons_zero, List.getElem?_cons_succ, Option.getD_some, forall_eq]
      intros
      rename_i K hK
      replace hK := hid hK
      simp only [wantedAt]
      go_simp
      exact hK.out _ _ ⟨_, rfl, Holds.new _ _ _⟩ (grown_alloc (grown_refl _ _) _)
    case o10 =>
      go_light
      intro ac w' hgw
      have hcw := ((gcell hgw).1 g 0 l0.out).trans c0.out
      have hAw := hid (hA5.out.grown (grown_trans (grown_drew (grown_refl w none)) hgw))
      replace hgw := hid hgw
      simp only [outThen, preThen, slotIs, factAt, isv, List.getElem?_cons_zero, List.getElem?_cons_succ, Option.getD_some, forall_eq]
      intros
      rename_i v1 h1 hv1 K hK
      obtain ⟨b1, rfl, hb1⟩ := h1
      replace hK := hid hK
      simp only [wantedAt]
      go_simp
      refine (Size_yes (some ⟨b1, 0, none⟩) 1 [2147483647] _ (Arr.of_holds (k := .i64) hb1) (by simp) (by simp [toldB])).mono ?_
      rintro e w3 ⟨rfl, rfl⟩
      rw [size_most]
      exact hK.out _ _ rfl (grown_refl _ _)
    case o11 =>
      go_light
      intro ac w' hgw
      have hcw := ((gcell hgw).1 g 0 l0.out).trans c0.out
      have hAw := hid (hA5.out.grown (grown_trans (grown_drew (grown_refl w none)) hgw))
      replace hgw := hid hgw
      simp only [outThen, preThen, slotIs, factAt, isv, List.getElem?_cons_zero, List.getElem?_cons_succ, Option.getD_some, forall_eq]
      intros
      rename_i K hK
      replace hK := hid hK
      simp only [wantedAt]
      have hm := hmin.out
      go_simp
      exact hK.out _ _ rfl (grown_refl _ _)
    case o12 =>
      go_light
      intro ac w' hgw
      have hcw := ((gcell hgw).1 g 0 l0.out).trans c0.out
      have hAw := hid (hA5.out.grown (grown_trans (grown_drew (grown_refl w none)) hgw))
      replace hgw := hid hgw
      simp only [outThen, preThen, slotIs, factAt, isv, List.getElem?_cons_zero, List.getElem?_cons_succ, Option.getD_some, forall_eq]
      intros
      rename_i K hK
      replace hK := hid hK
      simp only [wantedAt]
      have hc5 := hcc.out
      go_simp
      exact hK.out _ _ rfl (grown_refl _ _)
    case o13 =>
      go_light
      intro ac w' hgw
      have hcw := ((gcell hgw).1 g 0 l0.out).trans c0.out
      have hAw := hid (hA5.out.grown (grown_trans (grown_drew (grown_refl w none)) hgw))
      replace hgw := hid hgw
      simp only [outThen, preThen, slotIs, factAt, isv, List.getElem?_cons_zero, List.getElem?_cons_succ, Option.getD_some, forall_eq]
      intros
      rename_i K hK
      replace hK := hid hK
      simp only [wantedAt]
      go_simp
      refine (Take_any A c r5 _ (by omega) hcc.out (by unfold maxLen; omega) hb5.out hAw.out).mono ?_
      rintro e w3 ⟨n9, er9, rest9, A9, c9, rfl, _, _, _, hg9, htold⟩
      rw [htk.out] at htold
      rcases htold with ⟨h9, _⟩ | ⟨h9, _, rfl, _⟩
      · cases h9
      · injection h9 with h9
        subst h9
        exact hK.out _ _ ⟨_, _, _, rfl⟩ hg9
    case o14 =>
      go_light
      intro ac w' hgw
      have hcw := ((gcell hgw).1 g 0 l0.out).trans c0.out
      have hAw := hid (hA5.out.grown (grown_trans (grown_drew (grown_refl w none)) hgw))
      replace hgw := hid hgw
      simp only [outThen, preThen, slotIs, factAt, isv, List.getElem?_cons_zero, List.getElem?_cons_succ, Option.getD_some, forall_eq]
      intros
      rename_i v1 h1 hv1 K hK
      obtain ⟨A1, m1, c1, rfl⟩ := h1
      replace hK := hid hK
      simp only [wantedAt]
      go_simp
      exact hK.out _ _ ⟨_, _, _, rfl⟩ (grown_refl _ _)
    case o15 =>
      go_light
      intro ac w' hgw
      have hcw := ((gcell hgw).1 g 0 l0.out).trans c0.out
      have hAw := hid (hA5.out.grown (grown_trans (grown_drew (grown_refl w none)) hgw))
      replace hgw := hid hgw
      simp only [outThen, preThen, slotIs, factAt, isv, List.getElem?_cons_zero, List.getElem?_cons_succ, Option.getD_some, forall_eq]
      intros
      rename_i v1 h1 hv1 K hK
      obtain ⟨A1, m1, c1, rfl⟩ := h1
      replace hK := hid hK
      simp only [wantedAt]
      go_simp
      exact hK.out _ _ rfl (grown_refl _ _)
    case o16 =>
      go_light
      intro ac w' hgw
      have hcw := ((gcell hgw).1 g 0 l0.out).trans c0.out
      have hAw := hid (hA5.out.grown (grown_trans (grown_drew (grown_refl w none)) hgw))
      replace hgw := hid hgw
      simp only [outThen, preThen, slotIs, factAt, isv, List.getElem?_cons_zero, List.getElem?_cons_succ, Option.getD_some, forall_eq]
      intros
      rename_i v1 h1 hv1 K hK
      obtain ⟨A1, m1, c1, rfl⟩ := h1
      replace hK := hid hK
      simp only [wantedAt]
      go_simp
      exact hK.out _ _ ⟨_, _, _, rfl⟩ (grown_refl _ _)
    case o17 =>
      go_light
      intro ac w' hgw
      have hcw := ((gcell hgw).1 g 0 l0.out).trans c0.out
      have hAw := hid (hA5.out.grown (grown_trans (grown_drew (grown_refl w none)) hgw))
      replace hgw := hid hgw
      simp only [outThen, preThen, slotIs, factAt, isv, List.getElem?_cons_zero, List.getElem?_cons_succ, Option.getD_some, forall_eq]
      intros
      rename_i v1 h1 hv1 K hK
      obtain ⟨A1, m1, c1, rfl⟩ := h1
      replace hK := hid hK
      simp only [wantedAt]
      go_simp
      exact hK.out _ _ rfl (grown_refl _ _)
    case o18 =>
      go_light
      intro ac w' hgw
      have hcw := ((gcell hgw).1 g 0 l0.out).trans c0.out
      have hAw := hid (hA5.out.grown (grown_trans (grown_drew (grown_refl w none)) hgw))
      replace hgw := hid hgw
      simp only [outThen, preThen, slotIs, factAt, isv, List.getElem?_cons_zero, List.getElem?_cons_succ, Option.getD_some, forall_eq]
      intros
      rename_i hK
      replace hK := hid hK
      simp only [wantedAt]
      go_simp
      exact hK.out _ _ rfl (grown_refl _ _)
    case o19 =>
      go_light
      intro ac w' hgw
      have hcw := ((gcell hgw).1 g 0 l0.out).trans c0.out
      have hAw := hid (hA5.out.grown (grown_trans (grown_drew (grown_refl w none)) hgw))
      replace hgw := hid hgw
      simp only [outThen, preThen, slotIs, factAt, isv, List.getElem?_cons_zero, List.getElem?_cons_succ, Option.getD_some, forall_eq]
      intros
      rename_i v1 h1 hv1 K hK
      obtain ⟨A1, m1, c1, rfl⟩ := h1
      replace hK := hid hK
      simp only [wantedAt]
      go_simp
      exact hK.out _ _ ⟨_, _, _, rfl⟩ (grown_refl _ _)
    case o20 =>
      go_light
      intro ac w' hgw
      have hcw := ((gcell hgw).1 g 0 l0.out).trans c0.out
      have hAw := hid (hA5.out.grown (grown_trans (grown_drew (grown_refl w none)) hgw))
      replace hgw := hid hgw
      simp only [outThen, preThen, slotIs, factAt, isv, List.getElem?_cons_zero, List.getElem?_cons_succ, Option.getD_some, forall_eq]
      intros
      rename_i hK
      replace hK := hid hK
      simp only [wantedAt]
      go_simp
      exact hK.out _ _ rfl (grown_refl _ _)
  case st =>
    repeat (first | exact AllStable.nil | (refine AllStable.cons ?_ ?_; focus (first | exact stable_isv _ | exact stable_isBytes _ | exact stable_isRow1 _ | exact stable_isRowOf _ _ | exact stable_isArrOf _ | exact stable_isInts1 _ | exact stable_isTook _ _ | exact stable_isSlice)))
  case fin =>
    intro w3 hgw
    simp only [finalIn, factAt, isv, isInts1, isTook, isSlice, List.getElem?_cons_zero, List.getElem?_cons_succ, Option.getD_some, forall_eq, slotIs, subj]
    rintro v9 ⟨b9, rfl, _⟩ v13 ⟨A13, m13, c13, rfl⟩ v14 ⟨A14, m14, c14, rfl⟩ v16 ⟨A16, m16, c16, rfl⟩ v19 ⟨A19, m19, c19, rfl⟩
    simp only [Act.put, List.setIfInBounds_toArray, List.set_cons_zero, List.set_cons_succ]
    have hG3 := hid (grown_trans (grown_drew (grown_refl w none)) hgw)
    have c3 := hid (((gcell hgw).1 g 0 l0.out).trans c0.out)
    clear hgw
    go_wp2_with fail
    go_ret2
    exact ⟨grown_row hG3.out _, .inr ⟨rfl, hE.out⟩⟩

set_option maxHeartbeats 16000000 in
theorem leftNum_good (w0 : World) (g : Nat) (rs r5 r : List Int) (A : Option Addr) (c M L : Nat) (w : World) (hc5 : r5.length ≤ c) (hcm : c ≤ 9223372036854775807) (hl : rs.length ≤ 100000) (hc : rs.length ≤ c) (hle2 : r5.length ≤ 5) (hmin : min (rs.length : Int) 5 = (r5.length : Int)) (hb5 : ∀ x ∈ r5, isByte x)
    (hA5 : Arr w .u8 A r5) (hH : Holds w g 48 #[.slice A rs.length c]) (htk : take r5 = .good M r) (hn1 : (M : Int) ≤ 2147483647) (hel : L ≤ rs.length) (hL5 : L ≤ 5)
    (hLs : ∀ W A c, Arr W .i64 A [(M : Int)] → Calls Try.prog 47 #[.slice A 1 c] W fun e w' => e = .returned (.int .i64 (L : Int)) ∧ W = w')
    (hK : ∀ w', w.grownBy w' (some g) → (∃ W, w.grownBy W none ∧ w' = W.setCell ⟨g, 0, none⟩ (.slice (if c = L then A else A.map (fun x => x.add L)) (rs.length - L) (c - L)) ∧ Holds w' g 48 #[.slice (if c = L then A else A.map (fun x => x.add L)) (rs.length - L) (c - L)]) →
      NumLeaves w0 g rs w (.returned (.tuple #[.int .i64 M, .int .i64 0])) w') :
    Calls Try.prog 36 #[.pointer (some ⟨g, 0, none⟩)] w (NumLeaves w0 g rs w) := by
  have c0 := hid (show w.cell? ⟨g, 0, none⟩ = some (.slice A rs.length c) by simpa using hH.cell 0)
  have l0 := hid hH.lt
  have hH0 := hid hH
  replace hA5 := hid hA5
  replace hb5 := hid hb5
  replace hmin := hid hmin
  have hKK := hid hK
  clear hK
  replace hLs := hid hLs
  have hcc := hid hc5
  replace htk := hid htk
  clear hH
  have q0 : (L : Int) ≤ (rs.length : Int) := by omega
  have q1 : (L : Int) ≤ (c : Int) := by omega
  go_enter Try.func36, Try.ntmps36
  go_upto_region 1 with fail
  apply wp_region_each [isv _, isv _, isv _, isv (.slice A rs.length c), isv _, isv _, isv _, isv (.slice A rs.length c), isv (.int .i64 rs.length), isInts1 2147483647, isv (.int .i64 5), isv (.int .i64 r5.length), isv (.slice A r5.length c), isTook M 0, isTook M 0, isv (.int .i64 M), isSlice, isv (.int .i64 0), isv (.int .i64 M), isSlice, isv (.int .i64 0)]
    39 [some 8, some 9, some 10, some 11, some 12, some 13, some 14, some 15, some 16, some 17, some 18, some 19, some 20, some 21, some 7, some 22, some 23, some 24, some 4, some 5, some 6]
    [some 8, some 9, some 10, some 11, some 12, some 13, some 14, some 15, some 16, some 17, some 18, some 19, some 20, some 21, some 7, some 22, some 23, some 24, some 4, some 5, some 6]
    [[], [0], [1], [2], [], [4], [5], [6], [7], [], [9], [8, 10], [3, 11], [12], [13], [14], [14], [14], [15], [16], [17]]
    [(0, .pointer (some ⟨g, 0, none⟩))] (by kernel_rfl) rfl (by kernel_rfl) rfl rfl (by kernel_rfl) (OutsOk.cons rfl rfl OutsOk.nil) ?st ?ob ?fin
  case ob =>
    refine Obs.consv rfl ?o0 (Obs.consv rfl ?o1 (Obs.consv rfl ?o2 (Obs.consv rfl ?o3 (Obs.consv rfl ?o4 (Obs.consv rfl ?o5 (Obs.consv rfl ?o6 (Obs.consv rfl ?o7 (Obs.consv rfl ?o8 (Obs.consv rfl ?o9 (Obs.consv rfl ?o10 (Obs.consv rfl ?o11 (Obs.consv rfl ?o12 (Obs.consv rfl ?o13 (Obs.consv rfl ?o14 (Obs.consv rfl ?o15 (Obs.consv rfl ?o16 (Obs.consv rfl ?o17 (Obs.consv rfl ?o18 (Obs.consv rfl ?o19 (Obs.consv rfl ?o20 Obs.nil))))))))))))))))))))
    case o0 =>
      go_light
      intro ac w' hgw
      have hcw := ((gcell hgw).1 g 0 l0.out).trans c0.out
      have hAw := hid (hA5.out.grown (grown_trans (grown_drew (grown_refl w none)) hgw))
      replace hgw := hid hgw
      simp only [outThen, preThen, slotIs, factAt, isv, List.getElem?_cons_zero, List.getElem?_cons_succ, Option.getD_some, forall_eq]
      intros
      rename_i hK
      replace hK := hid hK
      simp only [wantedAt]
      go_simp
      exact hK.out _ _ rfl (grown_refl _ _)
    case o1 =>
      go_light
      intro ac w' hgw
      have hcw := ((gcell hgw).1 g 0 l0.out).trans c0.out
      have hAw := hid (hA5.out.grown (grown_trans (grown_drew (grown_refl w none)) hgw))
      replace hgw := hid hgw
      simp only [outThen, preThen, slotIs, factAt, isv, List.getElem?_cons_zero, List.getElem?_cons_succ, Option.getD_some, forall_eq]
      intros
      rename_i hK
      replace hK := hid hK
      simp only [wantedAt]
      go_simp
      exact hK.out _ _ rfl (grown_refl _ _)
    case o2 =>
      go_light
      intro ac w' hgw
      have hcw := ((gcell hgw).1 g 0 l0.out).trans c0.out
      have hAw := hid (hA5.out.grown (grown_trans (grown_drew (grown_refl w none)) hgw))
      replace hgw := hid hgw
      simp only [outThen, preThen, slotIs, factAt, isv, List.getElem?_cons_zero, List.getElem?_cons_succ, Option.getD_some, forall_eq]
      intros
      rename_i hK
      replace hK := hid hK
      simp only [wantedAt]
      go_simp
      exact hK.out _ _ rfl (grown_refl _ _)
    case o3 =>
      go_light
      intro ac w' hgw
      have hcw := ((gcell hgw).1 g 0 l0.out).trans c0.out
      have hAw := hid (hA5.out.grown (grown_trans (grown_drew (grown_refl w none)) hgw))
      replace hgw := hid hgw
      simp only [outThen, preThen, slotIs, factAt, isv, List.getElem?_cons_zero, List.getElem?_cons_succ, Option.getD_some, forall_eq]
      intros
      rename_i hK
      replace hK := hid hK
      simp only [wantedAt]
      go_simp
      exact hK.out _ _ rfl (grown_refl _ _)
    case o4 =>
      go_light
      intro ac w' hgw
      have hcw := ((gcell hgw).1 g 0 l0.out).trans c0.out
      have hAw := hid (hA5.out.grown (grown_trans (grown_drew (grown_refl w none)) hgw))
      replace hgw := hid hgw
      simp only [outThen, preThen, slotIs, factAt, isv, List.getElem?_cons_zero, List.getElem?_cons_succ, Option.getD_some, forall_eq]
      intros
      rename_i hK
      replace hK := hid hK
      simp only [wantedAt]
      go_simp
      exact hK.out _ _ rfl (grown_refl _ _)
    case o5 =>
      go_light
      intro ac w' hgw
      have hcw := ((gcell hgw).1 g 0 l0.out).trans c0.out
      have hAw := hid (hA5.out.grown (grown_trans (grown_drew (grown_refl w none)) hgw))
      replace hgw := hid hgw
      simp only [outThen, preThen, slotIs, factAt, isv, List.getElem?_cons_zero, List.getElem?_cons_succ, Option.getD_some, forall_eq]
      intros
      rename_i hK
      replace hK := hid hK
      simp only [wantedAt]
      go_simp
      exact hK.out _ _ rfl (grown_refl _ _)
    case o6 =>
      go_light
      intro ac w' hgw
      have hcw := ((gcell hgw).1 g 0 l0.out).trans c0.out
      have hAw := hid (hA5.out.grown (grown_trans (grown_drew (grown_refl w none)) hgw))
      replace hgw := hid hgw
      simp only [outThen, preThen, slotIs, factAt, isv, List.getElem?_cons_zero, List.getElem?_cons_succ, Option.getD_some, forall_eq]
      intros
      rename_i hK
      replace hK := hid hK
      simp only [wantedAt]
      go_simp
      exact hK.out _ _ rfl (grown_refl _ _)
    case o7 =>
      go_light
      intro ac w' hgw
      have hcw := ((gcell hgw).1 g 0 l0.out).trans c0.out
      have hAw := hid (hA5.out.grown (grown_trans (grown_drew (grown_refl w none)) hgw))
      replace hgw := hid hgw
      simp only [outThen, preThen, slotIs, factAt, isv, List.getElem?_cons_zero, List.getElem?_cons_succ, Option.getD_some, forall_eq]
      intros
      rename_i hK
      replace hK := hid hK
      simp only [wantedAt]
      go_simp
      exact hK.out _ _ rfl (grown_refl _ _)
    case o8 =>
      go_light
      intro ac w' hgw
      have hcw := ((gcell hgw).1 g 0 l0.out).trans c0.out
      have hAw := hid (hA5.out.grown (grown_trans (grown_drew (grown_refl w none)) hgw))
      replace hgw := hid hgw
      simp only [outThen, preThen, slotIs, factAt, isv, List.getElem?_cons_zero, List.getElem?_cons_succ, Option.getD_some, forall_eq]
      intros
      rename_i hK
      replace hK := hid hK
      simp only [wantedAt]
      go_simp
      exact hK.out _ _ rfl (grown_refl _ _)
    case o9 =>
      go_light
      intro ac w' hgw
      have hcw := ((gcell hgw).1 g 0 l0.out).trans c0.out
      have hAw := hid (hA5.out.grown (grown_trans (grown_drew (grown_refl w none)) hgw))
      replace hgw := hid hgw
      simp only [outThen, preThen, slotIs, factAt, isv, List.getElem?_cons_zero, List.getElem?_cons_succ, Option.getD_some, forall_eq]
      intros
      rename_i K hK
      replace hK := hid hK
      simp only [wantedAt]
      go_simp
      exact hK.out _ _ ⟨_, rfl, Holds.new _ _ _⟩ (grown_alloc (grown_refl _ _) _)
    case o10 =>
      go_light
      intro ac w' hgw
      have hcw := ((gcell hgw).1 g 0 l0.out).trans c0.out
      have hAw := hid (hA5.out.grown (grown_trans (grown_drew (grown_refl w none)) hgw))
      replace hgw := hid hgw
      simp only [outThen, preThen, slotIs, factAt, isv, List.getElem?_cons_zero, List.getElem?_cons_succ, Option.getD_some, forall_eq]
      intros
      rename_i v1 h1 hv1 K hK
      obtain ⟨b1, rfl, hb1⟩ := h1
      replace hK := hid hK
      simp only [wantedAt]
      go_simp
      refine (Size_yes (some ⟨b1, 0, none⟩) 1 [2147483647] _ (Arr.of_holds (k := .i64) hb1) (by simp) (by simp [toldB])).mono ?_
      rintro e w3 ⟨rfl, rfl⟩
      rw [size_most]
      exact hK.out _ _ rfl (grown_refl _ _)
    case o11 =>
      go_light
      intro ac w' hgw
      have hcw := ((gcell hgw).1 g 0 l0.out).trans c0.out
      have hAw := hid (hA5.out.grown (grown_trans (grown_drew (grown_refl w none)) hgw))
      replace hgw := hid hgw
      simp only [outThen, preThen, slotIs, factAt, isv, List.getElem?_cons_zero, List.getElem?_cons_succ, Option.getD_some, forall_eq]
      intros
      rename_i K hK
      replace hK := hid hK
      simp only [wantedAt]
      have hm := hmin.out
      go_simp
      exact hK.out _ _ rfl (grown_refl _ _)
    case o12 =>
      go_light
      intro ac w' hgw
      have hcw := ((gcell hgw).1 g 0 l0.out).trans c0.out
      have hAw := hid (hA5.out.grown (grown_trans (grown_drew (grown_refl w none)) hgw))
      replace hgw := hid hgw
      simp only [outThen, preThen, slotIs, factAt, isv, List.getElem?_cons_zero, List.getElem?_cons_succ, Option.getD_some, forall_eq]
      intros
      rename_i K hK
      replace hK := hid hK
      simp only [wantedAt]
      have hc5 := hcc.out
      go_simp
      exact hK.out _ _ rfl (grown_refl _ _)
    case o13 =>
      go_light
      intro ac w' hgw
      have hcw := ((gcell hgw).1 g 0 l0.out).trans c0.out
      have hAw := hid (hA5.out.grown (grown_trans (grown_drew (grown_refl w none)) hgw))
      replace hgw := hid hgw
      simp only [outThen, preThen, slotIs, factAt, isv, List.getElem?_cons_zero, List.getElem?_cons_succ, Option.getD_some, forall_eq]
      intros
      rename_i K hK
      replace hK := hid hK
      simp only [wantedAt]
      go_simp
      refine (Take_any A c r5 _ (by omega) hcc.out (by unfold maxLen; omega) hb5.out hAw.out).mono ?_
      rintro e w3 ⟨n9, er9, rest9, A9, c9, rfl, _, _, _, hg9, htold⟩
      rw [htk.out] at htold
      rcases htold with ⟨h9, rfl⟩ | ⟨h9, _⟩
      · injection h9 with h9 h9'
        subst h9
        exact hK.out _ _ ⟨_, _, _, rfl⟩ hg9
      · cases h9
    case o14 =>
      go_light
      intro ac w' hgw
      have hcw := ((gcell hgw).1 g 0 l0.out).trans c0.out
      have hAw := hid (hA5.out.grown (grown_trans (grown_drew (grown_refl w none)) hgw))
      replace hgw := hid hgw
      simp only [outThen, preThen, slotIs, factAt, isv, List.getElem?_cons_zero, List.getElem?_cons_succ, Option.getD_some, forall_eq]
      intros
      rename_i v1 h1 hv1 K hK
      obtain ⟨A1, m1, c1, rfl⟩ := h1
      replace hK := hid hK
      simp only [wantedAt]
      go_simp
      exact hK.out _ _ ⟨_, _, _, rfl⟩ (grown_refl _ _)
    case o15 =>
      go_light
      intro ac w' hgw
      have hcw := ((gcell hgw).1 g 0 l0.out).trans c0.out
      have hAw := hid (hA5.out.grown (grown_trans (grown_drew (grown_refl w none)) hgw))
      replace hgw := hid hgw
      simp only [outThen, preThen, slotIs, factAt, isv, List.getElem?_cons_zero, List.getElem?_cons_succ, Option.getD_some, forall_eq]
      intros
      rename_i v1 h1 hv1 K hK
      obtain ⟨A1, m1, c1, rfl⟩ := h1
      replace hK := hid hK
      simp only [wantedAt]
      go_simp
      exact hK.out _ _ rfl (grown_refl _ _)
    case o16 =>
      go_light
      intro ac w' hgw
      have hcw := ((gcell hgw).1 g 0 l0.out).trans c0.out
      have hAw := hid (hA5.out.grown (grown_trans (grown_drew (grown_refl w none)) hgw))
      replace hgw := hid hgw
      simp only [outThen, preThen, slotIs, factAt, isv, List.getElem?_cons_zero, List.getElem?_cons_succ, Option.getD_some, forall_eq]
      intros
      rename_i v1 h1 hv1 K hK
      obtain ⟨A1, m1, c1, rfl⟩ := h1
      replace hK := hid hK
      simp only [wantedAt]
      go_simp
      exact hK.out _ _ ⟨_, _, _, rfl⟩ (grown_refl _ _)
    case o17 =>
      go_light
      intro ac w' hgw
      have hcw := ((gcell hgw).1 g 0 l0.out).trans c0.out
      have hAw := hid (hA5.out.grown (grown_trans (grown_drew (grown_refl w none)) hgw))
      replace hgw := hid hgw
      simp only [outThen, preThen, slotIs, factAt, isv, List.getElem?_cons_zero, List.getElem?_cons_succ, Option.getD_some, forall_eq]
      intros
      rename_i v1 h1 hv1 K hK
      obtain ⟨A1, m1, c1, rfl⟩ := h1
      replace hK := hid hK
      simp only [wantedAt]
      go_simp
      exact hK.out _ _ rfl (grown_refl _ _)
    case o18 =>
      go_light
      intro ac w' hgw
      have hcw := ((gcell hgw).1 g 0 l0.out).trans c0.out
      have hAw := hid (hA5.out.grown (grown_trans (grown_drew (grown_refl w none)) hgw))
      replace hgw := hid hgw
      simp only [outThen, preThen, slotIs, factAt, isv, List.getElem?_cons_zero, List.getElem?_cons_succ, Option.getD_some, forall_eq]
      intros
      rename_i hK
      replace hK := hid hK
      simp only [wantedAt]
      go_simp
      exact hK.out _ _ rfl (grown_refl _ _)
    case o19 =>
      go_light
      intro ac w' hgw
      have hcw := ((gcell hgw).1 g 0 l0.out).trans c0.out
      have hAw := hid (hA5.out.grown (grown_trans (grown_drew (grown_refl w none)) hgw))
      replace hgw := hid hgw
      simp only [outThen, preThen, slotIs, factAt, isv, List.getElem?_cons_zero, List.getElem?_cons_succ, Option.getD_some, forall_eq]
      intros
      rename_i v1 h1 hv1 K hK
      obtain ⟨A1, m1, c1, rfl⟩ := h1
      replace hK := hid hK
      simp only [wantedAt]
      go_simp
      exact hK.out _ _ ⟨_, _, _, rfl⟩ (grown_refl _ _)
    case o20 =>
      go_light
      intro ac w' hgw
      have hcw := ((gcell hgw).1 g 0 l0.out).trans c0.out
      have hAw := hid (hA5.out.grown (grown_trans (grown_drew (grown_refl w none)) hgw))
      replace hgw := hid hgw
      simp only [outThen, preThen, slotIs, factAt, isv, List.getElem?_cons_zero, List.getElem?_cons_succ, Option.getD_some, forall_eq]
      intros
      rename_i hK
      replace hK := hid hK
      simp only [wantedAt]
      go_simp
      exact hK.out _ _ rfl (grown_refl _ _)
  case st =>
    repeat (first | exact AllStable.nil | (refine AllStable.cons ?_ ?_; focus (first | exact stable_isv _ | exact stable_isBytes _ | exact stable_isRow1 _ | exact stable_isRowOf _ _ | exact stable_isArrOf _ | exact stable_isInts1 _ | exact stable_isTook _ _ | exact stable_isSlice)))
  case fin =>
    intro w3 hgw
    simp only [finalIn, factAt, isv, isInts1, isTook, isSlice, List.getElem?_cons_zero, List.getElem?_cons_succ, Option.getD_some, forall_eq, slotIs, subj]
    rintro v9 ⟨b9, rfl, _⟩ v13 ⟨A13, m13, c13, rfl⟩ v14 ⟨A14, m14, c14, rfl⟩ v16 ⟨A16, m16, c16, rfl⟩ v19 ⟨A19, m19, c19, rfl⟩
    simp only [Act.put, List.setIfInBounds_toArray, List.set_cons_zero, List.set_cons_succ]
    have hG3 := hid (grown_trans (grown_drew (grown_refl w none)) hgw)
    have c3 := hid (((gcell hgw).1 g 0 l0.out).trans c0.out)
    clear hgw
    go_upto_region 4 with fail
    by_cases hcn : c = L
    all_goals
      apply head_plain 11 [isv _, isv _, isv _, isv _, isv _, isv (.int .i64 M), isInts1 M, isv (.int .i64 L), isv _, isv _, isv _]
        39 [some 27, some 28, some 29, some 30, some 31, some 32, some 33, some 34, some 35, some 36, some 37]
        [some 27, some 28, some 29, some 30, some 31, some 32, some 33, some 34, some 35, some 36, some 37]
        [[], [], [1], [2], [3], [], [5], [6], [4, 7], [0], [9]]
        [(0, .pointer (some ⟨g, 0, none⟩)), (4, .int .i64 M)] (by kernel_rfl) rfl (by kernel_rfl) (by kernel_rfl) rfl rfl (by kernel_rfl) (OutsOk.cons rfl rfl (OutsOk.cons rfl rfl OutsOk.nil)) ?st ?ob ?fin
      case ob =>
        refine Obs.consv rfl ?o0 (Obs.consv rfl ?o1 (Obs.consv rfl ?o2 (Obs.consv rfl ?o3 (Obs.consv rfl ?o4 (Obs.consv rfl ?o5 (Obs.consv rfl ?o6 (Obs.consv rfl ?o7 (Obs.consv rfl ?o8 (Obs.consv rfl ?o9 (Obs.consv rfl ?o10 Obs.nil))))))))))
        case o0 =>
          go_light
          intro ac w' hgw
          have hcw := ((gcell hgw).1 g 0 (Nat.lt_of_lt_of_le l0.out hG3.out.size)).trans c3.out
          replace hgw := hid hgw
          simp only [outThen, preThen, slotIs, factAt, isv, List.getElem?_cons_zero, List.getElem?_cons_succ, Option.getD_some, forall_eq]
          intros
          rename_i hK
          replace hK := hid hK
          simp only [wantedAt]
          go_simp
          exact hK.out _ _ rfl (grown_refl _ _)
        case o1 =>
          go_light
          intro ac w' hgw
          have hcw := ((gcell hgw).1 g 0 (Nat.lt_of_lt_of_le l0.out hG3.out.size)).trans c3.out
          replace hgw := hid hgw
          simp only [outThen, preThen, slotIs, factAt, isv, List.getElem?_cons_zero, List.getElem?_cons_succ, Option.getD_some, forall_eq]
          intros
          rename_i hK
          replace hK := hid hK
          simp only [wantedAt]
          go_simp
          exact hK.out _ _ rfl (grown_refl _ _)
        case o2 =>
          go_light
          intro ac w' hgw
          have hcw := ((gcell hgw).1 g 0 (Nat.lt_of_lt_of_le l0.out hG3.out.size)).trans c3.out
          replace hgw := hid hgw
          simp only [outThen, preThen, slotIs, factAt, isv, List.getElem?_cons_zero, List.getElem?_cons_succ, Option.getD_some, forall_eq]
          intros
          rename_i hK
          replace hK := hid hK
          simp only [wantedAt]
          go_simp
          exact hK.out _ _ rfl (grown_refl _ _)
        case o3 =>
          go_light
          intro ac w' hgw
          have hcw := ((gcell hgw).1 g 0 (Nat.lt_of_lt_of_le l0.out hG3.out.size)).trans c3.out
          replace hgw := hid hgw
          simp only [outThen, preThen, slotIs, factAt, isv, List.getElem?_cons_zero, List.getElem?_cons_succ, Option.getD_some, forall_eq]
          intros
          rename_i hK
          replace hK := hid hK
          simp only [wantedAt]
          go_simp
          exact hK.out _ _ rfl (grown_refl _ _)
        case o4 =>
          go_light
          intro ac w' hgw
          have hcw := ((gcell hgw).1 g 0 (Nat.lt_of_lt_of_le l0.out hG3.out.size)).trans c3.out
          replace hgw := hid hgw
          simp only [outThen, preThen, slotIs, factAt, isv, List.getElem?_cons_zero, List.getElem?_cons_succ, Option.getD_some, forall_eq]
          intros
          rename_i hK
          replace hK := hid hK
          simp only [wantedAt]
          go_simp
          exact hK.out _ _ rfl (grown_refl _ _)
        case o5 =>
          go_light
          intro ac w' hgw
          have hcw := ((gcell hgw).1 g 0 (Nat.lt_of_lt_of_le l0.out hG3.out.size)).trans c3.out
          replace hgw := hid hgw
          simp only [outThen, preThen, slotIs, factAt, isv, List.getElem?_cons_zero, List.getElem?_cons_succ, Option.getD_some, forall_eq]
          intros
          rename_i hK
          replace hK := hid hK
          simp only [wantedAt]
          go_simp
          exact hK.out _ _ rfl (grown_refl _ _)
        case o6 =>
          go_light
          intro ac w' hgw
          have hcw := ((gcell hgw).1 g 0 (Nat.lt_of_lt_of_le l0.out hG3.out.size)).trans c3.out
          replace hgw := hid hgw
          simp only [outThen, preThen, slotIs, factAt, isv, List.getElem?_cons_zero, List.getElem?_cons_succ, Option.getD_some, forall_eq]
          intros
          rename_i K hK
          replace hK := hid hK
          simp only [wantedAt]
          go_simp
          exact hK.out _ _ ⟨_, rfl, Holds.new _ _ _⟩ (grown_alloc (grown_refl _ _) _)
        case o7 =>
          go_light
          intro ac w' hgw
          have hcw := ((gcell hgw).1 g 0 (Nat.lt_of_lt_of_le l0.out hG3.out.size)).trans c3.out
          replace hgw := hid hgw
          simp only [outThen, preThen, slotIs, factAt, isv, List.getElem?_cons_zero, List.getElem?_cons_succ, Option.getD_some, forall_eq]
          intros
          rename_i v1 h1 hv1 K hK
          obtain ⟨b1, rfl, hb1⟩ := h1
          replace hK := hid hK
          simp only [wantedAt]
          go_simp
          refine (hLs.out _ (some ⟨b1, 0, none⟩) 1 (Arr.of_holds (k := .i64) (zs := [(M : Int)]) hb1)).mono ?_
          rintro e w4 ⟨rfl, rfl⟩
          exact hK.out _ _ rfl (grown_refl _ _)
        case o8 =>
          go_light
          intro ac w' hgw
          have hcw := ((gcell hgw).1 g 0 (Nat.lt_of_lt_of_le l0.out hG3.out.size)).trans c3.out
          replace hgw := hid hgw
          simp only [outThen, preThen, slotIs, factAt, isv, List.getElem?_cons_zero, List.getElem?_cons_succ, Option.getD_some, forall_eq]
          intros
          rename_i hK
          replace hK := hid hK
          simp only [wantedAt]
          go_simp
          exact hK.out _ _ rfl (grown_refl _ _)
        case o9 =>
          go_light
          intro ac w' hgw
          have hcw := ((gcell hgw).1 g 0 (Nat.lt_of_lt_of_le l0.out hG3.out.size)).trans c3.out
          replace hgw := hid hgw
          simp only [outThen, preThen, slotIs, factAt, isv, List.getElem?_cons_zero, List.getElem?_cons_succ, Option.getD_some, forall_eq]
          intros
          rename_i hK
          replace hK := hid hK
          simp only [wantedAt]
          go_simp
          exact hK.out _ _ rfl (grown_refl _ _)
        case o10 =>
          go_light
          intro ac w' hgw
          have hcw := ((gcell hgw).1 g 0 (Nat.lt_of_lt_of_le l0.out hG3.out.size)).trans c3.out
          replace hgw := hid hgw
          simp only [outThen, preThen, slotIs, factAt, isv, List.getElem?_cons_zero, List.getElem?_cons_succ, Option.getD_some, forall_eq]
          intros
          rename_i hK
          replace hK := hid hK
          simp only [wantedAt]
          go_simp
          exact hK.out _ _ rfl (grown_refl _ _)
      case st =>
        repeat (first | exact AllStable.nil | (refine AllStable.cons ?_ ?_; focus (first | exact stable_isv _ | exact stable_isBytes _ | exact stable_isRow1 _ | exact stable_isRowOf _ _ | exact stable_isArrOf _ | exact stable_isInts1 _ | exact stable_isTook _ _ | exact stable_isSlice)))
      case fin =>
        intro w8 hgw
        simp only [finalIn, factAt, isv, isInts1, List.getElem?_cons_zero, List.getElem?_cons_succ, Option.getD_some, forall_eq, slotIs, subj, List.take_succ_cons, List.take_zero]
        rintro v6 ⟨b6, rfl, _⟩
        simp only [Act.put, List.setIfInBounds_toArray, List.set_cons_zero, List.set_cons_succ, List.drop_succ_cons, List.drop_zero]
        have hG8 := hid (grown_trans hG3.out (grown_trans (grown_drew (grown_refl w3 none)) hgw))
        have hH8 := hH0.out.kept0 hG8.out
        have d0 := hH8.cell 0
        have e0 := hH8.free 0
        have k0 := hH8.lt
        simp at d0
        replace hH8 := hid hH8
        clear hgw
        gi_wp2
        go_wp2_with fail
        go_ret2
        first | rw [if_pos hcn, show c - L = 0 by omega] at hKK | rw [if_neg hcn] at hKK
        exact hKK.out _ (grown_set (grown_row hG8.out _) (.inl rfl) _) ⟨_, hG8.out, rfl, by simpa using hH8.out.set 0 _⟩

theorem leftNum_is (w0 : World) (g : Nat) (rs : List Int) (w : World) (hl : rs.length ≤ 100000) (hb : ∀ x ∈ rs, isByte x) (h0 : w0.heap.size ≤ g) (hs : RdAt w0 g rs w) :
    Calls Try.prog 36 #[.pointer (some ⟨g, 0, none⟩)] w (NumLeaves w0 g rs w) := by
  obtain ⟨A, c, hH, hc, hc2, hA⟩ := hs.cell
  have hgr := hs.gr
  have hA5 := (hA.take 5).grown hgr
  have hb5 : ∀ x ∈ rs.take 5, isByte x := fun x hx => hb x (List.mem_of_mem_take hx)
  have ht5 : (rs.take 5).length = min 5 rs.length := List.length_take
  have hmin : min (rs.length : Int) 5 = ((rs.take 5).length : Int) := by rw [ht5]; omega
  have hcm : c ≤ 9223372036854775807 := by unfold maxLen at hc2; exact hc2
  rcases htk : take (rs.take 5) with er | ⟨n, r⟩
  · exact leftNum_bad w0 g rs (rs.take 5) A c er w (by omega) hcm (by omega) hmin hb5 hA5 (by simpa using hH.cell 0) hH.lt (take_five_bad rs er hb htk) htk
  · obtain ⟨hn0, hn1, hel, hfull⟩ := take_five_good rs r n hb htk
    obtain ⟨M, rfl⟩ := Int.eq_ofNat_of_zero_le hn0
    rw [Int.toNat_natCast] at hel hfull
    have hL5 := enc_len5 M (by omega)
    refine leftNum_good w0 g rs (rs.take 5) r A c M (enc M).length w (by omega) hcm hl hc (by omega) hmin hb5 hA5 hH htk hn1 hel hL5 (fun W A c h => ?_) (fun w' hg hw => ?_)
    · have := Size_yes A c [(M : Int)] W h (by simp) (by simp [toldB]; omega)
      rwa [show (encs [(M : Int)]).length = (enc M).length by rw [encs_cons, encs_nil, List.append_nil, Int.toNat_natCast]] at this
    · obtain ⟨W, hg8, rfl, hH8⟩ := hw
      have hdl := List.length_drop (i := (enc M).length) (l := rs)
      exact ⟨hg, .inl ⟨M, rfl, hn0, hn1, _, hfull, ⟨⟨_, _, by rw [hdl]; exact hH8, by rw [hdl]; omega, by unfold maxLen at hc2 ⊢; omega, hA.drop hc⟩, grown_set (grown_trans hgr hg8) (.inr h0) _⟩, by rw [hdl]; omega, fun x hx => hb x (List.mem_of_mem_drop hx)⟩⟩

end Go.Proofs.Ytghnbfphhmgcpaa

namespace Go.Proofs.Ytghnbfphhmgcpaa
open Go.RowKit Plain PlainSum PlainPacked

/-- The next word, and what is left. -/
def getWord (b : List Int) : Option (List Int × List Int) :=
  match take b with
  | .bad _ => none
  | .good n r => if (r.length : Int) < n then none else some (r.take n.toNat, r.drop n.toNat)
theorem getWord_bad (b : List Int) (e : Int) (h : take b = .bad e) : getWord b = none := by simp only [getWord, h]
theorem getWord_short (b r : List Int) (n : Int) (h : take b = .good n r) (hs : (r.length : Int) < n) : getWord b = none := by simp only [getWord, h, if_pos hs]
theorem getWord_good (b r : List Int) (n : Int) (h : take b = .good n r) (hs : ¬ (r.length : Int) < n) : getWord b = some (r.take n.toNat, r.drop n.toNat) := by simp only [getWord, h, if_neg hs]
theorem getWords_none (k : Nat) (b : List Int) (h : getWord b = none) : getWords (k + 1) b = none := by
  unfold getWord at h
  simp only [getWords]
  cases ht : take b with
  | bad e => rfl
  | good n r =>
    rw [ht] at h
    simp only at h ⊢
    split at h
    · rename_i hs; rw [if_pos hs]
    · cases h
theorem getWords_some (k : Nat) (b x r : List Int) (h : getWord b = some (x, r)) : getWords (k + 1) b = (getWords k r).map fun y => (x :: y.1, y.2) := by
  unfold getWord at h
  simp only [getWords]
  cases ht : take b with
  | bad e => rw [ht] at h; cases h
  | good n q =>
    rw [ht] at h
    simp only at h ⊢
    split at h
    · cases h
    · rename_i hs
      injection h with h
      injection h with h1 h2
      rw [if_neg hs, h1, h2]

/-- What word leaves. -/
def WordLeaves (w0 : World) (g : Nat) (rs : List Int) (w : World) (e : Ending) (w' : World) : Prop :=
  w.grownBy w' (some g) ∧ ((getWord rs = none ∧ e = .returned (.tuple #[.slice none 0 0, .int .i64 12])) ∨
    ∃ (y : Sl) (rest : List Int), getWord rs = some (y.2.1, rest) ∧ e = .returned (.tuple #[slV y, .int .i64 0]) ∧ OwnBytes w' w.heap.size y ∧ RdAt w0 g rest w' ∧ rest.length ≤ rs.length ∧ ∀ x ∈ rest, isByte x)

set_option maxHeartbeats 1000000 in
theorem readWord_is (w0 : World) (g : Nat) (rs : List Int) (w : World) (hl : rs.length ≤ 100000) (hb : ∀ x ∈ rs, isByte x) (h0 : w0.heap.size ≤ g) (hs : RdAt w0 g rs w) :
    Calls Try.prog 49 #[.pointer (some ⟨g, 0, none⟩)] w (WordLeaves w0 g rs w) := by
  have hs' := hid hs
  have hb' := hid hb
  clear hs hb
  go_enter Try.func49, Try.ntmps49
  go_wp2_with fail
  refine (leftNum_is w0 g rs w hl hb'.out h0 hs'.out).mono ?_
  rintro e w1 ⟨hg1, ⟨n, rfl, hn0, hn1, rest, htk, hr1, hle, hbr⟩ | ⟨rfl, er, htk⟩⟩
  · replace hg1 := hid hg1
    replace htk := hid htk
    replace hr1 := hid hr1
    replace hbr := hid hbr
    obtain ⟨M, rfl⟩ := Int.eq_ofNat_of_zero_le hn0
    go_wp2_with fail
    refine (leftText_is w0 g rest M w1 (by omega) hn1 h0 hr1.out).mono ?_
    rintro e w2 (⟨hlt, rfl, hg2⟩ | ⟨hge, A, c, rfl, ho, hg2, hr2⟩)
    · have hG := hid (grown_trans_same hg1.out hg2)
      have hE := hid (getWord_short _ _ _ htk.out (by omega))
      clear hg2
      go_wp2_with fail
      go_ret2
      exact ⟨hG.out, .inl ⟨hE.out, rfl⟩⟩
    · have hG := hid (grown_trans_same hg1.out hg2)
      have hE := hid (getWord_good _ _ _ htk.out (by omega))
      have hO := hid (ho.mono hg1.out.size)
      have hdl := List.length_drop (i := M) (l := rest)
      have hR := hid hr2
      clear hg2 ho hr2
      go_wp2_with fail
      go_ret2
      rw [Int.toNat_natCast] at hE
      have htl : (rest.take M).length = M := by rw [List.length_take]; omega
      exact ⟨hG.out, .inr ⟨(A, rest.take M, c), rest.drop M, hE.out, by simp only [slV, htl]; rfl, hO.out, hR.out, by rw [hdl]; omega, fun x hx => hbr.out x (List.mem_of_mem_drop hx)⟩⟩
  · have hE := hid (getWord_bad _ _ htk)
    replace hg1 := hid hg1
    clear htk
    go_wp2_with fail
    go_ret2
    exact ⟨hg1.out, .inl ⟨hE.out, rfl⟩⟩

theorem readWords_is (g : Nat) (n : Int) (w : World) : Calls Try.prog 37 #[.pointer (some ⟨g, 0, none⟩), .int .i64 n] w fun e w' =>
    e = .returned (.func (.func 48) #[] #[.pointer (some ⟨w.heap.size + 1, 0, none⟩), .pointer (some ⟨w.heap.size, 0, none⟩)]) ∧
    w' = (w.alloc (.cells #[.pointer (some ⟨g, 0, none⟩)] 67)).alloc (.cells #[.int .i64 n] 3) := by
  have hmf : ∀ (fn : Fn) (first cap : Array Value) (w : World), (Instr.makeFunc fn first cap).run Try.prog w = .ok (.func fn first cap) w := fun _ _ _ _ => rfl
  go_enter Try.func37, Try.ntmps37
  go_wp2_with fail
  go_ret
  exact ⟨by simp, rfl⟩
end Go.Proofs.Ytghnbfphhmgcpaa

namespace Go.Proofs.Ytghnbfphhmgcpaa
open Go.RowKit Plain PlainSum PlainPacked Go.Shelf
attribute [local go_sem] Oper.semAt_some

set_option maxHeartbeats 2000000 in
theorem readWords_in (l bm br g N base : Nat) (w0 : World) (rs0 : List Int) (hl : rs0.length ≤ 100000) (hb : ∀ x ∈ rs0, isByte x) (hN : (N : Int) ≤ 2147483647) (h0 : w0.heap.size ≤ g) (S : List Sl → World → Prop) (Sx : World → Prop) (W0 : World)
    (hSb : ∀ ys W, S ys W → Holds W bm 3 #[.int .i64 N] ∧ Holds W br 67 #[.pointer (some ⟨g, 0, none⟩)] ∧ base ≤ W.heap.size)
    (hSg : ∀ ys W W', S ys W → W.grownBy W' (some g) → S ys W')
    (hY : ∀ ys y W rs, S ys W → ys.length < N → OwnBytes W base y → RdAt w0 g rs W → YieldAt Fence.wide 0 Try.prog l #[slV y, .int .i64 0] W (fun e W' => e = .returned (.bool true) ∧ S (ys ++ [y]) W' ∧ RdAt w0 g rs W'))
    (hYx : ∀ ys W, S ys W → YieldAt Fence.wide 0 Try.prog l #[.slice none 0 0, .int .i64 12] W (fun e W' => e = .returned (.bool false) ∧ Sx W'))
    (hS0 : S [] W0) (hr : RdAt w0 g rs0 W0) :
    CallsIn Fence.wide 0 Try.prog 48 #[.func (.yield l) #[] #[], .pointer (some ⟨bm, 0, none⟩), .pointer (some ⟨br, 0, none⟩)] W0 fun e W' => (∃ v, e = .returned v) ∧
      ((∃ ys r, getWords N rs0 = some (ys.map (·.2.1), r) ∧ S ys W' ∧ RdAt w0 g r W') ∨ (getWords N rs0 = none ∧ Sx W')) := by
  have hst := hid (show getWords N rs0 = (getWords (N - 0) rs0).map (fun x => (([] : List Sl).map (·.2.1) ++ x.1, x.2)) by simp)
  replace hSb := hid hSb
  replace hSg := hid hSg
  replace hY := hid hY
  replace hYx := hid hYx
  replace hb := hid hb
  replace hr := hid hr
  have hc0 := (hSb.out _ _ hS0).1.cell 0
  simp at hc0
  replace hS0 := hid hS0
  refine callsIn_of_wp Try.func48 rfl trivial ?_ rfl
  simp only [Try.ntmps48, List.size_toArray, List.length_cons, List.length_nil, Nat.reduceAdd, Nat.reduceSub, Array.replicate_succ, Array.replicate_zero, List.push_toArray, List.append_toArray, List.nil_append, List.cons_append]
  gi_wp2_with fail
  gi_loopw [7] (fun i wr => ∃ (k : Nat) (ys : List Sl) (rs : List Int), k ≤ N ∧ i = .int .i64 k ∧ S ys wr ∧ RdAt w0 g rs wr ∧ rs.length ≤ 100000 ∧ Hid (∀ x ∈ rs, isByte x) ∧ Hid (ys.length = k) ∧
      Hid (getWords N rs0 = (getWords (N - k) rs).map (fun x => (ys.map (·.2.1) ++ x.1, x.2)))) (fun i _ => N - (intOf i).toNat)
  case atStart => exact ⟨0, [], rs0, by omega, rfl, hS0.out, hr.out, hl, hb, rfl, hst⟩
  case round =>
    clear hc0 hS0 hst hr hb
    obtain ⟨k, ys, rs, hk, rfl, hS, hr, hrl, hbr, hyl, hgo⟩ := hrel
    by_cases hlt : k < N
    · have q : (k : Int) < (N : Int) := by omega
      have hcb := (hSb.out _ _ hS).2.1.cell 0
      have hbs := hid (hSb.out _ _ hS).2.2
      simp at hcb
      replace hS := hid hS
      replace hr := hid hr
      gi_wp2_with fail
      refine ⟨trivial, rfl, ?_⟩
      refine (wideAt_calls (r := none) (readWord_is w0 g rs wr hrl hbr.out h0 hr.out)).mono ?_
      rintro e w3 ⟨hg3, ⟨hn, rfl⟩ | ⟨y, rest, hsome, rfl, ho, hr3, hle, hb3⟩⟩
      · have hS3 := hSg.out _ _ _ hS.out hg3
        have hnone : Hid (getWords N rs0 = none) := by
          rw [hgo.out, show N - k = (N - (k + 1)) + 1 by omega, getWords_none _ _ hn]; exact hid rfl
        obtain ⟨fn, tmps, assign, body, hyy, hR⟩ := hYx.out _ _ hS3
        clear hg3 hn hS3 hgo hcb
        gi_wp2_with fail
        refine ⟨rfl, hR.mono ?_⟩
        rintro e W2 ⟨rfl, hx⟩
        replace hx := hid hx
        gi_wp2_with fail
        refine bodyPost_ret (results_none rfl _ _ _) rfl ?_
        exact ⟨⟨_, rfl⟩, .inr ⟨hnone.out, hx.out⟩⟩
      · have hS3 := hSg.out _ _ _ hS.out hg3
        have hstep := hid (show getWords N rs0 = (getWords (N - (k + 1)) rest).map (fun x => ((ys ++ [y]).map (·.2.1) ++ x.1, x.2)) by
          rw [hgo.out, show N - k = (N - (k + 1)) + 1 by omega, getWords_some _ _ _ _ hsome]
          cases getWords (N - (k + 1)) rest <;> simp)
        obtain ⟨fn, tmps, assign, body, hyy, hR⟩ := hY.out ys y w3 rest hS3 (by have := hyl.out; omega) (ho.mono hbs.out) hr3
        clear hg3 hsome hS3 hgo hcb ho hr3
        replace hb3 := hid hb3
        gi_wp2_with fail
        refine ⟨rfl, hR.mono ?_⟩
        rintro e W2 ⟨rfl, hS4, hr4⟩
        replace hS4 := hid hS4
        replace hr4 := hid hr4
        gi_wp2_with fail
        go_roundw
        case rel => exact ⟨k + 1, ys ++ [y], rest, by omega, by go_num, hS4.out, hr4.out, by omega, hb3, hid (by have := hyl.out; simp; omega), hstep⟩
        case measure => simp [intOf]; omega
    · obtain rfl : k = N := by omega
      have hfin := hgo.out
      rw [Nat.sub_self] at hfin
      simp only [getWords, Option.map_some, List.append_nil] at hfin
      replace hfin := hid hfin
      replace hS := hid hS
      replace hr := hid hr
      clear hgo
      gi_wp2_with fail
      go_end0
      exact ⟨⟨_, rfl⟩, .inl ⟨ys, rs, hfin.out, hS.out, hr.out⟩⟩
end Go.Proofs.Ytghnbfphhmgcpaa

namespace Go.Proofs.Ytghnbfphhmgcpaa
open Go.RowKit Plain PlainSum PlainPacked Go.Shelf
attribute [local go_sem] Oper.semAt_some

/-- Between two words: h, h + 1: the results; h2: the words so far; h2 + 1, h2 + 2: the iterator's variables; g: what is left. -/
structure ListAt (w : World) (h h2 g N : Nat) (rc : LoopState → Option Code → Loop) (ys : List Sl) (W : World) : Prop where
  r0 : Holds W h 22 #[.slice none 0 0]
  r1 : Holds W (h + 1) 26 #[.int .i64 0]
  var : ∃ A cp, Holds W h2 22 #[.slice A ys.length cp] ∧ OwnRows W w.heap.size (.slice A ys.length cp) ys
  br : Holds W (h2 + 1) 67 #[.pointer (some ⟨g, 0, none⟩)]
  bm : Holds W (h2 + 2) 3 #[.int .i64 N]
  dfr : W.heap[h2 + 3]? = some (.deferred (some []))
  record : W.heap[h2 + 4]? = some (.loop (rc .ready none))
  gr : w.grownBy W (some g)

/-- The rounds have ended by a return of an error. -/
structure ListEnd (w : World) (h h2 g : Nat) (rc : LoopState → Option Code → Loop) (W : World) : Prop where
  r0 : Holds W h 22 #[.slice none 0 0]
  r1 : Holds W (h + 1) 26 #[.int .i64 12]
  dfr : W.heap[h2 + 3]? = some (.deferred (some []))
  record : W.heap[h2 + 4]? = some (.loop (rc .done (some .ret)))
  gr : w.grownBy W (some g)

theorem ListAt.turned {w W W' : World} {h h2 g N : Nat} {rc : LoopState → Option Code → Loop} {ys : List Sl} (s : ListAt w h h2 g N rc ys W) (hg : W.grownBy W' (some g)) (hgh : g < w.heap.size) (hh : w.heap.size ≤ h) (hh2 : w.heap.size ≤ h2) : ListAt w h h2 g N rc ys W' := by
  obtain ⟨A, cp, hH, hown⟩ := s.var
  exact {
    r0 := s.r0.kept hg (by simp; omega)
    r1 := s.r1.kept hg (by simp; omega)
    var := ⟨A, cp, hH.kept hg (by simp; omega), hown.kept_low hg hgh⟩
    br := s.br.kept hg (by simp; omega)
    bm := s.bm.kept hg (by simp; omega)
    dfr := heap_kept s.dfr hg (by simp; omega)
    record := heap_kept s.record hg (by simp; omega)
    gr := grown_trans_same s.gr hg }

/-- One word more. -/
theorem ListAt.step {w w0 W wx w1 : World} {h h2 g N : Nat} {rc : LoopState → Option Code → Loop} {ys : List Sl} {y : Sl} {rs : List Int} {A A' : Option Addr} {cp n cp' : Nat} (s : ListAt w h h2 g N rc ys W) (hr : RdAt w0 g rs W)
    (hgh : g < w.heap.size) (hh : w.heap.size ≤ h) (hh2 : h + 1 < h2) (h0 : w0.heap.size ≤ g)
    (hH : Holds W h2 22 #[.slice A ys.length cp]) (hown : OwnRows W w.heap.size (.slice A ys.length cp) ys)
    (hx : (W.putObj (h2 + 4) (.loop (rc .busy none))).grownBy wx none) (h1 : wx.grownBy w1 (Value.slice A ys.length cp).ownBlock)
    (hown1 : OwnRows w1 w.heap.size (.slice A' n cp') (ys ++ [y])) (hn : n = (ys ++ [y]).length) :
    w1.cell? ⟨h2, 0, none⟩ = some (.slice A ys.length cp) ∧ w1.frozen? ⟨h2, 0, none⟩ = false ∧ h2 < w1.heap.size ∧
    (w1.setCell ⟨h2, 0, none⟩ (.slice A' n cp')).heap[h2 + 4]? = some (.loop (rc .busy none)) ∧
      ListAt w h h2 g N rc (ys ++ [y]) ((w1.setCell ⟨h2, 0, none⟩ (.slice A' n cp')).putObj (h2 + 4) (.loop (rc .ready none))) ∧
      RdAt w0 g rs ((w1.setCell ⟨h2, 0, none⟩ (.slice A' n cp')).putObj (h2 + 4) (.loop (rc .ready none))) := by
  subst hn
  obtain ⟨RA, rcp, hrH, hr1, hr2, hr3⟩ := hr.cell
  have hrg := hr.gr
  obtain ⟨Wb, hWb⟩ : ∃ Wb, W.putObj (h2 + 4) (.loop (rc .busy none)) = Wb := ⟨_, rfl⟩
  rw [hWb] at hx
  have rb : Wb.heap[h2 + 4]? = some (.loop (rc .busy none)) := hWb ▸ World.putObj_heap_same (Array.getElem?_eq_some_iff.1 s.record).1
  have b0 : Holds Wb h 22 #[.slice none 0 0] := hWb ▸ s.r0.put (by omega) _
  have b1 : Holds Wb (h + 1) 26 #[.int .i64 0] := hWb ▸ s.r1.put (by omega) _
  have b2 : Holds Wb h2 22 #[.slice A ys.length cp] := hWb ▸ hH.put (by omega) _
  have b3 : Holds Wb (h2 + 1) 67 #[.pointer (some ⟨g, 0, none⟩)] := hWb ▸ s.br.put (by omega) _
  have b4 : Holds Wb (h2 + 2) 3 #[.int .i64 N] := hWb ▸ s.bm.put (by omega) _
  have b5 : Holds Wb g 48 #[.slice RA rs.length rcp] := hWb ▸ hrH.put (by omega) _
  have db : Wb.heap[h2 + 3]? = some (.deferred (some [])) := hWb ▸ (World.putObj_heap_other (by omega)).trans s.dfr
  have ownb : OwnRows Wb w.heap.size (.slice A ys.length cp) ys := hWb ▸ hown.put s.record rfl
  have gb : w.grownBy Wb (some g) := hWb ▸ grown_put s.gr (by omega) _
  have rgb : w0.grownBy Wb none := hWb ▸ grown_put hrg (by omega) _
  clear hWb
  have ownx := ownb.grown hx
  have keep : ∀ {j : Nat} {t : TypeId} {cs : Array Value}, Holds Wb j t cs → t ≠ 23 → Holds w1 j t cs := fun hj ht => (hj.kept0 hx).kept h1 (not_row_of (hj.kept0 hx) ht ownx.1)
  have mark : ∀ {j : Nat} {o : Obj}, Wb.heap[j]? = some o → o.isCells = false → w1.heap[j]? = some o := fun {j o} hj ho =>
    heap_kept (heap_kept hj hx (by simp)) h1 (not_mark_of (heap_kept hj hx (by simp)) ho ownx.1)
  have c2 := keep b2 (by decide)
  have d1 := mark db rfl
  have r1 := mark rb rfl
  have g1 : w.grownBy w1 (some g) := by
    have gx := grown_trans_same gb (grown_row hx _)
    exact ⟨h1.os.trans gx.os, h1.tape.trans gx.tape, h1.output.trans gx.output, Nat.le_trans gx.size h1.size, fun j hj hne => (h1.block j (Nat.lt_of_lt_of_le hj gx.size) (fun e => by
      have := (World.ownsRow.lt ownx.1 j e.symm).1; omega)).trans (gx.block j hj hne)⟩
  have rg1 : w0.grownBy w1 none := by
    have gx := grown_trans rgb hx
    exact ⟨h1.os.trans gx.os, h1.tape.trans gx.tape, h1.output.trans gx.output, Nat.le_trans gx.size h1.size, fun j hj _ => (h1.block j (Nat.lt_of_lt_of_le hj gx.size) (fun e => by
      have := (World.ownsRow.lt ownx.1 j e.symm).1; omega)).trans (gx.block j hj (by simp))⟩
  have far : ∀ {j : Nat} {t : TypeId} {cs : Array Value}, Holds Wb j t cs → t ≠ 23 → j ≠ h2 → j ≠ h2 + 4 → Holds ((w1.setCell ⟨h2, 0, none⟩ (.slice A' (ys ++ [y]).length cp')).putObj (h2 + 4) (.loop (rc .ready none))) j t cs := fun hj ht hne hne2 =>
    ((keep hj ht).far (p := ⟨h2, 0, none⟩) hne _).put hne2 _
  have r2 := other_set (p := ⟨h2, 0, none⟩) r1 (show h2 + 4 ≠ h2 by omega) (.slice A' (ys ++ [y]).length cp')
  have d2 := other_set (p := ⟨h2, 0, none⟩) d1 (show h2 + 3 ≠ h2 by omega) (.slice A' (ys ++ [y]).length cp')
  have o2 : OwnRows (w1.setCell ⟨h2, 0, none⟩ (.slice A' (ys ++ [y]).length cp')) w.heap.size (.slice A' (ys ++ [y]).length cp') (ys ++ [y]) := hown1.kept_other (grownBy_setCell' w1 h2 _) c2 (by decide) (by decide)
  have cc := c2.cell 0
  simp at cc
  refine ⟨cc, c2.free 0, c2.lt, r2, ?_, ⟨⟨RA, rcp, far b5 (by decide) (by omega) (by omega), hr1, hr2, hr3⟩, grown_put (grown_set rg1 (.inr (by simp; omega)) _) (by omega) _⟩⟩
  exact {
    r0 := far b0 (by decide) (by omega) (by omega)
    r1 := far b1 (by decide) (by omega) (by omega)
    var := ⟨A', cp', by simpa using (c2.set 0 (.slice A' (ys ++ [y]).length cp')).put (by omega) _, o2.put r2 rfl⟩
    br := far b3 (by decide) (by omega) (by omega)
    bm := far b4 (by decide) (by omega) (by omega)
    dfr := (World.putObj_heap_other (by omega)).trans d2
    record := World.putObj_heap_same (Array.getElem?_eq_some_iff.1 r2).1
    gr := grown_put (grown_set g1 (.inr (by simp; omega)) _) (by omega) _ }

/-- The return, the results in two cells, the loop's mark taken up. -/
theorem list_leaves {W : World} {h d : Nat} {v u : Value} {T : Array Value} {R : Ending → World → Prop} (hT : T.getD 2 undef = .pointer (some ⟨h, 0, none⟩)) (hT3 : T.getD 3 undef = .pointer (some ⟨h + 1, 0, none⟩))
    (hr : Holds W h 22 #[v]) (hr1 : Holds W (h + 1) 26 #[u]) (hv : ∃ A n c, v = .slice A n c) (hu : ∃ i, u = .int .i64 i)
    (hne : h + 1 < d) (hD : W.heap[d]? = some (.deferred (some []))) (hR : R (.returned (.tuple #[v, u])) (W.putObj d (.deferred none))) :
    bodyPostM Fence.wide 0 Try.prog Try.f22 R Exit.ret { tmps := T, defers := [{ target := .collected d, args := #[] }] } W := by
  refine ⟨by simp, .inl ⟨_, _, rfl, run_takeDeferred hD, ?_⟩⟩
  obtain ⟨A, n, c, rfl⟩ := hv
  obtain ⟨i, rfl⟩ := hu
  have c0 := (hr.put (l := d) (by omega) (.deferred none)).cell 0
  have c1 := (hr1.put (l := d) (by omega) (.deferred none)).cell 0
  simp at c0 c1
  rw [Array.getD_eq_getD_getElem?] at hT hT3
  refine ⟨_, ?_, hR⟩
  simp [results, Try.results22, hT, hT3, go_sem, c0, c1]

/-- What list leaves. -/
def ListLeaves (g : Nat) (rs : List Int) (w : World) (e : Ending) (w' : World) : Prop :=
  ∃ (A : Option Addr) (c : Nat) (l : List Sl) (er : Int), e = .returned (.tuple #[.slice A l.length c, .int .i64 er]) ∧ OwnRows w' w.heap.size (.slice A l.length c) l ∧ w.grownBy w' (some g) ∧
    ((getAll rs = none ∧ l = [] ∧ er = 12) ∨ ∃ ws r, getAll rs = some (ws, r) ∧ ((r = [] ∧ l.map (·.2.1) = ws ∧ er = 0) ∨ (r ≠ [] ∧ l = [] ∧ er = 43)))

theorem readList_bad (w0 : World) (g : Nat) (rs : List Int) (w : World) (hl : rs.length ≤ 100000) (hb : ∀ x ∈ rs, isByte x) (h0 : w0.heap.size ≤ g) (hs : RdAt w0 g rs w) (hgl : g < w.heap.size) (er : Int) (ht : take rs = .bad er) :
    Calls Try.prog 22 #[.pointer (some ⟨g, 0, none⟩)] w (ListLeaves g rs w) := by
  have hn := hid (getAll_bad rs er ht)
  have hs' := hid hs
  have hb' := hid hb
  clear hs hb
  go_enter Try.func22, Try.ntmps22
  go_wp2_with fail
  refine (leftNum_is w0 g rs _ hl hb'.out h0 (hs'.out.grown (grown_alloc (grown_alloc (grown_refl w none) _) _))).mono ?_
  rintro e w1 ⟨hg1, ⟨n, rfl, hn0, hn1, rest, htk, hr1, hle, hbr⟩ | ⟨rfl, er', htk⟩⟩
  · rw [ht] at htk; cases htk
  · have r0 : Holds w1 w.heap.size 22 #[.slice none 0 0] := ((Holds.new_at 22 _ rfl).alloc _).kept hg1 (by simp; omega)
    have r1 : Holds w1 (w.heap.size + 1) 26 #[.int .i64 0] := (Holds.new_at (w := w.alloc _) 26 _ (by simp)).kept hg1 (by simp; omega)
    have hG := hid (grown_trans_same (grown_row (grown_alloc (grown_alloc (grown_refl w none) _) _) _) hg1)
    clear hg1 htk
    obtain ⟨h, hh⟩ : ∃ h, w.heap.size = h := ⟨_, rfl⟩
    have hhx := hid hh
    rw [hh] at r0 r1 hgl ⊢
    have c0 := r0.cell 0
    have c1 := r1.cell 0
    have f0 := r0.free 0
    have f1 := r1.free 0
    have l0 := r0.lt
    have l1 := r1.lt
    simp at c0 c1
    replace r0 := hid r0
    replace r1 := hid r1
    clear hh
    go_wp2_with fail
    have s0 := (r0.out.set 0 (.slice none 0 0)).far (p := ⟨h + 1, 0, none⟩) (show h ≠ h + 1 by omega) (.int .i64 12)
    have s1 := ((r1.out.far (p := ⟨h, 0, none⟩) (show h + 1 ≠ h by omega) (.slice none 0 0)).set 0 (.int .i64 12))
    have k0 := s0.cell 0
    have k1 := s1.cell 0
    simp at k0 k1
    refine bodyPost_ret (v := .tuple #[.slice none 0 0, .int .i64 12]) (by simp [results, Try.results22, go_sem, k0, k1]) rfl ?_
    exact ⟨none, 0, [], 12, rfl, OwnRows.nil _ _, grown_set (grown_set hG.out (.inr (by have := hhx.out; simp; omega)) _) (.inr (by have := hhx.out; simp; omega)) _, .inl ⟨hn.out, rfl, rfl⟩⟩

set_option maxHeartbeats 4000000 in
theorem readList_good (w0 : World) (g : Nat) (rs rest : List Int) (N : Nat) (w : World) (hl : rs.length ≤ 100000) (hb : ∀ x ∈ rs, isByte x) (h0 : w0.heap.size ≤ g) (hs : RdAt w0 g rs w) (hgl : g < w.heap.size) (ht : take rs = .good N rest) :
    Calls Try.prog 22 #[.pointer (some ⟨g, 0, none⟩)] w (ListLeaves g rs w) := by
  have hgood := getAll_good rs rest N ht
  rw [Int.toNat_natCast] at hgood
  replace hgood := hid hgood
  obtain ⟨i3, hi3, hy0, hy1, hy2⟩ := info_parts Try.rowInfo
  obtain ⟨h, hh⟩ : ∃ h, w.heap.size = h := ⟨_, rfl⟩
  have hs' := hid hs
  have hb' := hid hb
  have hgl' : Hid (g < h) := hid (by rw [← hh]; exact hgl)
  refine (callsIn_wide (n := 0)).1 ?_
  refine callsIn_of_wp_marks Try.func22 rfl trivial ?_ rfl
  simp only [Try.ntmps22, List.size_toArray, List.length_cons, List.length_nil, Nat.reduceAdd, Nat.reduceSub, Array.replicate_succ, Array.replicate_zero, List.push_toArray, List.append_toArray, List.nil_append, List.cons_append]
  have hht := hid hh
  clear hh hs hb hgl
  gi_wp2_with fail
  refine ⟨trivial, rfl, ?_⟩
  refine (callsIn_wide.2 (leftNum_is w0 g rs _ hl hb'.out h0 (hs'.out.grown (grown_alloc (grown_alloc (grown_refl w none) _) _)))).mono ?_
  rintro e w1 ⟨hg1, ⟨n, rfl, hn0, hn1, rest', htk, hr1, hle, hbr⟩ | ⟨rfl, er', htk⟩⟩
  · rw [ht] at htk
    injection htk with e1 e2
    subst e1
    subst e2
    have hH0 : Holds w1 h 22 #[.slice none 0 0] := ((Holds.new_at 22 _ hht.out).alloc _).kept hg1 (by have := hgl'.out; simp; omega)
    have hH1 : Holds w1 (h + 1) 26 #[.int .i64 0] := (Holds.new_at (w := w.alloc _) 26 _ (by simp [hht.out])).kept hg1 (by have := hgl'.out; simp; omega)
    have hG1 := hid (grown_trans_same (grown_row (grown_alloc (grown_alloc (grown_refl w none) _) _) _) hg1)
    clear hg1 ht
    simp only [hht.out]
    replace hr1 := hid hr1
    replace hbr := hid hbr
    obtain ⟨h2, hh2⟩ : ∃ h2, w1.heap.size = h2 := ⟨_, rfl⟩
    have hlt2 : h + 1 < h2 := by have := hH1.lt; omega
    replace hh2 := hid hh2
    replace hH0 := hid hH0
    replace hH1 := hid hH1
    gi_wp2_with fail
    refine ⟨trivial, rfl, ?_⟩
    refine (callsIn_wide.2 (readWords_is g N _)).mono ?_
    rintro e w2 ⟨rfl, rfl⟩
    gi_wp2
    refine range_wide (gf := 48) rfl (enters_of Try.func48 (by kernel_rfl) rfl) (fun fn rc hrc => ?_)
    replace hrc := hid hrc
    simp only [World.size_alloc, hh2.out, Nat.add_assoc, Nat.reduceAdd] at hrc ⊢
    obtain ⟨W1, hW1⟩ : ∃ W1, (((((w1.alloc (.cells #[.slice none 0 0] 22)).alloc (.cells #[.pointer (some ⟨g, 0, none⟩)] 67)).alloc (.cells #[.int .i64 N] 3)).alloc (Obj.deferred (some []))).alloc (Obj.loop (rc .ready none))) = W1 := ⟨_, rfl⟩
    rw [hW1]
    have hN : ListAt w h h2 g N rc [] W1 := by
      subst hW1
      exact {
        r0 := ((((hH0.out.alloc _).alloc _).alloc _).alloc _).alloc _
        r1 := ((((hH1.out.alloc _).alloc _).alloc _).alloc _).alloc _
        var := ⟨none, 0, ((((Holds.new_at 22 _ hh2.out).alloc _).alloc _).alloc _).alloc _, OwnRows.nil _ _⟩
        br := (((Holds.new_at 67 _ (by simp [hh2.out])).alloc _).alloc _).alloc _
        bm := ((Holds.new_at 3 _ (by simp [hh2.out])).alloc _).alloc _
        dfr := other_alloc (alloc_at _ (by simp [hh2.out]))
        record := alloc_at _ (by simp [hh2.out])
        gr := grown_alloc (grown_alloc (grown_alloc (grown_alloc (grown_alloc hG1.out _) _) _) _) _ }
    have hrd : RdAt w0 g rest W1 := by
      subst hW1
      exact hr1.out.grown (grown_alloc (grown_alloc (grown_alloc (grown_alloc (grown_alloc (grown_refl w1 none) _) _) _) _) _)
    clear hW1
    refine CallsIn.mono (readWords_in (h2 + 4) (h2 + 2) (h2 + 1) g N w.heap.size w0 rest (by omega) hbr.out hn1 h0 (ListAt w h h2 g N rc) (ListEnd w h h2 g rc) W1
      (fun ys W s => ⟨s.bm, s.br, s.gr.size⟩) (fun ys W W' s hg => s.turned hg (by have := hht.out; have := hgl'.out; omega) (by have := hht.out; omega) (by have := hht.out; omega)) ?round ?err hN hrd) ?behind
    case round =>
      rintro ys y W rs2 s hyl ho hr
      have Hs := hid s
      have Hr := hid hr
      have Ho := hid ho
      refine round_wide hrc.out Hs.out.record rfl fun K hK => ?_
      replace hK := hid hK
      gi_wp2
      refine hK.out _ ?_
      clear hK
      clear K
      obtain ⟨A, cp, hH, hown⟩ := s.var
      have hown' := hid hown
      have hHb : Holds (W.putObj (h2 + 4) (.loop (rc .busy none))) h2 22 #[.slice A ys.length cp] := hH.put (by omega) _
      have hownb := hid (hown.put (o := .loop (rc .busy none)) s.record rfl)
      have hyb : Hid (OwnBytes (W.putObj (h2 + 4) (.loop (rc .busy none))) w.heap.size y) := ownsRow_putObj ho _ s.record rfl
      have hsz : Hid (w.heap.size ≤ (W.putObj (h2 + 4) (.loop (rc .busy none))).heap.size) := by have := s.gr.size; simpa [Hid] using this
      have hH' := hid hH
      have hl2 := hHb.lt
      clear hH hown s hr ho
      obtain ⟨Wb, hWb⟩ : ∃ Wb, W.putObj (h2 + 4) (.loop (rc .busy none)) = Wb := ⟨_, rfl⟩
      rw [hWb] at hHb hownb hyb hsz hl2
      rw [hWb]
      have c0 := hHb.cell 0
      simp at c0
      replace hWb := hid hWb
      have hstep := hid (fun (A' : Option Addr) (n cp' : Nat) (w1 : World) (hown1 : OwnRows w1 w.heap.size (.slice A' n cp') (ys ++ [y])) (hn1 : n = (ys ++ [y]).length)
          (hg1 : (Wb.alloc (.cells #[slV y] 23)).grownBy w1 (Value.slice A ys.length cp).ownBlock) =>
        Hs.out.step (wx := Wb.alloc (.cells #[slV y] 23)) Hr.out (by have := hht.out; have := hgl'.out; omega) (by have := hht.out; omega) hlt2 h0 hH'.out hown'.out (by rw [hWb.out]; exact grown_alloc (grown_refl Wb _) _) hg1 hown1 hn1)
      clear hHb
      gi_wp2_with (gi_at_builtin; refine wpListIn_push_row rfl _ _ 22 rfl w.heap.size i3 Try.underlying22 hi3 hy0 hy1 hy2 _ ys y Wb hownb.out hyb.out rfl rfl (by omega) hsz.out ?_; intro v' w1 hown1 hg1; obtain ⟨A', cp', rfl, _, _⟩ := own_form hown1.1; have hst := hid (hstep.out A' _ cp' w1 hown1 rfl hg1); obtain ⟨c1, f1, l1, _, _, _⟩ := hst.out; clear hown1 hg1)
      exact ⟨by simpa using hst.out.2.2.2.1, by simpa using hst.out.2.2.2.2.1, by simpa using hst.out.2.2.2.2.2⟩
    case err =>
      rintro ys W s
      have Hs := hid s
      refine round_wide hrc.out Hs.out.record rfl fun K hK => ?_
      replace hK := hid hK
      gi_wp2
      refine hK.out _ ?_
      clear hK
      clear K
      have b0 : Holds (W.putObj (h2 + 4) (.loop (rc .busy none))) h 22 #[.slice none 0 0] := s.r0.put (by omega) _
      have b1 : Holds (W.putObj (h2 + 4) (.loop (rc .busy none))) (h + 1) 26 #[.int .i64 0] := s.r1.put (by omega) _
      have rb : (W.putObj (h2 + 4) (.loop (rc .busy none))).heap[h2 + 4]? = some (.loop (rc .busy none)) := World.putObj_heap_same (Array.getElem?_eq_some_iff.1 s.record).1
      have db : (W.putObj (h2 + 4) (.loop (rc .busy none))).heap[h2 + 3]? = some (.deferred (some [])) := (World.putObj_heap_other (by omega)).trans s.dfr
      have gb : w.grownBy (W.putObj (h2 + 4) (.loop (rc .busy none))) (some g) := grown_put s.gr (by have := hht.out; omega) _
      obtain ⟨Wb, hWb⟩ : ∃ Wb, W.putObj (h2 + 4) (.loop (rc .busy none)) = Wb := ⟨_, rfl⟩
      rw [hWb] at b0 b1 rb db gb
      rw [hWb]
      have c0 := b0.cell 0
      have c1 := b1.cell 0
      have f0 := b0.free 0
      have f1 := b1.free 0
      have l0 := b0.lt
      have l1 := b1.lt
      simp at c0 c1
      have r2 := other_set (p := ⟨h + 1, 0, none⟩) (other_set (p := ⟨h, 0, none⟩) rb (show h2 + 4 ≠ h by omega) (.slice none 0 0)) (show h2 + 4 ≠ h + 1 by omega) (.int .i64 12)
      have d2 := other_set (p := ⟨h + 1, 0, none⟩) (other_set (p := ⟨h, 0, none⟩) db (show h2 + 3 ≠ h by omega) (.slice none 0 0)) (show h2 + 3 ≠ h + 1 by omega) (.int .i64 12)
      have hE : Hid (ListEnd w h h2 g rc (((Wb.setCell ⟨h, 0, none⟩ (.slice none 0 0)).setCell ⟨h + 1, 0, none⟩ (.int .i64 12)).putObj (h2 + 4) (.loop (rc .done (some .ret))))) := {
        r0 := by have := ((b0.set 0 (.slice none 0 0)).far (p := ⟨h + 1, 0, none⟩) (show h ≠ h + 1 by omega) (.int .i64 12)).put (l := h2 + 4) (by omega) (.loop (rc .done (some .ret))); simpa using this
        r1 := by have := ((b1.far (p := ⟨h, 0, none⟩) (show h + 1 ≠ h by omega) (.slice none 0 0)).set 0 (.int .i64 12)).put (l := h2 + 4) (by omega) (.loop (rc .done (some .ret))); simpa using this
        dfr := (World.putObj_heap_other (by omega)).trans d2
        record := World.putObj_heap_same (Array.getElem?_eq_some_iff.1 r2).1
        gr := grown_put (grown_set (grown_set gb (.inr (by have := hht.out; simp; omega)) _) (.inr (by have := hht.out; simp; omega)) _) (by have := hht.out; omega) _ }
      replace r2 := hid r2
      clear b0 b1 rb db gb hWb s Hs d2
      gi_wp2
      exact ⟨r2.out, hE.out⟩
    case behind =>
      rintro e W2 ⟨hv, ⟨ys, r, hgw, s, hr⟩ | ⟨hgw, s⟩⟩
      · refine ⟨hv, .inl ⟨s.record, fun o => ?_⟩⟩
        obtain ⟨A, cp, hH, hown⟩ := s.var
        have b0 := s.r0.put (l := h2 + 4) (by omega) o
        have b1 := s.r1.put (l := h2 + 4) (by omega) o
        have b2 := hH.put (l := h2 + 4) (by omega) o
        have hO := hid (hown.put (o := o) s.record rfl)
        have hD := (World.putObj_heap_other (o := o) (r := h2 + 4) (k := h2 + 3) (by omega)).trans s.dfr
        have hG := grown_put (l := h2 + 4) s.gr (by have := hht.out; omega) o
        have hR : Hid (RdAt w0 g r (W2.putObj (h2 + 4) o)) := by
          obtain ⟨RA, rcp, x1, x2, x3, x4⟩ := hr.cell
          exact ⟨⟨RA, rcp, x1.put (by have := hgl'.out; omega) _, x2, x3, x4⟩, grown_put hr.gr (by have := hgl'.out; omega) _⟩
        have hgA : Hid (getAll rs = some (ys.map (·.2.1), r)) := hid (by rw [hgood.out]; exact hgw)
        obtain ⟨W3, hW3⟩ : ∃ W3, W2.putObj (h2 + 4) o = W3 := ⟨_, rfl⟩
        rw [hW3] at b0 b1 b2 hO hD hG hR ⊢
        clear hW3 s hH hown hgw hr
        have c0 := b0.cell 0
        have c1 := b1.cell 0
        have c2 := b2.cell 0
        have f0 := b0.free 0
        have f1 := b1.free 0
        have l0 := b0.lt
        have l1 := b1.lt
        simp at c0 c1 c2
        replace b0 := hid b0
        replace b1 := hid b1
        replace hD := hid hD
        replace hG := hid hG
        have k0 := hid (fun (v : Value) (i : Int) => by
          have := (b0.out.set 0 v).far (p := ⟨h + 1, 0, none⟩) (show h ≠ h + 1 by omega) (.int .i64 i)
          simpa using this : ∀ (v : Value) (i : Int), Holds ((W3.setCell ⟨h, 0, none⟩ v).setCell ⟨h + 1, 0, none⟩ (.int .i64 i)) h 22 #[v])
        have k1 := hid (fun (v : Value) (i : Int) => by
          have := (b1.out.far (p := ⟨h, 0, none⟩) (show h + 1 ≠ h by omega) v).set 0 (.int .i64 i)
          simpa using this : ∀ (v : Value) (i : Int), Holds ((W3.setCell ⟨h, 0, none⟩ v).setCell ⟨h + 1, 0, none⟩ (.int .i64 i)) (h + 1) 26 #[.int .i64 i])
        have kd := hid (fun (v : Value) (i : Int) => other_set (p := ⟨h + 1, 0, none⟩) (other_set (p := ⟨h, 0, none⟩) hD.out (show h2 + 3 ≠ h by omega) v) (show h2 + 3 ≠ h + 1 by omega) (.int .i64 i))
        have kg := hid (fun (v : Value) (i : Int) => grown_put (l := h2 + 3) (grown_set (p := ⟨h + 1, 0, none⟩) (grown_set (p := ⟨h, 0, none⟩) hG.out (.inr (by have := hht.out; simp; omega)) v) (.inr (by have := hht.out; simp; omega)) (.int .i64 i)) (by have := hht.out; omega) (.deferred none))
        gi_wp2_with fail
        refine ⟨trivial, rfl, ?_⟩
        refine (callsIn_wide.2 (leftNone_is w0 g r W3 hR.out)).mono ?_
        rintro e W4 ⟨rfl, rfl⟩
        by_cases hrn : r = []
        · rw [decide_eq_true hrn]
          replace hrn := hid hrn
          gi_wp2
          refine list_leaves (h := h) (v := .slice A ys.length cp) (u := .int .i64 0) rfl rfl (k0.out _ _) (k1.out _ _) ⟨_, _, _, rfl⟩ ⟨_, rfl⟩ (by omega) (kd.out _ _) ?_
          refine ⟨A, cp, ys, 0, rfl, ?_, kg.out _ _, .inr ⟨_, r, hgA.out, .inl ⟨hrn.out, rfl, rfl⟩⟩⟩
          have o1 := hO.out.kept_other (grownBy_setCell' W3 h (.slice A ys.length cp)) b0.out (by decide) (by decide)
          have o2 := o1.kept_other (grownBy_setCell' _ (h + 1) (.int .i64 0)) (b1.out.far (p := ⟨h, 0, none⟩) (show h + 1 ≠ h by omega) (.slice A ys.length cp)) (by decide) (by decide)
          exact o2.put (kd.out _ _) rfl
        · rw [decide_eq_false hrn]
          replace hrn := hid hrn
          gi_wp2
          refine list_leaves (h := h) (v := .slice none 0 0) (u := .int .i64 43) rfl rfl (k0.out _ _) (k1.out _ _) ⟨_, _, _, rfl⟩ ⟨_, rfl⟩ (by omega) (kd.out _ _) ?_
          exact ⟨none, 0, [], 43, rfl, OwnRows.nil _ _, kg.out _ _, .inr ⟨_, r, hgA.out, .inr ⟨hrn.out, rfl, rfl⟩⟩⟩
      · refine ⟨hv, .inr ⟨_, s.record, fun o => ?_⟩⟩
        have b0 := s.r0.put (l := h2 + 4) (by omega) o
        have b1 := s.r1.put (l := h2 + 4) (by omega) o
        have hD := (World.putObj_heap_other (o := o) (r := h2 + 4) (k := h2 + 3) (by omega)).trans s.dfr
        have hG := grown_put (l := h2 + 4) s.gr (by have := hht.out; omega) o
        have hgA : Hid (getAll rs = none) := hid (by rw [hgood.out]; exact hgw)
        obtain ⟨W3, hW3⟩ : ∃ W3, W2.putObj (h2 + 4) o = W3 := ⟨_, rfl⟩
        rw [hW3] at b0 b1 hD hG ⊢
        clear hW3 s hgw
        replace b0 := hid b0
        replace b1 := hid b1
        replace hD := hid hD
        replace hG := hid hG
        gi_wp2
        refine list_leaves (h := h) (v := .slice none 0 0) (u := .int .i64 12) rfl rfl b0.out b1.out ⟨_, _, _, rfl⟩ ⟨_, rfl⟩ (by omega) hD.out ?_
        exact ⟨none, 0, [], 12, rfl, OwnRows.nil _ _, grown_put hG.out (by have := hht.out; omega) _, .inl ⟨hgA.out, rfl, rfl⟩⟩
  · rw [ht] at htk; cases htk

theorem readList_is (w0 : World) (g : Nat) (rs : List Int) (w : World) (hl : rs.length ≤ 100000) (hb : ∀ x ∈ rs, isByte x) (h0 : w0.heap.size ≤ g) (hs : RdAt w0 g rs w) (hgl : g < w.heap.size) :
    Calls Try.prog 22 #[.pointer (some ⟨g, 0, none⟩)] w (ListLeaves g rs w) := by
  cases ht : take rs with
  | bad er => exact readList_bad w0 g rs w hl hb h0 hs hgl er ht
  | good n rest =>
    obtain ⟨hn0, _, _⟩ := take_only rs n rest hb ht
    obtain ⟨N, rfl⟩ := Int.eq_ofNat_of_zero_le hn0
    exact readList_good w0 g rs rest N w hl hb h0 hs hgl ht
end Go.Proofs.Ytghnbfphhmgcpaa

namespace Go.Proofs.Ytghnbfphhmgcpaa
open Go.RowKit Plain PlainSum PlainPacked

set_option maxHeartbeats 2000000 in
theorem packTake_is (A : Option Addr) (c : Nat) (bs : List Int) (w : World) (hl : bs.length ≤ 100000) (hc : bs.length ≤ c) (hc2 : c ≤ maxLen) (hb : Bytes bs) (hA : Arr w .u8 A bs) :
    Calls Try.prog 10 #[.slice A bs.length c] w (GivesWords (got bs) w) := by
  replace hb := hid hb
  replace hA := hid hA
  by_cases h0 : headErr bs = 0
  · obtain ⟨h10, _, _, _⟩ := head_right bs h0
    obtain ⟨b, off, rfl, hb0, hx⟩ := hA.out.at_ (i := 4) (by omega)
    have hA2 : Hid (Arr w .u8 (some ⟨b, off + 5, none⟩) (between bs)) := fun _ =>
      ⟨b, off + 5, rfl, hb0, fun i hi => by
        have hi' : i < bs.length - 4 - 5 := by unfold between at hi; simpa using hi
        have := hx (5 + i) (by omega)
        rw [Nat.add_assoc, this]
        unfold between
        rw [getD_drop, getD_take, if_pos (by omega)]⟩
    have hbt : Hid (∀ x ∈ between bs, isByte x) := fun x hx => of_bytes hb.out x (List.mem_of_mem_take (List.mem_of_mem_drop hx))
    have hbl : (between bs).length = bs.length - 4 - 5 := by unfold between; rw [List.length_drop, List.length_take]; omega
    have hnone := hid (fun h => got_none bs h0 h)
    have hrest := hid (fun ws r h hr => got_rest bs ws r h0 h hr)
    have hyes := hid (fun ws h => got_yes bs ws h0 h)
    have h0' := hid h0
    clear hx
    unfold maxLen at hc2
    go_enter Try.func10, Try.ntmps10
    go_wp2_with fail
    refine (packHead_is _ c bs _ hl hc (by unfold maxLen; exact hc2) hb.out hA.out).mono ?_
    rintro e w1 ⟨rfl, hg1⟩
    rw [h0'.out]
    have hA3 := hid (hA2.out.grown hg1)
    replace hg1 := hid hg1
    generalize headFold bs = F at hyes ⊢
    clear hA hA2 hb
    generalize between bs = bt at hbt hbl hnone hrest hyes hA3
    have q0 : (5 : Int) ≤ (bs.length : Int) - 4 := by omega
    go_wp2_with fail
    have hH : Holds (w1.alloc (.cells #[.slice (some ⟨b, off + 5, none⟩) (bs.length - 4 - 5) (c - 5)] 48)) w1.heap.size 48 #[.slice (some ⟨b, off + 5, none⟩) bt.length (c - 5)] := by
      rw [hbl]; exact Holds.new w1 _ _
    refine (readList_is w1 w1.heap.size bt _ (by omega) hbt.out (Nat.le_refl _) ⟨⟨_, _, hH, by omega, by unfold maxLen; omega, hA3.out⟩, grown_alloc (grown_refl w1 none) _⟩ (by simp)).mono ?_
    rintro e w2 ⟨A2, c2, l, er, rfl, hown, hg2, hcase⟩
    have hG := hid (grown_trans hg1.out (grown_new (grown_trans_same (grown_row (grown_alloc (grown_refl w1 none) (.cells #[.slice (some ⟨b, off + 5, none⟩) (bs.length - 4 - 5) (c - 5)] 48)) (some w1.heap.size)) hg2) (fun j hj => by injection hj with hj; omega)))
    have hO := hid (hown.mono (base' := w.heap.size) (by have := hg1.out.size; simp; omega))
    clear hH hg2 hown
    rcases hcase with ⟨hn, rfl, rfl⟩ | ⟨ws, r, hsome, ⟨rfl, hws, rfl⟩ | ⟨hr, rfl, rfl⟩⟩
    · have hN := hid (hnone.out hn)
      clear hn
      go_wp2_with fail
      go_ret3
      rw [hN.out]
      exact GivesWords.none false _ hG.out
    · have hN := hid (hyes.out ws hsome)
      replace hws := hid hws
      clear hsome
      go_wp2_with fail
      go_ret3
      rw [hN.out]
      exact ⟨A2, c2, l, rfl, hws.out, hO.out, hG.out⟩
    · have hN := hid (hrest.out ws r hsome hr)
      clear hsome hr
      go_wp2_with fail
      go_ret3
      rw [hN.out]
      exact GivesWords.none false _ hG.out
  · have hN : Hid (got bs = (false, [], headErr bs)) := got_err bs h0
    have hne : (headErr bs != 0) = true := by rw [bne_iff_ne]; exact h0
    clear h0
    go_enter Try.func10, Try.ntmps10
    go_wp2_with fail
    refine (packHead_is _ c bs _ hl hc hc2 hb.out hA.out).mono ?_
    rintro e w1 ⟨rfl, hg1⟩
    replace hg1 := hid hg1
    generalize headErr bs = E at hne hN ⊢
    generalize headFold bs = F
    go_wp2_with fail
    go_ret3
    rw [hN.out]
    exact GivesWords.none false _ hg1.out
end Go.Proofs.Ytghnbfphhmgcpaa
