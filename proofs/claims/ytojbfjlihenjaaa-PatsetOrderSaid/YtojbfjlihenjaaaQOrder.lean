/- The law PatsetOrder: a list with a word more is none, or has the error that comes first of both. -/
import Derived.Test.YtojbfjlihenjaaaQWakes
import Derived.Test.YtojbfjlihenjaaaPlainOrder
import Derived.Test.YtojbfjlihenjaaaQRows
set_option linter.unusedSimpArgs false
set_option linter.unusedVariables false
set_option maxRecDepth 100000
namespace Go.Proofs.Ytojbfjlihenjaaa
open Go.RowKit PlainLetter PlainPatset

/-- What is told of a list, and of it with a word more. -/
inductive OrderSays (L X N : Nat) (e g : Int) (fits : Prop) : Prop
  | many (h : 64 < N) (hg : g = 51)
  | none (h : N ≤ 64) (hL : L = 0) (he : e = 50) (hX : X = 0) (hg : g = 52)
  | first (h : N ≤ 64) (hL : L = 0) (he : e = 50) (hX : X ≠ 0) (hg : g ≠ 52)
  | nil (h : N ≤ 64) (hL : L ≠ 0) (hX : X = 0) (hg : g = 52)
  | empty (h : N ≤ 64) (hL : L ≠ 0) (hX : X ≠ 0) (he : e = 52) (hg : g = 52)
  | wide (h : N ≤ 64) (hL : L ≠ 0) (hX : X ≠ 0) (he : e ≠ 52) (h32 : 32 < X) (hg : g = 53)
  | long (h : N ≤ 64) (hL : L ≠ 0) (hX : X ≠ 0) (h32 : X ≤ 32) (he : e = 53) (hg : g = 53)
  | bytes (h : N ≤ 64) (hL : L ≠ 0) (hX : X ≠ 0) (h32 : X ≤ 32) (he : e = 54) (hg : g = 54)
  | states (h : N ≤ 64) (hL : L ≠ 0) (hX : X ≠ 0) (h32 : X ≤ 32) (he : e = 55) (hg : g = 55)
  | states' (h : N ≤ 64) (hL : L ≠ 0) (hX : X ≠ 0) (h32 : X ≤ 32) (he : e = 55) (hg : g = 54)
  | right (h : N ≤ 64) (hL : L ≠ 0) (hX : X ≠ 0) (h32 : X ≤ 32) (he : e = 0) (hg : g = 0) (hf : fits)
  | right' (h : N ≤ 64) (hL : L ≠ 0) (hX : X ≠ 0) (h32 : X ≤ 32) (he : e = 0) (hg : g = 54)
  | right2 (h : N ≤ 64) (hL : L ≠ 0) (hX : X ≠ 0) (h32 : X ≤ 32) (he : e = 0) (hg : g = 55)

theorem order_says (f : Bool) (xss : List (List Int)) (K : Nat) (x : List Int) : OrderSays xss.length x.length (xss.take K ++ x :: xss.drop K).length (check f xss) (check f (xss.take K ++ x :: xss.drop K)) (nodes f (xss.take K ++ x :: xss.drop K) ≤ 400) := by
  have hN : (xss.take K ++ x :: xss.drop K).length = xss.length + 1 := by simp; omega
  have hne : xss.take K ++ x :: xss.drop K ≠ [] := by simp
  have hab : xss.take K ++ xss.drop K = xss := List.take_append_drop K xss
  rw [hN]
  by_cases h64 : 64 < xss.length + 1
  · refine .many h64 ?_
    unfold check
    rw [if_neg hne, if_pos (by rw [hN]; exact h64)]
  have h1 : xss.length + 1 ≤ 64 := by omega
  by_cases h0 : xss = []
  · subst h0
    have he : check f [] = 50 := rfl
    by_cases hx : x = []
    · subst hx
      refine .none h1 rfl he rfl ?_
      simp [check]
    · have hx0 : x.length ≠ 0 := fun e => hx (List.eq_nil_of_length_eq_zero e)
      refine .first h1 rfl he hx0 ?_
      simp only [List.take_nil, List.drop_nil, List.nil_append]
      unfold check
      rw [if_neg (by simp), if_neg (by simp), if_neg (by simpa using hx)]
      repeat' split
      all_goals omega
  have hm := check_more f (xss.take K) (xss.drop K) x (by rw [hab]; exact h0) (by rw [hab]; exact h1)
  rw [hab] at hm
  have hL : xss.length ≠ 0 := fun e => h0 (List.eq_nil_of_length_eq_zero e)
  have hmid := check_mid f xss h0 (by omega)
  have hrange : check f xss = 52 ∨ check f xss = 53 ∨ check f xss = 54 ∨ check f xss = 55 ∨ check f xss = 0 := by
    rw [hmid]
    repeat' split
    all_goals omega
  have hb := check_bytes f xss
  have hst := check_states f xss
  have hle := nodes_le f (xss.take K) (xss.drop K) x
  rw [hab] at hle
  generalize nodes f (xss.take K ++ x :: xss.drop K) = nm at hm hle ⊢
  generalize check f (xss.take K ++ x :: xss.drop K) = g at hm ⊢
  generalize check f xss = e at hm hrange hb hst ⊢
  generalize total xss = tt at hm hb
  generalize nodes f xss = nn at hst hle
  clear hmid hab
  by_cases c1 : x = []
  · rw [if_pos (.inl c1)] at hm
    exact .nil h1 hL (by rw [c1]; rfl) hm
  · have cX : x.length ≠ 0 := fun e => c1 (List.eq_nil_of_length_eq_zero e)
    generalize x.length = X at hm cX ⊢
    by_cases c2 : e = 52
    · rw [if_pos (.inr c2)] at hm; exact .empty h1 hL cX c2 hm
    · rw [if_neg (by rintro (h | h) <;> contradiction)] at hm
      by_cases c3 : 32 < X
      · rw [if_pos (.inl c3)] at hm; exact .wide h1 hL cX c2 c3 hm
      · have c3' : X ≤ 32 := by omega
        by_cases c4 : e = 53
        · rw [if_pos (.inr c4)] at hm; exact .long h1 hL cX c3' c4 hm
        · rw [if_neg (by rintro (h | h) <;> contradiction)] at hm
          have h3 : e = 54 ∨ e = 55 ∨ e = 0 := by omega
          by_cases c5 : 600 < tt + X
          · rw [if_pos c5] at hm
            rcases h3 with h3 | h3 | h3
            · exact .bytes h1 hL cX c3' h3 hm
            · exact .states' h1 hL cX c3' h3 hm
            · exact .right' h1 hL cX c3' h3 hm
          · rw [if_neg c5] at hm
            by_cases c6 : 400 < nm
            · rw [if_pos c6] at hm
              rcases h3 with h3 | h3 | h3
              · have := hb h3; omega
              · exact .states h1 hL cX c3' h3 hm
              · exact .right2 h1 hL cX c3' h3 hm
            · rw [if_neg c6] at hm
              rcases h3 with h3 | h3 | h3
              · have := hb h3; omega
              · have := hst h3; omega
              · exact .right h1 hL cX c3' h3 hm (by omega)

theorem more_bytes {xss : List (List Int)} {x : List Int} (hB : ∀ i, Bytes (xss.getD i [])) (hx : Bytes x) (K : Nat) : ∀ i, Bytes ((xss.take K ++ x :: xss.drop K).getD i []) := getD_all Bytes (fun k => by simp) fun z hz => by
  simp only [List.mem_append, List.mem_cons] at hz
  rcases hz with hz | rfl | hz
  · exact all_getD Bytes hB z (List.mem_of_mem_take hz)
  · exact hx
  · exact all_getD Bytes hB z (List.mem_of_mem_drop hz)
theorem more_flat (xss : List (List Int)) (x : List Int) (K : Nat) : (xss.take K ++ x :: xss.drop K).flatten.length = xss.flatten.length + x.length := by
  have := congrArg (fun l => l.flatten.length) (List.take_append_drop K xss)
  simp only [List.flatten_append, List.length_append, List.flatten_cons] at this ⊢
  omega

set_option maxHeartbeats 16000000 in
theorem qorder_walk (f : Bool) (P A : Option Addr) (c d : Nat) (p : Int) (xss : List (List Int)) (x : List Int) (w : World) (hB : ∀ i, Bytes (xss.getD i [])) (hxb : Bytes x) (hP : Arrs w P xss) (hA : Arr w .u8 A x) (hl : xss.length ≤ 9223372036854775807) (hc : xss.length ≤ c) (hcm : c ≤ 9223372036854775807)
    (hx : x.length ≤ 9223372036854775807) (hp0 : -9223372036854775808 ≤ p) (hp1 : p ≤ 9223372036854775807) :
    Calls Try.prog 5 #[.bool f, .slice P xss.length c, .slice A x.length d, .int .i64 p] w fun e w' => e = .returned (.bool true) ∧ w.grownBy w' none := by
  obtain ⟨i3, hi3, hy0, hy1, hy2⟩ := info_parts Try.rowInfo
  replace hB := hid hB
  replace hxb := hid hxb
  replace hP := hid hP
  replace hA := hid hA
  go_enter Try.func5, Try.ntmps5
  go_wp2_with fail
  refine (greatTexts_is P c xss _ hP.out hl).mono ?_
  rintro e w1 ⟨rfl, rfl | ⟨rfl, h80, h3000⟩⟩
  · go_wp2_with fail
    refine (qwakes_true _).mono ?_
    rintro e w2 ⟨rfl, hg⟩
    replace hg := hid hg
    go_wp2_with fail
    go_ret
    exact ⟨rfl, hg.out⟩
  by_cases h400 : 400 < x.length
  · have q : (400 : Int) < (x.length : Int) := by omega
    go_wp2_with fail
    refine (qwakes_true _).mono ?_
    rintro e w2 ⟨rfl, hg⟩
    replace hg := hid hg
    go_wp2_with fail
    go_ret
    exact ⟨rfl, hg.out⟩
  have q : ¬ (400 : Int) < (x.length : Int) := by omega
  obtain ⟨K, hK, hKl⟩ : ∃ K : Nat, (if (xss.length : Int) < (if p < 0 then 0 else p) then (xss.length : Int) else if p < 0 then 0 else p) = (K : Int) ∧ K ≤ xss.length := by
    refine ⟨(if (xss.length : Int) < (if p < 0 then 0 else p) then (xss.length : Int) else if p < 0 then 0 else p).toNat, ?_, ?_⟩ <;> (repeat' split) <;> omega
  replace hK := hid hK
  go_upto_region 4 with fail
  rw [hK.out]
  obtain ⟨vs, hvs, hrow⟩ := cells_of_arrs hP.out
  have hvl : vs.length = xss.length := hrow.1
  have hone := hid hrow.oneCell
  have hKc : Hid (K ≤ c) := hid (by omega)
  have hKl' := hid hKl
  have hcc := hid hc
  have htk : Hid ((vs.take K).length = K) := hid (by rw [List.length_take]; omega)
  have hdr : Hid ((vs.drop K).length = xss.length - K) := hid (by rw [List.length_drop]; omega)
  have hvs1 := hid (fun (W : World) (hg : w.drew.grownBy W none) => (hvs.grown (grown_trans (grown_drew (grown_refl w none)) hg)))
  obtain ⟨h, hh⟩ : ∃ h, w.heap.size = h := ⟨_, rfl⟩
  have hhs : Hid (∀ W, w.drew.grownBy W none → h ≤ W.heap.size) := fun W hg => by have := hg.size; have e : w.drew.heap.size = w.heap.size := rfl; omega
  have hrow' := hid hrow
  have h0l : Hid (∀ W g, h ≤ g → w.drew.grownBy W none → w.drew.heap.size ≤ g) := fun W g hg _ => by have e : w.drew.heap.size = w.heap.size := rfl; omega
  replace hh := hid hh
  have hV1 : Hid ((Value.slice A x.length d).oneCell' = true) := hid rfl
  clear hvs hrow hvl
  apply head_plain 11 [isNone h, isv (.slice P xss.length c), isv (.int .i64 K), isv (.slice P K c), isGrow h (vs.take K), isv (.slice A x.length d), isRowOf 1 #[.slice A x.length d], isGrow h (vs.take K ++ [.slice A x.length d]), isv (.slice P xss.length c), isv (.int .i64 K), isv (.slice (if c = K then P else P.map (fun x => x.add K)) (xss.length - K) (c - K))]
    138 [some 25, some 26, some 27, some 28, some 29, some 30, some 31, some 32, some 33, some 34, some 35]
    [some 25, some 26, some 27, some 28, some 29, some 30, some 31, some 32, some 33, some 34, some 35]
    [[], [], [], [1, 2], [0, 3], [], [5], [4, 6], [], [], [8, 9]]
    [(1, .slice P xss.length c), (2, .slice A x.length d), (3, .int .i64 K)] (by kernel_rfl) rfl (by kernel_rfl) (by kernel_rfl) rfl rfl (by kernel_rfl) (OutsOk.cons rfl rfl (OutsOk.cons rfl rfl (OutsOk.cons rfl rfl OutsOk.nil))) ?st ?ob ?fin
  case ob =>
    refine Obs.consv rfl ?o0 (Obs.consv rfl ?o1 (Obs.consv rfl ?o2 (Obs.consv rfl ?o3 (Obs.consv rfl ?o4 (Obs.consv rfl ?o5 (Obs.consv rfl ?o6 (Obs.consa ?o7 (Obs.consv rfl ?o8 (Obs.consv rfl ?o9 (Obs.consv rfl ?o10 Obs.nil))))))))))
    case o0 =>
      go_light
      intro ac w' hgw
      replace hgw := hid hgw
      simp only [outThen, preThen, slotIs, factAt, isv, List.getElem?_cons_zero, List.getElem?_cons_succ, Option.getD_some, forall_eq]
      intros
      rename_i K2 hK2
      replace hK2 := hid hK2
      simp only [wantedAt]
      go_simp
      exact hK2.out _ _ ⟨_, rfl, hhs.out _ hgw.out, Holds.new _ _ _⟩ (grown_alloc (grown_refl _ _) _)
    case o1 =>
      go_light
      intro ac w' hgw
      replace hgw := hid hgw
      simp only [outThen, preThen, slotIs, factAt, isv, List.getElem?_cons_zero, List.getElem?_cons_succ, Option.getD_some, forall_eq]
      intros
      rename_i hK
      replace hK := hid hK
      simp only [wantedAt]
      go_simp
      exact hK.out _ _ rfl (grown_refl _ _)
    case o2 =>
      go_light
      intro ac w' hgw
      replace hgw := hid hgw
      simp only [outThen, preThen, slotIs, factAt, isv, List.getElem?_cons_zero, List.getElem?_cons_succ, Option.getD_some, forall_eq]
      intros
      rename_i hK
      replace hK := hid hK
      simp only [wantedAt]
      go_simp
      exact hK.out _ _ rfl (grown_refl _ _)
    case o3 =>
      go_light
      intro ac w' hgw
      replace hgw := hid hgw
      simp only [outThen, preThen, slotIs, factAt, isv, List.getElem?_cons_zero, List.getElem?_cons_succ, Option.getD_some, forall_eq]
      intros
      rename_i K2 hK2
      replace hK2 := hid hK2
      simp only [wantedAt]
      have q1 := hKc.out
      go_simp
      exact hK2.out _ _ rfl (grown_refl _ _)
    case o4 =>
      go_light
      intro ac w' hgw
      replace hgw := hid hgw
      simp only [outThen, preThen, slotIs, factAt, isv, List.getElem?_cons_zero, List.getElem?_cons_succ, Option.getD_some, forall_eq]
      intros
      rename_i v0 h0 hv0 hv3 K2 hK2
      obtain ⟨g0, rfl, hb0, hH0⟩ := h0
      replace hK2 := hid hK2
      obtain ⟨v9, w9, hrun, hgr, hcase⟩ := run_rows_new (P := Try.prog) (i := i3) Try.underlying22 hi3 hy0 hy1 hy2 w' g0 22 hH0 P K c (vs.take K) ((hvs1.out _ hgw.out).take K) htk.out (fun u hu => hone.out u (List.mem_of_mem_take hu)) (by have := hKl'.out; omega)
      simp only [wantedAt, if_true]
      refine wp_append_run _ _ 22 rfl _ _ v9 (by simp [Act.eval, Array.getD_eq_getD_getElem?, hv0]) (by simp [Act.eval, Array.getD_eq_getD_getElem?, hv3]) hrun ?_
      refine hK2.out _ _ ?_ hgr
      rcases hcase with ⟨hm, rfl, rfl⟩ | ⟨hm, g9, c9, rfl, hb9, hown9⟩
      · have hnil : vs.take K = [] := List.eq_nil_of_length_eq_zero (by rw [htk.out]; exact hm)
        rw [hnil]
        exact ⟨g0, 0, rfl, ⟨rfl, .inr ⟨g0, 0, #[], rfl, hb0, hH0, Nat.le_refl _, Nat.zero_le _, rfl, rfl⟩⟩, fun _ => rfl⟩
      · refine ⟨g9, c9, by rw [htk.out], by rw [htk.out]; exact own_mono hown9 (hhs.out _ hgw.out), fun e => ?_⟩
        have := htk.out
        rw [e] at this
        simp at this
        omega
    case o5 =>
      go_light
      intro ac w' hgw
      replace hgw := hid hgw
      simp only [outThen, preThen, slotIs, factAt, isv, List.getElem?_cons_zero, List.getElem?_cons_succ, Option.getD_some, forall_eq]
      intros
      rename_i hK
      replace hK := hid hK
      simp only [wantedAt]
      go_simp
      exact hK.out _ _ rfl (grown_refl _ _)
    case o6 =>
      go_light
      intro ac w' hgw
      replace hgw := hid hgw
      simp only [outThen, preThen, slotIs, factAt, isv, List.getElem?_cons_zero, List.getElem?_cons_succ, Option.getD_some, forall_eq]
      intros
      rename_i K2 hK2
      replace hK2 := hid hK2
      simp only [wantedAt]
      go_simp
      exact hK2.out _ _ ⟨_, rfl, Holds.new _ _ _⟩ (grown_alloc (grown_refl _ _) _)
    case o7 =>
      go_light
      intro ac w' hgw
      replace hgw := hid hgw
      simp only [outThen, preThen, slotIs, factAt, isv, List.getElem?_cons_zero, List.getElem?_cons_succ, Option.getD_some, forall_eq]
      intros
      rename_i v4 h4 hv4 v6 h6 hv6 K2 hK2
      obtain ⟨g4, c4, rfl, hown4, hz4⟩ := h4
      obtain ⟨g6, rfl, hH6⟩ := h6
      replace hK2 := hid hK2
      obtain ⟨v9, w9, hrun, hown9, ⟨g9, c9, rfl, hc9⟩, hcase⟩ := run_rows_one (P := Try.prog) (i := i3) Try.underlying22 hi3 hy0 hy1 hy2 w' h g4 (vs.take K).length c4 g6 22 (vs.take K) (.slice A x.length d) hown4 hH6 hV1.out (by have := hKl'.out; rw [htk.out]; omega) (hhs.out _ hgw.out)
      simp only [wantedAt, if_true]
      refine wp_append_run _ _ 22 rfl _ _ _ (by simp [Act.eval, Array.getD_eq_getD_getElem?, hv4]) (by simp [Act.eval, Array.getD_eq_getD_getElem?, hv6]) hrun ?_
      have hfact : isGrow h (vs.take K ++ [.slice A x.length d]) (.slice (some ⟨g9, 0, none⟩) ((vs.take K).length + 1) c9) w9 := ⟨g9, c9, by simp, by simpa using hown9, fun e => by simp at e⟩
      rcases hcase with ⟨hroom, rfl⟩ | hgr
      · obtain ⟨cur, hg4, hs4⟩ : ∃ cur, w'.heap[g4]? = some (.cells cur 25 (0, 0)) ∧ cur.size = c4 := by
          rcases hown4.2 with ⟨hv, _⟩ | ⟨g', cap, cur, hv, _, hg', _, _, hs, _⟩
          · cases hv
          · injection hv with e1 e2 e3
            injection e1 with e1
            injection e1 with e1
            subst e1 e3
            exact ⟨cur, hg', by simpa using hs⟩
        have hbase : h ≤ g4 := (World.ownsRow.lt hown4 g4 (by simp [Value.ownBlock])).1
        have h2 : 2 ≤ cur.size := by
          rw [hs4]
          rcases Nat.eq_zero_or_pos (vs.take K).length with e | e
          · have := hz4 (List.eq_nil_of_length_eq_zero e); omega
          · omega
        refine hK2.out _ _ _ rfl hfact (grown_set hgw.out (.inr (h0l.out _ _ hbase hgw.out)) _) (fun j v hj hf => AllKept.at_ ?_ j v hf)
        exact AllKept.cons (fun _ e => kept_isNone e hg4 h2) (AllKept.cons (fun _ e => e) (AllKept.cons (fun _ e => e) (AllKept.cons (fun _ e => e) (AllKept.cons (fun _ e => kept_isGrow e hg4 (fun hlt => absurd hlt (Nat.lt_irrefl _))) (AllKept.cons (fun _ e => e) (AllKept.cons (fun _ e => kept_isRow e hg4 h2) (AllKept.cons (fun _ e => kept_isGrow e hg4 (fun _ => by simp)) (AllKept.cons (fun _ e => e) (AllKept.cons (fun _ e => e) (AllKept.cons (fun _ e => e) (AllKept.nil)))))))))))
      · refine hK2.out _ _ _ rfl hfact (grown_trans hgw.out hgr) (fun j v hj hf => AllKept.at_ ?_ j v hf)
        exact AllKept.cons (fun _ e => stable_isNone _ _ _ _ e hgr) (AllKept.cons (fun _ e => e) (AllKept.cons (fun _ e => e) (AllKept.cons (fun _ e => e) (AllKept.cons (fun _ e => stable_isGrow _ _ _ _ _ e hgr) (AllKept.cons (fun _ e => e) (AllKept.cons (fun _ e => stable_isRowOf _ _ _ _ _ e hgr) (AllKept.cons (fun _ e => stable_isGrow _ _ _ _ _ e hgr) (AllKept.cons (fun _ e => e) (AllKept.cons (fun _ e => e) (AllKept.cons (fun _ e => e) (AllKept.nil)))))))))))
    case o8 =>
      go_light
      intro ac w' hgw
      replace hgw := hid hgw
      simp only [outThen, preThen, slotIs, factAt, isv, List.getElem?_cons_zero, List.getElem?_cons_succ, Option.getD_some, forall_eq]
      intros
      rename_i hK
      replace hK := hid hK
      simp only [wantedAt]
      go_simp
      exact hK.out _ _ rfl (grown_refl _ _)
    case o9 =>
      go_light
      intro ac w' hgw
      replace hgw := hid hgw
      simp only [outThen, preThen, slotIs, factAt, isv, List.getElem?_cons_zero, List.getElem?_cons_succ, Option.getD_some, forall_eq]
      intros
      rename_i hK
      replace hK := hid hK
      simp only [wantedAt]
      go_simp
      exact hK.out _ _ rfl (grown_refl _ _)
    case o10 =>
      go_light
      intro ac w' hgw
      replace hgw := hid hgw
      simp only [outThen, preThen, slotIs, factAt, isv, List.getElem?_cons_zero, List.getElem?_cons_succ, Option.getD_some, forall_eq]
      intros
      rename_i K2 hK2
      replace hK2 := hid hK2
      simp only [wantedAt]
      have q1 := hKl'.out
      have q2 := hcc.out
      go_simp
      exact hK2.out _ _ rfl (grown_refl _ _)
  case st =>
    repeat (first | exact AllStable.nil | (refine AllStable.cons ?_ ?_; focus (first | exact stable_isv _ | exact stable_isBytes _ | exact stable_isRow1 _ | exact stable_isRowOf _ _ | exact stable_isArrOf _ | exact stable_isNone _ | exact stable_isGrow _ _)))
  case fin =>
    intro w8 hgw
    simp only [finalIn, factAt, isv, isNone, isGrow, isRowOf, List.getElem?_cons_zero, List.getElem?_cons_succ, Option.getD_some, forall_eq, slotIs, subj, List.take_succ_cons, List.take_zero]
    rintro v0 ⟨g0, rfl, _, _⟩ v4 ⟨g4, c4, rfl, _, _⟩ v6 ⟨g6, rfl, _⟩ v7 ⟨g7, c7, rfl, hown7, _⟩
    simp only [Act.put, List.setIfInBounds_toArray, List.set_cons_zero, List.set_cons_succ, List.drop_succ_cons, List.drop_zero]
    have hgx : Hid (w.grownBy w8 none) := grown_trans (grown_drew (grown_refl w none)) hgw
    have hs8 := hid (hhs.out _ hgw)
    have hvd := hid ((hvs1.out _ hgw).drop (i := K) (c := c) (by rw [hrow'.out.1]; exact hcc.out))
    have hrm : Hid (RowLike (xss.take K ++ x :: xss.drop K) (vs.take K ++ [.slice A x.length d] ++ vs.drop K) w) := by
      have h1 := ((hrow'.out.take K).append (RowLike.one (c := d) hA.out)).append (hrow'.out.drop K)
      rw [List.append_assoc] at h1
      exact h1
    have hone2 := hid (fun u (hu : u ∈ vs.drop K) => hone.out u (List.mem_of_mem_drop hu))
    have hnl : (vs.take K ++ [Value.slice A x.length d]).length = K + 1 := by rw [List.length_append, htk.out]; rfl
    have hml : (xss.take K ++ x :: xss.drop K).length = xss.length + 1 := by simp; omega
    have hnn : Hid ((vs.take K ++ [Value.slice A x.length d]).length + (xss.length - K) = (xss.take K ++ x :: xss.drop K).length) := hid (by rw [hnl, hml]; have := hKl'.out; omega)
    replace hnl := hid hnl
    obtain ⟨more, hmore⟩ : ∃ more, xss.take K ++ x :: xss.drop K = more := ⟨_, rfl⟩
    have hsays := order_says f xss K x
    have hmb := hid (more_bytes hB.out hxb.out K)
    have hmf := more_flat xss x K
    rw [hmore] at hnn hml hrm hsays hmb hmf
    replace hsays := hid hsays
    clear hmore
    replace hown7 := hid hown7
    clear hgw
    generalize (if c = K then P else P.map (fun x => x.add K)) = PD at hvd ⊢
    generalize (if p < 0 then (0 : Int) else p) = pp
    gi_wp2_with (gi_at_builtin; refine wpListIn_append_cells (i := i3) Try.underlying22 hi3 hy0 hy1 hy2 rfl _ _ rfl h _ _ _ (vs.drop K) _ _ _ w8 hown7.out hvd.out rfl rfl hdr.out hone2.out (by rw [hnl.out]; omega) hs8.out ?_; intro v9 w9 hown9 hg9; rw [hnn.out] at hown9; have hg9' := hid (grown_of_own hgx.out (hh.out ▸ hown7.out) hg9); obtain ⟨A9, c9, rfl, _, _⟩ := own_form hown9; replace hown9 := hid hown9; clear hg9)
    have hP9 := arrs_of_own hown9.out (hrm.out.grown hg9'.out)
    have hPl := hid (hP.out.grown hg9'.out)
    clear hvd hrm hone2 hown7 hnn hown9
    replace hP9 := hid hP9
    go_wp2_with fail
    refine (patCheck_is f P c xss w9 (by omega) (by omega) hB.out hPl.out).mono ?_
    rintro e w10 ⟨rfl, hg10⟩
    have hG10 := hid (grown_trans hg9'.out hg10)
    replace hP9 := hid (hP9.out.grown hg10)
    clear hg10
    go_wp2_with fail
    have key := patCheck_is f A9 c9 more w10 (by omega) (by omega) hmb.out hP9.out
    rw [hml] at key
    refine key.mono ?_
    clear key
    rintro e w11 ⟨rfl, hg11⟩
    have hG11 := hid (grown_trans hG10.out hg11)
    replace hP9 := hid (hP9.out.grown hg11)
    clear hg11
    have hnode := patNodes_is f A9 c9 more w11 (by omega) (by omega) hmb.out hP9.out
    have hsays' := hsays.out
    rw [hml] at hnode hsays'
    replace hnode := hid hnode
    clear hsays hmb hP9 hmf hPl hB hxb hP hA hrow' hdr htk hone hcc hKl' hKc hvs1 hhs h0l hV1 hnl hK
    generalize check f xss = e at hsays' ⊢
    generalize check f more = g at hsays' ⊢
    generalize nodes f more = nm at hsays' hnode
    generalize min K vs.length = mk
    clear hml
    generalize xss.length = L at hsays' hnode hl hc h80 hKl ⊢
    generalize x.length = X at hsays' hx h400 q ⊢
    cases hsays'
    case many h hg =>
      subst hg
      have b1 : (64 : Int) < (L : Int) + 1 := by omega
      go_wp2_with fail
      refine (qwakes_true _).mono ?_
      rintro e w12 ⟨rfl, hg12⟩
      have hG12 := hid (grown_trans hG11.out hg12)
      clear hg12
      go_wp2_with fail
      go_ret
      exact ⟨rfl, hG12.out⟩
    case none h hL he hX hg =>
      subst hL he hX hg
      go_wp2_with fail
      refine (qwakes_true _).mono ?_
      rintro e w12 ⟨rfl, hg12⟩
      have hG12 := hid (grown_trans hG11.out hg12)
      clear hg12
      go_wp2_with fail
      go_ret
      exact ⟨rfl, hG12.out⟩
    case first h hL he hX hg =>
      subst hL he
      have b3 : ((X : Int) == 0) = false := by rw [beq_eq_false_iff_ne]; omega
      have b5 : (g == 52) = false := by rw [beq_eq_false_iff_ne]; exact hg
      go_wp2_with fail
      refine (qwakes_true _).mono ?_
      rintro e w12 ⟨rfl, hg12⟩
      have hG12 := hid (grown_trans hG11.out hg12)
      clear hg12
      go_wp2_with fail
      go_ret
      exact ⟨rfl, hG12.out⟩
    case nil h hL hX hg =>
      subst hX hg
      have b1 : ¬ (64 : Int) < (L : Int) + 1 := by omega
      have b2 : ((L : Int) == 0) = false := by rw [beq_eq_false_iff_ne]; omega
      go_wp2_with fail
      refine (qwakes_true _).mono ?_
      rintro e w12 ⟨rfl, hg12⟩
      have hG12 := hid (grown_trans hG11.out hg12)
      clear hg12
      go_wp2_with fail
      go_ret
      exact ⟨rfl, hG12.out⟩
    case wide h hL hX he h32 hg =>
      subst hg
      have b1 : ¬ (64 : Int) < (L : Int) + 1 := by omega
      have b2 : ((L : Int) == 0) = false := by rw [beq_eq_false_iff_ne]; omega
      have b3 : ((X : Int) == 0) = false := by rw [beq_eq_false_iff_ne]; omega
      have b4 : (32 : Int) < (X : Int) := by omega
      have b5 : (e == 52) = false := by rw [beq_eq_false_iff_ne]; exact he
      go_wp2_with fail
      refine (qwakes_true _).mono ?_
      rintro e w12 ⟨rfl, hg12⟩
      have hG12 := hid (grown_trans hG11.out hg12)
      clear hg12
      go_wp2_with fail
      go_ret
      exact ⟨rfl, hG12.out⟩
    case empty h hL hX he hg =>
      subst he hg
      have b1 : ¬ (64 : Int) < (L : Int) + 1 := by omega
      have b2 : ((L : Int) == 0) = false := by rw [beq_eq_false_iff_ne]; omega
      have b3 : ((X : Int) == 0) = false := by rw [beq_eq_false_iff_ne]; omega
      go_wp2_with fail
      refine (qwakes_true _).mono ?_
      rintro e w12 ⟨rfl, hg12⟩
      have hG12 := hid (grown_trans hG11.out hg12)
      clear hg12
      go_wp2_with fail
      go_ret
      exact ⟨rfl, hG12.out⟩
    case right h hL hX h32 he hg hf =>
      subst he hg
      have b1 : ¬ (64 : Int) < (L : Int) + 1 := by omega
      have b2 : ((L : Int) == 0) = false := by rw [beq_eq_false_iff_ne]; omega
      have b3 : ((X : Int) == 0) = false := by rw [beq_eq_false_iff_ne]; omega
      have b4 : ¬ (32 : Int) < (X : Int) := by omega
      have b6 : (nm : Int) ≤ 400 := by omega
      go_wp2_with fail
      refine hnode.out.mono ?_
      rintro e w13 ⟨rfl, hg13⟩
      replace hG11 := hid (grown_trans hG11.out hg13)
      clear hg13 hnode
      go_wp2_with fail
      refine (qwakes_true _).mono ?_
      rintro e w12 ⟨rfl, hg12⟩
      have hG12 := hid (grown_trans hG11.out hg12)
      clear hg12
      go_wp2_with fail
      go_ret
      exact ⟨rfl, hG12.out⟩
    all_goals
      rename_i h hL hX h32 he hg
      subst he hg
      have b1 : ¬ (64 : Int) < (L : Int) + 1 := by omega
      have b2 : ((L : Int) == 0) = false := by rw [beq_eq_false_iff_ne]; omega
      have b3 : ((X : Int) == 0) = false := by rw [beq_eq_false_iff_ne]; omega
      have b4 : ¬ (32 : Int) < (X : Int) := by omega
      go_wp2_with fail
      refine (qwakes_true _).mono ?_
      rintro e w12 ⟨rfl, hg12⟩
      have hG12 := hid (grown_trans hG11.out hg12)
      clear hg12
      go_wp2_with fail
      go_ret
      exact ⟨rfl, hG12.out⟩
end Go.Proofs.Ytojbfjlihenjaaa
