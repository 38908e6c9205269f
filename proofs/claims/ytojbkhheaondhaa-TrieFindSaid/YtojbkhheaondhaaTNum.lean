/- Package trie: are the words numbered, each once? Are they few and short enough?. -/
import Derived.Test.YtojbkhheaondhaaTCmp
import Derived.Test.YtojbkhheaondhaaK25
set_option linter.unusedSimpArgs false
set_option linter.unusedVariables false
set_option maxRecDepth 100000
namespace Go.Proofs.Ytojbkhheaondhaa
open Go.RowKit PlainLetter

open Go.ChangeMaps Go.MapKept

theorem Places.last_iff {t : PlainTrie.Tree} {ks : List Int} {f : Int → Int} (h : Places t ks f) {j : Nat} (hj : j < t.word.length) (hw : t.word.getD j 0 ≠ -1) : PlainTrie.Last t (t.word.getD j 0) j ↔ f (t.word.getD j 0) = (j : Int) := by
  have hm : t.word.getD j 0 ∈ ks := (h.keys _).2 ⟨hw, j, hj, rfl⟩
  obtain ⟨q, h1, h2, h3, h4⟩ := h.last _ hm
  rw [h1]
  constructor
  · rintro ⟨a, b, c⟩
    rcases Nat.lt_trichotomy q j with e | e | e
    · exact absurd rfl (h4 j e hj)
    · rw [e]
    · exact absurd h3 (c q e h2)
  · intro e
    have : q = j := by omega
    subst this
    exact ⟨h2, rfl, h4⟩

set_option maxHeartbeats 4000000 in
theorem numbered_is (U D W B : Option Addr) (cu cd cw cb : Nat) (t : PlainTrie.Tree) (w : World) (X : Bool) (hX : ∀ K, PlainTrie.Keys t K → (X = true ↔ PlainTrie.Numbered t K)) (hE : PlainTrie.Even t) (hwf : ∀ x ∈ t.word, (Lit.int .i64 x).wf = true) (hT : TreeAt w U D W B t) :
    Calls Try.prog 33 #[treeV U D W B t cu cd cw cb] w fun e w' => e = .returned (.bool X) ∧ w.grownBy w' none := by
  have hl4 : t.word.length ≤ 400 := by have h1 := hE.2.1; have h2 := hE.2.2.2.1; omega
  have hP := hid (fun (w' : World) (h : TreeAt w' U D W B t) => places_is U D W B cu cd cw cb t w' (by omega) hwf h)
  have hno : Hid (∀ ks f, Places t ks f → ∀ j, j < t.word.length → t.word.getD j 0 ≠ -1 → (t.word.getD j 0 < 0 ∨ (ks.length : Int) ≤ t.word.getD j 0 ∨ f (t.word.getD j 0) ≠ (j : Int)) → X = false) := hid (fun ks f hp j hj hw hh => by
    cases X with
    | false => rfl
    | true =>
      obtain ⟨a, b, c⟩ := (hX ks hp.isKeys).1 rfl j hj hw
      have := (hp.last_iff hj hw).1 c
      omega)
  have hyes : Hid (∀ ks f, Places t ks f → (∀ j, j < t.word.length → t.word.getD j 0 ≠ -1 → 0 ≤ t.word.getD j 0 ∧ t.word.getD j 0 < (ks.length : Int) ∧ f (t.word.getD j 0) = (j : Int)) → X = true) := hid (fun ks f hp hh => (hX ks hp.isKeys).2 (fun j hj hw => by
    obtain ⟨a, b, c⟩ := hh j hj hw
    exact ⟨a, b, (hp.last_iff hj hw).2 c⟩))
  have hwf2 : Hid (∀ i, i < t.word.length → (Lit.int .i64 (t.word.getD i 0)).wf = true) := hid (fun i hi => hwf _ (by rw [PlainTrie.getD_of hi]; exact List.getElem_mem _))
  have hin : Hid (∀ ks f, Places t ks f → ∀ j, j < t.word.length → t.word.getD j 0 ≠ -1 → t.word.getD j 0 ∈ ks) := hid (fun ks f hp j hj hw => (hp.keys _).2 ⟨hw, j, hj, rfl⟩)
  clear hX hE hwf
  obtain ⟨PL, hPL⟩ : ∃ PL, Places t = PL := ⟨_, rfl⟩
  have hPLe := hid hPL
  rw [hPL] at hno hyes hin
  clear hPL
  obtain ⟨PTd, hPT⟩ : ∃ PTd, (fun w => PlacesTold t w) = PTd := ⟨_, rfl⟩
  have hPT2 : Hid (∀ w e w', PTd w e w' → ∃ (g : Nat) (ks : List Int) (f : Int → Int), e = .returned (.map (some g)) ∧ w.heap.size ≤ g ∧ MapN w' g ks f ∧ PL ks f ∧ w.grownBy w' none) := hid (by rw [← hPT, ← hPLe.out]; exact fun w e w' h => h)
  have hP2 : Hid (∀ (w' : World), TreeAt w' U D W B t → Calls Try.prog 38 #[treeV U D W B t cu cd cw cb] w' (PTd w')) := hid (by rw [← hPT]; exact hP.out)
  clear hP hPT hPLe
  have hT0 := hid (fun (w' : World) (h : w.grownBy w' none) => hT.grown h)
  have hW := hid hT.word
  clear hT
  obtain ⟨u, d, o, b⟩ := t
  simp only at hno hyes hwf2 hin hl4 hW
  have hG0 : Hid (w.grownBy (w.alloc (.cells #[.slice U u.length cu, .slice D d.length cd, .slice W o.length cw, .slice B b.length cb] 30)) none) := grown_alloc (grown_refl w none) _
  have K1 : Hid (Holds (w.alloc (.cells #[.slice U u.length cu, .slice D d.length cd, .slice W o.length cw, .slice B b.length cb] 30)) w.heap.size 30 #[.slice U u.length cu, .slice D d.length cd, .slice W o.length cw, .slice B b.length cb]) := Holds.new _ _ _
  go_enter Try.func33, Try.ntmps33
  go_upto_region 1 with fail
  obtain ⟨W0, hW0⟩ : ∃ W0, w.alloc (.cells #[.slice U u.length cu, .slice D d.length cd, .slice W o.length cw, .slice B b.length cb] 30) = W0 := ⟨_, rfl⟩
  rw [hW0] at K1 hG0 ⊢
  clear hW0
  obtain ⟨h, hh⟩ : ∃ h, w.heap.size = h := ⟨_, rfl⟩
  rw [hh] at K1 ⊢
  replace hh := hid hh
  have c0 := (K1.out.cell 0).trans (show _ = some (Value.slice U u.length cu) from rfl)
  have c1 := (K1.out.cell 1).trans (show _ = some (Value.slice D d.length cd) from rfl)
  have c2 := (K1.out.cell 2).trans (show _ = some (Value.slice W o.length cw) from rfl)
  have c3 := (K1.out.cell 3).trans (show _ = some (Value.slice B b.length cb) from rfl)
  have hP3 := hid (hP2.out W0 (hT0.out W0 hG0.out))
  clear hP2 hT0
  have hW0 := hid (hW.out.grown hG0.out)
  clear hW
  go_wp2_with fail
  refine hP3.out.mono ?_
  intro e w1 hpt
  obtain ⟨g, ks, f, rfl, _, hM, hPl, hg⟩ := hPT2.out W0 e w1 hpt
  have hg1 := hid (grown_trans hG0.out hg)
  have L1 := K1.out.kept0 hg
  clear c0 c1 c2 c3
  have c2 := (L1.cell 2).trans (show _ = some (Value.slice W o.length cw) from rfl)
  have hW1 := hid (hW0.out.grown hg)
  have hlen := nlen_is hM
  have hMh := hid hM
  have hPl2 := hid hPl
  clear L1 hpt hPT2 hM hPl hg
  generalize hkl : ks.length = m at hlen
  replace hkl := hid hkl
  go_wp2_with fail
  go_loopw [11] (fun i wr => ∃ k : Nat, k ≤ o.length ∧ i = .int .i64 k ∧ wr = w1 ∧ ∀ q, q < k → o.getD q 0 ≠ -1 → 0 ≤ o.getD q 0 ∧ o.getD q 0 < (m : Int) ∧ f (o.getD q 0) = (q : Int)) (fun i _ => o.length - (intOf i).toNat)
  case atStart => exact ⟨0, Nat.zero_le _, rfl, rfl, fun q hq => by omega⟩
  case round =>
    obtain ⟨k, hk, rfl, rfl, hall⟩ := hrel
    by_cases hlt : k < o.length
    · obtain ⟨b2, o2, hA, l2, k2⟩ := hW1.out.at_ hlt
      subst hA
      have k2j := k2 k hlt
      have hlk := nlook_is hMh.out (o.getD k 0) (hwf2.out k hlt)
      have hnk := hid (fun (h1 : o.getD k 0 ≠ -1) (h2 : o.getD k 0 < 0 ∨ (m : Int) ≤ o.getD k 0 ∨ f (o.getD k 0) ≠ (k : Int)) => hno.out ks f hPl2.out k hlt h1 (by rw [hkl.out]; exact h2))
      have hik := hid (hin.out ks f hPl2.out k hlt)
      have hgo : Hid ((o.getD k 0 ≠ -1 → 0 ≤ o.getD k 0 ∧ o.getD k 0 < (m : Int) ∧ f (o.getD k 0) = (k : Int)) → ∀ q, q < k + 1 → o.getD q 0 ≠ -1 → 0 ≤ o.getD q 0 ∧ o.getD q 0 < (m : Int) ∧ f (o.getD q 0) = (q : Int)) := hid (fun hh q hq hw => by
        by_cases e : q = k
        · subst e; exact hh hw
        · exact hall q (by omega) hw)
      have q0 : (0 : Int) ≤ (k : Int) := by omega
      have q1 : (k : Int) < (o.length : Int) := by omega
      obtain ⟨x, hx⟩ : ∃ x, o.getD k 0 = x := ⟨_, rfl⟩
      rw [hx] at k2j hlk hnk hik hgo
      clear hx k2 c2 hall
      by_cases hx1 : x = -1
      · subst hx1
        have hgo2 := hid (hgo.out (fun e => absurd rfl e))
        clear hlk
        go_wp2_with fail
        go_roundw
        case rel => exact ⟨k + 1, by omega, by go_num, by first | rfl | trivial, hgo2.out⟩
        case measure => simp [intOf]; omega
      · rw [if_pos (hik.out hx1)] at hlk
        have hne : (x != -1) = true := by simp [hx1]
        by_cases h0 : x < 0
        · have hf := hid (hnk.out hx1 (.inl h0))
          replace hx1 := hid hx1
          clear hlk
          go_wp2_with fail
          go_ret
          exact ⟨by rw [hf.out]; rfl, hg1.out⟩
        · by_cases h1 : (m : Int) ≤ x
          · have hf := hid (hnk.out hx1 (.inr (.inl h1)))
            replace hx1 := hid hx1
            clear hlk
            go_wp2_with fail
            go_ret
            exact ⟨by rw [hf.out]; rfl, hg1.out⟩
          · have h1' : x < (m : Int) := by omega
            by_cases h2 : f x = (k : Int)
            · have hgo2 := hid (hgo.out (fun _ => ⟨by omega, h1', h2⟩))
              rw [h2] at hlk
              replace hx1 := hid hx1
              replace h2 := hid h2
              go_wp2_with fail
              go_roundw
              case rel => exact ⟨k + 1, by omega, by go_num, by first | rfl | trivial, hgo2.out⟩
              case measure => simp [intOf]; omega
            · have hf := hid (hnk.out hx1 (.inr (.inr h2)))
              have hne2 : (f x != (k : Int)) = true := by simp [h2]
              replace hx1 := hid hx1
              replace h2 := hid h2
              generalize f x = fx at hlk hne2
              go_wp2_with fail
              go_ret
              exact ⟨by rw [hf.out]; rfl, hg1.out⟩
    · have hV := hid (hyes.out ks f hPl2.out (fun q hq hw => by rw [hkl.out]; exact hall q (by omega) hw))
      have hlt' : ¬ ((k : Int) < (o.length : Int)) := by omega
      clear hall c2
      go_wp2_with fail
      go_ret
      exact ⟨by rw [hV.out]; rfl, hg1.out⟩

theorem sum_bound {t : PlainTrie.Tree} (h : ∀ i, i < t.word.length → 0 ≤ t.depth.getD i 0 ∧ t.depth.getD i 0 ≤ 400) : ∀ k, k ≤ t.word.length → 0 ≤ PlainTrie.sumTo t k ∧ PlainTrie.sumTo t k ≤ 400 * (k : Int)
  | 0, _ => ⟨Int.le_refl _, by simp [PlainTrie.sumTo]⟩
  | k + 1, hk => by
    have h1 := sum_bound h k (by omega)
    have h2 := h k (by omega)
    unfold PlainTrie.sumTo
    split <;> omega
theorem many_bound (t : PlainTrie.Tree) : ∀ k, PlainTrie.manyTo t k ≤ k
  | 0 => Nat.le_refl _
  | k + 1 => by
    have := many_bound t k
    unfold PlainTrie.manyTo
    split <;> omega

set_option maxHeartbeats 4000000 in
theorem bounded_is (U D W B : Option Addr) (cu cd cw cb : Nat) (t : PlainTrie.Tree) (w : World) (X : Bool) (hX : X = true ↔ PlainTrie.Bounded t) (hE : PlainTrie.Even t) (hdb : ∀ i, i < t.word.length → 0 ≤ t.depth.getD i 0 ∧ t.depth.getD i 0 ≤ 400) (hT : TreeAt w U D W B t) :
    Calls Try.prog 34 #[treeV U D W B t cu cd cw cb] w fun e w' => e = .returned (.bool X) ∧ w.grownBy w' none := by
  have hsb := hid (sum_bound hdb)
  have hmb := hid (many_bound t)
  have hX2 : Hid (X = true ↔ PlainTrie.manyTo t t.word.length ≤ 64 ∧ PlainTrie.sumTo t t.word.length ≤ 600 ∧ maxTo t.depth t.depth.length ≤ 32) := hid (by
    rw [hX]
    have h0 : 0 < t.depth.length := by have h1 := hE.1; have h2 := hE.2.2.1; omega
    have := maxTo_le t.depth 32 t.depth.length (Nat.le_refl _) h0
    unfold PlainTrie.Bounded
    rw [this]
    exact ⟨fun ⟨a, b, c⟩ => ⟨a, b, c 0 h0, c⟩, fun ⟨a, b, _, c⟩ => ⟨a, b, c⟩⟩)
  clear hX
  have hmn : Hid (∀ k, PlainTrie.manyTo t (k + 1) = PlainTrie.manyTo t k + if t.word.getD k 0 = -1 then 0 else 1) := hid (fun k => rfl)
  have hsn : Hid (∀ k, PlainTrie.sumTo t (k + 1) = PlainTrie.sumTo t k + if t.word.getD k 0 = -1 then 0 else t.depth.getD k 0) := hid (fun k => rfl)
  have hm0 : Hid (PlainTrie.manyTo t 0 = 0) := hid rfl
  have hs0 : Hid (PlainTrie.sumTo t 0 = 0) := hid rfl
  generalize PlainTrie.manyTo t = MT at hX2 hmb hmn hm0
  generalize PlainTrie.sumTo t = ST at hX2 hsb hsn hs0
  obtain ⟨u, d, o, b⟩ := t
  obtain ⟨e0, e1, e2, e3, e4⟩ := hE
  simp only at e0 e1 e2 e3 e4 hX2 hsb hmb hmn hsn hdb
  have hD := hid hT.depth
  have hW := hid hT.word
  clear hT
  simp only at hD hW
  have hdb2 := hid hdb
  clear hdb
  have hol : o.length ≤ 400 := by omega
  have hdl : d.length ≤ 400 := by omega
  have hd0 : Hid (0 < d.length) := hid (by omega)
  have hdo : Hid (d.length = o.length) := hid (by omega)
  clear e0 e1 e2 e3 e4
  have hG0 : Hid (w.grownBy (w.alloc (.cells #[.slice U u.length cu, .slice D d.length cd, .slice W o.length cw, .slice B b.length cb] 30)) none) := grown_alloc (grown_refl w none) _
  have K1 : Hid (Holds (w.alloc (.cells #[.slice U u.length cu, .slice D d.length cd, .slice W o.length cw, .slice B b.length cb] 30)) w.heap.size 30 #[.slice U u.length cu, .slice D d.length cd, .slice W o.length cw, .slice B b.length cb]) := Holds.new _ _ _
  go_enter Try.func34, Try.ntmps34
  go_upto_region 1 with fail
  obtain ⟨W0, hW0⟩ : ∃ W0, w.alloc (.cells #[.slice U u.length cu, .slice D d.length cd, .slice W o.length cw, .slice B b.length cb] 30) = W0 := ⟨_, rfl⟩
  rw [hW0] at K1 hG0 ⊢
  clear hW0
  obtain ⟨h, hh⟩ : ∃ h, w.heap.size = h := ⟨_, rfl⟩
  rw [hh] at K1 ⊢
  replace hh := hid hh
  have c0 := (K1.out.cell 0).trans (show _ = some (Value.slice U u.length cu) from rfl)
  have c1 := (K1.out.cell 1).trans (show _ = some (Value.slice D d.length cd) from rfl)
  have c2 := (K1.out.cell 2).trans (show _ = some (Value.slice W o.length cw) from rfl)
  have c3 := (K1.out.cell 3).trans (show _ = some (Value.slice B b.length cb) from rfl)
  have hW0 := hid (hW.out.grown hG0.out)
  have hD0 := hid (hD.out.grown hG0.out)
  clear hW hD
  have hMx := hid (tmax_is D cd d W0 (by omega) hd0.out hD0.out)
  go_wp2_with fail
  go_loopw [3, 4, 10] (fun m s i wr => ∃ k : Nat, k ≤ o.length ∧ m = .int .i64 (MT k : Nat) ∧ s = .int .i64 (ST k) ∧ i = .int .i64 k ∧ wr = W0) (fun _ _ i _ => o.length - (intOf i).toNat)
  case atStart => exact ⟨0, Nat.zero_le _, by rw [hm0.out]; rfl, by rw [hs0.out], rfl, rfl⟩
  case round =>
    obtain ⟨k, hk, rfl, rfl, rfl, rfl⟩ := hrel
    by_cases hlt : k < o.length
    · obtain ⟨b2, o2, hA, l2, k2⟩ := hW0.out.at_ hlt
      subst hA
      have k2j := k2 k hlt
      obtain ⟨b1, o1, hA1, l1, k1⟩ := hD0.out.at_ (i := k) (by rw [hdo.out]; exact hlt)
      subst hA1
      have k1j := k1 k (by rw [hdo.out]; exact hlt)
      have q0 : (0 : Int) ≤ (k : Int) := by omega
      have q1 : (k : Int) < (o.length : Int) := by omega
      have q2 : (k : Int) < (d.length : Int) := by have := hdo.out; omega
      obtain ⟨s1, s2⟩ := hsb.out k hk
      have s3 := hmb.out k
      obtain ⟨s4, s5⟩ := hdb2.out k hlt
      have hmk := hid (hmn.out k)
      have hsk := hid (hsn.out k)
      generalize MT k = mk at s3 hmk
      generalize ST k = sk at s1 s2 hsk
      have s6 : sk ≤ 160000 := by omega
      have s7 : mk ≤ 400 := by omega
      clear s2 s3
      generalize o.getD k 0 = x at k2j hmk hsk
      generalize d.getD k 0 = y at k1j hsk s4 s5
      clear k1 k2
      by_cases hx1 : x = -1
      · subst hx1
        have em : Hid (MT (k + 1) = mk) := hid (by have := hmk.out; rw [if_pos rfl] at this; exact this)
        have es : Hid (ST (k + 1) = sk) := hid (by have := hsk.out; rw [if_pos rfl] at this; omega)
        clear c0 c3
        go_wp2_with fail
        go_roundw
        case rel => exact ⟨k + 1, by omega, by rw [em.out], by rw [es.out], by go_num, by first | rfl | trivial⟩
        case measure => simp [intOf]; omega
      · have hne : (x != -1) = true := by simp [hx1]
        have em : Hid (MT (k + 1) = mk + 1) := hid (by have := hmk.out; rw [if_neg hx1] at this; exact this)
        have es : Hid (ST (k + 1) = sk + y) := hid (by have := hsk.out; rw [if_neg hx1] at this; exact this)
        replace hx1 := hid hx1
        clear c0 c3
        go_wp2_with fail
        go_roundw
        case rel => exact ⟨k + 1, by omega, by first | (rw [em.out]; done) | (rw [em.out]; go_num), by first | (rw [es.out]; done) | (rw [es.out]; go_num), by go_num, by first | rfl | trivial⟩
        case measure => simp [intOf]; omega
    · have hke : Hid (k = o.length) := hid (by omega)
      have hX3 := hid hX2.out
      rw [← hke.out] at hX3
      have hlt' : ¬ ((k : Int) < (o.length : Int)) := by omega
      generalize MT k = mk at hX3
      generalize ST k = sk at hX3
      generalize maxTo d d.length = z at hX3 hMx
      by_cases h1 : mk ≤ 64
      · have h1' : (mk : Int) ≤ 64 := by omega
        by_cases h2 : sk ≤ 600
        · by_cases h3 : z ≤ 32
          · have hV := hid (hX3.out.2 ⟨h1, h2, h3⟩)
            go_wp2_with (go_at_call 56; refine hMx.out.mono ?_; rintro e w5 ⟨rfl, rfl⟩)
            go_ret
            exact ⟨by rw [hV.out]; rfl, hG0.out⟩
          · have hV : Hid (X = false) := hid (by cases X with | false => rfl | true => exact absurd (hX3.out.1 rfl).2.2 h3)
            have h3' : decide (z ≤ 32) = false := decide_eq_false h3
            go_wp2_with (go_at_call 56; refine hMx.out.mono ?_; rintro e w5 ⟨rfl, rfl⟩)
            go_ret
            exact ⟨by rw [hV.out]; first | rfl | (simp [h3']; done) | (simp; omega), hG0.out⟩
        · have hV : Hid (X = false) := hid (by cases X with | false => rfl | true => exact absurd (hX3.out.1 rfl).2.1 h2)
          go_wp2_with fail
          go_ret
          exact ⟨by rw [hV.out]; rfl, hG0.out⟩
      · have h1' : ¬ ((mk : Int) ≤ 64) := by omega
        have hV : Hid (X = false) := hid (by cases X with | false => rfl | true => exact absurd (hX3.out.1 rfl).1 h1)
        go_wp2_with fail
        go_ret
        exact ⟨by rw [hV.out]; rfl, hG0.out⟩

end Go.Proofs.Ytojbkhheaondhaa
