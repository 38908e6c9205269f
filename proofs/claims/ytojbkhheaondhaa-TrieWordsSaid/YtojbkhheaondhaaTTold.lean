/- Package trie: a tree's words. -/
import Derived.Test.YtojbkhheaondhaaK29
import Derived.Test.YtojbkhheaondhaaK8
set_option linter.unusedSimpArgs false
set_option linter.unusedVariables false
set_option maxRecDepth 100000
namespace Go.Proofs.Ytojbkhheaondhaa
open Go.RowKit PlainLetter

theorem MapN.wf {w : World} {b : Nat} {ks : List Int} {f : Int → Int} (h : MapN w b ks f) {k : Int} (hk : k ∈ ks) : (Lit.int .i64 k).wf = true := by
  obtain ⟨_, _, _, _, _, _, h1⟩ := h
  exact h1 k hk

set_option maxHeartbeats 4000000 in
theorem tWords_is (U D W B : Option Addr) (cu cd cw cb : Nat) (t : PlainTrie.Tree) (w : World) (hT : TreeOk w U D W B cu cd cw cb t) :
    Calls Try.prog 16 #[treeV U D W B t cu cd cw cb] w (WordsTold (if PlainTrie.right t = true then PlainTrie.words t else []) w) := by
  have hRt := hid (fun (w' : World) (h : w.grownBy w' none) => tRight_is U D W B cu cd cw cb t w' (hT.grown h))
  have hmm := @run_makeMap Try.prog
  cases hr : PlainTrie.right t with
  | false =>
    rw [hr] at hRt
    clear hr hT hmm
    have hfin : Hid (∀ w' : World, w.grownBy w' none → WordsTold (if false = true then PlainTrie.words t else []) w (.returned (.slice none 0 0)) w') := hid (fun w' hg => by simp; exact ⟨none, 0, [], rfl, rfl, OwnRows.nil _ _, hg⟩)
    obtain ⟨R, hR⟩ : ∃ R, WordsTold (if false = true then PlainTrie.words t else []) w = R := ⟨_, rfl⟩
    rw [hR] at hfin ⊢
    clear hR
    obtain ⟨u, d, o, b⟩ := t
    have hG0 : Hid (w.grownBy (w.alloc (.cells #[.slice U u.length cu, .slice D d.length cd, .slice W o.length cw, .slice B b.length cb] 30)) none) := grown_alloc (grown_refl w none) _
    have K1 : Hid (Holds (w.alloc (.cells #[.slice U u.length cu, .slice D d.length cd, .slice W o.length cw, .slice B b.length cb] 30)) w.heap.size 30 #[.slice U u.length cu, .slice D d.length cd, .slice W o.length cw, .slice B b.length cb]) := Holds.new _ _ _
    go_enter Try.func16, Try.ntmps16
    go_upto_region 1 with fail
    obtain ⟨W0, hW0⟩ : ∃ W0, w.alloc (.cells #[.slice U u.length cu, .slice D d.length cd, .slice W o.length cw, .slice B b.length cb] 30) = W0 := ⟨_, rfl⟩
    rw [hW0] at K1 hG0 ⊢
    clear hW0
    obtain ⟨h, hh⟩ : ∃ h, w.heap.size = h := ⟨_, rfl⟩
    rw [hh] at K1 ⊢
    replace hh := hid hh
    have c0 := (K1.out.cell 0).trans (show _ = some (Value.slice U u.length cu) from rfl)
    have c1 := (K1.out.cell 1).trans (show _ = some (Value.slice D d.length cd) from rfl)
    have c2 := (K1.out.cell 2).trans (show _ = some (Value.slice W o.length cw) from rfl)
    have c3 := (K1.out.cell 3).trans (show _ = some (Value.slice B b.length cb) from rfl)
    go_wp2_with fail
    refine (hRt.out W0 hG0.out).mono ?_
    rintro e w1 ⟨rfl, hg⟩
    have g1 := hid (grown_trans hG0.out hg)
    clear hg c0 c1 c2 c3
    go_wp2_with fail
    exact hfin.out _ g1.out
  | true =>
    obtain ⟨i3, hi3, hy0, hy1, hy2⟩ := info_parts Try.rowInfo
    rw [hr] at hRt
    obtain ⟨hL, hd32⟩ := right_tall hr
    have hwl := hL.even.2.2.2.1
    have hw4 := hL.even.2.1
    have hPl := hid (fun (w' : World) (h : w.grownBy w' none) => places_is U D W B cu cd cw cb t w' (by omega) hT.words (hT.at_.grown h))
    have hSp := hid (fun (k : Nat) (hk : k < t.up.length) (w' : World) (h : w.grownBy w' none) => tSpelt_is U D W B cu cd cw cb t k w' hL hd32 hk (hT.at_.grown h))
    have hpl := hid (fun (ks : List Int) (f : Int → Int) (hp : Places t ks f) => words_places hr hp)
    have hll : Hid ((PlainTrie.words t).length ≤ 64) := hid (by
      obtain ⟨ws, hw, rfl, e⟩ := PlainTrie.right_is hr
      rw [e]; exact hw.fine.few)
    simp only [if_true]
    have hfin : Hid (∀ (w' : World) (A : Option Addr) (c n : Nat) (l : List Sl), n = l.length → l.map (·.2.1) = PlainTrie.words t → OwnRows w' w.heap.size (.slice A n c) l → w.grownBy w' none → WordsTold (PlainTrie.words t) w (.returned (.slice A n c)) w') := hid (fun w' A c n l hn h1 h2 h3 => by subst hn; exact ⟨A, c, l, rfl, h1, h2, h3⟩)
    obtain ⟨ws, hws⟩ : ∃ ws, PlainTrie.words t = ws := ⟨_, rfl⟩
    rw [hws] at hfin hll ⊢
    simp only [hws] at hpl
    clear hws
    obtain ⟨R, hR⟩ : ∃ R, WordsTold ws w = R := ⟨_, rfl⟩
    rw [hR] at hfin ⊢
    clear hR hT hL hd32 hr
    generalize PlainTrie.sp t = SP at hSp hpl
    have hPT2 : Hid (∀ w e w', PlacesTold t w e w' → ∃ (g : Nat) (ks : List Int) (f : Int → Int), e = .returned (.map (some g)) ∧ w.heap.size ≤ g ∧ MapN w' g ks f ∧ (ks.length = ws.length ∧ ∀ j, j < ks.length → (j : Int) ∈ ks ∧ ∃ q : Nat, f j = q ∧ q < t.up.length ∧ ws.getD j [] = SP q) ∧ w.grownBy w' none) := hid (fun w e w' ⟨g, ks, f, h1, h2, h3, h4, h5⟩ => ⟨g, ks, f, h1, h2, h3, hpl.out ks f h4, h5⟩)
    clear hpl hwl
    obtain ⟨PT, hPT⟩ : ∃ PT, (fun w => PlacesTold t w) = PT := ⟨_, rfl⟩
    have hPT3 : Hid (∀ w e w', PT w e w' → ∃ (g : Nat) (ks : List Int) (f : Int → Int), e = .returned (.map (some g)) ∧ w.heap.size ≤ g ∧ MapN w' g ks f ∧ (ks.length = ws.length ∧ ∀ j, j < ks.length → (j : Int) ∈ ks ∧ ∃ q : Nat, f j = q ∧ q < t.up.length ∧ ws.getD j [] = SP q) ∧ w.grownBy w' none) := hid (by rw [← hPT]; exact hPT2.out)
    have hPl3 : Hid (∀ w' : World, w.grownBy w' none → Calls Try.prog 38 #[treeV U D W B t cu cd cw cb] w' (PT w')) := hid (by rw [← hPT]; exact hPl.out)
    clear hPT hPT2 hPl
    obtain ⟨u, d, o, b⟩ := t
    simp only at hPT3 hSp hw4
    have hG0 : Hid (w.grownBy (w.alloc (.cells #[.slice U u.length cu, .slice D d.length cd, .slice W o.length cw, .slice B b.length cb] 30)) none) := grown_alloc (grown_refl w none) _
    have K1 : Hid (Holds (w.alloc (.cells #[.slice U u.length cu, .slice D d.length cd, .slice W o.length cw, .slice B b.length cb] 30)) w.heap.size 30 #[.slice U u.length cu, .slice D d.length cd, .slice W o.length cw, .slice B b.length cb]) := Holds.new _ _ _
    go_enter Try.func16, Try.ntmps16
    go_upto_region 1 with fail
    obtain ⟨W0, hW0⟩ : ∃ W0, w.alloc (.cells #[.slice U u.length cu, .slice D d.length cd, .slice W o.length cw, .slice B b.length cb] 30) = W0 := ⟨_, rfl⟩
    rw [hW0] at K1 hG0 ⊢
    clear hW0
    obtain ⟨h, hh⟩ : ∃ h, w.heap.size = h := ⟨_, rfl⟩
    rw [hh] at K1 ⊢
    rw [hh] at hfin
    have hle : Hid (h ≤ W0.heap.size) := hid (by rw [← hh]; exact hG0.out.size)
    replace hh := hid hh
    have c0 := (K1.out.cell 0).trans (show _ = some (Value.slice U u.length cu) from rfl)
    have c1 := (K1.out.cell 1).trans (show _ = some (Value.slice D d.length cd) from rfl)
    have c2 := (K1.out.cell 2).trans (show _ = some (Value.slice W o.length cw) from rfl)
    have c3 := (K1.out.cell 3).trans (show _ = some (Value.slice B b.length cb) from rfl)
    clear hmm
    go_wp2_with fail
    refine (hRt.out W0 hG0.out).mono ?_
    rintro e w1 ⟨rfl, hg⟩
    have g1 := hid (grown_trans hG0.out hg)
    have L1 := hid (K1.out.kept0 hg)
    clear hg c0 c1 c2 c3
    have c0 := (L1.out.cell 0).trans (show _ = some (Value.slice U u.length cu) from rfl)
    have c1 := (L1.out.cell 1).trans (show _ = some (Value.slice D d.length cd) from rfl)
    have c2 := (L1.out.cell 2).trans (show _ = some (Value.slice W o.length cw) from rfl)
    have c3 := (L1.out.cell 3).trans (show _ = some (Value.slice B b.length cb) from rfl)
    go_wp2_with fail
    refine (hPl3.out w1 g1.out).mono ?_
    intro e w2 hpt
    obtain ⟨g, ks, f, rfl, _, hM, ⟨hkl, hks⟩, hg⟩ := hPT3.out w1 e w2 hpt
    have g2 := hid (grown_trans g1.out hg)
    have L2 := hid (L1.out.kept0 hg)
    clear hg c0 c1 c2 c3 hpt hPT3
    have hlen := nlen_is hM
    have hb2 : h ≤ w2.heap.size := by have h1 := g2.out.size; have h2 := hh.out; omega
    obtain ⟨w3, hrun3, r1, r2⟩ := run_make_own (P := Try.prog) (w := w2) w2.heap.size 22 28 i3 (.slice none 0 0) 1 Try.underlying22 hi3 hy0 hy1 .i64 .i64 ks.length (by rw [hy2]; have := hll.out; omega) (by unfold maxLen; have := hll.out; omega) (Nat.le_refl _)
    have hM2 := hid hM
    have hr2 := hid r2
    have hM3 := hid (hM.kept r2 (by simp))
    have hO3 : Hid (OwnRows w3 w2.heap.size (.slice (some ⟨w2.heap.size, 0, none⟩) 0 ks.length) []) := hid ⟨r1, fun x hx => by cases hx⟩
    have hlen3 := nlen_is hM3.out
    have hksh := hid hks
    have hklh := hid hkl
    clear r1 r2 hM hks hkl
    generalize hkm : ks.length = m at hrun3 hlen hO3 hlen3 hksh hklh
    replace hkm := hid hkm
    have hm64 : m ≤ 64 := by have h1 := hklh.out; have h2 := hll.out; omega
    replace hb2 := hid hb2
    obtain ⟨h2, hh2⟩ : ∃ h2, w2.heap.size = h2 := ⟨_, rfl⟩
    rw [hh2] at hrun3 hO3 hb2
    replace hh2 := hid hh2
    go_wp2_with fail
    clear hlen hrun3
    go_loopw [4, 16] (fun v i wr => ∃ (k : Nat) (A : Option Addr) (c : Nat) (l : List Sl), k ≤ m ∧ i = .int .i64 k ∧ v = .slice A l.length c ∧ l.length = k ∧ l.map (·.2.1) = ws.take k ∧ OwnRows wr h2 (.slice A l.length c) l ∧ w2.grownBy wr none) (fun _ i _ => m - (intOf i).toNat)
    case atStart => exact ⟨0, _, _, [], Nat.zero_le _, rfl, rfl, rfl, rfl, hO3.out, hr2.out⟩
    case round =>
      obtain ⟨k, A, c, l, hk, rfl, rfl, hlk, hRl, hown, hG⟩ := hrel
      clear hlen3
      replace hlk := hid hlk
      replace hRl := hid hRl
      obtain ⟨n, hn⟩ : ∃ n, l.length = n := ⟨_, rfl⟩
      rw [hn] at hown ⊢
      replace hn := hid hn
      replace hown := hid hown
      by_cases hlt : k < m
      · obtain ⟨hin, q, hfq, hq, hwq⟩ := hksh.out k (by have := hkm.out; omega)
        have hlk2 := nlook_is (hM2.out.kept hG (by simp)) (k : Int) (hM2.out.wf hin)
        rw [if_pos hin, hfq] at hlk2
        have gg := hid (grown_trans g2.out hG)
        have hS := hid (hSp.out q hq wr gg.out)
        have M := L2.out.kept0 hG
        have hwk : Hid (ws.take (k + 1) = ws.take k ++ [SP q]) := hid (by rw [take_getD ws k [] (by have := hklh.out; omega), hwq])
        generalize SP q = zs at hS hwk
        have q0 : (k : Int) < (m : Int) := by omega
        replace hG := hid hG
        have c0 := (M.cell 0).trans (show _ = some (Value.slice U u.length cu) from rfl)
        have c1 := (M.cell 1).trans (show _ = some (Value.slice D d.length cd) from rfl)
        have c2 := (M.cell 2).trans (show _ = some (Value.slice W o.length cw) from rfl)
        have c3 := (M.cell 3).trans (show _ = some (Value.slice B b.length cb) from rfl)
        clear M hin hfq hwq
        go_wp2_with fail
        refine hS.out.mono ?_
        rintro e w5 ⟨v5, rfl, ho5, hg5⟩
        obtain ⟨A5, c5, rfl, f1, f2⟩ := own_form ho5
        have s5 := hid (grown_trans hG.out hg5)
        have y5 : Hid (OwnBytes w5 h2 (A5, zs, c5)) := hid (own_mono ho5 (by have h1 := hG.out.size; have h3 := hh2.out; omega))
        have r5 := hid (hown.out.grown hg5)
        have sz5 := hid (show h2 ≤ w5.heap.size by have h1 := hG.out.size; have h4 := hg5.size; have h3 := hh2.out; omega)
        clear ho5 hg5 hlk2 c0 c1 c2 c3
        replace f1 := hid f1
        replace f2 := hid f2
        go_wp2_with (at_builtin; refine wpList_push_row_h rfl _ _ 22 rfl h2 i3 Try.underlying22 hi3 hy0 hy1 hy2 _ l (A5, zs, c5) w5 r5.out y5.out rfl rfl (by have := hlk.out; omega) sz5.out ?_; intro v6 w6 r6 _ _ hB6; have s6 := hid (below_grown ((grown_below s5.out).trans (by rw [hh2.out]; exact hB6))); obtain ⟨A6, c6, rfl, f3, f4⟩ := own_form r6.1; replace r6 := hid r6; clear hB6)
        go_roundw
        case rel => exact ⟨k + 1, A6, c6, l ++ [(A5, zs, c5)], by omega, by go_num, by rw [List.length_append]; rfl, by rw [List.length_append, hlk.out]; rfl, by rw [List.map_append, hRl.out, hwk.out]; rfl, r6.out, s6.out⟩
        case measure => simp [intOf]; omega
      · have hf := hid (hfin.out wr A c n l hn.out.symm (by rw [hRl.out, show k = ws.length by have := hklh.out; omega, List.take_length]) ⟨own_mono hown.out.1 hb2.out, fun z hz => (hown.out.2 z hz).mono hb2.out⟩ (grown_trans g2.out hG))
        have hlt' : ¬ ((k : Int) < (m : Int)) := by omega
        replace hG := hid hG
        go_wp2_with fail
        exact hf.out

end Go.Proofs.Ytojbkhheaondhaa
