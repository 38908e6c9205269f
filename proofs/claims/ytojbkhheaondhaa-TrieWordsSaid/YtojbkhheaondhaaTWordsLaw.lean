/- The law TrieWords: a set's trie may be, tells its words, each by the node at which it is found, and has as many nodes as the words have beginnings. -/
import Derived.Test.YtojbkhheaondhaaK34
import Derived.Test.YtojbkhheaondhaaTWakes
import Derived.Test.YtojbkhheaondhaaK14
import Derived.Test.YtojbkhheaondhaaK15
set_option linter.unusedVariables false
set_option linter.unusedSimpArgs false
set_option maxRecDepth 100000
namespace Go.Proofs.Ytojbkhheaondhaa
open Go.RowKit PlainLetter PlainPatset

theorem set_nodes {f : Bool} {xss : List (List Int)} (h : right f xss = true) : PlainPatset.nodes f xss = (PlainTrie.make xss).up.length := by
  have s := PlainPatset.setOf_make f xss
  rw [(decide_eq_true_iff.1 h).2] at s
  unfold PlainPatset.nodes
  rw [s.folds.map, ← PlainTrie.nodes_length, (PlainTrie.make_length xss).1]
/-- A word's node. -/
theorem set_word {ws : List (List Int)} (h : PlainTrie.Words ws) (k : Nat) (hk : k < ws.length) : ∃ q : Nat, foundAt (PlainTrie.make ws) (ws.getD k []) = ((q : Int), true) ∧ 1 ≤ q ∧ q < (PlainTrie.make ws).word.length ∧ (PlainTrie.make ws).word.getD q 0 = k := by
  have e : ws.getD k [] = ws[k] := by simp [List.getD, hk]
  have hm : ws[k] ∈ PlainTrie.nodes ws := PlainTrie.word_node (List.getElem_mem hk)
  have hi := List.idxOf_lt_length_iff.2 hm
  rw [e]
  refine ⟨(PlainTrie.nodes ws).idxOf ws[k], found_yes h hm, ?_, by rw [(PlainTrie.make_length ws).2.2.1]; exact hi, ?_⟩
  · obtain ⟨l, hl⟩ := PlainTrie.nodes_first ws
    rw [hl]
    have hne := h.fine.full ws[k] (List.getElem_mem hk)
    rw [List.idxOf_cons, show (([] : List Int) == ws[k]) = false from beq_eq_false_iff_ne.2 (fun e => hne e.symm)]
    simp
  · rw [PlainTrie.word_make ws _ hi, List.getElem_idxOf hi]
    exact PlainTrie.place_at h.fine.once k hk

def isArrs (xss : List (List Int)) : Fact := fun v w => ∃ A c, v = .slice A xss.length c ∧ Arrs w A xss
def isSetOf (f : Bool) (xss : List (List Int)) : Fact := fun v w => ∃ A c, v = .agg #[.bool f, .slice A xss.length c] ∧ Arrs w A xss
theorem stable_isArrs (xss : List (List Int)) : Stable (isArrs xss) := fun _ _ _ ⟨A, c, h1, h2⟩ hg => ⟨A, c, h1, h2.grown hg⟩
theorem stable_isSetOf (f : Bool) (xss : List (List Int)) : Stable (isSetOf f xss) := fun _ _ _ ⟨A, c, h1, h2⟩ hg => ⟨A, c, h1, h2.grown hg⟩

set_option maxHeartbeats 8000000 in
theorem twords_walk (f : Bool) (P : Option Addr) (c : Nat) (xss : List (List Int)) (w : World) (hB : ∀ i, Bytes (xss.getD i [])) (hP : ArrsR w P xss) (hl : xss.length ≤ 9223372036854775807) :
    Calls Try.prog 3 #[.agg #[.bool f, .slice P xss.length c]] w fun e w' => e = .returned (.bool true) ∧ w.grownBy w' none := by
  replace hB := hid hB
  replace hP := hid hP
  have H1 : Holds (w.alloc (.cells #[.bool f, .slice P xss.length c] 24)) w.heap.size 24 #[.bool f, .slice P xss.length c] := Holds.new _ _ _
  have hG : Hid (w.grownBy (w.alloc (.cells #[.bool f, .slice P xss.length c] 24)) none) := grown_alloc (grown_refl w none) _
  go_enter Try.func3, Try.ntmps3
  go_upto_region 1 with fail
  obtain ⟨W0, hW0⟩ : ∃ W0, w.alloc (.cells #[.bool f, .slice P xss.length c] 24) = W0 := ⟨_, rfl⟩
  rw [hW0] at H1 hG ⊢
  clear hW0
  obtain ⟨h, hh⟩ : ∃ h, w.heap.size = h := ⟨_, rfl⟩
  rw [hh] at H1 ⊢
  clear hh
  replace H1 := hid H1
  have hW : Hid (W0.grownBy W0 none) := grown_refl _ _
  have e0 := ((H1.out.kept0 hW.out).cell 0).trans (show _ = some (Value.bool f) from rfl)
  have e1 := ((H1.out.kept0 hW.out).cell 1).trans (show _ = some (Value.slice P xss.length c) from rfl)
  go_wp2_with fail
  refine (refSetGreat_is f P c xss _ (hP.out.arrs.grown hG.out) hl).mono ?_
  rintro e w1 ⟨rfl | ⟨rfl, h80, h3000⟩, hg⟩
  · replace hG := hid (grown_trans hG.out hg)
    clear hg
    go_wp2_with fail
    refine (twakes_true _).mono ?_
    rintro e w9 ⟨rfl, hg⟩
    have hGf := hid (grown_trans hG.out hg)
    clear hg
    go_wp2_with fail
    go_ret
    exact ⟨rfl, hGf.out⟩
  replace hG := hid (grown_trans hG.out hg)
  replace hW := hid (grown_trans hW.out hg)
  clear hg e0 e1
  have e0 := ((H1.out.kept0 hW.out).cell 0).trans (show _ = some (Value.bool f) from rfl)
  have e1 := ((H1.out.kept0 hW.out).cell 1).trans (show _ = some (Value.slice P xss.length c) from rfl)
  go_wp2_with fail
  refine (refRight_is f P c xss _ (by omega) (by omega) hB.out (hP.out.arrs.grown hG.out)).mono ?_
  rintro e w2 ⟨rfl, hg⟩
  replace hG := hid (grown_trans hG.out hg)
  replace hW := hid (grown_trans hW.out hg)
  clear hg e0 e1
  have e0 := ((H1.out.kept0 hW.out).cell 0).trans (show _ = some (Value.bool f) from rfl)
  have e1 := ((H1.out.kept0 hW.out).cell 1).trans (show _ = some (Value.slice P xss.length c) from rfl)
  cases hR : right f xss with
  | false =>
    go_wp2_with fail
    refine (twakes_true _).mono ?_
    rintro e w9 ⟨rfl, hg⟩
    have hGf := hid (grown_trans hG.out hg)
    clear hg
    go_wp2_with fail
    go_ret
    exact ⟨rfl, hGf.out⟩
  | true =>
  have hWs := hid (set_words hR)
  replace hR := hid hR
  go_wp2_with fail
  refine (tMake_is f P c xss _ (by omega) (by omega) hB.out (hP.out.arrs.grown hG.out)).mono ?_
  rintro e w3 ⟨U, D, O, B, cu, cd, cw, cb, s, rfl, hs, -, hT, ⟨hru, hrd, hro, hrb⟩, ⟨hmu, hmd, hmo, hmb⟩, hg⟩
  obtain rfl : s = PlainTrie.make xss := hs hR.out
  rw [hR.out, if_pos rfl]
  clear hs
  replace hT := hid (show TreeOk w3 U D O B cu cd cw cb (PlainTrie.make xss) from ⟨hT, made_byte hB.out, made_wf hWs.out, hru⟩)
  replace hG := hid (grown_trans hG.out hg)
  replace hW := hid (grown_trans hW.out hg)
  clear hg e0 e1
  have e0 := ((H1.out.kept0 hW.out).cell 0).trans (show _ = some (Value.bool f) from rfl)
  have e1 := ((H1.out.kept0 hW.out).cell 1).trans (show _ = some (Value.slice P xss.length c) from rfl)
  have hRt := hid (PlainTrie.right_make hWs.out)
  have hNo := hid (show ((PlainPatset.nodes f xss : Nat) : Int) = ((PlainTrie.make xss).up.length : Int) from by rw [set_nodes hR.out])
  have hwd := hid (PlainTrie.words_make hWs.out.fine)
  have hword := hid (set_word hWs.out)
  have hone : Hid ((PlainTrie.make xss).word ≠ []) := hid (fun e => by
    obtain ⟨hr0, _⟩ := PlainTrie.root_at xss
    have := (PlainTrie.make_length xss).2.2.1
    rw [e] at this
    simp at this
    omega)
  clear hWs
  generalize PlainTrie.make xss = t at hT hRt hNo hwd hword hone hru hrd hro hrb ⊢
  obtain ⟨bo, oo, rfl, hbo, hco⟩ := hT.out.at_.word hone.out
  go_upto_region 4 with fail
  have H2 := hid (Holds.new w3 30 #[.slice U t.up.length cu, .slice D t.depth.length cd, .slice (some ⟨bo, oo, none⟩) t.word.length cw, .slice B t.byte.length cb])
  have hg := grown_alloc (grown_refl w3 none) (.cells #[.slice U t.up.length cu, .slice D t.depth.length cd, .slice (some ⟨bo, oo, none⟩) t.word.length cw, .slice B t.byte.length cb] 30)
  obtain ⟨w4, hW4⟩ : ∃ W, w3.alloc (.cells #[.slice U t.up.length cu, .slice D t.depth.length cd, .slice (some ⟨bo, oo, none⟩) t.word.length cw, .slice B t.byte.length cb] 30) = W := ⟨_, rfl⟩
  rw [hW4] at H2 hg ⊢
  clear hW4
  obtain ⟨bt, hbt⟩ : ∃ x, w3.heap.size = x := ⟨_, rfl⟩
  rw [hbt] at H2 ⊢
  clear hbt
  replace hT := hid (hT.out.grown hg)
  replace hco := hid (fun (i : Nat) (hi : i < t.word.length) => ((gcell hg).1 bo (oo + i) hbo).trans (hco i hi))
  replace hbo := hid (Nat.lt_of_lt_of_le hbo hg.size)
  replace hG := hid (grown_trans hG.out hg)
  replace hW := hid (grown_trans hW.out hg)
  clear hg e0 e1
  have e0 := ((H1.out.kept0 hW.out).cell 0).trans (show _ = some (Value.bool f) from rfl)
  have e1 := ((H1.out.kept0 hW.out).cell 1).trans (show _ = some (Value.slice P xss.length c) from rfl)
  clear e0 e1
  have hGr := hG
  have hWr := hW
  have hT4 : Hid (w4.grownBy w4 none) := hid (grown_refl _ _)
  have hTr := hT4
  apply wp_region_each [isv _, isv (.bool false), isv (.bool false), isv (.agg #[.slice U t.up.length cu, .slice D t.depth.length cd, .slice (some ⟨bo, oo, none⟩) t.word.length cw, .slice B t.byte.length cb]), isv (.bool true), isv (.bool false), isv (.bool false), isv (.bool false), isv (.agg #[.slice U t.up.length cu, .slice D t.depth.length cd, .slice (some ⟨bo, oo, none⟩) t.word.length cw, .slice B t.byte.length cb]), isv (.int .i64 (t.up.length : Int)), isv _, isv (.bool f), isv _, isv (.slice P xss.length c), isv (.int .i64 (t.up.length : Int)), isv (.bool false), isv (.bool false)]
    87 [some 21, some 22, some 23, some 24, some 25, some 26, some 27, some 28, some 29, some 30, some 31, some 32, some 33, some 34, some 35, some 36, some 37]
    [some 21, some 22, some 23, some 24, some 25, some 26, some 27, some 28, some 29, some 30, some 31, some 32, some 33, some 34, some 35, some 36, some 37]
    [[], [0], [1], [2], [3, 2], [4, 2], [2, 5], [6], [7], [8, 7], [7], [10, 7], [7], [12, 7], [11, 13, 7], [9, 14, 7], [7, 15]]
    [(1, .pointer (some ⟨h, 0, none⟩)), (3, .pointer (some ⟨bt, 0, none⟩)), (4, .int .i64 0)] (by kernel_rfl) rfl (by kernel_rfl) rfl rfl (by kernel_rfl) (OutsOk.cons rfl rfl (OutsOk.cons rfl rfl (OutsOk.cons rfl rfl OutsOk.nil))) ?st ?ob ?fin
  case ob =>
    refine Obs.consv rfl ?o0 (Obs.consv rfl ?o1 (Obs.consv rfl ?o2 (Obs.consv rfl ?o3 (Obs.consv rfl ?o4 (Obs.consv rfl ?o5 (Obs.consv rfl ?o6 (Obs.consv rfl ?o7 (Obs.consv rfl ?o8 (Obs.consv rfl ?o9 (Obs.consv rfl ?o10 (Obs.consv rfl ?o11 (Obs.consv rfl ?o12 (Obs.consv rfl ?o13 (Obs.consv rfl ?o14 (Obs.consv rfl ?o15 (Obs.consv rfl ?o16 Obs.nil))))))))))))))))
    case o0 =>
      go_light
      intro ac w' hgw
      have g2 := grown_trans (grown_drew (grown_refl w4 none)) hgw
      have kz := H1.out.kept0 (grown_trans hWr.out g2)
      have e0 := (kz.cell 0).trans (show _ = some (Value.bool f) from rfl)
      have e1 := (kz.cell 1).trans (show _ = some (Value.slice P xss.length c) from rfl)
      have ky := H2.out.kept0 (grown_trans hTr.out g2)
      have c0 := (ky.cell 0).trans (show _ = some (Value.slice U t.up.length cu) from rfl)
      have c1 := (ky.cell 1).trans (show _ = some (Value.slice D t.depth.length cd) from rfl)
      have c2 := (ky.cell 2).trans (show _ = some (Value.slice (some ⟨bo, oo, none⟩) t.word.length cw) from rfl)
      have c3 := (ky.cell 3).trans (show _ = some (Value.slice B t.byte.length cb) from rfl)
      have hPw := hid (hP.out.arrs.grown (grown_trans hGr.out g2))
      have hTw := hid (hT.out.grown (grown_trans hTr.out g2))
      clear kz ky g2
      replace hgw := hid hgw
      simp only [outThen, preThen, slotIs, factAt, isv, List.getElem?_cons_zero, List.getElem?_cons_succ, Option.getD_some, forall_eq]
      intros
      rename_i hK
      replace hK := hid hK
      simp only [wantedAt]
      go_simp
      exact hK.out _ _ rfl (grown_refl _ _)
    case o1 =>
      go_light
      intro ac w' hgw
      have g2 := grown_trans (grown_drew (grown_refl w4 none)) hgw
      have kz := H1.out.kept0 (grown_trans hWr.out g2)
      have e0 := (kz.cell 0).trans (show _ = some (Value.bool f) from rfl)
      have e1 := (kz.cell 1).trans (show _ = some (Value.slice P xss.length c) from rfl)
      have ky := H2.out.kept0 (grown_trans hTr.out g2)
      have c0 := (ky.cell 0).trans (show _ = some (Value.slice U t.up.length cu) from rfl)
      have c1 := (ky.cell 1).trans (show _ = some (Value.slice D t.depth.length cd) from rfl)
      have c2 := (ky.cell 2).trans (show _ = some (Value.slice (some ⟨bo, oo, none⟩) t.word.length cw) from rfl)
      have c3 := (ky.cell 3).trans (show _ = some (Value.slice B t.byte.length cb) from rfl)
      have hPw := hid (hP.out.arrs.grown (grown_trans hGr.out g2))
      have hTw := hid (hT.out.grown (grown_trans hTr.out g2))
      clear kz ky g2
      replace hgw := hid hgw
      simp only [outThen, preThen, slotIs, factAt, isv, List.getElem?_cons_zero, List.getElem?_cons_succ, Option.getD_some, forall_eq]
      intros
      rename_i hK
      replace hK := hid hK
      simp only [wantedAt]
      go_simp
      exact hK.out _ _ rfl (grown_refl _ _)
    case o2 =>
      go_light
      intro ac w' hgw
      have g2 := grown_trans (grown_drew (grown_refl w4 none)) hgw
      have kz := H1.out.kept0 (grown_trans hWr.out g2)
      have e0 := (kz.cell 0).trans (show _ = some (Value.bool f) from rfl)
      have e1 := (kz.cell 1).trans (show _ = some (Value.slice P xss.length c) from rfl)
      have ky := H2.out.kept0 (grown_trans hTr.out g2)
      have c0 := (ky.cell 0).trans (show _ = some (Value.slice U t.up.length cu) from rfl)
      have c1 := (ky.cell 1).trans (show _ = some (Value.slice D t.depth.length cd) from rfl)
      have c2 := (ky.cell 2).trans (show _ = some (Value.slice (some ⟨bo, oo, none⟩) t.word.length cw) from rfl)
      have c3 := (ky.cell 3).trans (show _ = some (Value.slice B t.byte.length cb) from rfl)
      have hPw := hid (hP.out.arrs.grown (grown_trans hGr.out g2))
      have hTw := hid (hT.out.grown (grown_trans hTr.out g2))
      clear kz ky g2
      replace hgw := hid hgw
      simp only [outThen, preThen, slotIs, factAt, isv, List.getElem?_cons_zero, List.getElem?_cons_succ, Option.getD_some, forall_eq]
      intros
      rename_i hK
      replace hK := hid hK
      simp only [wantedAt]
      go_simp
      exact hK.out _ _ rfl (grown_refl _ _)
    case o3 =>
      go_light
      intro ac w' hgw
      have g2 := grown_trans (grown_drew (grown_refl w4 none)) hgw
      have kz := H1.out.kept0 (grown_trans hWr.out g2)
      have e0 := (kz.cell 0).trans (show _ = some (Value.bool f) from rfl)
      have e1 := (kz.cell 1).trans (show _ = some (Value.slice P xss.length c) from rfl)
      have ky := H2.out.kept0 (grown_trans hTr.out g2)
      have c0 := (ky.cell 0).trans (show _ = some (Value.slice U t.up.length cu) from rfl)
      have c1 := (ky.cell 1).trans (show _ = some (Value.slice D t.depth.length cd) from rfl)
      have c2 := (ky.cell 2).trans (show _ = some (Value.slice (some ⟨bo, oo, none⟩) t.word.length cw) from rfl)
      have c3 := (ky.cell 3).trans (show _ = some (Value.slice B t.byte.length cb) from rfl)
      have hPw := hid (hP.out.arrs.grown (grown_trans hGr.out g2))
      have hTw := hid (hT.out.grown (grown_trans hTr.out g2))
      clear kz ky g2
      replace hgw := hid hgw
      simp only [outThen, preThen, slotIs, factAt, isv, List.getElem?_cons_zero, List.getElem?_cons_succ, Option.getD_some, forall_eq]
      intros
      rename_i hK
      replace hK := hid hK
      simp only [wantedAt]
      go_simp
      exact hK.out _ _ rfl (grown_refl _ _)
    case o4 =>
      go_light
      intro ac w' hgw
      have g2 := grown_trans (grown_drew (grown_refl w4 none)) hgw
      have kz := H1.out.kept0 (grown_trans hWr.out g2)
      have e0 := (kz.cell 0).trans (show _ = some (Value.bool f) from rfl)
      have e1 := (kz.cell 1).trans (show _ = some (Value.slice P xss.length c) from rfl)
      have ky := H2.out.kept0 (grown_trans hTr.out g2)
      have c0 := (ky.cell 0).trans (show _ = some (Value.slice U t.up.length cu) from rfl)
      have c1 := (ky.cell 1).trans (show _ = some (Value.slice D t.depth.length cd) from rfl)
      have c2 := (ky.cell 2).trans (show _ = some (Value.slice (some ⟨bo, oo, none⟩) t.word.length cw) from rfl)
      have c3 := (ky.cell 3).trans (show _ = some (Value.slice B t.byte.length cb) from rfl)
      have hPw := hid (hP.out.arrs.grown (grown_trans hGr.out g2))
      have hTw := hid (hT.out.grown (grown_trans hTr.out g2))
      clear kz ky g2
      replace hgw := hid hgw
      simp only [outThen, preThen, slotIs, factAt, isv, List.getElem?_cons_zero, List.getElem?_cons_succ, Option.getD_some, forall_eq]
      intros
      rename_i hK9
      replace hK9 := hid hK9
      simp only [wantedAt]
      go_simp
      refine (tRight_is U D (some ⟨bo, oo, none⟩) B cu cd cw cb t _ hTw.out).mono ?_
      rintro e w9 ⟨rfl, hg⟩
      rw [hRt.out]
      exact hK9.out _ _ rfl hg
    case o5 =>
      go_light
      intro ac w' hgw
      have g2 := grown_trans (grown_drew (grown_refl w4 none)) hgw
      have kz := H1.out.kept0 (grown_trans hWr.out g2)
      have e0 := (kz.cell 0).trans (show _ = some (Value.bool f) from rfl)
      have e1 := (kz.cell 1).trans (show _ = some (Value.slice P xss.length c) from rfl)
      have ky := H2.out.kept0 (grown_trans hTr.out g2)
      have c0 := (ky.cell 0).trans (show _ = some (Value.slice U t.up.length cu) from rfl)
      have c1 := (ky.cell 1).trans (show _ = some (Value.slice D t.depth.length cd) from rfl)
      have c2 := (ky.cell 2).trans (show _ = some (Value.slice (some ⟨bo, oo, none⟩) t.word.length cw) from rfl)
      have c3 := (ky.cell 3).trans (show _ = some (Value.slice B t.byte.length cb) from rfl)
      have hPw := hid (hP.out.arrs.grown (grown_trans hGr.out g2))
      have hTw := hid (hT.out.grown (grown_trans hTr.out g2))
      clear kz ky g2
      replace hgw := hid hgw
      simp only [outThen, preThen, slotIs, factAt, isv, List.getElem?_cons_zero, List.getElem?_cons_succ, Option.getD_some, forall_eq]
      intros
      rename_i hK
      replace hK := hid hK
      simp only [wantedAt]
      go_simp
      exact hK.out _ _ rfl (grown_refl _ _)
    case o6 =>
      go_light
      intro ac w' hgw
      have g2 := grown_trans (grown_drew (grown_refl w4 none)) hgw
      have kz := H1.out.kept0 (grown_trans hWr.out g2)
      have e0 := (kz.cell 0).trans (show _ = some (Value.bool f) from rfl)
      have e1 := (kz.cell 1).trans (show _ = some (Value.slice P xss.length c) from rfl)
      have ky := H2.out.kept0 (grown_trans hTr.out g2)
      have c0 := (ky.cell 0).trans (show _ = some (Value.slice U t.up.length cu) from rfl)
      have c1 := (ky.cell 1).trans (show _ = some (Value.slice D t.depth.length cd) from rfl)
      have c2 := (ky.cell 2).trans (show _ = some (Value.slice (some ⟨bo, oo, none⟩) t.word.length cw) from rfl)
      have c3 := (ky.cell 3).trans (show _ = some (Value.slice B t.byte.length cb) from rfl)
      have hPw := hid (hP.out.arrs.grown (grown_trans hGr.out g2))
      have hTw := hid (hT.out.grown (grown_trans hTr.out g2))
      clear kz ky g2
      replace hgw := hid hgw
      simp only [outThen, preThen, slotIs, factAt, isv, List.getElem?_cons_zero, List.getElem?_cons_succ, Option.getD_some, forall_eq]
      intros
      rename_i hK
      replace hK := hid hK
      simp only [wantedAt]
      go_simp
      exact hK.out _ _ rfl (grown_refl _ _)
    case o7 =>
      go_light
      intro ac w' hgw
      have g2 := grown_trans (grown_drew (grown_refl w4 none)) hgw
      have kz := H1.out.kept0 (grown_trans hWr.out g2)
      have e0 := (kz.cell 0).trans (show _ = some (Value.bool f) from rfl)
      have e1 := (kz.cell 1).trans (show _ = some (Value.slice P xss.length c) from rfl)
      have ky := H2.out.kept0 (grown_trans hTr.out g2)
      have c0 := (ky.cell 0).trans (show _ = some (Value.slice U t.up.length cu) from rfl)
      have c1 := (ky.cell 1).trans (show _ = some (Value.slice D t.depth.length cd) from rfl)
      have c2 := (ky.cell 2).trans (show _ = some (Value.slice (some ⟨bo, oo, none⟩) t.word.length cw) from rfl)
      have c3 := (ky.cell 3).trans (show _ = some (Value.slice B t.byte.length cb) from rfl)
      have hPw := hid (hP.out.arrs.grown (grown_trans hGr.out g2))
      have hTw := hid (hT.out.grown (grown_trans hTr.out g2))
      clear kz ky g2
      replace hgw := hid hgw
      simp only [outThen, preThen, slotIs, factAt, isv, List.getElem?_cons_zero, List.getElem?_cons_succ, Option.getD_some, forall_eq]
      intros
      rename_i hK
      replace hK := hid hK
      simp only [wantedAt]
      go_simp
      exact hK.out _ _ rfl (grown_refl _ _)
    case o8 =>
      go_light
      intro ac w' hgw
      have g2 := grown_trans (grown_drew (grown_refl w4 none)) hgw
      have kz := H1.out.kept0 (grown_trans hWr.out g2)
      have e0 := (kz.cell 0).trans (show _ = some (Value.bool f) from rfl)
      have e1 := (kz.cell 1).trans (show _ = some (Value.slice P xss.length c) from rfl)
      have ky := H2.out.kept0 (grown_trans hTr.out g2)
      have c0 := (ky.cell 0).trans (show _ = some (Value.slice U t.up.length cu) from rfl)
      have c1 := (ky.cell 1).trans (show _ = some (Value.slice D t.depth.length cd) from rfl)
      have c2 := (ky.cell 2).trans (show _ = some (Value.slice (some ⟨bo, oo, none⟩) t.word.length cw) from rfl)
      have c3 := (ky.cell 3).trans (show _ = some (Value.slice B t.byte.length cb) from rfl)
      have hPw := hid (hP.out.arrs.grown (grown_trans hGr.out g2))
      have hTw := hid (hT.out.grown (grown_trans hTr.out g2))
      clear kz ky g2
      replace hgw := hid hgw
      simp only [outThen, preThen, slotIs, factAt, isv, List.getElem?_cons_zero, List.getElem?_cons_succ, Option.getD_some, forall_eq]
      intros
      rename_i hK
      replace hK := hid hK
      simp only [wantedAt]
      go_simp
      exact hK.out _ _ rfl (grown_refl _ _)
    case o9 =>
      go_light
      intro ac w' hgw
      have g2 := grown_trans (grown_drew (grown_refl w4 none)) hgw
      have kz := H1.out.kept0 (grown_trans hWr.out g2)
      have e0 := (kz.cell 0).trans (show _ = some (Value.bool f) from rfl)
      have e1 := (kz.cell 1).trans (show _ = some (Value.slice P xss.length c) from rfl)
      have ky := H2.out.kept0 (grown_trans hTr.out g2)
      have c0 := (ky.cell 0).trans (show _ = some (Value.slice U t.up.length cu) from rfl)
      have c1 := (ky.cell 1).trans (show _ = some (Value.slice D t.depth.length cd) from rfl)
      have c2 := (ky.cell 2).trans (show _ = some (Value.slice (some ⟨bo, oo, none⟩) t.word.length cw) from rfl)
      have c3 := (ky.cell 3).trans (show _ = some (Value.slice B t.byte.length cb) from rfl)
      have hPw := hid (hP.out.arrs.grown (grown_trans hGr.out g2))
      have hTw := hid (hT.out.grown (grown_trans hTr.out g2))
      clear kz ky g2
      replace hgw := hid hgw
      simp only [outThen, preThen, slotIs, factAt, isv, List.getElem?_cons_zero, List.getElem?_cons_succ, Option.getD_some, forall_eq]
      intros
      rename_i hK9
      replace hK9 := hid hK9
      simp only [wantedAt]
      go_simp
      refine (tMany_is U D (some ⟨bo, oo, none⟩) B cu cd cw cb t _ hTw.out).mono ?_
      rintro e w9 ⟨rfl, hg⟩
      rw [if_pos hRt.out]
      exact hK9.out _ _ rfl hg
    case o10 =>
      go_light
      intro ac w' hgw
      have g2 := grown_trans (grown_drew (grown_refl w4 none)) hgw
      have kz := H1.out.kept0 (grown_trans hWr.out g2)
      have e0 := (kz.cell 0).trans (show _ = some (Value.bool f) from rfl)
      have e1 := (kz.cell 1).trans (show _ = some (Value.slice P xss.length c) from rfl)
      have ky := H2.out.kept0 (grown_trans hTr.out g2)
      have c0 := (ky.cell 0).trans (show _ = some (Value.slice U t.up.length cu) from rfl)
      have c1 := (ky.cell 1).trans (show _ = some (Value.slice D t.depth.length cd) from rfl)
      have c2 := (ky.cell 2).trans (show _ = some (Value.slice (some ⟨bo, oo, none⟩) t.word.length cw) from rfl)
      have c3 := (ky.cell 3).trans (show _ = some (Value.slice B t.byte.length cb) from rfl)
      have hPw := hid (hP.out.arrs.grown (grown_trans hGr.out g2))
      have hTw := hid (hT.out.grown (grown_trans hTr.out g2))
      clear kz ky g2
      replace hgw := hid hgw
      simp only [outThen, preThen, slotIs, factAt, isv, List.getElem?_cons_zero, List.getElem?_cons_succ, Option.getD_some, forall_eq]
      intros
      rename_i hK
      replace hK := hid hK
      simp only [wantedAt]
      go_simp
      exact hK.out _ _ rfl (grown_refl _ _)
    case o11 =>
      go_light
      intro ac w' hgw
      have g2 := grown_trans (grown_drew (grown_refl w4 none)) hgw
      have kz := H1.out.kept0 (grown_trans hWr.out g2)
      have e0 := (kz.cell 0).trans (show _ = some (Value.bool f) from rfl)
      have e1 := (kz.cell 1).trans (show _ = some (Value.slice P xss.length c) from rfl)
      have ky := H2.out.kept0 (grown_trans hTr.out g2)
      have c0 := (ky.cell 0).trans (show _ = some (Value.slice U t.up.length cu) from rfl)
      have c1 := (ky.cell 1).trans (show _ = some (Value.slice D t.depth.length cd) from rfl)
      have c2 := (ky.cell 2).trans (show _ = some (Value.slice (some ⟨bo, oo, none⟩) t.word.length cw) from rfl)
      have c3 := (ky.cell 3).trans (show _ = some (Value.slice B t.byte.length cb) from rfl)
      have hPw := hid (hP.out.arrs.grown (grown_trans hGr.out g2))
      have hTw := hid (hT.out.grown (grown_trans hTr.out g2))
      clear kz ky g2
      replace hgw := hid hgw
      simp only [outThen, preThen, slotIs, factAt, isv, List.getElem?_cons_zero, List.getElem?_cons_succ, Option.getD_some, forall_eq]
      intros
      rename_i hK
      replace hK := hid hK
      simp only [wantedAt]
      go_simp
      exact hK.out _ _ rfl (grown_refl _ _)
    case o12 =>
      go_light
      intro ac w' hgw
      have g2 := grown_trans (grown_drew (grown_refl w4 none)) hgw
      have kz := H1.out.kept0 (grown_trans hWr.out g2)
      have e0 := (kz.cell 0).trans (show _ = some (Value.bool f) from rfl)
      have e1 := (kz.cell 1).trans (show _ = some (Value.slice P xss.length c) from rfl)
      have ky := H2.out.kept0 (grown_trans hTr.out g2)
      have c0 := (ky.cell 0).trans (show _ = some (Value.slice U t.up.length cu) from rfl)
      have c1 := (ky.cell 1).trans (show _ = some (Value.slice D t.depth.length cd) from rfl)
      have c2 := (ky.cell 2).trans (show _ = some (Value.slice (some ⟨bo, oo, none⟩) t.word.length cw) from rfl)
      have c3 := (ky.cell 3).trans (show _ = some (Value.slice B t.byte.length cb) from rfl)
      have hPw := hid (hP.out.arrs.grown (grown_trans hGr.out g2))
      have hTw := hid (hT.out.grown (grown_trans hTr.out g2))
      clear kz ky g2
      replace hgw := hid hgw
      simp only [outThen, preThen, slotIs, factAt, isv, List.getElem?_cons_zero, List.getElem?_cons_succ, Option.getD_some, forall_eq]
      intros
      rename_i hK
      replace hK := hid hK
      simp only [wantedAt]
      go_simp
      exact hK.out _ _ rfl (grown_refl _ _)
    case o13 =>
      go_light
      intro ac w' hgw
      have g2 := grown_trans (grown_drew (grown_refl w4 none)) hgw
      have kz := H1.out.kept0 (grown_trans hWr.out g2)
      have e0 := (kz.cell 0).trans (show _ = some (Value.bool f) from rfl)
      have e1 := (kz.cell 1).trans (show _ = some (Value.slice P xss.length c) from rfl)
      have ky := H2.out.kept0 (grown_trans hTr.out g2)
      have c0 := (ky.cell 0).trans (show _ = some (Value.slice U t.up.length cu) from rfl)
      have c1 := (ky.cell 1).trans (show _ = some (Value.slice D t.depth.length cd) from rfl)
      have c2 := (ky.cell 2).trans (show _ = some (Value.slice (some ⟨bo, oo, none⟩) t.word.length cw) from rfl)
      have c3 := (ky.cell 3).trans (show _ = some (Value.slice B t.byte.length cb) from rfl)
      have hPw := hid (hP.out.arrs.grown (grown_trans hGr.out g2))
      have hTw := hid (hT.out.grown (grown_trans hTr.out g2))
      clear kz ky g2
      replace hgw := hid hgw
      simp only [outThen, preThen, slotIs, factAt, isv, List.getElem?_cons_zero, List.getElem?_cons_succ, Option.getD_some, forall_eq]
      intros
      rename_i hK
      replace hK := hid hK
      simp only [wantedAt]
      go_simp
      exact hK.out _ _ rfl (grown_refl _ _)
    case o14 =>
      go_light
      intro ac w' hgw
      have g2 := grown_trans (grown_drew (grown_refl w4 none)) hgw
      have kz := H1.out.kept0 (grown_trans hWr.out g2)
      have e0 := (kz.cell 0).trans (show _ = some (Value.bool f) from rfl)
      have e1 := (kz.cell 1).trans (show _ = some (Value.slice P xss.length c) from rfl)
      have ky := H2.out.kept0 (grown_trans hTr.out g2)
      have c0 := (ky.cell 0).trans (show _ = some (Value.slice U t.up.length cu) from rfl)
      have c1 := (ky.cell 1).trans (show _ = some (Value.slice D t.depth.length cd) from rfl)
      have c2 := (ky.cell 2).trans (show _ = some (Value.slice (some ⟨bo, oo, none⟩) t.word.length cw) from rfl)
      have c3 := (ky.cell 3).trans (show _ = some (Value.slice B t.byte.length cb) from rfl)
      have hPw := hid (hP.out.arrs.grown (grown_trans hGr.out g2))
      have hTw := hid (hT.out.grown (grown_trans hTr.out g2))
      clear kz ky g2
      replace hgw := hid hgw
      simp only [outThen, preThen, slotIs, factAt, isv, List.getElem?_cons_zero, List.getElem?_cons_succ, Option.getD_some, forall_eq]
      intros
      rename_i hK9
      replace hK9 := hid hK9
      simp only [wantedAt]
      go_simp
      refine (refNodes_is f P c xss _ (by omega) (by omega) hB.out hPw.out).mono ?_
      rintro e w9 ⟨rfl, hg⟩
      rw [hNo.out]
      exact hK9.out _ _ rfl hg
    case o15 =>
      go_light
      intro ac w' hgw
      have g2 := grown_trans (grown_drew (grown_refl w4 none)) hgw
      have kz := H1.out.kept0 (grown_trans hWr.out g2)
      have e0 := (kz.cell 0).trans (show _ = some (Value.bool f) from rfl)
      have e1 := (kz.cell 1).trans (show _ = some (Value.slice P xss.length c) from rfl)
      have ky := H2.out.kept0 (grown_trans hTr.out g2)
      have c0 := (ky.cell 0).trans (show _ = some (Value.slice U t.up.length cu) from rfl)
      have c1 := (ky.cell 1).trans (show _ = some (Value.slice D t.depth.length cd) from rfl)
      have c2 := (ky.cell 2).trans (show _ = some (Value.slice (some ⟨bo, oo, none⟩) t.word.length cw) from rfl)
      have c3 := (ky.cell 3).trans (show _ = some (Value.slice B t.byte.length cb) from rfl)
      have hPw := hid (hP.out.arrs.grown (grown_trans hGr.out g2))
      have hTw := hid (hT.out.grown (grown_trans hTr.out g2))
      clear kz ky g2
      replace hgw := hid hgw
      simp only [outThen, preThen, slotIs, factAt, isv, List.getElem?_cons_zero, List.getElem?_cons_succ, Option.getD_some, forall_eq]
      intros
      rename_i hK9
      replace hK9 := hid hK9
      have q9 : ((t.up.length : Int) != (t.up.length : Int)) = false := by simp
      simp only [wantedAt]
      go_simp
      exact hK9.out _ _ rfl (grown_refl _ _)
    case o16 =>
      go_light
      intro ac w' hgw
      have g2 := grown_trans (grown_drew (grown_refl w4 none)) hgw
      have kz := H1.out.kept0 (grown_trans hWr.out g2)
      have e0 := (kz.cell 0).trans (show _ = some (Value.bool f) from rfl)
      have e1 := (kz.cell 1).trans (show _ = some (Value.slice P xss.length c) from rfl)
      have ky := H2.out.kept0 (grown_trans hTr.out g2)
      have c0 := (ky.cell 0).trans (show _ = some (Value.slice U t.up.length cu) from rfl)
      have c1 := (ky.cell 1).trans (show _ = some (Value.slice D t.depth.length cd) from rfl)
      have c2 := (ky.cell 2).trans (show _ = some (Value.slice (some ⟨bo, oo, none⟩) t.word.length cw) from rfl)
      have c3 := (ky.cell 3).trans (show _ = some (Value.slice B t.byte.length cb) from rfl)
      have hPw := hid (hP.out.arrs.grown (grown_trans hGr.out g2))
      have hTw := hid (hT.out.grown (grown_trans hTr.out g2))
      clear kz ky g2
      replace hgw := hid hgw
      simp only [outThen, preThen, slotIs, factAt, isv, List.getElem?_cons_zero, List.getElem?_cons_succ, Option.getD_some, forall_eq]
      intros
      rename_i hK
      replace hK := hid hK
      simp only [wantedAt]
      go_simp
      exact hK.out _ _ rfl (grown_refl _ _)
  case st =>
    repeat (first | exact AllStable.nil | (refine AllStable.cons ?_ ?_; focus (first | exact stable_isv _)))
  case fin =>
    intro w5 hgw
    simp only [finalIn, factAt, isv, List.getElem?_cons_zero, List.getElem?_cons_succ, Option.getD_some, forall_eq, slotIs, subj]
    simp only [Act.put, List.setIfInBounds_toArray, List.set_cons_zero, List.set_cons_succ]
    have hg := grown_trans (grown_drew (grown_refl w4 none)) hgw
    replace hG := hid (grown_trans hG.out hg)
    replace hW := hid (grown_trans hW.out hg)
    replace hT4 := hid (grown_trans hT4.out hg)
    clear hg hgw hGr hWr hTr
    go_wp2_with fail
    go_loopw [5] (fun v wr => ∃ k : Nat, k ≤ xss.length ∧ v = .int .i64 (k : Nat) ∧ w5.grownBy wr none) (fun v _ => xss.length - (intOf v).toNat)
    case atStart => exact ⟨0, Nat.zero_le _, rfl, grown_refl _ _⟩
    case round =>
      obtain ⟨k, hk, rfl, hr⟩ := hrel
      have hWr := hid (grown_trans hW.out hr)
      have hGr := hid (grown_trans hG.out hr)
      have hTr := hid (grown_trans hT4.out hr)
      have e1 := ((H1.out.kept0 hWr.out).cell 1).trans (show _ = some (Value.slice P xss.length c) from rfl)
      by_cases hlt : k < xss.length
      · have q0 : (k : Int) < (xss.length : Int) := by omega
        obtain ⟨b2, o2, Ak, ck, rfl, hb2, hcell, hck, hcm, hAk⟩ := hP.out.at_ hlt
        have hcc := hid hcell
        have hxl : (xss.getD k []).length ≤ 3000 := by
          have h1 := flatten_take_succ xss k hlt
          have h2 := flatten_take_le xss (k + 1)
          rw [h1, List.length_append] at h2
          omega
        obtain ⟨q, hfo, hq1, hq2, hq3⟩ := hword.out k hlt
        have hxa := hid hAk
        replace hb2 := hid hb2
        clear hcell hAk
        generalize xss.getD k [] = x at hcc hxl hxa hck hfo
        replace hfo := hid hfo
        replace hq1 := hid hq1
        replace hq2 := hid hq2
        replace hq3 := hid hq3
        have hr5 := hid hr
        have hkk : Hid ((0 : Int) ≤ (k : Int) ∧ (k : Int) < (xss.length : Int)) := hid ⟨by omega, by omega⟩
        clear hr
        go_upto_region 9 with fail
        clear e1
        apply wp_region_each [isv (.agg #[.slice U t.up.length cu, .slice D t.depth.length cd, .slice (some ⟨bo, oo, none⟩) t.word.length cw, .slice B t.byte.length cb]), isv _, isv (.slice (some ⟨b2, o2, none⟩) xss.length c), isv (.int .i64 (k : Nat)), isv (.pointer (some ⟨b2, o2 + k, none⟩)), isv (.slice Ak x.length ck), isv (.tuple #[.int .i64 (q : Nat), .bool true]), isv _, isv _, isv _, isv _, isv _]
          87 [some 46, some 47, some 48, some 49, some 50, some 51, some 52, some 45, some 53, some 54, some 6, some 7]
          [some 46, some 47, some 48, some 49, some 50, some 51, some 52, some 45, some 53, some 54, some 6, some 7]
          [[], [], [1], [], [2, 3], [4], [0, 5], [6], [7], [7], [8], [9]]
          [(1, .pointer (some ⟨h, 0, none⟩)), (3, .pointer (some ⟨bt, 0, none⟩)), (5, .int .i64 (k : Nat))] (by kernel_rfl) rfl (by kernel_rfl) rfl rfl (by kernel_rfl) (OutsOk.cons rfl rfl (OutsOk.cons rfl rfl (OutsOk.cons rfl rfl OutsOk.nil))) ?st ?ob ?fin
        case ob =>
          refine Obs.consv rfl ?o0 (Obs.consv rfl ?o1 (Obs.consv rfl ?o2 (Obs.consv rfl ?o3 (Obs.consv rfl ?o4 (Obs.consv rfl ?o5 (Obs.consv rfl ?o6 (Obs.consv rfl ?o7 (Obs.consv rfl ?o8 (Obs.consv rfl ?o9 (Obs.consv rfl ?o10 (Obs.consv rfl ?o11 Obs.nil)))))))))))
          case o0 =>
            go_light
            intro ac w' hgw
            have g2 := grown_trans (grown_drew (grown_refl wr none)) hgw
            have kz := H1.out.kept0 (grown_trans hWr.out g2)
            have e0 := (kz.cell 0).trans (show _ = some (Value.bool f) from rfl)
            have e1 := (kz.cell 1).trans (show _ = some (Value.slice (some ⟨b2, o2, none⟩) xss.length c) from rfl)
            have ky := H2.out.kept0 (grown_trans hTr.out g2)
            have c0 := (ky.cell 0).trans (show _ = some (Value.slice U t.up.length cu) from rfl)
            have c1 := (ky.cell 1).trans (show _ = some (Value.slice D t.depth.length cd) from rfl)
            have c2 := (ky.cell 2).trans (show _ = some (Value.slice (some ⟨bo, oo, none⟩) t.word.length cw) from rfl)
            have c3 := (ky.cell 3).trans (show _ = some (Value.slice B t.byte.length cb) from rfl)
            have hPw := hid (hP.out.arrs.grown (grown_trans hGr.out g2))
            have hTw := hid (hT.out.grown (grown_trans hTr.out g2))
            have x0 := ((gcell (grown_trans hGr.out g2)).1 b2 (o2 + k) hb2.out).trans hcc.out
            have hxw := hid (hxa.out.grown (grown_trans hGr.out g2))
            clear kz ky g2
            replace hgw := hid hgw
            simp only [outThen, preThen, slotIs, factAt, isv, List.getElem?_cons_zero, List.getElem?_cons_succ, Option.getD_some, forall_eq]
            intros
            rename_i hK
            replace hK := hid hK
            simp only [wantedAt]
            go_simp
            exact hK.out _ _ rfl (grown_refl _ _)
          case o1 =>
            go_light
            intro ac w' hgw
            have g2 := grown_trans (grown_drew (grown_refl wr none)) hgw
            have kz := H1.out.kept0 (grown_trans hWr.out g2)
            have e0 := (kz.cell 0).trans (show _ = some (Value.bool f) from rfl)
            have e1 := (kz.cell 1).trans (show _ = some (Value.slice (some ⟨b2, o2, none⟩) xss.length c) from rfl)
            have ky := H2.out.kept0 (grown_trans hTr.out g2)
            have c0 := (ky.cell 0).trans (show _ = some (Value.slice U t.up.length cu) from rfl)
            have c1 := (ky.cell 1).trans (show _ = some (Value.slice D t.depth.length cd) from rfl)
            have c2 := (ky.cell 2).trans (show _ = some (Value.slice (some ⟨bo, oo, none⟩) t.word.length cw) from rfl)
            have c3 := (ky.cell 3).trans (show _ = some (Value.slice B t.byte.length cb) from rfl)
            have hPw := hid (hP.out.arrs.grown (grown_trans hGr.out g2))
            have hTw := hid (hT.out.grown (grown_trans hTr.out g2))
            have x0 := ((gcell (grown_trans hGr.out g2)).1 b2 (o2 + k) hb2.out).trans hcc.out
            have hxw := hid (hxa.out.grown (grown_trans hGr.out g2))
            clear kz ky g2
            replace hgw := hid hgw
            simp only [outThen, preThen, slotIs, factAt, isv, List.getElem?_cons_zero, List.getElem?_cons_succ, Option.getD_some, forall_eq]
            intros
            rename_i hK
            replace hK := hid hK
            simp only [wantedAt]
            go_simp
            exact hK.out _ _ rfl (grown_refl _ _)
          case o2 =>
            go_light
            intro ac w' hgw
            have g2 := grown_trans (grown_drew (grown_refl wr none)) hgw
            have kz := H1.out.kept0 (grown_trans hWr.out g2)
            have e0 := (kz.cell 0).trans (show _ = some (Value.bool f) from rfl)
            have e1 := (kz.cell 1).trans (show _ = some (Value.slice (some ⟨b2, o2, none⟩) xss.length c) from rfl)
            have ky := H2.out.kept0 (grown_trans hTr.out g2)
            have c0 := (ky.cell 0).trans (show _ = some (Value.slice U t.up.length cu) from rfl)
            have c1 := (ky.cell 1).trans (show _ = some (Value.slice D t.depth.length cd) from rfl)
            have c2 := (ky.cell 2).trans (show _ = some (Value.slice (some ⟨bo, oo, none⟩) t.word.length cw) from rfl)
            have c3 := (ky.cell 3).trans (show _ = some (Value.slice B t.byte.length cb) from rfl)
            have hPw := hid (hP.out.arrs.grown (grown_trans hGr.out g2))
            have hTw := hid (hT.out.grown (grown_trans hTr.out g2))
            have x0 := ((gcell (grown_trans hGr.out g2)).1 b2 (o2 + k) hb2.out).trans hcc.out
            have hxw := hid (hxa.out.grown (grown_trans hGr.out g2))
            clear kz ky g2
            replace hgw := hid hgw
            simp only [outThen, preThen, slotIs, factAt, isv, List.getElem?_cons_zero, List.getElem?_cons_succ, Option.getD_some, forall_eq]
            intros
            rename_i hK
            replace hK := hid hK
            simp only [wantedAt]
            go_simp
            exact hK.out _ _ rfl (grown_refl _ _)
          case o3 =>
            go_light
            intro ac w' hgw
            have g2 := grown_trans (grown_drew (grown_refl wr none)) hgw
            have kz := H1.out.kept0 (grown_trans hWr.out g2)
            have e0 := (kz.cell 0).trans (show _ = some (Value.bool f) from rfl)
            have e1 := (kz.cell 1).trans (show _ = some (Value.slice (some ⟨b2, o2, none⟩) xss.length c) from rfl)
            have ky := H2.out.kept0 (grown_trans hTr.out g2)
            have c0 := (ky.cell 0).trans (show _ = some (Value.slice U t.up.length cu) from rfl)
            have c1 := (ky.cell 1).trans (show _ = some (Value.slice D t.depth.length cd) from rfl)
            have c2 := (ky.cell 2).trans (show _ = some (Value.slice (some ⟨bo, oo, none⟩) t.word.length cw) from rfl)
            have c3 := (ky.cell 3).trans (show _ = some (Value.slice B t.byte.length cb) from rfl)
            have hPw := hid (hP.out.arrs.grown (grown_trans hGr.out g2))
            have hTw := hid (hT.out.grown (grown_trans hTr.out g2))
            have x0 := ((gcell (grown_trans hGr.out g2)).1 b2 (o2 + k) hb2.out).trans hcc.out
            have hxw := hid (hxa.out.grown (grown_trans hGr.out g2))
            clear kz ky g2
            replace hgw := hid hgw
            simp only [outThen, preThen, slotIs, factAt, isv, List.getElem?_cons_zero, List.getElem?_cons_succ, Option.getD_some, forall_eq]
            intros
            rename_i hK
            replace hK := hid hK
            simp only [wantedAt]
            go_simp
            exact hK.out _ _ rfl (grown_refl _ _)
          case o4 =>
            go_light
            intro ac w' hgw
            have g2 := grown_trans (grown_drew (grown_refl wr none)) hgw
            have kz := H1.out.kept0 (grown_trans hWr.out g2)
            have e0 := (kz.cell 0).trans (show _ = some (Value.bool f) from rfl)
            have e1 := (kz.cell 1).trans (show _ = some (Value.slice (some ⟨b2, o2, none⟩) xss.length c) from rfl)
            have ky := H2.out.kept0 (grown_trans hTr.out g2)
            have c0 := (ky.cell 0).trans (show _ = some (Value.slice U t.up.length cu) from rfl)
            have c1 := (ky.cell 1).trans (show _ = some (Value.slice D t.depth.length cd) from rfl)
            have c2 := (ky.cell 2).trans (show _ = some (Value.slice (some ⟨bo, oo, none⟩) t.word.length cw) from rfl)
            have c3 := (ky.cell 3).trans (show _ = some (Value.slice B t.byte.length cb) from rfl)
            have hPw := hid (hP.out.arrs.grown (grown_trans hGr.out g2))
            have hTw := hid (hT.out.grown (grown_trans hTr.out g2))
            have x0 := ((gcell (grown_trans hGr.out g2)).1 b2 (o2 + k) hb2.out).trans hcc.out
            have hxw := hid (hxa.out.grown (grown_trans hGr.out g2))
            clear kz ky g2
            replace hgw := hid hgw
            simp only [outThen, preThen, slotIs, factAt, isv, List.getElem?_cons_zero, List.getElem?_cons_succ, Option.getD_some, forall_eq]
            intros
            rename_i hK9
            replace hK9 := hid hK9
            have q1 := hkk.out.1
            have q2 := hkk.out.2
            simp only [wantedAt]
            go_simp
            exact hK9.out _ _ rfl (grown_refl _ _)
          case o5 =>
            go_light
            intro ac w' hgw
            have g2 := grown_trans (grown_drew (grown_refl wr none)) hgw
            have kz := H1.out.kept0 (grown_trans hWr.out g2)
            have e0 := (kz.cell 0).trans (show _ = some (Value.bool f) from rfl)
            have e1 := (kz.cell 1).trans (show _ = some (Value.slice (some ⟨b2, o2, none⟩) xss.length c) from rfl)
            have ky := H2.out.kept0 (grown_trans hTr.out g2)
            have c0 := (ky.cell 0).trans (show _ = some (Value.slice U t.up.length cu) from rfl)
            have c1 := (ky.cell 1).trans (show _ = some (Value.slice D t.depth.length cd) from rfl)
            have c2 := (ky.cell 2).trans (show _ = some (Value.slice (some ⟨bo, oo, none⟩) t.word.length cw) from rfl)
            have c3 := (ky.cell 3).trans (show _ = some (Value.slice B t.byte.length cb) from rfl)
            have hPw := hid (hP.out.arrs.grown (grown_trans hGr.out g2))
            have hTw := hid (hT.out.grown (grown_trans hTr.out g2))
            have x0 := ((gcell (grown_trans hGr.out g2)).1 b2 (o2 + k) hb2.out).trans hcc.out
            have hxw := hid (hxa.out.grown (grown_trans hGr.out g2))
            clear kz ky g2
            replace hgw := hid hgw
            simp only [outThen, preThen, slotIs, factAt, isv, List.getElem?_cons_zero, List.getElem?_cons_succ, Option.getD_some, forall_eq]
            intros
            rename_i hK
            replace hK := hid hK
            simp only [wantedAt]
            go_simp
            exact hK.out _ _ rfl (grown_refl _ _)
          case o6 =>
            go_light
            intro ac w' hgw
            have g2 := grown_trans (grown_drew (grown_refl wr none)) hgw
            have kz := H1.out.kept0 (grown_trans hWr.out g2)
            have e0 := (kz.cell 0).trans (show _ = some (Value.bool f) from rfl)
            have e1 := (kz.cell 1).trans (show _ = some (Value.slice (some ⟨b2, o2, none⟩) xss.length c) from rfl)
            have ky := H2.out.kept0 (grown_trans hTr.out g2)
            have c0 := (ky.cell 0).trans (show _ = some (Value.slice U t.up.length cu) from rfl)
            have c1 := (ky.cell 1).trans (show _ = some (Value.slice D t.depth.length cd) from rfl)
            have c2 := (ky.cell 2).trans (show _ = some (Value.slice (some ⟨bo, oo, none⟩) t.word.length cw) from rfl)
            have c3 := (ky.cell 3).trans (show _ = some (Value.slice B t.byte.length cb) from rfl)
            have hPw := hid (hP.out.arrs.grown (grown_trans hGr.out g2))
            have hTw := hid (hT.out.grown (grown_trans hTr.out g2))
            have x0 := ((gcell (grown_trans hGr.out g2)).1 b2 (o2 + k) hb2.out).trans hcc.out
            have hxw := hid (hxa.out.grown (grown_trans hGr.out g2))
            clear kz ky g2
            replace hgw := hid hgw
            simp only [outThen, preThen, slotIs, factAt, isv, List.getElem?_cons_zero, List.getElem?_cons_succ, Option.getD_some, forall_eq]
            intros
            rename_i hK9
            replace hK9 := hid hK9
            simp only [wantedAt]
            go_simp
            refine (tFind_is U D (some ⟨bo, oo, none⟩) B cu cd cw cb t Ak ck x _ hTw.out hxw.out (by omega)).mono ?_
            rintro e w9 ⟨rfl, hg⟩
            rw [hfo.out]
            exact hK9.out _ _ rfl hg
          case o7 =>
            go_light
            intro ac w' hgw
            have g2 := grown_trans (grown_drew (grown_refl wr none)) hgw
            have kz := H1.out.kept0 (grown_trans hWr.out g2)
            have e0 := (kz.cell 0).trans (show _ = some (Value.bool f) from rfl)
            have e1 := (kz.cell 1).trans (show _ = some (Value.slice (some ⟨b2, o2, none⟩) xss.length c) from rfl)
            have ky := H2.out.kept0 (grown_trans hTr.out g2)
            have c0 := (ky.cell 0).trans (show _ = some (Value.slice U t.up.length cu) from rfl)
            have c1 := (ky.cell 1).trans (show _ = some (Value.slice D t.depth.length cd) from rfl)
            have c2 := (ky.cell 2).trans (show _ = some (Value.slice (some ⟨bo, oo, none⟩) t.word.length cw) from rfl)
            have c3 := (ky.cell 3).trans (show _ = some (Value.slice B t.byte.length cb) from rfl)
            have hPw := hid (hP.out.arrs.grown (grown_trans hGr.out g2))
            have hTw := hid (hT.out.grown (grown_trans hTr.out g2))
            have x0 := ((gcell (grown_trans hGr.out g2)).1 b2 (o2 + k) hb2.out).trans hcc.out
            have hxw := hid (hxa.out.grown (grown_trans hGr.out g2))
            clear kz ky g2
            replace hgw := hid hgw
            simp only [outThen, preThen, slotIs, factAt, isv, List.getElem?_cons_zero, List.getElem?_cons_succ, Option.getD_some, forall_eq]
            intros
            rename_i hK
            replace hK := hid hK
            simp only [wantedAt]
            go_simp
            exact hK.out _ _ rfl (grown_refl _ _)
          case o8 =>
            go_light
            intro ac w' hgw
            have g2 := grown_trans (grown_drew (grown_refl wr none)) hgw
            have kz := H1.out.kept0 (grown_trans hWr.out g2)
            have e0 := (kz.cell 0).trans (show _ = some (Value.bool f) from rfl)
            have e1 := (kz.cell 1).trans (show _ = some (Value.slice (some ⟨b2, o2, none⟩) xss.length c) from rfl)
            have ky := H2.out.kept0 (grown_trans hTr.out g2)
            have c0 := (ky.cell 0).trans (show _ = some (Value.slice U t.up.length cu) from rfl)
            have c1 := (ky.cell 1).trans (show _ = some (Value.slice D t.depth.length cd) from rfl)
            have c2 := (ky.cell 2).trans (show _ = some (Value.slice (some ⟨bo, oo, none⟩) t.word.length cw) from rfl)
            have c3 := (ky.cell 3).trans (show _ = some (Value.slice B t.byte.length cb) from rfl)
            have hPw := hid (hP.out.arrs.grown (grown_trans hGr.out g2))
            have hTw := hid (hT.out.grown (grown_trans hTr.out g2))
            have x0 := ((gcell (grown_trans hGr.out g2)).1 b2 (o2 + k) hb2.out).trans hcc.out
            have hxw := hid (hxa.out.grown (grown_trans hGr.out g2))
            clear kz ky g2
            replace hgw := hid hgw
            simp only [outThen, preThen, slotIs, factAt, isv, List.getElem?_cons_zero, List.getElem?_cons_succ, Option.getD_some, forall_eq]
            intros
            rename_i hK
            replace hK := hid hK
            simp only [wantedAt]
            go_simp
            exact hK.out _ _ rfl (grown_refl _ _)
          case o9 =>
            go_light
            intro ac w' hgw
            have g2 := grown_trans (grown_drew (grown_refl wr none)) hgw
            have kz := H1.out.kept0 (grown_trans hWr.out g2)
            have e0 := (kz.cell 0).trans (show _ = some (Value.bool f) from rfl)
            have e1 := (kz.cell 1).trans (show _ = some (Value.slice (some ⟨b2, o2, none⟩) xss.length c) from rfl)
            have ky := H2.out.kept0 (grown_trans hTr.out g2)
            have c0 := (ky.cell 0).trans (show _ = some (Value.slice U t.up.length cu) from rfl)
            have c1 := (ky.cell 1).trans (show _ = some (Value.slice D t.depth.length cd) from rfl)
            have c2 := (ky.cell 2).trans (show _ = some (Value.slice (some ⟨bo, oo, none⟩) t.word.length cw) from rfl)
            have c3 := (ky.cell 3).trans (show _ = some (Value.slice B t.byte.length cb) from rfl)
            have hPw := hid (hP.out.arrs.grown (grown_trans hGr.out g2))
            have hTw := hid (hT.out.grown (grown_trans hTr.out g2))
            have x0 := ((gcell (grown_trans hGr.out g2)).1 b2 (o2 + k) hb2.out).trans hcc.out
            have hxw := hid (hxa.out.grown (grown_trans hGr.out g2))
            clear kz ky g2
            replace hgw := hid hgw
            simp only [outThen, preThen, slotIs, factAt, isv, List.getElem?_cons_zero, List.getElem?_cons_succ, Option.getD_some, forall_eq]
            intros
            rename_i hK
            replace hK := hid hK
            simp only [wantedAt]
            go_simp
            exact hK.out _ _ rfl (grown_refl _ _)
          case o10 =>
            go_light
            intro ac w' hgw
            have g2 := grown_trans (grown_drew (grown_refl wr none)) hgw
            have kz := H1.out.kept0 (grown_trans hWr.out g2)
            have e0 := (kz.cell 0).trans (show _ = some (Value.bool f) from rfl)
            have e1 := (kz.cell 1).trans (show _ = some (Value.slice (some ⟨b2, o2, none⟩) xss.length c) from rfl)
            have ky := H2.out.kept0 (grown_trans hTr.out g2)
            have c0 := (ky.cell 0).trans (show _ = some (Value.slice U t.up.length cu) from rfl)
            have c1 := (ky.cell 1).trans (show _ = some (Value.slice D t.depth.length cd) from rfl)
            have c2 := (ky.cell 2).trans (show _ = some (Value.slice (some ⟨bo, oo, none⟩) t.word.length cw) from rfl)
            have c3 := (ky.cell 3).trans (show _ = some (Value.slice B t.byte.length cb) from rfl)
            have hPw := hid (hP.out.arrs.grown (grown_trans hGr.out g2))
            have hTw := hid (hT.out.grown (grown_trans hTr.out g2))
            have x0 := ((gcell (grown_trans hGr.out g2)).1 b2 (o2 + k) hb2.out).trans hcc.out
            have hxw := hid (hxa.out.grown (grown_trans hGr.out g2))
            clear kz ky g2
            replace hgw := hid hgw
            simp only [outThen, preThen, slotIs, factAt, isv, List.getElem?_cons_zero, List.getElem?_cons_succ, Option.getD_some, forall_eq]
            intros
            rename_i hK
            replace hK := hid hK
            simp only [wantedAt]
            go_simp
            exact hK.out _ _ rfl (grown_refl _ _)
          case o11 =>
            go_light
            intro ac w' hgw
            have g2 := grown_trans (grown_drew (grown_refl wr none)) hgw
            have kz := H1.out.kept0 (grown_trans hWr.out g2)
            have e0 := (kz.cell 0).trans (show _ = some (Value.bool f) from rfl)
            have e1 := (kz.cell 1).trans (show _ = some (Value.slice (some ⟨b2, o2, none⟩) xss.length c) from rfl)
            have ky := H2.out.kept0 (grown_trans hTr.out g2)
            have c0 := (ky.cell 0).trans (show _ = some (Value.slice U t.up.length cu) from rfl)
            have c1 := (ky.cell 1).trans (show _ = some (Value.slice D t.depth.length cd) from rfl)
            have c2 := (ky.cell 2).trans (show _ = some (Value.slice (some ⟨bo, oo, none⟩) t.word.length cw) from rfl)
            have c3 := (ky.cell 3).trans (show _ = some (Value.slice B t.byte.length cb) from rfl)
            have hPw := hid (hP.out.arrs.grown (grown_trans hGr.out g2))
            have hTw := hid (hT.out.grown (grown_trans hTr.out g2))
            have x0 := ((gcell (grown_trans hGr.out g2)).1 b2 (o2 + k) hb2.out).trans hcc.out
            have hxw := hid (hxa.out.grown (grown_trans hGr.out g2))
            clear kz ky g2
            replace hgw := hid hgw
            simp only [outThen, preThen, slotIs, factAt, isv, List.getElem?_cons_zero, List.getElem?_cons_succ, Option.getD_some, forall_eq]
            intros
            rename_i hK
            replace hK := hid hK
            simp only [wantedAt]
            go_simp
            exact hK.out _ _ rfl (grown_refl _ _)
        case st =>
          repeat (first | exact AllStable.nil | (refine AllStable.cons ?_ ?_; focus (first | exact stable_isv _)))
        case fin =>
          intro w6 hgw
          simp only [finalIn, factAt, isv, List.getElem?_cons_zero, List.getElem?_cons_succ, Option.getD_some, forall_eq, slotIs, subj]
          simp only [Act.put, List.setIfInBounds_toArray, List.set_cons_zero, List.set_cons_succ]
          have hg := grown_trans (grown_drew (grown_refl wr none)) hgw
          have ky := H2.out.kept0 (grown_trans hTr.out hg)
          have c2 := (ky.cell 2).trans (show _ = some (Value.slice (some ⟨bo, oo, none⟩) t.word.length cw) from rfl)
          have co := ((gcell (grown_trans hTr.out hg)).1 bo (oo + q) hbo.out).trans (hco.out q hq2.out)
          rw [hq3.out] at co
          have hbl := Nat.lt_of_lt_of_le hbo.out (grown_trans hTr.out hg).size
          have g5 := hid (grown_trans hr5.out hg)
          clear ky hg hgw
          have z1 : ¬ ((q : Int) < 1) := by have := hq1.out; omega
          have z2 : (q : Int) < (t.word.length : Int) := by have := hq2.out; omega
          have z3 : ¬ ((t.word.length : Int) ≤ (q : Int)) := by omega
          have z4 : (0 : Int) ≤ (q : Int) := by omega
          have z5 : ((k : Int) != (k : Int)) = false := by simp
          go_wp2_with fail
          go_roundw
          case rel => exact ⟨k + 1, by omega, by go_num, g5.out⟩
          case measure => simp [intOf]; omega
      · obtain rfl : k = xss.length := by omega
        clear hr
        go_upto_region 12 with fail
        clear e1
        apply wp_region_each [isv (.agg #[.slice U t.up.length cu, .slice D t.depth.length cd, .slice (some ⟨bo, oo, none⟩) t.word.length cw, .slice B t.byte.length cb]), isArrs xss, isSetOf false xss, isv _, isv (.slice P xss.length c), isv (.agg #[.bool false, .slice P xss.length c]), isv (.bool true), isv (.bool true), isv (.bool true), isv (.bool true), isv (.bool true)]
          87 [some 77, some 78, some 79, some 80, some 81, some 82, some 83, some 84, some 85, some 86, some 2]
          [some 77, some 78, some 79, some 80, some 81, some 82, some 83, some 84, some 85, some 86, some 2]
          [[], [0], [1], [], [3], [4], [2, 5], [6], [7], [7, 8], [9]]
          [(1, .pointer (some ⟨h, 0, none⟩)), (3, .pointer (some ⟨bt, 0, none⟩))] (by kernel_rfl) rfl (by kernel_rfl) rfl rfl (by kernel_rfl) (OutsOk.cons rfl rfl (OutsOk.cons rfl rfl OutsOk.nil)) ?st ?ob ?fin
        case ob =>
          refine Obs.consv rfl ?o0 (Obs.consv rfl ?o1 (Obs.consv rfl ?o2 (Obs.consv rfl ?o3 (Obs.consv rfl ?o4 (Obs.consv rfl ?o5 (Obs.consv rfl ?o6 (Obs.consv rfl ?o7 (Obs.consv rfl ?o8 (Obs.consv rfl ?o9 (Obs.consv rfl ?o10 Obs.nil))))))))))
          case o0 =>
            go_light
            intro ac w' hgw
            have g2 := grown_trans (grown_drew (grown_refl wr none)) hgw
            have kz := H1.out.kept0 (grown_trans hWr.out g2)
            have e0 := (kz.cell 0).trans (show _ = some (Value.bool f) from rfl)
            have e1 := (kz.cell 1).trans (show _ = some (Value.slice P xss.length c) from rfl)
            have ky := H2.out.kept0 (grown_trans hTr.out g2)
            have c0 := (ky.cell 0).trans (show _ = some (Value.slice U t.up.length cu) from rfl)
            have c1 := (ky.cell 1).trans (show _ = some (Value.slice D t.depth.length cd) from rfl)
            have c2 := (ky.cell 2).trans (show _ = some (Value.slice (some ⟨bo, oo, none⟩) t.word.length cw) from rfl)
            have c3 := (ky.cell 3).trans (show _ = some (Value.slice B t.byte.length cb) from rfl)
            have hPw := hid (hP.out.arrs.grown (grown_trans hGr.out g2))
            have hTw := hid (hT.out.grown (grown_trans hTr.out g2))
            clear kz ky g2
            replace hgw := hid hgw
            simp only [outThen, preThen, slotIs, factAt, isv, List.getElem?_cons_zero, List.getElem?_cons_succ, Option.getD_some, forall_eq]
            intros
            rename_i hK
            replace hK := hid hK
            simp only [wantedAt]
            go_simp
            exact hK.out _ _ rfl (grown_refl _ _)
          case o1 =>
            go_light
            intro ac w' hgw
            have g2 := grown_trans (grown_drew (grown_refl wr none)) hgw
            have kz := H1.out.kept0 (grown_trans hWr.out g2)
            have e0 := (kz.cell 0).trans (show _ = some (Value.bool f) from rfl)
            have e1 := (kz.cell 1).trans (show _ = some (Value.slice P xss.length c) from rfl)
            have ky := H2.out.kept0 (grown_trans hTr.out g2)
            have c0 := (ky.cell 0).trans (show _ = some (Value.slice U t.up.length cu) from rfl)
            have c1 := (ky.cell 1).trans (show _ = some (Value.slice D t.depth.length cd) from rfl)
            have c2 := (ky.cell 2).trans (show _ = some (Value.slice (some ⟨bo, oo, none⟩) t.word.length cw) from rfl)
            have c3 := (ky.cell 3).trans (show _ = some (Value.slice B t.byte.length cb) from rfl)
            have hPw := hid (hP.out.arrs.grown (grown_trans hGr.out g2))
            have hTw := hid (hT.out.grown (grown_trans hTr.out g2))
            clear kz ky g2
            replace hgw := hid hgw
            simp only [outThen, preThen, slotIs, factAt, isv, List.getElem?_cons_zero, List.getElem?_cons_succ, Option.getD_some, forall_eq]
            intros
            rename_i hK9
            replace hK9 := hid hK9
            simp only [wantedAt]
            go_simp
            refine (tWords_is U D (some ⟨bo, oo, none⟩) B cu cd cw cb t _ hTw.out).mono ?_
            rintro e w9 ⟨A9, c9, l, rfl, hl9, ho9, hg⟩
            rw [if_pos hRt.out, hwd.out] at hl9
            have hA9 := ho9.arrs.2
            rw [hl9] at hA9
            exact hK9.out _ _ ⟨A9, c9, by rw [← hl9, List.length_map], hA9⟩ hg
          case o2 =>
            go_light
            intro ac w' hgw
            have g2 := grown_trans (grown_drew (grown_refl wr none)) hgw
            have kz := H1.out.kept0 (grown_trans hWr.out g2)
            have e0 := (kz.cell 0).trans (show _ = some (Value.bool f) from rfl)
            have e1 := (kz.cell 1).trans (show _ = some (Value.slice P xss.length c) from rfl)
            have ky := H2.out.kept0 (grown_trans hTr.out g2)
            have c0 := (ky.cell 0).trans (show _ = some (Value.slice U t.up.length cu) from rfl)
            have c1 := (ky.cell 1).trans (show _ = some (Value.slice D t.depth.length cd) from rfl)
            have c2 := (ky.cell 2).trans (show _ = some (Value.slice (some ⟨bo, oo, none⟩) t.word.length cw) from rfl)
            have c3 := (ky.cell 3).trans (show _ = some (Value.slice B t.byte.length cb) from rfl)
            have hPw := hid (hP.out.arrs.grown (grown_trans hGr.out g2))
            have hTw := hid (hT.out.grown (grown_trans hTr.out g2))
            clear kz ky g2
            replace hgw := hid hgw
            simp only [outThen, preThen, slotIs, factAt, isv, List.getElem?_cons_zero, List.getElem?_cons_succ, Option.getD_some, forall_eq]
            intros
            rename_i v1 h1 hv1 _ hK9
            replace hK9 := hid hK9
            obtain ⟨A9, c9, rfl, ha9⟩ := h1
            simp only [wantedAt]
            go_simp
            exact hK9.out _ _ ⟨A9, c9, rfl, ha9⟩ (grown_refl _ _)
          case o3 =>
            go_light
            intro ac w' hgw
            have g2 := grown_trans (grown_drew (grown_refl wr none)) hgw
            have kz := H1.out.kept0 (grown_trans hWr.out g2)
            have e0 := (kz.cell 0).trans (show _ = some (Value.bool f) from rfl)
            have e1 := (kz.cell 1).trans (show _ = some (Value.slice P xss.length c) from rfl)
            have ky := H2.out.kept0 (grown_trans hTr.out g2)
            have c0 := (ky.cell 0).trans (show _ = some (Value.slice U t.up.length cu) from rfl)
            have c1 := (ky.cell 1).trans (show _ = some (Value.slice D t.depth.length cd) from rfl)
            have c2 := (ky.cell 2).trans (show _ = some (Value.slice (some ⟨bo, oo, none⟩) t.word.length cw) from rfl)
            have c3 := (ky.cell 3).trans (show _ = some (Value.slice B t.byte.length cb) from rfl)
            have hPw := hid (hP.out.arrs.grown (grown_trans hGr.out g2))
            have hTw := hid (hT.out.grown (grown_trans hTr.out g2))
            clear kz ky g2
            replace hgw := hid hgw
            simp only [outThen, preThen, slotIs, factAt, isv, List.getElem?_cons_zero, List.getElem?_cons_succ, Option.getD_some, forall_eq]
            intros
            rename_i hK
            replace hK := hid hK
            simp only [wantedAt]
            go_simp
            exact hK.out _ _ rfl (grown_refl _ _)
          case o4 =>
            go_light
            intro ac w' hgw
            have g2 := grown_trans (grown_drew (grown_refl wr none)) hgw
            have kz := H1.out.kept0 (grown_trans hWr.out g2)
            have e0 := (kz.cell 0).trans (show _ = some (Value.bool f) from rfl)
            have e1 := (kz.cell 1).trans (show _ = some (Value.slice P xss.length c) from rfl)
            have ky := H2.out.kept0 (grown_trans hTr.out g2)
            have c0 := (ky.cell 0).trans (show _ = some (Value.slice U t.up.length cu) from rfl)
            have c1 := (ky.cell 1).trans (show _ = some (Value.slice D t.depth.length cd) from rfl)
            have c2 := (ky.cell 2).trans (show _ = some (Value.slice (some ⟨bo, oo, none⟩) t.word.length cw) from rfl)
            have c3 := (ky.cell 3).trans (show _ = some (Value.slice B t.byte.length cb) from rfl)
            have hPw := hid (hP.out.arrs.grown (grown_trans hGr.out g2))
            have hTw := hid (hT.out.grown (grown_trans hTr.out g2))
            clear kz ky g2
            replace hgw := hid hgw
            simp only [outThen, preThen, slotIs, factAt, isv, List.getElem?_cons_zero, List.getElem?_cons_succ, Option.getD_some, forall_eq]
            intros
            rename_i hK
            replace hK := hid hK
            simp only [wantedAt]
            go_simp
            exact hK.out _ _ rfl (grown_refl _ _)
          case o5 =>
            go_light
            intro ac w' hgw
            have g2 := grown_trans (grown_drew (grown_refl wr none)) hgw
            have kz := H1.out.kept0 (grown_trans hWr.out g2)
            have e0 := (kz.cell 0).trans (show _ = some (Value.bool f) from rfl)
            have e1 := (kz.cell 1).trans (show _ = some (Value.slice P xss.length c) from rfl)
            have ky := H2.out.kept0 (grown_trans hTr.out g2)
            have c0 := (ky.cell 0).trans (show _ = some (Value.slice U t.up.length cu) from rfl)
            have c1 := (ky.cell 1).trans (show _ = some (Value.slice D t.depth.length cd) from rfl)
            have c2 := (ky.cell 2).trans (show _ = some (Value.slice (some ⟨bo, oo, none⟩) t.word.length cw) from rfl)
            have c3 := (ky.cell 3).trans (show _ = some (Value.slice B t.byte.length cb) from rfl)
            have hPw := hid (hP.out.arrs.grown (grown_trans hGr.out g2))
            have hTw := hid (hT.out.grown (grown_trans hTr.out g2))
            clear kz ky g2
            replace hgw := hid hgw
            simp only [outThen, preThen, slotIs, factAt, isv, List.getElem?_cons_zero, List.getElem?_cons_succ, Option.getD_some, forall_eq]
            intros
            rename_i hK
            replace hK := hid hK
            simp only [wantedAt]
            go_simp
            exact hK.out _ _ rfl (grown_refl _ _)
          case o6 =>
            go_light
            intro ac w' hgw
            have g2 := grown_trans (grown_drew (grown_refl wr none)) hgw
            have kz := H1.out.kept0 (grown_trans hWr.out g2)
            have e0 := (kz.cell 0).trans (show _ = some (Value.bool f) from rfl)
            have e1 := (kz.cell 1).trans (show _ = some (Value.slice P xss.length c) from rfl)
            have ky := H2.out.kept0 (grown_trans hTr.out g2)
            have c0 := (ky.cell 0).trans (show _ = some (Value.slice U t.up.length cu) from rfl)
            have c1 := (ky.cell 1).trans (show _ = some (Value.slice D t.depth.length cd) from rfl)
            have c2 := (ky.cell 2).trans (show _ = some (Value.slice (some ⟨bo, oo, none⟩) t.word.length cw) from rfl)
            have c3 := (ky.cell 3).trans (show _ = some (Value.slice B t.byte.length cb) from rfl)
            have hPw := hid (hP.out.arrs.grown (grown_trans hGr.out g2))
            have hTw := hid (hT.out.grown (grown_trans hTr.out g2))
            clear kz ky g2
            replace hgw := hid hgw
            simp only [outThen, preThen, slotIs, factAt, isv, List.getElem?_cons_zero, List.getElem?_cons_succ, Option.getD_some, forall_eq]
            intros
            rename_i v1 h1 hv1 _ _ hK9
            replace hK9 := hid hK9
            obtain ⟨A9, c9, rfl, ha9⟩ := h1
            replace ha9 := hid ha9
            simp only [wantedAt]
            go_simp
            refine (refSetSame_is false false A9 P c9 c xss xss _ (by omega) ha9.out hPw.out hB.out hB.out).mono ?_
            rintro e w9 ⟨rfl, hg⟩
            rw [decide_eq_true ⟨rfl, rfl⟩]
            exact hK9.out _ _ rfl hg
          case o7 =>
            go_light
            intro ac w' hgw
            have g2 := grown_trans (grown_drew (grown_refl wr none)) hgw
            have kz := H1.out.kept0 (grown_trans hWr.out g2)
            have e0 := (kz.cell 0).trans (show _ = some (Value.bool f) from rfl)
            have e1 := (kz.cell 1).trans (show _ = some (Value.slice P xss.length c) from rfl)
            have ky := H2.out.kept0 (grown_trans hTr.out g2)
            have c0 := (ky.cell 0).trans (show _ = some (Value.slice U t.up.length cu) from rfl)
            have c1 := (ky.cell 1).trans (show _ = some (Value.slice D t.depth.length cd) from rfl)
            have c2 := (ky.cell 2).trans (show _ = some (Value.slice (some ⟨bo, oo, none⟩) t.word.length cw) from rfl)
            have c3 := (ky.cell 3).trans (show _ = some (Value.slice B t.byte.length cb) from rfl)
            have hPw := hid (hP.out.arrs.grown (grown_trans hGr.out g2))
            have hTw := hid (hT.out.grown (grown_trans hTr.out g2))
            clear kz ky g2
            replace hgw := hid hgw
            simp only [outThen, preThen, slotIs, factAt, isv, List.getElem?_cons_zero, List.getElem?_cons_succ, Option.getD_some, forall_eq]
            intros
            rename_i hK
            replace hK := hid hK
            simp only [wantedAt]
            go_simp
            exact hK.out _ _ rfl (grown_refl _ _)
          case o8 =>
            go_light
            intro ac w' hgw
            have g2 := grown_trans (grown_drew (grown_refl wr none)) hgw
            have kz := H1.out.kept0 (grown_trans hWr.out g2)
            have e0 := (kz.cell 0).trans (show _ = some (Value.bool f) from rfl)
            have e1 := (kz.cell 1).trans (show _ = some (Value.slice P xss.length c) from rfl)
            have ky := H2.out.kept0 (grown_trans hTr.out g2)
            have c0 := (ky.cell 0).trans (show _ = some (Value.slice U t.up.length cu) from rfl)
            have c1 := (ky.cell 1).trans (show _ = some (Value.slice D t.depth.length cd) from rfl)
            have c2 := (ky.cell 2).trans (show _ = some (Value.slice (some ⟨bo, oo, none⟩) t.word.length cw) from rfl)
            have c3 := (ky.cell 3).trans (show _ = some (Value.slice B t.byte.length cb) from rfl)
            have hPw := hid (hP.out.arrs.grown (grown_trans hGr.out g2))
            have hTw := hid (hT.out.grown (grown_trans hTr.out g2))
            clear kz ky g2
            replace hgw := hid hgw
            simp only [outThen, preThen, slotIs, factAt, isv, List.getElem?_cons_zero, List.getElem?_cons_succ, Option.getD_some, forall_eq]
            intros
            rename_i hK9
            replace hK9 := hid hK9
            simp only [wantedAt]
            go_simp
            refine (twakes_true _).mono ?_
            rintro e w9 ⟨rfl, hg⟩
            exact hK9.out _ _ rfl hg
          case o9 =>
            go_light
            intro ac w' hgw
            have g2 := grown_trans (grown_drew (grown_refl wr none)) hgw
            have kz := H1.out.kept0 (grown_trans hWr.out g2)
            have e0 := (kz.cell 0).trans (show _ = some (Value.bool f) from rfl)
            have e1 := (kz.cell 1).trans (show _ = some (Value.slice P xss.length c) from rfl)
            have ky := H2.out.kept0 (grown_trans hTr.out g2)
            have c0 := (ky.cell 0).trans (show _ = some (Value.slice U t.up.length cu) from rfl)
            have c1 := (ky.cell 1).trans (show _ = some (Value.slice D t.depth.length cd) from rfl)
            have c2 := (ky.cell 2).trans (show _ = some (Value.slice (some ⟨bo, oo, none⟩) t.word.length cw) from rfl)
            have c3 := (ky.cell 3).trans (show _ = some (Value.slice B t.byte.length cb) from rfl)
            have hPw := hid (hP.out.arrs.grown (grown_trans hGr.out g2))
            have hTw := hid (hT.out.grown (grown_trans hTr.out g2))
            clear kz ky g2
            replace hgw := hid hgw
            simp only [outThen, preThen, slotIs, factAt, isv, List.getElem?_cons_zero, List.getElem?_cons_succ, Option.getD_some, forall_eq]
            intros
            rename_i hK
            replace hK := hid hK
            simp only [wantedAt]
            go_simp
            exact hK.out _ _ rfl (grown_refl _ _)
          case o10 =>
            go_light
            intro ac w' hgw
            have g2 := grown_trans (grown_drew (grown_refl wr none)) hgw
            have kz := H1.out.kept0 (grown_trans hWr.out g2)
            have e0 := (kz.cell 0).trans (show _ = some (Value.bool f) from rfl)
            have e1 := (kz.cell 1).trans (show _ = some (Value.slice P xss.length c) from rfl)
            have ky := H2.out.kept0 (grown_trans hTr.out g2)
            have c0 := (ky.cell 0).trans (show _ = some (Value.slice U t.up.length cu) from rfl)
            have c1 := (ky.cell 1).trans (show _ = some (Value.slice D t.depth.length cd) from rfl)
            have c2 := (ky.cell 2).trans (show _ = some (Value.slice (some ⟨bo, oo, none⟩) t.word.length cw) from rfl)
            have c3 := (ky.cell 3).trans (show _ = some (Value.slice B t.byte.length cb) from rfl)
            have hPw := hid (hP.out.arrs.grown (grown_trans hGr.out g2))
            have hTw := hid (hT.out.grown (grown_trans hTr.out g2))
            clear kz ky g2
            replace hgw := hid hgw
            simp only [outThen, preThen, slotIs, factAt, isv, List.getElem?_cons_zero, List.getElem?_cons_succ, Option.getD_some, forall_eq]
            intros
            rename_i hK
            replace hK := hid hK
            simp only [wantedAt]
            go_simp
            exact hK.out _ _ rfl (grown_refl _ _)
        case st =>
          repeat (first | exact AllStable.nil | (refine AllStable.cons ?_ ?_; focus (first | exact stable_isv _ | exact stable_isArrs _ | exact stable_isSetOf _ _)))
        case fin =>
          intro w6 hgw
          simp only [finalIn, factAt, isv, List.getElem?_cons_zero, List.getElem?_cons_succ, Option.getD_some, forall_eq, slotIs, subj]
          rintro v1 ⟨A9, c9, rfl, _⟩ v2 ⟨A8, c8, rfl, _⟩
          simp only [Act.put, List.setIfInBounds_toArray, List.set_cons_zero, List.set_cons_succ]
          have hg := hid (grown_trans hGr.out (grown_trans (grown_drew (grown_refl wr none)) hgw))
          clear hgw
          go_wp2_with fail
          go_ret
          exact ⟨rfl, hg.out⟩

end Go.Proofs.Ytojbkhheaondhaa
