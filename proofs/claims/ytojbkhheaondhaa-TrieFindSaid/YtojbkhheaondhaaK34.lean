/- Package trie: a set's tree, made. The document's example: he, she, her. Plain mathematics, of no program. The document's example: the set of he, she, her, made anew. A set's trie: what is found in it, where it stands. Plain mathematics, of no program. -/
import Derived.Test.YtojbkhheaondhaaK33
import Derived.Test.YtojbkhheaondhaaK21
import Derived.Test.YtojbkhheaondhaaK22
import Derived.Test.YtojbkhheaondhaaK16
import Derived.Test.YtojbkhheaondhaaK8
import Derived.Test.YtojbkhheaondhaaK29
set_option linter.unusedSimpArgs false
set_option linter.unusedVariables false
set_option maxRecDepth 100000
namespace Go.Proofs.Ytojbkhheaondhaa
open Go.RowKit PlainLetter

/-- What Make tells: a set's tree, or none; with room. -/
def TreeMade (yes : Bool) (t : PlainTrie.Tree) (w : World) : Ending → World → Prop := fun e w' =>
  ∃ (U D W B : Option Addr) (cu cd cw cb : Nat) (s : PlainTrie.Tree), e = .returned (.tuple #[treeV U D W B s cu cd cw cb, .int .i64 (if yes = true then 0 else 2)]) ∧ (yes = true → s = t) ∧ (yes = false → s = noTree) ∧ TreeAt w' U D W B s ∧
    (s.up.length ≤ cu ∧ s.depth.length ≤ cd ∧ s.word.length ≤ cw ∧ s.byte.length ≤ cb) ∧ (cu ≤ maxLen ∧ cd ≤ maxLen ∧ cw ≤ maxLen ∧ cb ≤ maxLen) ∧ w.grownBy w' none

theorem made_byte {ws : List (List Int)} (hB : ∀ i, Bytes (ws.getD i [])) (j : Nat) : 0 ≤ (PlainTrie.make ws).byte.getD j 0 ∧ (PlainTrie.make ws).byte.getD j 0 ≤ 255 := by
  by_cases hj : j < (PlainTrie.nodes ws).length
  · rw [(PlainTrie.made_at ws hj).2.2.2]
    rcases (PlainTrie.mem_nodes ws _).1 (List.getElem_mem hj) with e | ⟨x, hx, ⟨r, e⟩⟩
    · rw [e]; simp
    · obtain ⟨i, hi, e2⟩ := List.getElem_of_mem hx
      have hb := hB i
      rw [show ws.getD i [] = ws[i] by simp [List.getD, hi], e2, ← e] at hb
      have h1 := hb ((PlainTrie.nodes ws)[j].length - 1)
      by_cases h0 : (PlainTrie.nodes ws)[j].length = 0
      · have : (PlainTrie.nodes ws)[j] = [] := List.length_eq_zero_iff.1 h0
        rw [this]; simp
      · rw [show ((PlainTrie.nodes ws)[j] ++ r).getD ((PlainTrie.nodes ws)[j].length - 1) 0 = (PlainTrie.nodes ws)[j].getD ((PlainTrie.nodes ws)[j].length - 1) 0 by
          simp [List.getD, List.getElem?_append_left (show (PlainTrie.nodes ws)[j].length - 1 < (PlainTrie.nodes ws)[j].length by omega)]] at h1
        exact h1
  · rw [show (PlainTrie.make ws).byte.getD j 0 = 0 by
      have := (PlainTrie.make_length ws).2.2.2
      simp [List.getD, List.getElem?_eq_none (show (PlainTrie.make ws).byte.length ≤ j by omega)]]
    omega

set_option maxHeartbeats 8000000 in
theorem tMake_is (f : Bool) (P : Option Addr) (c : Nat) (xss : List (List Int)) (w : World) (hn : xss.length ≤ 1000) (hl : xss.flatten.length ≤ 10000) (hB : ∀ i, Bytes (xss.getD i [])) (hP : Arrs w P xss) :
    Calls Try.prog 10 #[.agg #[.bool f, .slice P xss.length c]] w (TreeMade (right f xss) (PlainTrie.make xss) w) := by
  have hG0 : Hid (w.grownBy ((w.alloc (.cells #[.bool f, .slice P xss.length c] 24)).alloc (.cells #[.slice none 0 0, .slice none 0 0, .slice none 0 0, .slice none 0 0] 30)) none) := hid (grown_alloc (grown_alloc (grown_refl w none) _) _)
  have K1 : Hid (Holds ((w.alloc (.cells #[.bool f, .slice P xss.length c] 24)).alloc (.cells #[.slice none 0 0, .slice none 0 0, .slice none 0 0, .slice none 0 0] 30)) w.heap.size 24 #[.bool f, .slice P xss.length c]) := hid ((Holds.new _ _ _).alloc _)
  have K2 : Hid (Holds ((w.alloc (.cells #[.bool f, .slice P xss.length c] 24)).alloc (.cells #[.slice none 0 0, .slice none 0 0, .slice none 0 0, .slice none 0 0] 30)) (w.heap.size + 1) 30 #[.slice none 0 0, .slice none 0 0, .slice none 0 0, .slice none 0 0]) := hid (Holds.new_at _ _ (by simp))
  have keyR := patRight_is f P c xss _ (by omega) (by omega) hB (hP.grown hG0.out)
  obtain ⟨yes, hyes⟩ : ∃ yes, right f xss = yes := ⟨_, rfl⟩
  rw [hyes] at keyR ⊢
  replace keyR := hid keyR
  have hno : Hid (∀ w' : World, w.grownBy w' none → TreeMade false (PlainTrie.make xss) w (.returned (.tuple #[treeV none none none none noTree 0 0 0 0, .int .i64 2])) w') := hid (fun w' hg => ⟨none, none, none, none, 0, 0, 0, 0, noTree, rfl, fun h => (by cases h), fun _ => rfl, ⟨Arr.nil _, Arr.nil _, Arr.nil _, Arr.nil _⟩, ⟨by simp, by simp, by simp, by simp⟩, ⟨by simp, by simp, by simp, by simp⟩, hg⟩)
  have hok : Hid (∀ (w' : World) (U D W B : Option Addr) (cu cd cw cb : Nat) (n : Nat), n = (PlainTrie.nodes xss).length → TreeAt w' U D W B (PlainTrie.make xss) → (n ≤ cu ∧ n ≤ cd ∧ n ≤ cw ∧ n ≤ cb) → (cu ≤ maxLen ∧ cd ≤ maxLen ∧ cw ≤ maxLen ∧ cb ≤ maxLen) → w.grownBy w' none → TreeMade true (PlainTrie.make xss) w (.returned (.tuple #[.agg #[.slice U n cu, .slice D n cd, .slice W n cw, .slice B n cb], .int .i64 0])) w') := hid (fun w' U D W B cu cd cw cb n h1 h2 h3 h4 h5 => by
    obtain ⟨l1, l2, l3, l4⟩ := PlainTrie.make_length xss
    subst h1
    refine ⟨U, D, W, B, cu, cd, cw, cb, PlainTrie.make xss, ?_, fun _ => rfl, fun h => (by cases h), h2, by rw [l1, l2, l3, l4]; exact h3, h4, h5⟩
    unfold treeV
    rw [l1, l2, l3, l4]
    rfl)
  replace hP := hid hP
  replace hB := hid hB
  cases yes with
  | false =>
    obtain ⟨R, hR⟩ : ∃ R, TreeMade false (PlainTrie.make xss) w = R := ⟨_, rfl⟩
    rw [hR] at hno ⊢
    clear hR hok
    have c0 := (K1.out.cell 0).trans (show _ = some (Value.bool f) from rfl)
    have c1 := (K1.out.cell 1).trans (show _ = some (Value.slice P xss.length c) from rfl)
    go_enter Try.func10, Try.ntmps10
    go_upto_region 1 with fail
    obtain ⟨V0, hV0⟩ : ∃ V0, ((w.alloc (.cells #[.bool f, .slice P xss.length c] 24)).alloc (.cells #[.slice none 0 0, .slice none 0 0, .slice none 0 0, .slice none 0 0] 30)) = V0 := ⟨_, rfl⟩
    rw [hV0] at K1 K2 hG0 c0 c1 keyR ⊢
    clear hV0
    obtain ⟨h, hh⟩ : ∃ h, w.heap.size = h := ⟨_, rfl⟩
    rw [hh] at K1 K2 c0 c1 ⊢
    replace hh := hid hh
    go_upto_region 2 with (go_at_call 27; refine keyR.out.mono ?_; rintro e w2 ⟨rfl, hg⟩; have hG2 := hid (grown_trans hG0.out hg); have HR2 := K2.out.kept0 hg; clear hg c0 c1)
    have e0 := (HR2.cell 0).trans (show _ = some (Value.slice none 0 0) from rfl)
    have e1 := (HR2.cell 1).trans (show _ = some (Value.slice none 0 0) from rfl)
    have e2 := (HR2.cell 2).trans (show _ = some (Value.slice none 0 0) from rfl)
    have e3 := (HR2.cell 3).trans (show _ = some (Value.slice none 0 0) from rfl)
    have f0 := HR2.free 0
    have f1 := HR2.free 1
    have f2 := HR2.free 2
    have f3 := HR2.free 3
    have hlt := HR2.lt
    have HF : Holds ((((w2.setCell ⟨h + 1, 0, none⟩ (.slice none 0 0)).setCell ⟨h + 1, 1, none⟩ (.slice none 0 0)).setCell ⟨h + 1, 2, none⟩ (.slice none 0 0)).setCell ⟨h + 1, 3, none⟩ (.slice none 0 0)) (h + 1) 30 #[.slice none 0 0, .slice none 0 0, .slice none 0 0, .slice none 0 0] := (((HR2.set 0 _).set 1 _).set 2 _).set 3 _
    have hGF : Hid (w.grownBy ((((w2.setCell ⟨h + 1, 0, none⟩ (.slice none 0 0)).setCell ⟨h + 1, 1, none⟩ (.slice none 0 0)).setCell ⟨h + 1, 2, none⟩ (.slice none 0 0)).setCell ⟨h + 1, 3, none⟩ (.slice none 0 0)) none) := hid (by
      have := hh.out
      exact grown_set (grown_set (grown_set (grown_set hG2.out (.inr (by simp; omega)) _) (.inr (by simp; omega)) _) (.inr (by simp; omega)) _) (.inr (by simp; omega)) _)
    have s0 := (HF.cell 0).trans (show _ = some (Value.slice none 0 0) from rfl)
    have s1 := (HF.cell 1).trans (show _ = some (Value.slice none 0 0) from rfl)
    have s2 := (HF.cell 2).trans (show _ = some (Value.slice none 0 0) from rfl)
    have s3 := (HF.cell 3).trans (show _ = some (Value.slice none 0 0) from rfl)
    clear HF HR2
    go_wp2_with fail
    exact bodyPost_ret (v := .tuple #[.agg #[.slice none 0 0, .slice none 0 0, .slice none 0 0, .slice none 0 0], .int .i64 2]) (by simp [results, Try.results10, go_sem, s0, s1, s2, s3]) rfl (hno.out _ hGF.out)
  | true =>
    have h1 := decide_eq_true_iff.1 hyes
    have hWd := hid (PlainTrie.right_fold f h1.1 h1.2)
    have hFi := hid hWd.out.fine
    clear h1 hno
    obtain ⟨R, hR⟩ : ∃ R, TreeMade true (PlainTrie.make xss) w = R := ⟨_, rfl⟩
    rw [hR] at hok ⊢
    clear hR
    have c0 := (K1.out.cell 0).trans (show _ = some (Value.bool f) from rfl)
    have c1 := (K1.out.cell 1).trans (show _ = some (Value.slice P xss.length c) from rfl)
    replace hyes := hid hyes
    go_enter Try.func10, Try.ntmps10
    go_upto_region 1 with fail
    obtain ⟨V0, hV0⟩ : ∃ V0, ((w.alloc (.cells #[.bool f, .slice P xss.length c] 24)).alloc (.cells #[.slice none 0 0, .slice none 0 0, .slice none 0 0, .slice none 0 0] 30)) = V0 := ⟨_, rfl⟩
    rw [hV0] at K1 K2 hG0 c0 c1 keyR ⊢
    clear hV0
    obtain ⟨h, hh⟩ : ∃ h, w.heap.size = h := ⟨_, rfl⟩
    rw [hh] at K1 K2 c0 c1 ⊢
    replace hh := hid hh
    go_upto_region 3 with (go_at_call 27; refine keyR.out.mono ?_; rintro e w2 ⟨rfl, hg⟩; have hG2 := hid (grown_trans hG0.out hg); have HR1 := hid (K1.out.kept0 hg); have HR2 := hid (K2.out.kept0 hg); clear hg c0 c1)
    have c1 := (HR1.out.cell 1).trans (show _ = some (Value.slice P xss.length c) from rfl)
    go_upto_region 4 with fail
    clear c1
    obtain ⟨hT, hhT⟩ : ∃ hT, w2.heap.size = hT := ⟨_, rfl⟩
    have hN400 : (PlainTrie.nodes xss).length ≤ 400 := by rw [PlainTrie.nodes_length]; exact hFi.out.nodes
    have hgrow := hid (grow_is w2 w2.heap.size P c xss (w2.alloc (.cells #[.slice none 0 0, .slice none 0 0, .slice none 0 0, .slice none 0 0, .slice P xss.length c, .slice none 0 0] 55)) (Nat.le_refl _) (grown_alloc (grown_refl w2 none) _) (Holds.new _ _ _) (hP.out.grown hG2.out) hFi.out.few hN400 (PlainTrie.nodes_short hFi.out) hFi.out.once (made_byte hB.out))
    obtain ⟨V3, hV3⟩ : ∃ V3, w2.alloc (.cells #[.slice none 0 0, .slice none 0 0, .slice none 0 0, .slice none 0 0, .slice P xss.length c, .slice none 0 0] 55) = V3 := ⟨_, rfl⟩
    rw [hhT, hV3] at hgrow
    try rw [hV3]
    rw [hhT]
    clear hV3
    replace hhT := hid hhT
    go_wp2_with fail
    refine hgrow.out.mono ?_
    rintro e w5 ⟨⟨v, rfl⟩, hx, xs, marks, S⟩
    obtain ⟨nu, nd, nv, nb, nn, U, D, V, B, Un, cu, cd, cv, cb, cn, ul, G, _⟩ := S.G
    obtain ⟨l1, l2, l3, l4⟩ := PlainTrie.make_length xss
    have G' := G
    rw [show (PlainTrie.make xss).up.take (PlainTrie.nodes xss).length = (PlainTrie.make xss).up by rw [← l1, List.take_length], show (PlainTrie.make xss).depth.take (PlainTrie.nodes xss).length = (PlainTrie.make xss).depth by rw [← l2, List.take_length], show (PlainTrie.make xss).word.take (PlainTrie.nodes xss).length = (PlainTrie.make xss).word by rw [← l3, List.take_length], show (PlainTrie.make xss).byte.take (PlainTrie.nodes xss).length = (PlainTrie.make xss).byte by rw [← l4, List.take_length]] at G'
    clear G S
    have e1 : nu = (PlainTrie.nodes xss).length := by rw [← G'.lu, l1]
    have e2 : nd = (PlainTrie.nodes xss).length := by rw [← G'.ld, l2]
    have e3 : nv = (PlainTrie.nodes xss).length := by rw [← G'.lv, l3]
    have e4 : nb = (PlainTrie.nodes xss).length := by rw [← G'.lb, l4]
    obtain ⟨n, hne⟩ : ∃ n, (PlainTrie.nodes xss).length = n := ⟨_, rfl⟩
    rw [hne] at e1 e2 e3 e4
    subst e1 e2 e3 e4
    have hhs : h + 1 < hT := by have h1 := HR2.out.lt; have h2 := hhT.out; omega
    have HR5 := HR2.out.kept0 G'.gr
    have t0 := (G'.T.cell 0).trans (show _ = some (Value.slice U _ cu) from rfl)
    have t1 := (G'.T.cell 1).trans (show _ = some (Value.slice D _ cd) from rfl)
    have t2 := (G'.T.cell 2).trans (show _ = some (Value.slice V _ cv) from rfl)
    have t3 := (G'.T.cell 3).trans (show _ = some (Value.slice B _ cb) from rfl)
    have a0 := (HR5.cell 0).trans (show _ = some (Value.slice none 0 0) from rfl)
    have a1 := (HR5.cell 1).trans (show _ = some (Value.slice none 0 0) from rfl)
    have a2 := (HR5.cell 2).trans (show _ = some (Value.slice none 0 0) from rfl)
    have a3 := (HR5.cell 3).trans (show _ = some (Value.slice none 0 0) from rfl)
    have f0 := HR5.free 0
    have f1 := HR5.free 1
    have f2 := HR5.free 2
    have f3 := HR5.free 3
    have l0 := HR5.lt
    have mu := own_cap (by have := G'.u; rw [G'.lu] at this; exact this)
    have md := own_cap (by have := G'.d; rw [G'.ld] at this; exact this)
    have mv := own_cap (by have := G'.v; rw [G'.lv] at this; exact this)
    have mb := own_cap (by have := G'.b; rw [G'.lb] at this; exact this)
    generalize hnn2 : nb = n at *
    have hS := hid ((((HR5.set 0 (.slice U n cu)).set 1 (.slice D n cd)).set 2 (.slice V n cv)).set 3 (.slice B n cb))
    have hG5 := hid (grown_trans hG2.out G'.gr)
    have hst : ∀ {e m k : Nat} {v x : Value} {xs : List Value} {W : World}, W.ownsRow (hT + 1) e 1 v m xs → (W.setCell ⟨h + 1, k, none⟩ x).ownsRow (hT + 1) e 1 v m xs := fun hh5 => grow_store hh5 (by omega)
    have hTr : Hid (TreeAt ((((w5.setCell ⟨h + 1, 0, none⟩ (.slice U n cu)).setCell ⟨h + 1, 1, none⟩ (.slice D n cd)).setCell ⟨h + 1, 2, none⟩ (.slice V n cv)).setCell ⟨h + 1, 3, none⟩ (.slice B n cb)) U D V B (PlainTrie.make xss)) := hid ⟨Arr.of_own (k := .i64) (by have := hst (k := 3) (x := .slice B n cb) (hst (k := 2) (x := .slice V n cv) (hst (k := 1) (x := .slice D n cd) (hst (k := 0) (x := .slice U n cu) G'.u))); rw [G'.lu] at this; exact this),
      Arr.of_own (k := .i64) (by have := hst (k := 3) (x := .slice B n cb) (hst (k := 2) (x := .slice V n cv) (hst (k := 1) (x := .slice D n cd) (hst (k := 0) (x := .slice U n cu) G'.d))); rw [G'.ld] at this; exact this),
      Arr.of_own (k := .i64) (by have := hst (k := 3) (x := .slice B n cb) (hst (k := 2) (x := .slice V n cv) (hst (k := 1) (x := .slice D n cd) (hst (k := 0) (x := .slice U n cu) G'.v))); rw [G'.lv] at this; exact this),
      Arr.of_own (k := .u8) (by have := hst (k := 3) (x := .slice B n cb) (hst (k := 2) (x := .slice V n cv) (hst (k := 1) (x := .slice D n cd) (hst (k := 0) (x := .slice U n cu) G'.b))); rw [G'.lb] at this; exact this)⟩
    have hGF : Hid (w.grownBy ((((w5.setCell ⟨h + 1, 0, none⟩ (.slice U n cu)).setCell ⟨h + 1, 1, none⟩ (.slice D n cd)).setCell ⟨h + 1, 2, none⟩ (.slice V n cv)).setCell ⟨h + 1, 3, none⟩ (.slice B n cb)) none) := hid (by
      have := hh.out
      exact grown_set (grown_set (grown_set (grown_set hG5.out (.inr (by simp; omega)) _) (.inr (by simp; omega)) _) (.inr (by simp; omega)) _) (.inr (by simp; omega)) _)
    have hfin := hid (hok.out _ U D V B cu cd cv cb n hne.symm hTr.out ⟨mu.2.1, md.2.1, mv.2.1, mb.2.1⟩ ⟨mu.2.2, md.2.2, mv.2.2, mb.2.2⟩ hGF.out)
    clear G' HR5 hst mu md mv mb l1 l2 l3 l4 hTr hGF
    replace hne := hid hne
    go_wp2_with fail
    have q0 := (hS.out.cell 0).trans (show _ = some (Value.slice U n cu) from rfl)
    have q1 := (hS.out.cell 1).trans (show _ = some (Value.slice D n cd) from rfl)
    have q2 := (hS.out.cell 2).trans (show _ = some (Value.slice V n cv) from rfl)
    have q3 := (hS.out.cell 3).trans (show _ = some (Value.slice B n cb) from rfl)
    exact bodyPost_ret (v := .tuple #[.agg #[.slice U n cu, .slice D n cd, .slice V n cv, .slice B n cb], .int .i64 0]) (by simp [results, Try.results10, go_sem, q0, q1, q2, q3]) rfl hfin.out

end Go.Proofs.Ytojbkhheaondhaa

namespace Go.Proofs.Ytojbkhheaondhaa
open PlainLetter

/-- he, she, her. -/
def ws3 : List (List Int) := [[104, 101], [115, 104, 101], [104, 101, 114]]
def tree3 : PlainTrie.Tree := ⟨[0, 0, 0, 1, 2, 3, 4], [0, 1, 1, 2, 2, 3, 3], [-1, -1, -1, 0, -1, 2, 1], [0, 104, 115, 101, 104, 114, 101]⟩
theorem make3 : PlainTrie.make ws3 = tree3 := by kernel_rfl
theorem right_ws3 : right false ws3 = true := by kernel_rfl
theorem right_none : right false [] = false := by kernel_rfl
theorem right3 : PlainTrie.right tree3 = true := by kernel_rfl
theorem words3 : PlainTrie.words tree3 = ws3 := by kernel_rfl
theorem kid3r : kidAt tree3 3 114 = (5, true) := by kernel_rfl
theorem kid3x : kidAt tree3 3 120 = (0, false) := by kernel_rfl
theorem find3sh : foundAt tree3 [115, 104] = (4, true) := by kernel_rfl
theorem find3root : foundAt tree3 [] = (0, true) := by kernel_rfl
theorem find3e : foundAt tree3 [101] = (0, false) := by kernel_rfl
theorem spell3 : there tree3 6 = true ∧ PlainTrie.spell tree3 6 = [115, 104, 101] := ⟨by kernel_rfl, by kernel_rfl⟩
theorem spell3no : there tree3 7 = false := by kernel_rfl
theorem right0 : PlainTrie.right noTree = false := by kernel_rfl
theorem same3 : decide (tree3 = noTree) = false := by kernel_rfl
theorem wf3 : ∀ x ∈ tree3.word, (Lit.int .i64 x).wf = true := by decide
theorem bytes_all (l : List Int) (h : l.all (fun x => decide (0 ≤ x ∧ x ≤ 255)) = true) : Bytes l := fun k => by
  by_cases hk : k < l.length
  · have := List.all_eq_true.1 h (l.getD k 0) (by simp [List.getD, hk])
    simpa using this
  · simp [List.getD, List.getElem?_eq_none (Nat.le_of_not_lt hk)]
theorem bytes3 : Bytes tree3.byte := bytes_all _ (by decide)
theorem bytes_ws3 : ∀ i, Bytes (ws3.getD i []) := fun i => by
  by_cases hi : i < 3
  · match i, hi with
    | 0, _ => exact bytes_all _ (by decide)
    | 1, _ => exact bytes_all _ (by decide)
    | 2, _ => exact bytes_all _ (by decide)
  · rw [show ws3.getD i [] = [] by simp [ws3, List.getD, List.getElem?_eq_none (show ([[104, 101], [115, 104, 101], [104, 101, 114]] : List (List Int)).length ≤ i by simp; omega)]]
    exact fun k => by simp

end Go.Proofs.Ytojbkhheaondhaa

namespace Go.Proofs.Ytojbkhheaondhaa
open Go.RowKit PlainLetter

theorem three_is (w : World) : Calls Try.prog 23 #[] w fun e w' => ∃ A c, e = .returned (.agg #[.bool false, .slice A 3 c]) ∧ Arrs w' A ws3 ∧ w.grownBy w' none := by
  have kc := conv_const
  go_enter Try.func23, Try.ntmps23
  go_wp2_with fail
  have H0 : Holds (((((w.alloc (.cells #[.bool false, .slice (some ⟨w.heap.size + 1 + 1 + 1 + 1, 0, none⟩) 3 3] 24)).alloc (.cells #[.int .u8 104, .int .u8 101] 5 (2, 3))).alloc (.cells #[.int .u8 115, .int .u8 104, .int .u8 101] 5 (3, 4))).alloc (.cells #[.int .u8 104, .int .u8 101, .int .u8 114] 5 (3, 4))).alloc (.cells #[.slice (some ⟨w.heap.size + 1, 0, none⟩) 2 2, .slice (some ⟨w.heap.size + 1 + 1, 0, none⟩) 3 3, .slice (some ⟨w.heap.size + 1 + 1 + 1, 0, none⟩) 3 3] 28)) w.heap.size 24 #[.bool false, .slice (some ⟨w.heap.size + 1 + 1 + 1 + 1, 0, none⟩) 3 3] := ((((Holds.new _ _ _).alloc _).alloc _).alloc _).alloc _
  have H1 : Holds (((((w.alloc (.cells #[.bool false, .slice (some ⟨w.heap.size + 1 + 1 + 1 + 1, 0, none⟩) 3 3] 24)).alloc (.cells #[.int .u8 104, .int .u8 101] 5 (2, 3))).alloc (.cells #[.int .u8 115, .int .u8 104, .int .u8 101] 5 (3, 4))).alloc (.cells #[.int .u8 104, .int .u8 101, .int .u8 114] 5 (3, 4))).alloc (.cells #[.slice (some ⟨w.heap.size + 1, 0, none⟩) 2 2, .slice (some ⟨w.heap.size + 1 + 1, 0, none⟩) 3 3, .slice (some ⟨w.heap.size + 1 + 1 + 1, 0, none⟩) 3 3] 28)) (w.heap.size + 1 + 1 + 1 + 1) 28 #[.slice (some ⟨w.heap.size + 1, 0, none⟩) 2 2, .slice (some ⟨w.heap.size + 1 + 1, 0, none⟩) 3 3, .slice (some ⟨w.heap.size + 1 + 1 + 1, 0, none⟩) 3 3] := by
    refine Holds.new_at _ _ ?_
    simp
  have a1 : Arr (((((w.alloc (.cells #[.bool false, .slice (some ⟨w.heap.size + 1 + 1 + 1 + 1, 0, none⟩) 3 3] 24)).alloc (.cells #[.int .u8 104, .int .u8 101] 5 (2, 3))).alloc (.cells #[.int .u8 115, .int .u8 104, .int .u8 101] 5 (3, 4))).alloc (.cells #[.int .u8 104, .int .u8 101, .int .u8 114] 5 (3, 4))).alloc (.cells #[.slice (some ⟨w.heap.size + 1, 0, none⟩) 2 2, .slice (some ⟨w.heap.size + 1 + 1, 0, none⟩) 3 3, .slice (some ⟨w.heap.size + 1 + 1 + 1, 0, none⟩) 3 3] 28)) .u8 (some ⟨w.heap.size + 1, 0, none⟩) [104, 101] := (((const_at [104, 101] (2, 3) (by simp)).grown (grown_alloc (grown_refl _ _) _)).grown (grown_alloc (grown_refl _ _) _)).grown (grown_alloc (grown_refl _ _) _)
  have a2 : Arr (((((w.alloc (.cells #[.bool false, .slice (some ⟨w.heap.size + 1 + 1 + 1 + 1, 0, none⟩) 3 3] 24)).alloc (.cells #[.int .u8 104, .int .u8 101] 5 (2, 3))).alloc (.cells #[.int .u8 115, .int .u8 104, .int .u8 101] 5 (3, 4))).alloc (.cells #[.int .u8 104, .int .u8 101, .int .u8 114] 5 (3, 4))).alloc (.cells #[.slice (some ⟨w.heap.size + 1, 0, none⟩) 2 2, .slice (some ⟨w.heap.size + 1 + 1, 0, none⟩) 3 3, .slice (some ⟨w.heap.size + 1 + 1 + 1, 0, none⟩) 3 3] 28)) .u8 (some ⟨w.heap.size + 1 + 1, 0, none⟩) [115, 104, 101] := ((const_at [115, 104, 101] (3, 4) (by simp)).grown (grown_alloc (grown_refl _ _) _)).grown (grown_alloc (grown_refl _ _) _)
  have a3 : Arr (((((w.alloc (.cells #[.bool false, .slice (some ⟨w.heap.size + 1 + 1 + 1 + 1, 0, none⟩) 3 3] 24)).alloc (.cells #[.int .u8 104, .int .u8 101] 5 (2, 3))).alloc (.cells #[.int .u8 115, .int .u8 104, .int .u8 101] 5 (3, 4))).alloc (.cells #[.int .u8 104, .int .u8 101, .int .u8 114] 5 (3, 4))).alloc (.cells #[.slice (some ⟨w.heap.size + 1, 0, none⟩) 2 2, .slice (some ⟨w.heap.size + 1 + 1, 0, none⟩) 3 3, .slice (some ⟨w.heap.size + 1 + 1 + 1, 0, none⟩) 3 3] 28)) .u8 (some ⟨w.heap.size + 1 + 1 + 1, 0, none⟩) [104, 101, 114] := (const_at [104, 101, 114] (3, 4) (by simp)).grown (grown_alloc (grown_refl _ _) _)
  have hA : Arrs (((((w.alloc (.cells #[.bool false, .slice (some ⟨w.heap.size + 1 + 1 + 1 + 1, 0, none⟩) 3 3] 24)).alloc (.cells #[.int .u8 104, .int .u8 101] 5 (2, 3))).alloc (.cells #[.int .u8 115, .int .u8 104, .int .u8 101] 5 (3, 4))).alloc (.cells #[.int .u8 104, .int .u8 101, .int .u8 114] 5 (3, 4))).alloc (.cells #[.slice (some ⟨w.heap.size + 1, 0, none⟩) 2 2, .slice (some ⟨w.heap.size + 1 + 1, 0, none⟩) 3 3, .slice (some ⟨w.heap.size + 1 + 1 + 1, 0, none⟩) 3 3] 28)) (some ⟨w.heap.size + 1 + 1 + 1 + 1, 0, none⟩) ws3 := Arrs.three (c := 2) (c2 := 3) (c3 := 3) (xs := [104, 101]) (ys := [115, 104, 101]) (zs := [104, 101, 114]) H1 a1 a2 a3
  have hG : w.grownBy (((((w.alloc (.cells #[.bool false, .slice (some ⟨w.heap.size + 1 + 1 + 1 + 1, 0, none⟩) 3 3] 24)).alloc (.cells #[.int .u8 104, .int .u8 101] 5 (2, 3))).alloc (.cells #[.int .u8 115, .int .u8 104, .int .u8 101] 5 (3, 4))).alloc (.cells #[.int .u8 104, .int .u8 101, .int .u8 114] 5 (3, 4))).alloc (.cells #[.slice (some ⟨w.heap.size + 1, 0, none⟩) 2 2, .slice (some ⟨w.heap.size + 1 + 1, 0, none⟩) 3 3, .slice (some ⟨w.heap.size + 1 + 1 + 1, 0, none⟩) 3 3] 28)) none := grown_alloc (grown_alloc (grown_alloc (grown_alloc (grown_alloc (grown_refl w none) _) _) _) _) _
  obtain ⟨W0, hW0⟩ : ∃ W0, (((((w.alloc (.cells #[.bool false, .slice (some ⟨w.heap.size + 1 + 1 + 1 + 1, 0, none⟩) 3 3] 24)).alloc (.cells #[.int .u8 104, .int .u8 101] 5 (2, 3))).alloc (.cells #[.int .u8 115, .int .u8 104, .int .u8 101] 5 (3, 4))).alloc (.cells #[.int .u8 104, .int .u8 101, .int .u8 114] 5 (3, 4))).alloc (.cells #[.slice (some ⟨w.heap.size + 1, 0, none⟩) 2 2, .slice (some ⟨w.heap.size + 1 + 1, 0, none⟩) 3 3, .slice (some ⟨w.heap.size + 1 + 1 + 1, 0, none⟩) 3 3] 28)) = W0 := ⟨_, rfl⟩
  rw [hW0] at H0 hA hG ⊢
  clear hW0 H1 a1 a2 a3 kc
  have c0 := H0.cell 0
  have c1 := H0.cell 1
  simp at c0 c1
  refine bodyPost_ret (v := .agg #[.bool false, .slice (some ⟨w.heap.size + 1 + 1 + 1 + 1, 0, none⟩) 3 3]) (by simp [results, Try.results23, go_sem, c0, c1]) rfl ⟨_, _, rfl, hA, hG⟩

/-- A convert of a constant text's bytes, wherever its block lies: its mark is set, its cells are as they were. -/
theorem run_convert_mark (w : World) (g n c : Nat) (C : Array Value) (fr : Nat × Nat) (hC : w.heap[g]? = some (.cells C 5 fr)) :
    (convert 28 28 (.slice (some ⟨g, 0, none⟩) n c)).run Try.prog w = .ok (.slice (some ⟨g, 0, none⟩) n c) (w.freeze ⟨g, C.size, none⟩ 1) := by
  have hsh : w.shape? g = some (5, C.size) := by unfold World.shape?; rw [hC]
  simp [convert, run_underlying Try.underlying28, run_underlying Try.underlying5, markStringish, hsh]

end Go.Proofs.Ytojbkhheaondhaa

namespace Go.Proofs.Ytojbkhheaondhaa
open PlainLetter PlainPatset

theorem set_words {f : Bool} {xss : List (List Int)} (h : right f xss = true) : PlainTrie.Words xss :=
  PlainTrie.right_fold f (decide_eq_true_iff.1 h).1 (decide_eq_true_iff.1 h).2
theorem set_mem {ws : List (List Int)} (h : PlainTrie.Words ws) (b : List Int) : b ∈ PlainTrie.nodes ws ↔ ∃ x ∈ ws, b <+: x := by
  rw [PlainTrie.mem_nodes]
  constructor
  · rintro (rfl | h')
    · obtain ⟨x, hx⟩ := List.exists_mem_of_ne_nil ws h.fine.some
      exact ⟨x, hx, List.nil_prefix⟩
    · exact h'
  · exact .inr
/-- What is found in a set's trie. -/
theorem found_yes {ws : List (List Int)} (h : PlainTrie.Words ws) {b : List Int} (hb : b ∈ PlainTrie.nodes ws) : foundAt (PlainTrie.make ws) b = (((PlainTrie.nodes ws).idxOf b : Int), true) := by
  unfold foundAt
  rw [PlainTrie.right_make h, PlainTrie.words_make h.fine, PlainTrie.place_mem hb, if_pos ⟨rfl, by omega⟩]
theorem found_no {ws : List (List Int)} (h : PlainTrie.Words ws) {b : List Int} (hb : b ∉ PlainTrie.nodes ws) : foundAt (PlainTrie.make ws) b = (0, false) := by
  unfold foundAt
  rw [PlainTrie.right_make h, PlainTrie.words_make h.fine, PlainTrie.place_none hb, if_neg (by omega)]
theorem set_there {ws : List (List Int)} (h : PlainTrie.Words ws) {i : Nat} (hi : i < (PlainTrie.nodes ws).length) : there (PlainTrie.make ws) i = true ∧ PlainTrie.spell (PlainTrie.make ws) i = (PlainTrie.nodes ws)[i] := by
  refine ⟨?_, PlainTrie.spell_make h.fine i hi⟩
  unfold there
  rw [PlainTrie.right_make h, decide_eq_true ⟨by omega, by rw [(PlainTrie.make_length ws).1]; omega⟩]; rfl
theorem set_spell {ws : List (List Int)} (h : PlainTrie.Words ws) {b : List Int} (hb : b ∈ PlainTrie.nodes ws) :
    there (PlainTrie.make ws) ((PlainTrie.nodes ws).idxOf b : Int) = true ∧ PlainTrie.spell (PlainTrie.make ws) ((PlainTrie.nodes ws).idxOf b : Int) = b := by
  have hi := List.idxOf_lt_length_iff.2 hb
  obtain ⟨h1, h2⟩ := set_there h hi
  exact ⟨h1, h2.trans (List.getElem_idxOf hi)⟩

/-- Does any of the first words begin so? -/
def begTo (ws : List (List Int)) (b : List Int) : Nat → Bool
  | 0 => false
  | k + 1 => begTo ws b k || stands false (ws.getD k []) b.length b
theorem stands_begin (x b : List Int) : stands false x b.length b = true ↔ b <+: x := by
  unfold stands
  rw [same_false, Int.toNat_natCast, Nat.sub_self, List.drop_zero, Bool.and_eq_true, decide_eq_true_iff, decide_eq_true_iff]
  constructor
  · rintro ⟨_, h⟩
    exact List.prefix_iff_eq_take.2 h.symm
  · rintro ⟨r, rfl⟩
    exact ⟨⟨by omega, by simp; omega⟩, by simp⟩
theorem begTo_iff (ws : List (List Int)) (b : List Int) : ∀ k, k ≤ ws.length → (begTo ws b k = true ↔ ∃ x ∈ ws.take k, b <+: x)
  | 0, _ => by simp [begTo]
  | k + 1, hk => by
    have hk' : k < ws.length := by omega
    unfold begTo
    rw [Bool.or_eq_true, begTo_iff ws b k (by omega), stands_begin, List.take_succ_eq_append_getElem hk']
    have e : ws.getD k [] = ws[k] := by simp [List.getD, hk']
    rw [e]
    simp only [List.mem_append, List.mem_singleton]
    constructor
    · rintro (⟨x, h1, h2⟩ | h)
      · exact ⟨x, .inl h1, h2⟩
      · exact ⟨_, .inr rfl, h⟩
    · rintro ⟨x, h1 | rfl, h2⟩
      · exact .inl ⟨x, h1, h2⟩
      · exact .inr h2
theorem begTo_all {ws : List (List Int)} (h : PlainTrie.Words ws) (b : List Int) : begTo ws b ws.length = true ↔ b ∈ PlainTrie.nodes ws := by
  rw [begTo_iff ws b _ (Nat.le_refl _), List.take_length, set_mem h]
theorem made_wf {ws : List (List Int)} (h : PlainTrie.Words ws) : ∀ x ∈ (PlainTrie.make ws).word, (Lit.int .i64 x).wf = true := fun x hx => by
  obtain ⟨i, hi, e⟩ := PlainTrie.mem_getD.1 hx
  rw [(PlainTrie.make_length ws).2.2.1] at hi
  rw [PlainTrie.word_make ws i hi] at e
  have h1 := PlainTrie.place_lt ws (PlainTrie.nodes ws)[i]
  have h2 := h.fine.few
  have h3 : -1 ≤ x := by rw [← e]; unfold PlainTrie.place; split <;> omega
  have : x ≤ 64 := by omega
  simp only [Lit.wf]
  rw [show IntKind.i64.min = -9223372036854775808 from rfl, show IntKind.i64.max = 9223372036854775807 from rfl]
  simp only [Bool.and_eq_true, decide_eq_true_eq]
  omega

end Go.Proofs.Ytojbkhheaondhaa
