/- Package trie: may it be a tree?. -/
import Derived.Test.YtojbkhheaondhaaK22
import Derived.Test.YtojbkhheaondhaaTRising
import Derived.Test.YtojbkhheaondhaaK25
import Derived.Test.YtojbkhheaondhaaTNum
set_option linter.unusedSimpArgs false
set_option linter.unusedVariables false
set_option maxRecDepth 100000
namespace Go.Proofs.Ytojbkhheaondhaa
open Go.RowKit PlainLetter

theorem keys_ex : ∀ l : List Int, ∃ K : List Int, K.Nodup ∧ ∀ k, k ∈ K ↔ k ≠ -1 ∧ k ∈ l
  | [] => ⟨[], List.nodup_nil, fun k => by simp⟩
  | x :: l => by
    obtain ⟨K, h1, h2⟩ := keys_ex l
    by_cases hx : x = -1 ∨ x ∈ K
    · refine ⟨K, h1, fun k => ?_⟩
      rw [h2, List.mem_cons]
      constructor
      · rintro ⟨a, b⟩; exact ⟨a, .inr b⟩
      · rintro ⟨a, rfl | b⟩
        · rcases hx with h | h
          · exact absurd h a
          · exact (h2 k).1 h
        · exact ⟨a, b⟩
    · refine ⟨x :: K, List.nodup_cons.2 ⟨fun h => hx (.inr h), h1⟩, fun k => ?_⟩
      rw [List.mem_cons, h2, List.mem_cons]
      constructor
      · rintro (rfl | ⟨a, b⟩)
        · exact ⟨fun e => hx (.inl e), .inl rfl⟩
        · exact ⟨a, .inr b⟩
      · rintro ⟨a, rfl | b⟩
        · exact .inl rfl
        · exact .inr ⟨a, b⟩
theorem keys_len {t : PlainTrie.Tree} {K L : List Int} (h : PlainTrie.Keys t K) (h' : PlainTrie.Keys t L) : K.length = L.length := by
  have h1 := PlainTrie.nodup_sub h.1 (fun x hx => (h'.2 x).2 ((h.2 x).1 hx))
  have h2 := PlainTrie.nodup_sub h'.1 (fun x hx => (h.2 x).2 ((h'.2 x).1 hx))
  omega
theorem numbered_any {t : PlainTrie.Tree} {K L : List Int} (h : PlainTrie.Keys t K) (h' : PlainTrie.Keys t L) : PlainTrie.Numbered t K ↔ PlainTrie.Numbered t L := by
  unfold PlainTrie.Numbered
  rw [keys_len h h']

theorem tt_iff {p : Prop} (h : p) : true = true ↔ p := ⟨fun _ => h, fun _ => rfl⟩
theorem ff_iff {p : Prop} (h : ¬ p) : false = true ↔ p := ⟨fun e => (by cases e), fun e => absurd e h⟩
/-- A tree that comes in, with room, its words' numbers such as there are. -/
structure TreeOk (w : World) (U D W B : Option Addr) (cu cd cw cb : Nat) (t : PlainTrie.Tree) : Prop where
  at_ : TreeAt w U D W B t
  bytes : Bytes t.byte
  words : ∀ x ∈ t.word, (Lit.int .i64 x).wf = true
  ru : t.up.length ≤ cu
theorem TreeOk.grown {w w' : World} {U D W B : Option Addr} {cu cd cw cb : Nat} {t : PlainTrie.Tree} (h : TreeOk w U D W B cu cd cw cb t) (hg : w.grownBy w' none) : TreeOk w' U D W B cu cd cw cb t :=
  ⟨h.at_.grown hg, h.bytes, h.words, h.ru⟩

set_option maxHeartbeats 4000000 in
theorem tRight_is (U D W B : Option Addr) (cu cd cw cb : Nat) (t : PlainTrie.Tree) (w : World) (hT : TreeOk w U D W B cu cd cw cb t) :
    Calls Try.prog 11 #[treeV U D W B t cu cd cw cb] w fun e w' => e = .returned (.bool (PlainTrie.right t)) ∧ w.grownBy w' none := by
  have hev := hid (fun (w : World) => even_is U D W B cu cd cw cb t w)
  have hro := hid (fun (hE : PlainTrie.Even t) (w : World) (h : TreeOk w U D W B cu cd cw cb t) => rooted_is U D W B cu cd cw cb t w hE h.at_)
  have hri := hid (fun (X : Bool) (hX : X = true ↔ PlainTrie.Rising t) (hE : PlainTrie.Even t) (hr : t.depth.getD 0 0 = 0) (w : World) (h : TreeOk w U D W B cu cd cw cb t) => rising_is U D W B cu cd cw cb t w X hX hE hr h.at_)
  have hen := hid (fun (X : Bool) (hX : X = true ↔ PlainTrie.Ended t) (hE : PlainTrie.Even t) (hR : PlainTrie.Rising t) (w : World) (h : TreeOk w U D W B cu cd cw cb t) => ended_is U D W B cu cd cw cb t w X hX hE hR h.ru h.at_)
  have hnu := hid (fun (X : Bool) (hX : ∀ K, PlainTrie.Keys t K → (X = true ↔ PlainTrie.Numbered t K)) (hE : PlainTrie.Even t) (w : World) (h : TreeOk w U D W B cu cd cw cb t) => numbered_is U D W B cu cd cw cb t w X hX hE h.words h.at_)
  have hbo := hid (fun (X : Bool) (hX : X = true ↔ PlainTrie.Bounded t) (hE : PlainTrie.Even t) (hdb : ∀ i, i < t.word.length → 0 ≤ t.depth.getD i 0 ∧ t.depth.getD i 0 ≤ 400) (w : World) (h : TreeOk w U D W B cu cd cw cb t) => bounded_is U D W B cu cd cw cb t w X hX hE hdb h.at_)
  have hf := hid (fun (h : PlainTrie.right t = true) => PlainTrie.right_form h)
  obtain ⟨K, hK⟩ := keys_ex t.word
  replace hK : Hid (PlainTrie.Keys t K) := hid hK
  have hTg := hid (fun (w' : World) (h : w.grownBy w' none) => hT.grown h)
  clear hT
  obtain ⟨X, hX⟩ : ∃ X, PlainTrie.right t = X := ⟨_, rfl⟩
  rw [hX] at hf ⊢
  obtain ⟨u, d, o, b⟩ := t
  have hG0 : Hid (w.grownBy (w.alloc (.cells #[.slice U u.length cu, .slice D d.length cd, .slice W o.length cw, .slice B b.length cb] 30)) none) := grown_alloc (grown_refl w none) _
  have K1 : Hid (Holds (w.alloc (.cells #[.slice U u.length cu, .slice D d.length cd, .slice W o.length cw, .slice B b.length cb] 30)) w.heap.size 30 #[.slice U u.length cu, .slice D d.length cd, .slice W o.length cw, .slice B b.length cb]) := Holds.new _ _ _
  by_cases q0 : PlainTrie.Even ⟨u, d, o, b⟩
  · by_cases q1 : PlainTrie.Rooted ⟨u, d, o, b⟩
    · by_cases q2 : PlainTrie.Rising ⟨u, d, o, b⟩
      · by_cases q3 : PlainTrie.Ended ⟨u, d, o, b⟩
        · by_cases q4 : PlainTrie.Numbered ⟨u, d, o, b⟩ K
          · by_cases q5 : PlainTrie.Bounded ⟨u, d, o, b⟩
            · have hV : Hid (X = true) := hid (by rw [← hX]; exact PlainTrie.Formed.is_right (K := K) ⟨⟨q0, q1, q2⟩, q3, hK.out, q4, q5⟩)
              clear hX hf
              have hdb := hid (depth_bound q1.2.1 (j := u.length) (fun k k0 k1 => q2 k k0 k1))
              have hdb2 : ∀ i, i < o.length → 0 ≤ d.getD i 0 ∧ d.getD i 0 ≤ 400 := fun i hi => by
                have h1 := q0.2.1
                have h2 := q0.2.2.2.1
                simp only at h1 h2
                have h5 : 0 ≤ d.getD i 0 ∧ d.getD i 0 ≤ (i : Int) := hdb.out i (by omega)
                omega
              clear hdb
              have hdb := hid hdb2
              clear hdb2
              replace q0 := hid q0
              replace q1 := hid q1
              replace q2 := hid q2
              replace q3 := hid q3
              replace q4 := hid q4
              replace q5 := hid q5
              go_enter Try.func11, Try.ntmps11
              go_upto_region 1 with fail
              obtain ⟨W0, hW0⟩ : ∃ W0, w.alloc (.cells #[.slice U u.length cu, .slice D d.length cd, .slice W o.length cw, .slice B b.length cb] 30) = W0 := ⟨_, rfl⟩
              rw [hW0] at K1 hG0 ⊢
              clear hW0
              obtain ⟨h, hh⟩ : ∃ h, w.heap.size = h := ⟨_, rfl⟩
              rw [hh] at K1 ⊢
              replace hh := hid hh
              have c0 := (K1.out.cell 0).trans (show _ = some (Value.slice U u.length cu) from rfl)
              have c1 := (K1.out.cell 1).trans (show _ = some (Value.slice D d.length cd) from rfl)
              have c2 := (K1.out.cell 2).trans (show _ = some (Value.slice W o.length cw) from rfl)
              have c3 := (K1.out.cell 3).trans (show _ = some (Value.slice B b.length cb) from rfl)
              go_wp2_with fail
              have hc0 := (hev.out W0)
              rw [decide_eq_true q0.out] at hc0
              refine hc0.mono ?_
              rintro e w1 ⟨rfl, hg⟩
              clear hc0
              have g1 := hid (grown_trans hG0.out hg)
              have L1 := hid (K1.out.kept0 hg)
              clear hg c0 c1 c2 c3
              have c0 := (L1.out.cell 0).trans (show _ = some (Value.slice U u.length cu) from rfl)
              have c1 := (L1.out.cell 1).trans (show _ = some (Value.slice D d.length cd) from rfl)
              have c2 := (L1.out.cell 2).trans (show _ = some (Value.slice W o.length cw) from rfl)
              have c3 := (L1.out.cell 3).trans (show _ = some (Value.slice B b.length cb) from rfl)
              go_wp2_with fail
              have hc1 := (hro.out q0.out w1 (hTg.out w1 g1.out))
              rw [decide_eq_true q1.out] at hc1
              refine hc1.mono ?_
              rintro e w2 ⟨rfl, hg⟩
              clear hc1
              have g2 := hid (grown_trans g1.out hg)
              have L2 := hid (L1.out.kept0 hg)
              clear hg c0 c1 c2 c3
              have c0 := (L2.out.cell 0).trans (show _ = some (Value.slice U u.length cu) from rfl)
              have c1 := (L2.out.cell 1).trans (show _ = some (Value.slice D d.length cd) from rfl)
              have c2 := (L2.out.cell 2).trans (show _ = some (Value.slice W o.length cw) from rfl)
              have c3 := (L2.out.cell 3).trans (show _ = some (Value.slice B b.length cb) from rfl)
              go_wp2_with fail
              have hc2 := (hri.out true (tt_iff q2.out) q0.out q1.out.2.1 w2 (hTg.out w2 g2.out))
              refine hc2.mono ?_
              rintro e w3 ⟨rfl, hg⟩
              clear hc2
              have g3 := hid (grown_trans g2.out hg)
              have L3 := hid (L2.out.kept0 hg)
              clear hg c0 c1 c2 c3
              have c0 := (L3.out.cell 0).trans (show _ = some (Value.slice U u.length cu) from rfl)
              have c1 := (L3.out.cell 1).trans (show _ = some (Value.slice D d.length cd) from rfl)
              have c2 := (L3.out.cell 2).trans (show _ = some (Value.slice W o.length cw) from rfl)
              have c3 := (L3.out.cell 3).trans (show _ = some (Value.slice B b.length cb) from rfl)
              go_wp2_with fail
              have hc3 := (hen.out true (tt_iff q3.out) q0.out q2.out w3 (hTg.out w3 g3.out))
              refine hc3.mono ?_
              rintro e w4 ⟨rfl, hg⟩
              clear hc3
              have g4 := hid (grown_trans g3.out hg)
              have L4 := hid (L3.out.kept0 hg)
              clear hg c0 c1 c2 c3
              have c0 := (L4.out.cell 0).trans (show _ = some (Value.slice U u.length cu) from rfl)
              have c1 := (L4.out.cell 1).trans (show _ = some (Value.slice D d.length cd) from rfl)
              have c2 := (L4.out.cell 2).trans (show _ = some (Value.slice W o.length cw) from rfl)
              have c3 := (L4.out.cell 3).trans (show _ = some (Value.slice B b.length cb) from rfl)
              go_wp2_with fail
              have hc4 := (hnu.out true (fun L hL => tt_iff ((numbered_any hK.out hL).1 q4.out)) q0.out w4 (hTg.out w4 g4.out))
              refine hc4.mono ?_
              rintro e w5 ⟨rfl, hg⟩
              clear hc4
              have g5 := hid (grown_trans g4.out hg)
              have L5 := hid (L4.out.kept0 hg)
              clear hg c0 c1 c2 c3
              have c0 := (L5.out.cell 0).trans (show _ = some (Value.slice U u.length cu) from rfl)
              have c1 := (L5.out.cell 1).trans (show _ = some (Value.slice D d.length cd) from rfl)
              have c2 := (L5.out.cell 2).trans (show _ = some (Value.slice W o.length cw) from rfl)
              have c3 := (L5.out.cell 3).trans (show _ = some (Value.slice B b.length cb) from rfl)
              go_wp2_with fail
              have hc5 := (hbo.out true (tt_iff q5.out) q0.out hdb.out w5 (hTg.out w5 g5.out))
              refine hc5.mono ?_
              rintro e w6 ⟨rfl, hg⟩
              clear hc5
              have g6 := hid (grown_trans g5.out hg)
              have L6 := hid (L5.out.kept0 hg)
              clear hg c0 c1 c2 c3
              have c0 := (L6.out.cell 0).trans (show _ = some (Value.slice U u.length cu) from rfl)
              have c1 := (L6.out.cell 1).trans (show _ = some (Value.slice D d.length cd) from rfl)
              have c2 := (L6.out.cell 2).trans (show _ = some (Value.slice W o.length cw) from rfl)
              have c3 := (L6.out.cell 3).trans (show _ = some (Value.slice B b.length cb) from rfl)
              clear c0 c1 c2 c3
              go_wp2_with fail
              go_ret
              exact ⟨by rw [hV.out]; rfl, g6.out⟩

            · have hV : Hid (X = false) := hid (by cases X with | false => rfl | true => exact absurd (hf.out rfl).2.2.2.2.2 q5)
              clear hX hf
              have hdb := hid (depth_bound q1.2.1 (j := u.length) (fun k k0 k1 => q2 k k0 k1))
              have hdb2 : ∀ i, i < o.length → 0 ≤ d.getD i 0 ∧ d.getD i 0 ≤ 400 := fun i hi => by
                have h1 := q0.2.1
                have h2 := q0.2.2.2.1
                simp only at h1 h2
                have h5 : 0 ≤ d.getD i 0 ∧ d.getD i 0 ≤ (i : Int) := hdb.out i (by omega)
                omega
              clear hdb
              have hdb := hid hdb2
              clear hdb2
              replace q0 := hid q0
              replace q1 := hid q1
              replace q2 := hid q2
              replace q3 := hid q3
              replace q4 := hid q4
              replace q5 := hid q5
              go_enter Try.func11, Try.ntmps11
              go_upto_region 1 with fail
              obtain ⟨W0, hW0⟩ : ∃ W0, w.alloc (.cells #[.slice U u.length cu, .slice D d.length cd, .slice W o.length cw, .slice B b.length cb] 30) = W0 := ⟨_, rfl⟩
              rw [hW0] at K1 hG0 ⊢
              clear hW0
              obtain ⟨h, hh⟩ : ∃ h, w.heap.size = h := ⟨_, rfl⟩
              rw [hh] at K1 ⊢
              replace hh := hid hh
              have c0 := (K1.out.cell 0).trans (show _ = some (Value.slice U u.length cu) from rfl)
              have c1 := (K1.out.cell 1).trans (show _ = some (Value.slice D d.length cd) from rfl)
              have c2 := (K1.out.cell 2).trans (show _ = some (Value.slice W o.length cw) from rfl)
              have c3 := (K1.out.cell 3).trans (show _ = some (Value.slice B b.length cb) from rfl)
              go_wp2_with fail
              have hc0 := (hev.out W0)
              rw [decide_eq_true q0.out] at hc0
              refine hc0.mono ?_
              rintro e w1 ⟨rfl, hg⟩
              clear hc0
              have g1 := hid (grown_trans hG0.out hg)
              have L1 := hid (K1.out.kept0 hg)
              clear hg c0 c1 c2 c3
              have c0 := (L1.out.cell 0).trans (show _ = some (Value.slice U u.length cu) from rfl)
              have c1 := (L1.out.cell 1).trans (show _ = some (Value.slice D d.length cd) from rfl)
              have c2 := (L1.out.cell 2).trans (show _ = some (Value.slice W o.length cw) from rfl)
              have c3 := (L1.out.cell 3).trans (show _ = some (Value.slice B b.length cb) from rfl)
              go_wp2_with fail
              have hc1 := (hro.out q0.out w1 (hTg.out w1 g1.out))
              rw [decide_eq_true q1.out] at hc1
              refine hc1.mono ?_
              rintro e w2 ⟨rfl, hg⟩
              clear hc1
              have g2 := hid (grown_trans g1.out hg)
              have L2 := hid (L1.out.kept0 hg)
              clear hg c0 c1 c2 c3
              have c0 := (L2.out.cell 0).trans (show _ = some (Value.slice U u.length cu) from rfl)
              have c1 := (L2.out.cell 1).trans (show _ = some (Value.slice D d.length cd) from rfl)
              have c2 := (L2.out.cell 2).trans (show _ = some (Value.slice W o.length cw) from rfl)
              have c3 := (L2.out.cell 3).trans (show _ = some (Value.slice B b.length cb) from rfl)
              go_wp2_with fail
              have hc2 := (hri.out true (tt_iff q2.out) q0.out q1.out.2.1 w2 (hTg.out w2 g2.out))
              refine hc2.mono ?_
              rintro e w3 ⟨rfl, hg⟩
              clear hc2
              have g3 := hid (grown_trans g2.out hg)
              have L3 := hid (L2.out.kept0 hg)
              clear hg c0 c1 c2 c3
              have c0 := (L3.out.cell 0).trans (show _ = some (Value.slice U u.length cu) from rfl)
              have c1 := (L3.out.cell 1).trans (show _ = some (Value.slice D d.length cd) from rfl)
              have c2 := (L3.out.cell 2).trans (show _ = some (Value.slice W o.length cw) from rfl)
              have c3 := (L3.out.cell 3).trans (show _ = some (Value.slice B b.length cb) from rfl)
              go_wp2_with fail
              have hc3 := (hen.out true (tt_iff q3.out) q0.out q2.out w3 (hTg.out w3 g3.out))
              refine hc3.mono ?_
              rintro e w4 ⟨rfl, hg⟩
              clear hc3
              have g4 := hid (grown_trans g3.out hg)
              have L4 := hid (L3.out.kept0 hg)
              clear hg c0 c1 c2 c3
              have c0 := (L4.out.cell 0).trans (show _ = some (Value.slice U u.length cu) from rfl)
              have c1 := (L4.out.cell 1).trans (show _ = some (Value.slice D d.length cd) from rfl)
              have c2 := (L4.out.cell 2).trans (show _ = some (Value.slice W o.length cw) from rfl)
              have c3 := (L4.out.cell 3).trans (show _ = some (Value.slice B b.length cb) from rfl)
              go_wp2_with fail
              have hc4 := (hnu.out true (fun L hL => tt_iff ((numbered_any hK.out hL).1 q4.out)) q0.out w4 (hTg.out w4 g4.out))
              refine hc4.mono ?_
              rintro e w5 ⟨rfl, hg⟩
              clear hc4
              have g5 := hid (grown_trans g4.out hg)
              have L5 := hid (L4.out.kept0 hg)
              clear hg c0 c1 c2 c3
              have c0 := (L5.out.cell 0).trans (show _ = some (Value.slice U u.length cu) from rfl)
              have c1 := (L5.out.cell 1).trans (show _ = some (Value.slice D d.length cd) from rfl)
              have c2 := (L5.out.cell 2).trans (show _ = some (Value.slice W o.length cw) from rfl)
              have c3 := (L5.out.cell 3).trans (show _ = some (Value.slice B b.length cb) from rfl)
              go_wp2_with fail
              have hc5 := (hbo.out false (ff_iff q5.out) q0.out hdb.out w5 (hTg.out w5 g5.out))
              refine hc5.mono ?_
              rintro e w6 ⟨rfl, hg⟩
              clear hc5
              have g6 := hid (grown_trans g5.out hg)
              have L6 := hid (L5.out.kept0 hg)
              clear hg c0 c1 c2 c3
              have c0 := (L6.out.cell 0).trans (show _ = some (Value.slice U u.length cu) from rfl)
              have c1 := (L6.out.cell 1).trans (show _ = some (Value.slice D d.length cd) from rfl)
              have c2 := (L6.out.cell 2).trans (show _ = some (Value.slice W o.length cw) from rfl)
              have c3 := (L6.out.cell 3).trans (show _ = some (Value.slice B b.length cb) from rfl)
              clear c0 c1 c2 c3
              go_wp2_with fail
              go_ret
              exact ⟨by rw [hV.out]; rfl, g6.out⟩

          · have hV : Hid (X = false) := hid (by cases X with | false => rfl | true => exact absurd ((hf.out rfl).2.2.2.2.1 K hK.out) q4)
            clear hX hf
            replace q0 := hid q0
            replace q1 := hid q1
            replace q2 := hid q2
            replace q3 := hid q3
            replace q4 := hid q4
            go_enter Try.func11, Try.ntmps11
            go_upto_region 1 with fail
            obtain ⟨W0, hW0⟩ : ∃ W0, w.alloc (.cells #[.slice U u.length cu, .slice D d.length cd, .slice W o.length cw, .slice B b.length cb] 30) = W0 := ⟨_, rfl⟩
            rw [hW0] at K1 hG0 ⊢
            clear hW0
            obtain ⟨h, hh⟩ : ∃ h, w.heap.size = h := ⟨_, rfl⟩
            rw [hh] at K1 ⊢
            replace hh := hid hh
            have c0 := (K1.out.cell 0).trans (show _ = some (Value.slice U u.length cu) from rfl)
            have c1 := (K1.out.cell 1).trans (show _ = some (Value.slice D d.length cd) from rfl)
            have c2 := (K1.out.cell 2).trans (show _ = some (Value.slice W o.length cw) from rfl)
            have c3 := (K1.out.cell 3).trans (show _ = some (Value.slice B b.length cb) from rfl)
            go_wp2_with fail
            have hc0 := (hev.out W0)
            rw [decide_eq_true q0.out] at hc0
            refine hc0.mono ?_
            rintro e w1 ⟨rfl, hg⟩
            clear hc0
            have g1 := hid (grown_trans hG0.out hg)
            have L1 := hid (K1.out.kept0 hg)
            clear hg c0 c1 c2 c3
            have c0 := (L1.out.cell 0).trans (show _ = some (Value.slice U u.length cu) from rfl)
            have c1 := (L1.out.cell 1).trans (show _ = some (Value.slice D d.length cd) from rfl)
            have c2 := (L1.out.cell 2).trans (show _ = some (Value.slice W o.length cw) from rfl)
            have c3 := (L1.out.cell 3).trans (show _ = some (Value.slice B b.length cb) from rfl)
            go_wp2_with fail
            have hc1 := (hro.out q0.out w1 (hTg.out w1 g1.out))
            rw [decide_eq_true q1.out] at hc1
            refine hc1.mono ?_
            rintro e w2 ⟨rfl, hg⟩
            clear hc1
            have g2 := hid (grown_trans g1.out hg)
            have L2 := hid (L1.out.kept0 hg)
            clear hg c0 c1 c2 c3
            have c0 := (L2.out.cell 0).trans (show _ = some (Value.slice U u.length cu) from rfl)
            have c1 := (L2.out.cell 1).trans (show _ = some (Value.slice D d.length cd) from rfl)
            have c2 := (L2.out.cell 2).trans (show _ = some (Value.slice W o.length cw) from rfl)
            have c3 := (L2.out.cell 3).trans (show _ = some (Value.slice B b.length cb) from rfl)
            go_wp2_with fail
            have hc2 := (hri.out true (tt_iff q2.out) q0.out q1.out.2.1 w2 (hTg.out w2 g2.out))
            refine hc2.mono ?_
            rintro e w3 ⟨rfl, hg⟩
            clear hc2
            have g3 := hid (grown_trans g2.out hg)
            have L3 := hid (L2.out.kept0 hg)
            clear hg c0 c1 c2 c3
            have c0 := (L3.out.cell 0).trans (show _ = some (Value.slice U u.length cu) from rfl)
            have c1 := (L3.out.cell 1).trans (show _ = some (Value.slice D d.length cd) from rfl)
            have c2 := (L3.out.cell 2).trans (show _ = some (Value.slice W o.length cw) from rfl)
            have c3 := (L3.out.cell 3).trans (show _ = some (Value.slice B b.length cb) from rfl)
            go_wp2_with fail
            have hc3 := (hen.out true (tt_iff q3.out) q0.out q2.out w3 (hTg.out w3 g3.out))
            refine hc3.mono ?_
            rintro e w4 ⟨rfl, hg⟩
            clear hc3
            have g4 := hid (grown_trans g3.out hg)
            have L4 := hid (L3.out.kept0 hg)
            clear hg c0 c1 c2 c3
            have c0 := (L4.out.cell 0).trans (show _ = some (Value.slice U u.length cu) from rfl)
            have c1 := (L4.out.cell 1).trans (show _ = some (Value.slice D d.length cd) from rfl)
            have c2 := (L4.out.cell 2).trans (show _ = some (Value.slice W o.length cw) from rfl)
            have c3 := (L4.out.cell 3).trans (show _ = some (Value.slice B b.length cb) from rfl)
            go_wp2_with fail
            have hc4 := (hnu.out false (fun L hL => ff_iff (fun e => q4.out ((numbered_any hL hK.out).1 e))) q0.out w4 (hTg.out w4 g4.out))
            refine hc4.mono ?_
            rintro e w5 ⟨rfl, hg⟩
            clear hc4
            have g5 := hid (grown_trans g4.out hg)
            have L5 := hid (L4.out.kept0 hg)
            clear hg c0 c1 c2 c3
            have c0 := (L5.out.cell 0).trans (show _ = some (Value.slice U u.length cu) from rfl)
            have c1 := (L5.out.cell 1).trans (show _ = some (Value.slice D d.length cd) from rfl)
            have c2 := (L5.out.cell 2).trans (show _ = some (Value.slice W o.length cw) from rfl)
            have c3 := (L5.out.cell 3).trans (show _ = some (Value.slice B b.length cb) from rfl)
            clear c0 c1 c2 c3
            go_wp2_with fail
            go_ret
            exact ⟨by rw [hV.out]; rfl, g5.out⟩

        · have hV : Hid (X = false) := hid (by cases X with | false => rfl | true => exact absurd (hf.out rfl).2.2.2.1 q3)
          clear hX hf
          replace q0 := hid q0
          replace q1 := hid q1
          replace q2 := hid q2
          replace q3 := hid q3
          go_enter Try.func11, Try.ntmps11
          go_upto_region 1 with fail
          obtain ⟨W0, hW0⟩ : ∃ W0, w.alloc (.cells #[.slice U u.length cu, .slice D d.length cd, .slice W o.length cw, .slice B b.length cb] 30) = W0 := ⟨_, rfl⟩
          rw [hW0] at K1 hG0 ⊢
          clear hW0
          obtain ⟨h, hh⟩ : ∃ h, w.heap.size = h := ⟨_, rfl⟩
          rw [hh] at K1 ⊢
          replace hh := hid hh
          have c0 := (K1.out.cell 0).trans (show _ = some (Value.slice U u.length cu) from rfl)
          have c1 := (K1.out.cell 1).trans (show _ = some (Value.slice D d.length cd) from rfl)
          have c2 := (K1.out.cell 2).trans (show _ = some (Value.slice W o.length cw) from rfl)
          have c3 := (K1.out.cell 3).trans (show _ = some (Value.slice B b.length cb) from rfl)
          go_wp2_with fail
          have hc0 := (hev.out W0)
          rw [decide_eq_true q0.out] at hc0
          refine hc0.mono ?_
          rintro e w1 ⟨rfl, hg⟩
          clear hc0
          have g1 := hid (grown_trans hG0.out hg)
          have L1 := hid (K1.out.kept0 hg)
          clear hg c0 c1 c2 c3
          have c0 := (L1.out.cell 0).trans (show _ = some (Value.slice U u.length cu) from rfl)
          have c1 := (L1.out.cell 1).trans (show _ = some (Value.slice D d.length cd) from rfl)
          have c2 := (L1.out.cell 2).trans (show _ = some (Value.slice W o.length cw) from rfl)
          have c3 := (L1.out.cell 3).trans (show _ = some (Value.slice B b.length cb) from rfl)
          go_wp2_with fail
          have hc1 := (hro.out q0.out w1 (hTg.out w1 g1.out))
          rw [decide_eq_true q1.out] at hc1
          refine hc1.mono ?_
          rintro e w2 ⟨rfl, hg⟩
          clear hc1
          have g2 := hid (grown_trans g1.out hg)
          have L2 := hid (L1.out.kept0 hg)
          clear hg c0 c1 c2 c3
          have c0 := (L2.out.cell 0).trans (show _ = some (Value.slice U u.length cu) from rfl)
          have c1 := (L2.out.cell 1).trans (show _ = some (Value.slice D d.length cd) from rfl)
          have c2 := (L2.out.cell 2).trans (show _ = some (Value.slice W o.length cw) from rfl)
          have c3 := (L2.out.cell 3).trans (show _ = some (Value.slice B b.length cb) from rfl)
          go_wp2_with fail
          have hc2 := (hri.out true (tt_iff q2.out) q0.out q1.out.2.1 w2 (hTg.out w2 g2.out))
          refine hc2.mono ?_
          rintro e w3 ⟨rfl, hg⟩
          clear hc2
          have g3 := hid (grown_trans g2.out hg)
          have L3 := hid (L2.out.kept0 hg)
          clear hg c0 c1 c2 c3
          have c0 := (L3.out.cell 0).trans (show _ = some (Value.slice U u.length cu) from rfl)
          have c1 := (L3.out.cell 1).trans (show _ = some (Value.slice D d.length cd) from rfl)
          have c2 := (L3.out.cell 2).trans (show _ = some (Value.slice W o.length cw) from rfl)
          have c3 := (L3.out.cell 3).trans (show _ = some (Value.slice B b.length cb) from rfl)
          go_wp2_with fail
          have hc3 := (hen.out false (ff_iff q3.out) q0.out q2.out w3 (hTg.out w3 g3.out))
          refine hc3.mono ?_
          rintro e w4 ⟨rfl, hg⟩
          clear hc3
          have g4 := hid (grown_trans g3.out hg)
          have L4 := hid (L3.out.kept0 hg)
          clear hg c0 c1 c2 c3
          have c0 := (L4.out.cell 0).trans (show _ = some (Value.slice U u.length cu) from rfl)
          have c1 := (L4.out.cell 1).trans (show _ = some (Value.slice D d.length cd) from rfl)
          have c2 := (L4.out.cell 2).trans (show _ = some (Value.slice W o.length cw) from rfl)
          have c3 := (L4.out.cell 3).trans (show _ = some (Value.slice B b.length cb) from rfl)
          clear c0 c1 c2 c3
          go_wp2_with fail
          go_ret
          exact ⟨by rw [hV.out]; rfl, g4.out⟩

      · have hV : Hid (X = false) := hid (by cases X with | false => rfl | true => exact absurd (hf.out rfl).2.2.1 q2)
        clear hX hf
        replace q0 := hid q0
        replace q1 := hid q1
        replace q2 := hid q2
        go_enter Try.func11, Try.ntmps11
        go_upto_region 1 with fail
        obtain ⟨W0, hW0⟩ : ∃ W0, w.alloc (.cells #[.slice U u.length cu, .slice D d.length cd, .slice W o.length cw, .slice B b.length cb] 30) = W0 := ⟨_, rfl⟩
        rw [hW0] at K1 hG0 ⊢
        clear hW0
        obtain ⟨h, hh⟩ : ∃ h, w.heap.size = h := ⟨_, rfl⟩
        rw [hh] at K1 ⊢
        replace hh := hid hh
        have c0 := (K1.out.cell 0).trans (show _ = some (Value.slice U u.length cu) from rfl)
        have c1 := (K1.out.cell 1).trans (show _ = some (Value.slice D d.length cd) from rfl)
        have c2 := (K1.out.cell 2).trans (show _ = some (Value.slice W o.length cw) from rfl)
        have c3 := (K1.out.cell 3).trans (show _ = some (Value.slice B b.length cb) from rfl)
        go_wp2_with fail
        have hc0 := (hev.out W0)
        rw [decide_eq_true q0.out] at hc0
        refine hc0.mono ?_
        rintro e w1 ⟨rfl, hg⟩
        clear hc0
        have g1 := hid (grown_trans hG0.out hg)
        have L1 := hid (K1.out.kept0 hg)
        clear hg c0 c1 c2 c3
        have c0 := (L1.out.cell 0).trans (show _ = some (Value.slice U u.length cu) from rfl)
        have c1 := (L1.out.cell 1).trans (show _ = some (Value.slice D d.length cd) from rfl)
        have c2 := (L1.out.cell 2).trans (show _ = some (Value.slice W o.length cw) from rfl)
        have c3 := (L1.out.cell 3).trans (show _ = some (Value.slice B b.length cb) from rfl)
        go_wp2_with fail
        have hc1 := (hro.out q0.out w1 (hTg.out w1 g1.out))
        rw [decide_eq_true q1.out] at hc1
        refine hc1.mono ?_
        rintro e w2 ⟨rfl, hg⟩
        clear hc1
        have g2 := hid (grown_trans g1.out hg)
        have L2 := hid (L1.out.kept0 hg)
        clear hg c0 c1 c2 c3
        have c0 := (L2.out.cell 0).trans (show _ = some (Value.slice U u.length cu) from rfl)
        have c1 := (L2.out.cell 1).trans (show _ = some (Value.slice D d.length cd) from rfl)
        have c2 := (L2.out.cell 2).trans (show _ = some (Value.slice W o.length cw) from rfl)
        have c3 := (L2.out.cell 3).trans (show _ = some (Value.slice B b.length cb) from rfl)
        go_wp2_with fail
        have hc2 := (hri.out false (ff_iff q2.out) q0.out q1.out.2.1 w2 (hTg.out w2 g2.out))
        refine hc2.mono ?_
        rintro e w3 ⟨rfl, hg⟩
        clear hc2
        have g3 := hid (grown_trans g2.out hg)
        have L3 := hid (L2.out.kept0 hg)
        clear hg c0 c1 c2 c3
        have c0 := (L3.out.cell 0).trans (show _ = some (Value.slice U u.length cu) from rfl)
        have c1 := (L3.out.cell 1).trans (show _ = some (Value.slice D d.length cd) from rfl)
        have c2 := (L3.out.cell 2).trans (show _ = some (Value.slice W o.length cw) from rfl)
        have c3 := (L3.out.cell 3).trans (show _ = some (Value.slice B b.length cb) from rfl)
        clear c0 c1 c2 c3
        go_wp2_with fail
        go_ret
        exact ⟨by rw [hV.out]; rfl, g3.out⟩

    · have hV : Hid (X = false) := hid (by cases X with | false => rfl | true => exact absurd (hf.out rfl).2.1 q1)
      clear hX hf
      replace q0 := hid q0
      replace q1 := hid q1
      go_enter Try.func11, Try.ntmps11
      go_upto_region 1 with fail
      obtain ⟨W0, hW0⟩ : ∃ W0, w.alloc (.cells #[.slice U u.length cu, .slice D d.length cd, .slice W o.length cw, .slice B b.length cb] 30) = W0 := ⟨_, rfl⟩
      rw [hW0] at K1 hG0 ⊢
      clear hW0
      obtain ⟨h, hh⟩ : ∃ h, w.heap.size = h := ⟨_, rfl⟩
      rw [hh] at K1 ⊢
      replace hh := hid hh
      have c0 := (K1.out.cell 0).trans (show _ = some (Value.slice U u.length cu) from rfl)
      have c1 := (K1.out.cell 1).trans (show _ = some (Value.slice D d.length cd) from rfl)
      have c2 := (K1.out.cell 2).trans (show _ = some (Value.slice W o.length cw) from rfl)
      have c3 := (K1.out.cell 3).trans (show _ = some (Value.slice B b.length cb) from rfl)
      go_wp2_with fail
      have hc0 := (hev.out W0)
      rw [decide_eq_true q0.out] at hc0
      refine hc0.mono ?_
      rintro e w1 ⟨rfl, hg⟩
      clear hc0
      have g1 := hid (grown_trans hG0.out hg)
      have L1 := hid (K1.out.kept0 hg)
      clear hg c0 c1 c2 c3
      have c0 := (L1.out.cell 0).trans (show _ = some (Value.slice U u.length cu) from rfl)
      have c1 := (L1.out.cell 1).trans (show _ = some (Value.slice D d.length cd) from rfl)
      have c2 := (L1.out.cell 2).trans (show _ = some (Value.slice W o.length cw) from rfl)
      have c3 := (L1.out.cell 3).trans (show _ = some (Value.slice B b.length cb) from rfl)
      go_wp2_with fail
      have hc1 := (hro.out q0.out w1 (hTg.out w1 g1.out))
      rw [decide_eq_false q1.out] at hc1
      refine hc1.mono ?_
      rintro e w2 ⟨rfl, hg⟩
      clear hc1
      have g2 := hid (grown_trans g1.out hg)
      have L2 := hid (L1.out.kept0 hg)
      clear hg c0 c1 c2 c3
      have c0 := (L2.out.cell 0).trans (show _ = some (Value.slice U u.length cu) from rfl)
      have c1 := (L2.out.cell 1).trans (show _ = some (Value.slice D d.length cd) from rfl)
      have c2 := (L2.out.cell 2).trans (show _ = some (Value.slice W o.length cw) from rfl)
      have c3 := (L2.out.cell 3).trans (show _ = some (Value.slice B b.length cb) from rfl)
      clear c0 c1 c2 c3
      go_wp2_with fail
      go_ret
      exact ⟨by rw [hV.out]; rfl, g2.out⟩

  · have hV : Hid (X = false) := hid (by cases X with | false => rfl | true => exact absurd (hf.out rfl).1 q0)
    clear hX hf
    replace q0 := hid q0
    go_enter Try.func11, Try.ntmps11
    go_upto_region 1 with fail
    obtain ⟨W0, hW0⟩ : ∃ W0, w.alloc (.cells #[.slice U u.length cu, .slice D d.length cd, .slice W o.length cw, .slice B b.length cb] 30) = W0 := ⟨_, rfl⟩
    rw [hW0] at K1 hG0 ⊢
    clear hW0
    obtain ⟨h, hh⟩ : ∃ h, w.heap.size = h := ⟨_, rfl⟩
    rw [hh] at K1 ⊢
    replace hh := hid hh
    have c0 := (K1.out.cell 0).trans (show _ = some (Value.slice U u.length cu) from rfl)
    have c1 := (K1.out.cell 1).trans (show _ = some (Value.slice D d.length cd) from rfl)
    have c2 := (K1.out.cell 2).trans (show _ = some (Value.slice W o.length cw) from rfl)
    have c3 := (K1.out.cell 3).trans (show _ = some (Value.slice B b.length cb) from rfl)
    go_wp2_with fail
    have hc0 := (hev.out W0)
    rw [decide_eq_false q0.out] at hc0
    refine hc0.mono ?_
    rintro e w1 ⟨rfl, hg⟩
    clear hc0
    have g1 := hid (grown_trans hG0.out hg)
    have L1 := hid (K1.out.kept0 hg)
    clear hg c0 c1 c2 c3
    have c0 := (L1.out.cell 0).trans (show _ = some (Value.slice U u.length cu) from rfl)
    have c1 := (L1.out.cell 1).trans (show _ = some (Value.slice D d.length cd) from rfl)
    have c2 := (L1.out.cell 2).trans (show _ = some (Value.slice W o.length cw) from rfl)
    have c3 := (L1.out.cell 3).trans (show _ = some (Value.slice B b.length cb) from rfl)
    clear c0 c1 c2 c3
    go_wp2_with fail
    go_ret
    exact ⟨by rw [hV.out]; rfl, g1.out⟩

end Go.Proofs.Ytojbkhheaondhaa
