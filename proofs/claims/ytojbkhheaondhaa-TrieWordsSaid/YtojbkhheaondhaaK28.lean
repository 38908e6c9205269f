/- Package trie: how many nodes? Is there such a node? A node's bytes. Package trie: a node's kids, one by one; a node's kid by a byte. -/
import Derived.Test.YtojbkhheaondhaaTAllRight
import Derived.Test.YtojbkhheaondhaaK17
import Derived.Laws.MakeOwn
import Derived.Test.YtojbkhheaondhaaK6
import Derived.Test.YtojbkhheaondhaaCollect
import Derived.TacticsInMore
import Derived.LoopIn
set_option linter.unusedSimpArgs false
set_option linter.unusedVariables false
set_option maxRecDepth 100000
namespace Go.Proofs.Ytojbkhheaondhaa
open Go.RowKit PlainLetter

theorem PlainTrie.Tall.sp_cut {t : PlainTrie.Tree} (h : PlainTrie.Tall t) {zs : List Int} {k : Nat} (hk : k < t.up.length) (h0 : 0 < k) (hp : PlainTrie.sp t k <+: zs) :
    ∃ p dk : Nat, t.up.getD k 0 = p ∧ p < k ∧ t.depth.getD k 0 = (dk : Int) + 1 ∧ (PlainTrie.sp t k).length = dk + 1 ∧ dk < zs.length ∧ PlainTrie.sp t p <+: zs ∧ (PlainTrie.sp t p).length = dk ∧ t.byte.getD k 0 = zs.getD dk 0 := by
  obtain ⟨h1, h2, h3, _⟩ := h.rise k h0 hk
  have e := h.sp_step hk h0
  have hl := h.sp_len k hk
  have hl2 := h.sp_len (t.up.getD k 0).toNat (by omega)
  have hpl := hp.length_le
  have hlen : (PlainTrie.sp t k).length = (PlainTrie.sp t (t.up.getD k 0).toNat).length + 1 := by rw [e]; simp
  refine ⟨(t.up.getD k 0).toNat, (PlainTrie.sp t (t.up.getD k 0).toNat).length, by omega, by omega, by omega, hlen, by omega, ?_, rfl, ?_⟩
  · exact List.IsPrefix.trans ⟨_, e.symm⟩ hp
  · obtain ⟨r, hr⟩ := hp
    rw [← hr, e]
    simp [List.getD]
theorem bytes_made (n k : Nat) (hk : k < n) : (madeCells #[.int .u8 0] (n * 1))[k]? = some (.int .u8 0) := by
  unfold madeCells
  simp [hk, Nat.mod_one]
theorem own_of_holds {w : World} {g base n : Nat} {cs : Array Value} {zs : List Int} (h : Holds w g 5 cs) (hs : cs.size = n) (hl : zs.length = n) (hb : base ≤ g) (hm : n ≤ maxLen) (hc : ∀ q, q < n → cs[q]? = some (.int .u8 (zs.getD q 0))) :
    w.ownsRow base 5 1 (.slice (some ⟨g, 0, none⟩) n n) n (zs.map (Value.int .u8)) := by
  refine ⟨by simp [hl], .inr ⟨g, n, cs, rfl, hb, h, Nat.le_refl _, hm, by omega, ?_⟩⟩
  refine List.ext_getElem? fun i => ?_
  rw [Nat.mul_one, List.getElem?_take]
  by_cases hi : i < n
  · rw [if_pos hi]
    simp only [Array.getElem?_toList, hc i hi]
    simp [List.getD, show i < zs.length by omega]
  · rw [if_neg hi]
    have hil : zs.length ≤ i := by omega
    rw [List.getElem?_map, List.getElem?_eq_none hil]
    rfl

set_option maxHeartbeats 2000000 in
theorem tMany_is (U D W B : Option Addr) (cu cd cw cb : Nat) (t : PlainTrie.Tree) (w : World) (hT : TreeOk w U D W B cu cd cw cb t) :
    Calls Try.prog 12 #[treeV U D W B t cu cd cw cb] w fun e w' => e = .returned (.int .i64 (if PlainTrie.right t = true then (t.up.length : Int) else 0)) ∧ w.grownBy w' none := by
  have hRt := hid (fun (w' : World) (h : w.grownBy w' none) => tRight_is U D W B cu cd cw cb t w' (hT.grown h))
  clear hT
  obtain ⟨r, hr⟩ : ∃ r, PlainTrie.right t = r := ⟨_, rfl⟩
  simp only [hr] at hRt
  rw [hr]
  clear hr
  obtain ⟨u, d, o, b⟩ := t
  have hG0 : Hid (w.grownBy (w.alloc (.cells #[.slice U u.length cu, .slice D d.length cd, .slice W o.length cw, .slice B b.length cb] 30)) none) := grown_alloc (grown_refl w none) _
  have K1 : Hid (Holds (w.alloc (.cells #[.slice U u.length cu, .slice D d.length cd, .slice W o.length cw, .slice B b.length cb] 30)) w.heap.size 30 #[.slice U u.length cu, .slice D d.length cd, .slice W o.length cw, .slice B b.length cb]) := Holds.new _ _ _
  cases r with
  | false =>
    go_enter Try.func12, Try.ntmps12
    go_upto_region 1 with fail
    obtain ⟨W0, hW0⟩ : ∃ W0, w.alloc (.cells #[.slice U u.length cu, .slice D d.length cd, .slice W o.length cw, .slice B b.length cb] 30) = W0 := ⟨_, rfl⟩
    rw [hW0] at K1 hG0 ⊢
    clear hW0
    obtain ⟨h, hh⟩ : ∃ h, w.heap.size = h := ⟨_, rfl⟩
    rw [hh] at K1 ⊢
    replace hh := hid hh
    have c0 := (K1.out.cell 0).trans (show _ = some (Value.slice U u.length cu) from rfl)
    have c1 := (K1.out.cell 1).trans (show _ = some (Value.slice D d.length cd) from rfl)
    have c2 := (K1.out.cell 2).trans (show _ = some (Value.slice W o.length cw) from rfl)
    have c3 := (K1.out.cell 3).trans (show _ = some (Value.slice B b.length cb) from rfl)
    go_wp2_with fail
    refine (hRt.out W0 hG0.out).mono ?_
    rintro e w1 ⟨rfl, hg⟩
    have g1 := hid (grown_trans hG0.out hg)
    have L1 := hid (K1.out.kept0 hg)
    clear hg c0 c1 c2 c3
    have c0 := (L1.out.cell 0).trans (show _ = some (Value.slice U u.length cu) from rfl)
    have c1 := (L1.out.cell 1).trans (show _ = some (Value.slice D d.length cd) from rfl)
    have c2 := (L1.out.cell 2).trans (show _ = some (Value.slice W o.length cw) from rfl)
    have c3 := (L1.out.cell 3).trans (show _ = some (Value.slice B b.length cb) from rfl)
    go_wp2_with fail
    go_ret
    exact ⟨rfl, g1.out⟩
  | true =>
    go_enter Try.func12, Try.ntmps12
    go_upto_region 1 with fail
    obtain ⟨W0, hW0⟩ : ∃ W0, w.alloc (.cells #[.slice U u.length cu, .slice D d.length cd, .slice W o.length cw, .slice B b.length cb] 30) = W0 := ⟨_, rfl⟩
    rw [hW0] at K1 hG0 ⊢
    clear hW0
    obtain ⟨h, hh⟩ : ∃ h, w.heap.size = h := ⟨_, rfl⟩
    rw [hh] at K1 ⊢
    replace hh := hid hh
    have c0 := (K1.out.cell 0).trans (show _ = some (Value.slice U u.length cu) from rfl)
    have c1 := (K1.out.cell 1).trans (show _ = some (Value.slice D d.length cd) from rfl)
    have c2 := (K1.out.cell 2).trans (show _ = some (Value.slice W o.length cw) from rfl)
    have c3 := (K1.out.cell 3).trans (show _ = some (Value.slice B b.length cb) from rfl)
    go_wp2_with fail
    refine (hRt.out W0 hG0.out).mono ?_
    rintro e w1 ⟨rfl, hg⟩
    have g1 := hid (grown_trans hG0.out hg)
    have L1 := hid (K1.out.kept0 hg)
    clear hg c0 c1 c2 c3
    have c0 := (L1.out.cell 0).trans (show _ = some (Value.slice U u.length cu) from rfl)
    have c1 := (L1.out.cell 1).trans (show _ = some (Value.slice D d.length cd) from rfl)
    have c2 := (L1.out.cell 2).trans (show _ = some (Value.slice W o.length cw) from rfl)
    have c3 := (L1.out.cell 3).trans (show _ = some (Value.slice B b.length cb) from rfl)
    go_wp2_with fail
    go_ret
    exact ⟨rfl, g1.out⟩

set_option maxHeartbeats 2000000 in
theorem tStands_is (U D W B : Option Addr) (cu cd cw cb : Nat) (t : PlainTrie.Tree) (i : Int) (w : World) (hT : TreeOk w U D W B cu cd cw cb t) :
    Calls Try.prog 40 #[treeV U D W B t cu cd cw cb, .int .i64 i] w fun e w' => e = .returned (.bool (there t i)) ∧ w.grownBy w' none := by
  have hRt := hid (fun (w' : World) (h : w.grownBy w' none) => tRight_is U D W B cu cd cw cb t w' (hT.grown h))
  clear hT
  obtain ⟨X, hX⟩ : ∃ X, there t i = X := ⟨_, rfl⟩
  rw [hX]
  unfold there at hX
  obtain ⟨r, hr⟩ : ∃ r, PlainTrie.right t = r := ⟨_, rfl⟩
  simp only [hr] at hRt
  rw [hr] at hX
  clear hr
  obtain ⟨u, d, o, b⟩ := t
  simp only at hX
  have hG0 : Hid (w.grownBy (w.alloc (.cells #[.slice U u.length cu, .slice D d.length cd, .slice W o.length cw, .slice B b.length cb] 30)) none) := grown_alloc (grown_refl w none) _
  have K1 : Hid (Holds (w.alloc (.cells #[.slice U u.length cu, .slice D d.length cd, .slice W o.length cw, .slice B b.length cb] 30)) w.heap.size 30 #[.slice U u.length cu, .slice D d.length cd, .slice W o.length cw, .slice B b.length cb]) := Holds.new _ _ _
  by_cases i0 : 0 ≤ i
  · by_cases i1 : i < (u.length : Int)
    · have hV : Hid (r = X) := hid (by rw [← hX, decide_eq_true (show 0 ≤ i ∧ i < (u.length : Int) from ⟨i0, i1⟩)]; simp)
      clear hX
      go_enter Try.func40, Try.ntmps40
      go_upto_region 1 with fail
      obtain ⟨W0, hW0⟩ : ∃ W0, w.alloc (.cells #[.slice U u.length cu, .slice D d.length cd, .slice W o.length cw, .slice B b.length cb] 30) = W0 := ⟨_, rfl⟩
      rw [hW0] at K1 hG0 ⊢
      clear hW0
      obtain ⟨h, hh⟩ : ∃ h, w.heap.size = h := ⟨_, rfl⟩
      rw [hh] at K1 ⊢
      replace hh := hid hh
      have c0 := (K1.out.cell 0).trans (show _ = some (Value.slice U u.length cu) from rfl)
      have c1 := (K1.out.cell 1).trans (show _ = some (Value.slice D d.length cd) from rfl)
      have c2 := (K1.out.cell 2).trans (show _ = some (Value.slice W o.length cw) from rfl)
      have c3 := (K1.out.cell 3).trans (show _ = some (Value.slice B b.length cb) from rfl)
      go_wp2_with fail
      refine (hRt.out W0 hG0.out).mono ?_
      rintro e w1 ⟨rfl, hg⟩
      have g1 := hid (grown_trans hG0.out hg)
      have L1 := hid (K1.out.kept0 hg)
      clear hg c0 c1 c2 c3
      have c0 := (L1.out.cell 0).trans (show _ = some (Value.slice U u.length cu) from rfl)
      have c1 := (L1.out.cell 1).trans (show _ = some (Value.slice D d.length cd) from rfl)
      have c2 := (L1.out.cell 2).trans (show _ = some (Value.slice W o.length cw) from rfl)
      have c3 := (L1.out.cell 3).trans (show _ = some (Value.slice B b.length cb) from rfl)
      go_wp2_with fail
      go_ret
      exact ⟨by rw [← hV.out]; rfl, g1.out⟩
    · have hV : Hid (false = X) := hid (by rw [← hX, decide_eq_false (show ¬ (0 ≤ i ∧ i < (u.length : Int)) from fun e => i1 e.2)]; simp)
      clear hX
      go_enter Try.func40, Try.ntmps40
      go_upto_region 1 with fail
      obtain ⟨W0, hW0⟩ : ∃ W0, w.alloc (.cells #[.slice U u.length cu, .slice D d.length cd, .slice W o.length cw, .slice B b.length cb] 30) = W0 := ⟨_, rfl⟩
      rw [hW0] at K1 hG0 ⊢
      clear hW0
      obtain ⟨h, hh⟩ : ∃ h, w.heap.size = h := ⟨_, rfl⟩
      rw [hh] at K1 ⊢
      replace hh := hid hh
      have c0 := (K1.out.cell 0).trans (show _ = some (Value.slice U u.length cu) from rfl)
      have c1 := (K1.out.cell 1).trans (show _ = some (Value.slice D d.length cd) from rfl)
      have c2 := (K1.out.cell 2).trans (show _ = some (Value.slice W o.length cw) from rfl)
      have c3 := (K1.out.cell 3).trans (show _ = some (Value.slice B b.length cb) from rfl)
      go_wp2_with fail
      go_ret
      exact ⟨by rw [← hV.out]; rfl, hG0.out⟩
  · have hV : Hid (false = X) := hid (by rw [← hX, decide_eq_false (show ¬ (0 ≤ i ∧ i < (u.length : Int)) from fun e => i0 e.1)]; simp)
    clear hX
    go_enter Try.func40, Try.ntmps40
    go_upto_region 1 with fail
    obtain ⟨W0, hW0⟩ : ∃ W0, w.alloc (.cells #[.slice U u.length cu, .slice D d.length cd, .slice W o.length cw, .slice B b.length cb] 30) = W0 := ⟨_, rfl⟩
    rw [hW0] at K1 hG0 ⊢
    clear hW0
    obtain ⟨h, hh⟩ : ∃ h, w.heap.size = h := ⟨_, rfl⟩
    rw [hh] at K1 ⊢
    replace hh := hid hh
    have c0 := (K1.out.cell 0).trans (show _ = some (Value.slice U u.length cu) from rfl)
    have c1 := (K1.out.cell 1).trans (show _ = some (Value.slice D d.length cd) from rfl)
    have c2 := (K1.out.cell 2).trans (show _ = some (Value.slice W o.length cw) from rfl)
    have c3 := (K1.out.cell 3).trans (show _ = some (Value.slice B b.length cb) from rfl)
    go_wp2_with fail
    go_ret
    exact ⟨by rw [← hV.out]; rfl, hG0.out⟩

set_option maxHeartbeats 4000000 in
theorem tSpelt_is (U D W B : Option Addr) (cu cd cw cb : Nat) (t : PlainTrie.Tree) (i : Nat) (w : World) (hL : PlainTrie.Tall t) (hd32 : ∀ j, j < t.up.length → t.depth.getD j 0 ≤ 32) (hi : i < t.up.length) (hT : TreeAt w U D W B t) :
    Calls Try.prog 39 #[treeV U D W B t cu cd cw cb, .int .i64 (i : Int)] w (SpellTold (PlainTrie.sp t i) w) := by
  obtain ⟨i0, hi0, hz0, hz1, hz2⟩ := info_parts Try.info5
  obtain ⟨zs, hzs⟩ : ∃ zs, PlainTrie.sp t i = zs := ⟨_, rfl⟩
  have hcut := hid (fun (k : Nat) (hk : k < t.up.length) (h0 : 0 < k) (hp : PlainTrie.sp t k <+: zs) => hL.sp_cut hk h0 hp)
  have hroot := hid hL.sp_zero
  have hself : Hid (PlainTrie.sp t i <+: zs) := hid (by rw [hzs]; exact List.prefix_refl _)
  have hlen : Hid (t.depth.getD i 0 = (zs.length : Int)) := hid (by rw [← hzs, hL.sp_len i hi])
  have hz32 : zs.length ≤ 32 := by have h1 := hd32 i hi; have h2 := hlen.out; omega
  have hLs := hid (show (PlainTrie.sp t i).length = zs.length by rw [hzs])
  rw [hzs]
  have hE := hid hL.even
  clear hL hd32 hzs
  generalize PlainTrie.sp t = SP at hcut hroot hself hLs
  obtain ⟨u, d, o, b⟩ := t
  simp only at hcut hlen hi
  have hU := hid hT.up
  have hD := hid hT.depth
  have hB := hid hT.byte
  clear hT
  simp only at hU hD hB
  have e0 : Hid (d.length = u.length) := hid hE.out.2.2.1
  have e1 : Hid (b.length = u.length) := hid hE.out.2.2.2.2
  have e2 : u.length ≤ 400 := hE.out.2.1
  clear hE
  have hG0 : Hid (w.grownBy (w.alloc (.cells #[.slice U u.length cu, .slice D d.length cd, .slice W o.length cw, .slice B b.length cb] 30)) none) := grown_alloc (grown_refl w none) _
  have K1 : Hid (Holds (w.alloc (.cells #[.slice U u.length cu, .slice D d.length cd, .slice W o.length cw, .slice B b.length cb] 30)) w.heap.size 30 #[.slice U u.length cu, .slice D d.length cd, .slice W o.length cw, .slice B b.length cb]) := Holds.new _ _ _
  have hend : Hid (∀ (w' : World) (g : Nat) (cs : Array Value), w.heap.size ≤ g → Holds w' g 5 cs → cs.size = zs.length → (∀ q, q < zs.length → cs[q]? = some (.int .u8 (zs.getD q 0))) → w.grownBy w' none → SpellTold zs w (.returned (.slice (some ⟨g, 0, none⟩) zs.length zs.length)) w') := hid (fun w' g cs h1 h2 h3 h4 h5 => ⟨_, rfl, own_of_holds h2 h3 rfl h1 (by unfold maxLen; omega) h4, h5⟩)
  obtain ⟨R, hR⟩ : ∃ R, SpellTold zs w = R := ⟨_, rfl⟩
  rw [hR] at hend ⊢
  clear hR
  go_enter Try.func39, Try.ntmps39
  go_upto_region 1 with fail
  obtain ⟨W0, hW0⟩ : ∃ W0, w.alloc (.cells #[.slice U u.length cu, .slice D d.length cd, .slice W o.length cw, .slice B b.length cb] 30) = W0 := ⟨_, rfl⟩
  rw [hW0] at K1 hG0 ⊢
  clear hW0
  obtain ⟨h, hh⟩ : ∃ h, w.heap.size = h := ⟨_, rfl⟩
  rw [hh] at K1 ⊢
  have hle : Hid (h ≤ W0.heap.size) := hid (by rw [← hh]; exact hG0.out.size)
  rw [hh] at hend
  replace hh := hid hh
  have c0 := (K1.out.cell 0).trans (show _ = some (Value.slice U u.length cu) from rfl)
  have c1 := (K1.out.cell 1).trans (show _ = some (Value.slice D d.length cd) from rfl)
  have c2 := (K1.out.cell 2).trans (show _ = some (Value.slice W o.length cw) from rfl)
  have c3 := (K1.out.cell 3).trans (show _ = some (Value.slice B b.length cb) from rfl)
  have hU0 := hid (hU.out.grown hG0.out)
  have hD0 := hid (hD.out.grown hG0.out)
  have hB0 := hid (hB.out.grown hG0.out)
  clear hU hD hB
  obtain ⟨bd, od, hA, ld, kd⟩ := hD0.out.at_ (i := i) (by rw [e0.out]; exact hi)
  subst hA
  have kdi := kd i (by rw [e0.out]; exact hi)
  rw [hlen.out] at kdi
  obtain ⟨L, hLe⟩ : ∃ L, zs.length = L := ⟨_, rfl⟩
  rw [hLe] at hend hLs hlen hz32 kdi
  replace hLe := hid hLe
  have hmk := run_makeSlice (P := Try.prog) (w := W0) 28 5 i0 (.int .u8 0) Try.underlying28 hi0 hz0 .i64 .i64 (L : Int) (L : Int) (by omega) (by omega) (by rw [hz1]; simp; omega) (by rw [hz2]; omega) (by omega)
  simp only [Int.toNat_natCast, hz1] at hmk
  obtain ⟨W1, hW1⟩ : ∃ W1, W0.alloc (.cells (madeCells (Value.int .u8 0).cells (L * 1)) 5) = W1 := ⟨_, rfl⟩
  have hg1 : Hid (W0.grownBy W1 none) := hid (by rw [← hW1]; exact grown_alloc (grown_refl W0 none) _)
  have HR : Hid (Holds W1 W0.heap.size 5 (madeCells (Value.int .u8 0).cells (L * 1))) := hid (by rw [← hW1]; exact Holds.new _ _ _)
  rw [hW1] at hmk
  clear hW1
  have hms : Hid ((madeCells (Value.int .u8 0).cells (L * 1)).size = L) := hid (by rw [size_madeCells]; simp)
  generalize madeCells (Value.int .u8 0).cells (L * 1) = cs0 at hmk HR hms
  obtain ⟨g, hg⟩ : ∃ g, W0.heap.size = g := ⟨_, rfl⟩
  rw [hg] at hmk HR hle
  replace hg := hid hg
  have q0 : (0 : Int) ≤ (i : Int) := by omega
  have q1 : (i : Int) < (d.length : Int) := by have := e0.out; omega
  have q2 : (0 : Int) ≤ (L : Int) := by omega
  have c0' := hid c0
  have c1' := hid c1
  have c3' := hid c3
  clear c0 c2 c3 kd
  go_wp2_with fail
  clear hmk kdi c1 q0 q1
  go_loopw [1] (fun n wr => ∃ (k : Nat) (cs : Array Value), k < u.length ∧ n = .int .i64 k ∧ W1.grownBy wr (some g) ∧ Holds wr g 5 cs ∧ cs.size = L ∧ SP k <+: zs ∧ ∀ q, (SP k).length ≤ q → q < L → cs[q]? = some (.int .u8 (zs.getD q 0))) (fun n _ => (intOf n).toNat)
  case atStart => exact ⟨i, cs0, hi, rfl, grown_refl _ _, HR.out, hms.out, hself.out, fun q h1 h2 => by have := hLs.out; omega⟩
  case round =>
    obtain ⟨k, cs, hk, rfl, hG, hH, hs, hp, hc⟩ := hrel
    have hGw := hid (grown_trans_row hg1.out (by have := hg.out; omega) hG)
    by_cases h0 : 0 < k
    · obtain ⟨p, dk, g1, g2, g3, g4, g5, g6, g7, g8⟩ := hcut.out k hk h0 hp
      obtain ⟨bd, od, hA, ld, kd⟩ := (hD0.out.grown hGw.out).at_ (i := k) (by rw [e0.out]; exact hk)
      obtain ⟨bu, ou, hA2, lu, ku⟩ := (hU0.out).at_ hk
      obtain ⟨bb, ob, hA3, lb, kb⟩ := (hB0.out.grown hGw.out).at_ (i := k) (by rw [e1.out]; exact hk)
      cases hA
      subst hA2
      subst hA3
      have kdk := kd k (by rw [e0.out]; exact hk)
      have kuk := hid (ku k hk)
      have kbk := kb k (by rw [e1.out]; exact hk)
      rw [g3] at kdk
      rw [g1] at kuk
      rw [g8] at kbk
      have hK := hid (K1.out.kept0 hGw.out)
      have c1 := (hK.out.cell 1).trans (show _ = some (Value.slice _ d.length cd) from rfl)
      have c3 := (hK.out.cell 3).trans (show _ = some (Value.slice _ b.length cb) from rfl)
      have q0 : (0 : Int) ≤ (k : Int) := by omega
      have q1 : (k : Int) < (d.length : Int) := by have := e0.out; omega
      have q2 : (k : Int) < (b.length : Int) := by have := e1.out; omega
      have q3 : (0 : Int) < (k : Int) := by omega
      have hdkL : dk < L := by have := hLe.out; omega
      have q4 : (0 : Int) ≤ (dk : Int) := by omega
      have q5 : (dk : Int) < (L : Int) := by omega
      obtain ⟨x, hx⟩ : ∃ x, (dk : Int) + 1 = x := ⟨_, rfl⟩
      have hwx : IntKind.i64.wrap (x - 1) = (dk : Int) := by rw [← hx]; rw [Int.add_sub_cancel]; exact IntWalk.i64_in _ (by omega)
      rw [hx] at kdk
      have cg : wr.cell? ⟨g, dk, none⟩ = some (cs[dk]'(by omega)) := by rw [hH.cell]; exact Array.getElem?_eq_getElem _
      have fg := hH.free dk
      have lg := hH.lt
      generalize cs[dk]'(by omega) = old at cg
      generalize hy : zs.getD dk 0 = y at kbk
      have hH2 := hid ((show Holds wr.drew g 5 cs from hH).set dk (.int .u8 y))
      have hG2 := hid (grown_set (p := ⟨g, dk, none⟩) (grown_trans_same hG (grown_drew (grown_refl wr (some g)))) (.inl rfl) (.int .u8 y))
      have hcs : Hid (∀ q, (SP p).length ≤ q → q < L → (cs.setIfInBounds dk (.int .u8 y))[q]? = some (.int .u8 (zs.getD q 0))) := hid (fun q h1 h2 => by
        by_cases e : dk = q
        · subst e; rw [Array.getElem?_setIfInBounds_self_of_lt (by omega), hy]
        · rw [Array.getElem?_setIfInBounds_ne e]; exact hc q (by omega) h2)
      replace hs := hid hs
      replace hc := hid hc
      replace hH := hid hH
      replace hG := hid hG
      replace hp := hid hp
      replace hx := hid hx
      replace hy := hid hy
      replace g1 := hid g1
      replace g4 := hid g4
      replace g6 := hid g6
      replace g7 := hid g7
      replace lu := hid lu
      clear kd ku kb g3 g8
      go_upto_region 4 with fail
      go_still_tail 13, (by kernel_rfl)
      change wpList _ _ _ _ _ wr.drew
      clear c1 c3
      go_upto_region 3 with fail
      obtain ⟨W5, hW5⟩ : ∃ W5, wr.drew.setCell ⟨g, dk, none⟩ (.int .u8 y) = W5 := ⟨_, rfl⟩
      rw [hW5] at hH2 hG2
      first | rw [hW5] | (change Code.wp _ _ _ _ (wr.drew.setCell ⟨g, dk, none⟩ (.int .u8 y)); rw [hW5]) | (show Code.wp _ _ _ _ (wr.drew.setCell ⟨g, dk, none⟩ (.int .u8 y)); rw [hW5])
      have hGw5 := hid (grown_trans_row hg1.out (by have := hg.out; omega) hG2.out)
      clear hW5 kdk kbk cg fg lg hK
      have c0 := ((K1.out.kept0 hGw5.out).cell 0).trans (show _ = some (Value.slice _ u.length cu) from rfl)
      have k5 := ((gcell hGw5.out).1 bu _ lu.out).trans kuk.out
      have q6 : (k : Int) < (u.length : Int) := by omega
      go_wp2_with fail
      go_roundw
      case rel => exact ⟨p, _, by omega, rfl, hG2.out, hH2.out, by rw [Array.size_setIfInBounds]; exact hs.out, g6.out, hcs.out⟩
      case measure => simp [intOf]; omega
    · obtain rfl : k = 0 := by omega
      have hfin := hid (hend.out wr g cs (by have := hle.out; omega) hH hs (fun q hq => hc q (by rw [hroot.out]; exact Nat.zero_le _) hq) (grown_trans hG0.out hGw.out))
      replace hH := hid hH
      replace hG := hid hG
      replace hs := hid hs
      replace hc := hid hc
      replace hp := hid hp
      go_wp2_with fail
      first
        | exact hfin.out
        | (go_ret; exact hfin.out)

end Go.Proofs.Ytojbkhheaondhaa

namespace Go.Proofs.Ytojbkhheaondhaa
open Go.RowKit PlainLetter

open Go.Shelf
attribute [local go_sem] Oper.semAt_some

theorem kids_is (U D W B : Option Addr) (cu cd cw cb : Nat) (t : PlainTrie.Tree) (i : Int) (w : World) :
    Calls Try.prog 58 #[treeV U D W B t cu cd cw cb, .int .i64 i] w fun e w' =>
      e = .returned (.func (.func 70) #[] #[.pointer (some ⟨w.heap.size + 1, 0, none⟩), .pointer (some ⟨w.heap.size, 0, none⟩)]) ∧
      w' = (w.alloc (.cells #[.slice U t.up.length cu, .slice D t.depth.length cd, .slice W t.word.length cw, .slice B t.byte.length cb] 30)).alloc (.cells #[.int .i64 i] 3) := by
  have hmf : ∀ (fn : Fn) (first cap : Array Value) (w : World), (Instr.makeFunc fn first cap).run Try.prog w = .ok (.func fn first cap) w := fun _ _ _ _ => rfl
  go_enter Try.func58, Try.ntmps58
  go_wp2_with fail
  go_ret
  exact ⟨by simp, rfl⟩

set_option maxHeartbeats 4000000 in
theorem kids_in (l gn gt node : Nat) (U D W B : Option Addr) (cu cd cw cb : Nat) (t : PlainTrie.Tree) (stop : Nat → Prop) (S : World → Prop) (Sx : Nat → World → Prop) (W0 : World)
    (hn : node < t.up.length) (h4 : t.up.length ≤ 400) (hmono : ∀ j, 1 < j → j < t.up.length → t.up.getD (j - 1) 0 ≤ t.up.getD j 0)
    (hS : ∀ V, S V → Holds V gn 3 #[.int .i64 (node : Int)] ∧ Holds V gt 30 #[.slice U t.up.length cu, .slice D t.depth.length cd, .slice W t.word.length cw, .slice B t.byte.length cb] ∧ Arr V .i64 U t.up)
    (hSd : ∀ V, S V → S V.drew)
    (hY : ∀ k V, S V → node < k → k < t.up.length → t.up.getD k 0 = (node : Int) → ¬ stop k → YieldAt Fence.wide 0 Try.prog l #[.int .i64 (k : Int)] V (fun e V' => e = .returned (.bool true) ∧ S V'))
    (hYx : ∀ k V, S V → node < k → k < t.up.length → t.up.getD k 0 = (node : Int) → stop k → YieldAt Fence.wide 0 Try.prog l #[.int .i64 (k : Int)] V (fun e V' => e = .returned (.bool false) ∧ Sx k V'))
    (h0 : S W0) :
    CallsIn Fence.wide 0 Try.prog 70 #[.func (.yield l) #[] #[], .pointer (some ⟨gn, 0, none⟩), .pointer (some ⟨gt, 0, none⟩)] W0 fun e V' => (∃ v, e = .returned v) ∧
      ((S V' ∧ ∀ q, node < q → q < t.up.length → t.up.getD q 0 = (node : Int) → ¬ stop q) ∨
       ∃ k, node < k ∧ k < t.up.length ∧ t.up.getD k 0 = (node : Int) ∧ stop k ∧ (∀ q, node < q → q < k → t.up.getD q 0 = (node : Int) → ¬ stop q) ∧ Sx k V') := by
  have hm2 : Hid (∀ k q, 0 < k → k ≤ q → q < t.up.length → t.up.getD k 0 ≤ t.up.getD q 0) := hid (fun k q h1 h2 h3 => by
    induction q with
    | zero => omega
    | succ q ih =>
      by_cases e : k = q + 1
      · subst e; exact Int.le_refl _
      · have a1 := ih (by omega) (by omega)
        have a2 := hmono (q + 1) (by omega) h3
        simp at a2
        simp at a1
        simp
        omega)
  clear hmono
  replace hS := hid hS
  replace hSd := hid hSd
  replace hY := hid hY
  replace hYx := hid hYx
  have cn := ((hS.out _ h0).1.cell 0).trans (show _ = some (Value.int .i64 (node : Int)) from rfl)
  replace h0 := hid h0
  refine callsIn_of_wp Try.func70 rfl trivial ?_ rfl
  simp only [Try.ntmps70, List.size_toArray, List.length_cons, List.length_nil, Nat.reduceAdd, Nat.reduceSub, Array.replicate_succ, Array.replicate_zero, List.push_toArray, List.append_toArray, List.nil_append, List.cons_append]
  gi_wp2_with fail
  gi_loopw [4] (fun i wr => ∃ k : Nat, node < k ∧ k ≤ t.up.length ∧ i = .int .i64 k ∧ S wr ∧ ∀ q, node < q → q < k → t.up.getD q 0 = (node : Int) → ¬ stop q) (fun i _ => t.up.length - (intOf i).toNat)
  case atStart => exact ⟨node + 1, by omega, by omega, by go_num, h0.out, fun q h1 h2 => by omega⟩
  case round =>
    clear cn
    obtain ⟨k, hk1, hk, rfl, hSw, hall⟩ := hrel
    obtain ⟨x1, x2, x3⟩ := hS.out _ hSw
    have cn := (x1.cell 0).trans (show _ = some (Value.int .i64 (node : Int)) from rfl)
    have c0 := (x2.cell 0).trans (show _ = some (Value.slice U t.up.length cu) from rfl)
    by_cases hlt : k < t.up.length
    · obtain ⟨bu, ou, rfl, lu, ku⟩ := x3.at_ hlt
      have kk := ku k hlt
      have hS1 := hid (hSd.out _ (hSd.out _ hSw))
      have hS1a := hid (hSd.out _ hSw)
      have q0 : (0 : Int) ≤ (k : Int) := by omega
      have q1 : (k : Int) < (t.up.length : Int) := by omega
      have hmk := hid (fun q h2 h3 => hm2.out k q (by omega) h2 h3)
      have hYk := hid (hY.out k · · hk1 hlt)
      have hYxk := hid (hYx.out k · · hk1 hlt)
      generalize hpp : t.up.getD k 0 = p at kk hmk hYk hYxk
      replace hpp := hid hpp
      replace hall := hid hall
      replace hSw := hid hSw
      clear x1 x2 x3 ku
      by_cases hle : p ≤ (node : Int)
      · gi_wp2_with fail
        refine tail_plain 13 (by kernel_rfl) (by kernel_rfl) rfl ?_
        simp only [List.take_succ_cons, List.take_zero, List.drop_succ_cons, List.drop_zero]
        repeat still_step
        refine wpStill_nil ?_
        gi_wp2_with fail
        have n0 : wr.drew.cell? ⟨gn, 0, none⟩ = some (.int .i64 (node : Int)) := cn
        have d0 : wr.drew.cell? ⟨gt, 0, none⟩ = some (.slice (some ⟨bu, ou, none⟩) t.up.length cu) := c0
        have dk : wr.drew.cell? ⟨bu, ou + k, none⟩ = some (.int .i64 p) := kk
        obtain ⟨W1, hW1⟩ : ∃ W1, wr.drew = W1 := ⟨_, rfl⟩
        rw [hW1] at n0 d0 dk hS1 hS1a ⊢
        clear hW1 cn c0 kk hSw
        by_cases hpn : p = (node : Int)
        · subst hpn
          by_cases hst : stop k
          · obtain ⟨fn, tmps, assign, body, hy, hR⟩ := hYxk.out _ hS1.out rfl hst
            have hfin := hid (fun (V : World) (hx : Sx k V) => show (∃ k, node < k ∧ k < t.up.length ∧ t.up.getD k 0 = (node : Int) ∧ stop k ∧ (∀ q, node < q → q < k → t.up.getD q 0 = (node : Int) → ¬ stop q) ∧ Sx k V) from ⟨k, hk1, hlt, hpp.out, hst, hall.out, hx⟩)
            refine tail_plain 10 (by kernel_rfl) (by kernel_rfl) rfl ?_
            simp only [List.take_succ_cons, List.take_zero, List.drop_succ_cons, List.drop_zero]
            repeat still_step
            refine wpStill_nil ?_
            clear n0 d0 dk
            gi_wp2_with fail
            refine ⟨rfl, hR.mono ?_⟩
            rintro e W2 ⟨rfl, hx⟩
            replace hx := hid hx
            gi_wp2_with fail
            refine bodyPost_ret (results_none rfl _ _ _) rfl ?_
            exact ⟨⟨_, rfl⟩, .inr (hfin.out _ hx.out)⟩
          · obtain ⟨fn, tmps, assign, body, hy, hR⟩ := hYk.out _ hS1.out rfl hst
            refine tail_plain 10 (by kernel_rfl) (by kernel_rfl) rfl ?_
            simp only [List.take_succ_cons, List.take_zero, List.drop_succ_cons, List.drop_zero]
            repeat still_step
            refine wpStill_nil ?_
            clear n0 d0 dk
            gi_wp2_with fail
            refine ⟨rfl, hR.mono ?_⟩
            rintro e W2 ⟨rfl, hx⟩
            replace hx := hid hx
            gi_wp2_with fail
            go_roundw
            case rel => exact ⟨k + 1, by omega, by omega, by go_num, hx.out, fun q h1 h2 h3 => by
              by_cases e : q = k
              · subst e; exact hst
              · exact hall.out q h1 (by omega) h3⟩
            case measure => simp [intOf]; omega
        · have hne : (p == (node : Int)) = false := by simp [hpn]
          replace hpn := hid hpn
          refine tail_plain 12 (by kernel_rfl) (by kernel_rfl) rfl ?_
          simp only [List.take_succ_cons, List.take_zero, List.drop_succ_cons, List.drop_zero]
          repeat still_step
          refine wpStill_nil ?_
          clear n0 d0 dk
          gi_wp2_with fail
          go_roundw
          case rel => exact ⟨k + 1, by omega, by omega, by go_num, by first | exact hS1.out | exact hS1a.out, fun q h1 h2 h3 => by
            by_cases e : q = k
            · subst e; exact absurd (hpp.out.symm.trans h3) hpn.out
            · exact hall.out q h1 (by omega) h3⟩
          case measure => simp [intOf]; omega
      · have hfin : Hid (∀ q, node < q → q < t.up.length → t.up.getD q 0 = (node : Int) → ¬ stop q) := hid (fun q h1 h2 h3 => by
          rcases Nat.lt_or_ge q k with e | e
          · exact hall.out q h1 e h3
          · have := hmk.out q e h2; omega)
        gi_wp2_with fail
        refine tail_plain 13 (by kernel_rfl) (by kernel_rfl) rfl ?_
        simp only [List.take_succ_cons, List.take_zero, List.drop_succ_cons, List.drop_zero]
        repeat still_step
        refine wpStill_nil ?_
        clear cn c0 kk
        gi_wp2_with fail
        go_end0
        exact ⟨⟨_, rfl⟩, .inl ⟨by first | exact hS1a.out | exact hS1.out, hfin.out⟩⟩
    · have hfin : Hid (∀ q, node < q → q < t.up.length → t.up.getD q 0 = (node : Int) → ¬ stop q) := hid (fun q h1 h2 h3 => hall q h1 (by omega) h3)
      have hS1a := hid (hSd.out _ hSw)
      have hlt' : ¬ ((k : Int) < (t.up.length : Int)) := by omega
      replace hSw := hid hSw
      clear x1 x2 x3 hall
      gi_wp2_with fail
      refine tail_plain 13 (by kernel_rfl) (by kernel_rfl) rfl ?_
      simp only [List.take_succ_cons, List.take_zero, List.drop_succ_cons, List.drop_zero]
      repeat still_step
      refine wpStill_nil ?_
      clear cn c0
      gi_wp2_with fail
      go_end0
      exact ⟨⟨_, rfl⟩, .inl ⟨hS1a.out, hfin.out⟩⟩

end Go.Proofs.Ytojbkhheaondhaa
