/- Package trie: is each node without a kid a word?. A map of the call's own from numbers to numbers; package trie: the words' places. -/
import Derived.Test.YtojbkhheaondhaaTCmp
import Derived.Test.YtojbkhheaondhaaK4
import Derived.Test.YtojbkhheaondhaaK7
import Derived.Test.YtojbkhheaondhaaK22
import Derived.Test.YtojbkhheaondhaaCollect
import Derived.Maps.Keyed
import Derived.MapKept
import Derived.Carry
import Derived.WideLaws
set_option linter.unusedSimpArgs false
set_option linter.unusedVariables false
set_option maxRecDepth 100000
namespace Go.Proofs.Ytojbkhheaondhaa
open Go.RowKit PlainLetter

theorem noKids : Try.zeroCells78 = Array.replicate 400 (.bool false) := by kernel_rfl
/-- Is v the node above one of the nodes 1 to k? -/
def marked (u : List Int) : Nat → Nat → Bool
  | 0, _ => false
  | k + 1, v => marked u k v || decide (u.getD (k + 1) 0 = (v : Int))
theorem marked_is (u : List Int) (v : Nat) : ∀ k, marked u k v = true ↔ ∃ i, 0 < i ∧ i ≤ k ∧ u.getD i 0 = (v : Int)
  | 0 => by simp [marked]; omega
  | k + 1 => by
    unfold marked
    rw [Bool.or_eq_true, marked_is u v k, decide_eq_true_eq]
    constructor
    · rintro (⟨i, h1, h2, h3⟩ | h)
      · exact ⟨i, h1, by omega, h3⟩
      · exact ⟨k + 1, by omega, by omega, h⟩
    · rintro ⟨i, h1, h2, h3⟩
      by_cases e : i = k + 1
      · subst e; exact .inr h3
      · exact .inl ⟨i, h1, by omega, h3⟩
theorem marked_next {u : List Int} {k v : Nat} (hv : u.getD (k + 1) 0 = (v : Int)) (x : Nat) : marked u (k + 1) x = (marked u k x || decide (x = v)) := by
  show (marked u k x || decide (u.getD (k + 1) 0 = (x : Int))) = _
  rw [hv]
  by_cases e : x = v
  · subst e; simp
  · rw [decide_eq_false e, decide_eq_false (by omega)]
/-- The block of marks. -/
structure Flags (w : World) (g : Nat) (f : Nat → Bool) : Prop where
  ex : ∃ cs, Holds w g 78 cs ∧ cs.size = 400 ∧ ∀ v, v < 400 → cs[v]? = some (.bool (f v))
theorem Flags.cell {w : World} {g : Nat} {f : Nat → Bool} (h : Flags w g f) {v : Nat} (hv : v < 400) : w.cell? ⟨g, v, none⟩ = some (.bool (f v)) := by
  obtain ⟨cs, h1, h2, h3⟩ := h.ex
  rw [h1.cell]; exact h3 v hv
theorem Flags.lt {w : World} {g : Nat} {f : Nat → Bool} (h : Flags w g f) : g < w.heap.size := by obtain ⟨cs, h1, _⟩ := h.ex; exact h1.lt
theorem Flags.free {w : World} {g : Nat} {f : Nat → Bool} (h : Flags w g f) (i : Nat) : w.frozen? ⟨g, i, none⟩ = false := by obtain ⟨cs, h1, _⟩ := h.ex; exact h1.free i
theorem Flags.set {w : World} {g : Nat} {f f' : Nat → Bool} (h : Flags w g f) {v : Nat} (hf : ∀ x, x < 400 → f' x = (f x || decide (x = v))) : Flags (w.setCell ⟨g, v, none⟩ (.bool true)) g f' := by
  obtain ⟨cs, h1, h2, h3⟩ := h.ex
  refine ⟨_, h1.set v (.bool true), by simpa using h2, fun x hx => ?_⟩
  rw [Array.getElem?_setIfInBounds, hf x hx]
  by_cases e : v = x
  · subst e; rw [if_pos rfl, if_pos (by omega)]; simp
  · rw [if_neg e, h3 x hx, decide_eq_false (fun e' => e e'.symm)]; simp

set_option maxHeartbeats 4000000 in
theorem ended_is (U D W B : Option Addr) (cu cd cw cb : Nat) (t : PlainTrie.Tree) (w : World) (X : Bool) (hX : X = true ↔ PlainTrie.Ended t) (hE : PlainTrie.Even t) (hR : PlainTrie.Rising t) (hcu : t.up.length ≤ cu) (hT : TreeAt w U D W B t) :
    Calls Try.prog 32 #[treeV U D W B t cu cd cw cb] w fun e w' => e = .returned (.bool X) ∧ w.grownBy w' none := by
  obtain ⟨u, d, o, b⟩ := t
  have hup : Hid (∀ k, 0 < k → k < u.length → 0 ≤ u.getD k 0 ∧ u.getD k 0 < 400) := hid (fun k h0 h1 => by
    obtain ⟨g1, g2, _⟩ := hR k h0 h1
    simp only at g1 g2
    have := hE.2.1
    simp only at this
    omega)
  have hno : Hid (∀ j, j < o.length → o.getD j 0 = -1 → marked u (u.length - 1) j = false → X = false) := hid (fun j hj hw hm => by
    cases X with
    | false => rfl
    | true =>
      obtain ⟨i, h1, h2, h3⟩ := hX.1 rfl j (by have := hE.2.2.2.1; simp only at this ⊢; omega) hw
      simp only at h2 h3
      have := (marked_is u j (u.length - 1)).2 ⟨i, h1, by omega, h3⟩
      rw [this] at hm; cases hm)
  have hyes : Hid ((∀ j, j < o.length → o.getD j 0 = -1 → marked u (u.length - 1) j = true) → X = true) := hid (fun h => hX.2 (fun j hj hw => by
    simp only at hj hw ⊢
    obtain ⟨i, h1, h2, h3⟩ := (marked_is u j (u.length - 1)).1 (h j (by have := hE.2.2.2.1; simp only at this; omega) hw)
    exact ⟨i, h1, by omega, h3⟩))
  clear hX hR
  obtain ⟨e0, e1, e2, e3, e4⟩ := hE
  simp only at e0 e1 e2 e3 e4 hcu
  have hU := hid hT.up
  have hW := hid hT.word
  clear hT
  simp only at hU hW
  replace e2 := hid e2
  replace e3 := hid e3
  replace e4 := hid e4
  have hG0 : Hid (w.grownBy (w.alloc (.cells #[.slice U u.length cu, .slice D d.length cd, .slice W o.length cw, .slice B b.length cb] 30)) none) := grown_alloc (grown_refl w none) _
  have K1 : Hid (Holds (w.alloc (.cells #[.slice U u.length cu, .slice D d.length cd, .slice W o.length cw, .slice B b.length cb] 30)) w.heap.size 30 #[.slice U u.length cu, .slice D d.length cd, .slice W o.length cw, .slice B b.length cb]) := Holds.new _ _ _
  go_enter Try.func32, Try.ntmps32
  go_upto_region 1 with fail
  obtain ⟨W0, hW0⟩ : ∃ W0, w.alloc (.cells #[.slice U u.length cu, .slice D d.length cd, .slice W o.length cw, .slice B b.length cb] 30) = W0 := ⟨_, rfl⟩
  rw [hW0] at K1 hG0 ⊢
  clear hW0
  obtain ⟨h, hh⟩ : ∃ h, w.heap.size = h := ⟨_, rfl⟩
  rw [hh] at K1 ⊢
  replace hh := hid hh
  have c0 := (K1.out.cell 0).trans (show _ = some (Value.slice U u.length cu) from rfl)
  have c1 := (K1.out.cell 1).trans (show _ = some (Value.slice D d.length cd) from rfl)
  have c2 := (K1.out.cell 2).trans (show _ = some (Value.slice W o.length cw) from rfl)
  have c3 := (K1.out.cell 3).trans (show _ = some (Value.slice B b.length cb) from rfl)
  have hU0 := hid (hU.out.grown hG0.out)
  have hW0 := hid (hW.out.grown hG0.out)
  clear hU hW c1 c3
  have hFl := hid (show Flags (W0.alloc (.cells Try.zeroCells78 78)) W0.heap.size (marked u 0) from ⟨_, Holds.new _ _ _, by rw [noKids]; simp, fun v hv => by rw [noKids]; simp [hv, marked]⟩)
  have hgn := hid (grown_alloc (grown_refl W0 none) (.cells Try.zeroCells78 78))
  have p0 : (1 : Int) ≤ (u.length : Int) := by omega
  have p1 : (u.length : Int) ≤ (cu : Int) := by omega
  go_upto_region 2 with fail
  obtain ⟨W1, hW1⟩ : ∃ W1, W0.alloc (.cells Try.zeroCells78 78) = W1 := ⟨_, rfl⟩
  rw [hW1] at hFl hgn ⊢
  clear hW1
  obtain ⟨g, hg⟩ : ∃ g, W0.heap.size = g := ⟨_, rfl⟩
  rw [hg] at hFl ⊢
  replace hg := hid hg
  have L1 := K1.out.kept0 hgn.out
  clear c0 c2
  have c0 := (L1.cell 0).trans (show _ = some (Value.slice U u.length cu) from rfl)
  clear L1
  by_cases hc1 : cu = 1
  · subst hc1
    have hA1 : Hid (Arr W0 .i64 U (u.drop 1)) := hid (fun hz => by
      have hlen : 1 < u.length := by
        rcases Nat.lt_or_ge 1 u.length with h1 | h1
        · exact h1
        · exact absurd (List.drop_eq_nil_of_le h1) hz
      obtain ⟨b1, o1, rfl, l1, k1⟩ := hU0.out.at_ hlen
      omega)
    obtain ⟨m, hm⟩ : ∃ m, u.length - 1 = m := ⟨_, rfl⟩
    rw [hm] at hno hyes
    have hdl : Hid ((u.drop 1).length = m) := hid (by simp; omega)
    have hmb : m ≤ 400 := by omega
    replace hm := hid hm
    go_wp2_with fail
    obtain ⟨A1, hA1e⟩ : ∃ A1, U = A1 := ⟨_, rfl⟩
    rw [hA1e] at hA1
    try rw [hA1e]
    clear hA1e
    have hm0 : Hid (m = 0) := hid (by have := hm.out; omega)
    go_loopw [12] (fun i wr => ∃ k : Nat, k ≤ 0 ∧ i = .int .i64 k ∧ W1.grownBy wr (some g) ∧ Flags wr g (marked u k)) (fun i _ => 0 - (intOf i).toNat)
    case atStart => exact ⟨0, Nat.zero_le _, rfl, grown_refl _ _, hFl.out⟩
    case round =>
      obtain ⟨k, hk, rfl, hG, hF⟩ := hrel
      have hGw := hid (grown_trans_row hgn.out (by have := hg.out; omega) hG)
      by_cases hlt : k < 0
      · exact absurd hlt (by omega)
      · have hke : Hid (k = m) := hid (by have := hm0.out; omega)
        have hGG := hid (grown_trans hG0.out hGw.out)
        have K2 := hid (K1.out.kept0 hGw.out)
        have c2 := (K2.out.cell 2).trans (show _ = some (Value.slice W o.length cw) from rfl)
        have hWr := hid (hW0.out.grown hGw.out)
        have hkm : ¬ ((k : Int) < 0) := by omega
        replace hG := hid hG
        replace hF := hid hF
        clear c0
        go_wp2_with fail
        go_loopw [22] (fun i w5 => ∃ j : Nat, j ≤ o.length ∧ i = .int .i64 j ∧ w5 = wr ∧ ∀ q, q < j → o.getD q 0 = -1 → marked u k q = true) (fun i _ => o.length - (intOf i).toNat)
        case atStart => exact ⟨0, Nat.zero_le _, rfl, rfl, fun q hq => by omega⟩
        case round =>
          obtain ⟨j, hj, rfl, rfl, hall⟩ := hrel
          by_cases hlt : j < o.length
          · obtain ⟨b2, o2, hA, l2, k2⟩ := hWr.out.at_ hlt
            subst hA
            have k2j := k2 j hlt
            have hj4 : j < 400 := by have := e3.out; omega
            have cv := hF.out.cell hj4
            have hnj := hid (show o.getD j 0 = -1 → marked u k j = false → X = false by rw [hke.out]; exact hno.out j hlt)
            have q0 : (0 : Int) ≤ (j : Int) := by omega
            have hjb : o.length ≤ 400 := by have := e3.out; omega
            have q1 : (j : Int) < (o.length : Int) := by omega
            have q2 : (j : Int) < 400 := by omega
            have hxs := hid (show ∀ q, q < j + 1 → (q < j ∨ q = j) by intro q hq; omega)
            clear k2 c2
            obtain ⟨x, hx⟩ : ∃ x, o.getD j 0 = x := ⟨_, rfl⟩
            obtain ⟨bv, hbv⟩ : ∃ bv, marked u k j = bv := ⟨_, rfl⟩
            rw [hx] at hnj k2j
            rw [hbv] at hnj cv
            replace hall := hid hall
            replace hx := hid hx
            replace hbv := hid hbv
            have go_on : Hid ((x = -1 → bv = true) → ∀ q, q < j + 1 → o.getD q 0 = -1 → marked u k q = true) := hid (fun hh q hq hw => by
              rcases hxs.out q hq with h1 | rfl
              · exact hall.out q h1 hw
              · rw [hbv.out]; exact hh (by rw [← hx.out]; exact hw))
            by_cases hx1 : x = -1
            · subst hx1
              cases bv with
              | false =>
                have hf := hid (hnj.out rfl rfl)
                go_wp2_with fail
                go_ret
                exact ⟨by rw [hf.out]; rfl, hGG.out⟩
              | true =>
                go_wp2_with fail
                go_roundw
                case rel => exact ⟨j + 1, by omega, by go_num, by first | rfl | trivial, go_on.out (fun _ => rfl)⟩
                case measure => simp [intOf]; omega
            · have hne : (x == -1) = false := by simp [hx1]
              have hgo := hid (go_on.out (fun e => absurd e hx1))
              replace hx1 := hid hx1
              go_wp2_with fail
              go_roundw
              case rel => exact ⟨j + 1, by omega, by go_num, by first | rfl | trivial, hgo.out⟩
              case measure => simp [intOf]; omega
          · have hV := hid (hyes.out (fun q hq hw => by rw [← hke.out]; exact hall q (by omega) hw))
            have hlt' : ¬ ((j : Int) < (o.length : Int)) := by omega
            clear hall c2
            go_wp2_with fail
            go_ret
            exact ⟨by rw [hV.out]; rfl, hGG.out⟩
  · have hcx : Hid True := hid trivial
    have hA1 : Hid (Arr W0 .i64 (Option.map (fun x : Addr => ({ block := x.block, off := x.off + 1 } : Addr)) U) (u.drop 1)) := hid (fun hz => by
      have hlen : 1 < u.length := by
        rcases Nat.lt_or_ge 1 u.length with h1 | h1
        · exact h1
        · exact absurd (List.drop_eq_nil_of_le h1) hz
      obtain ⟨b1, o1, rfl, l1, k1⟩ := hU0.out.at_ hlen
      exact ⟨b1, o1 + 1, rfl, l1, fun j hj => by
        simp only [List.length_drop] at hj
        have := k1 (1 + j) (by omega)
        rw [getD_drop, ← this, Nat.add_assoc]⟩)
    obtain ⟨m, hm⟩ : ∃ m, u.length - 1 = m := ⟨_, rfl⟩
    rw [hm] at hno hyes
    have hdl : Hid ((u.drop 1).length = m) := hid (by simp; omega)
    have hmb : m ≤ 400 := by omega
    replace hm := hid hm
    go_wp2_with fail
    obtain ⟨A1, hA1e⟩ : ∃ A1, (Option.map (fun x : Addr => ({ block := x.block, off := x.off + 1 } : Addr)) U) = A1 := ⟨_, rfl⟩
    rw [hA1e] at hA1
    try rw [hA1e]
    clear hA1e
    try rw [hm.out]
    generalize cu - 1 = c1x
    go_loopw [12] (fun i wr => ∃ k : Nat, k ≤ m ∧ i = .int .i64 k ∧ W1.grownBy wr (some g) ∧ Flags wr g (marked u k)) (fun i _ => m - (intOf i).toNat)
    case atStart => exact ⟨0, Nat.zero_le _, rfl, grown_refl _ _, hFl.out⟩
    case round =>
      obtain ⟨k, hk, rfl, hG, hF⟩ := hrel
      have hGw := hid (grown_trans_row hgn.out (by have := hg.out; omega) hG)
      by_cases hlt : k < m
      · have q0 : (0 : Int) ≤ (k : Int) := by omega
        have q1 : (k : Int) < (m : Int) := by omega
        obtain ⟨b1, o1, hA, l1, k1⟩ := hA1.out.at_ (i := k) (by rw [hdl.out]; exact hlt)
        subst hA
        have k1k := k1 k (by rw [hdl.out]; exact hlt)
        have hvd : (u.drop 1).getD k 0 = u.getD (k + 1) 0 := by rw [getD_drop, Nat.add_comm]
        rw [hvd] at k1k
        have hupk := hup.out (k + 1) (by omega) (by have := hm.out; omega)
        have k2 := ((gcell hGw.out).1 b1 _ l1).trans k1k
        obtain ⟨v, hv⟩ := Int.eq_ofNat_of_zero_le hupk.1
        have hFs := hid (hF.set (f' := marked u (k + 1)) (v := v) (fun x hx => marked_next hv x))
        rw [hv] at k2 hupk
        have hv4 : v < 400 := by omega
        have cv := hF.cell hv4
        have fv := hF.free v
        have hlt2 := hF.lt
        generalize marked u k v = bv at cv
        have hGs := hid (grown_set (p := ⟨g, v, none⟩) hG (.inl rfl) (.bool true))
        replace hF := hid hF
        replace hG := hid hG
        have q2 : (v : Int) < 400 := by omega
        clear k1 k1k hvd hv hupk l1
        go_wp2_with fail
        go_roundw
        case rel => exact ⟨k + 1, by omega, by go_num, hGs.out, hFs.out⟩
        case measure => simp [intOf]; omega
      · have hke : Hid (k = m) := hid (by omega)
        have hGG := hid (grown_trans hG0.out hGw.out)
        have K2 := hid (K1.out.kept0 hGw.out)
        have c2 := (K2.out.cell 2).trans (show _ = some (Value.slice W o.length cw) from rfl)
        have hWr := hid (hW0.out.grown hGw.out)
        have hkm : ¬ ((k : Int) < (m : Int)) := by omega
        replace hG := hid hG
        replace hF := hid hF
        clear c0
        go_wp2_with fail
        go_loopw [22] (fun i w5 => ∃ j : Nat, j ≤ o.length ∧ i = .int .i64 j ∧ w5 = wr ∧ ∀ q, q < j → o.getD q 0 = -1 → marked u k q = true) (fun i _ => o.length - (intOf i).toNat)
        case atStart => exact ⟨0, Nat.zero_le _, rfl, rfl, fun q hq => by omega⟩
        case round =>
          obtain ⟨j, hj, rfl, rfl, hall⟩ := hrel
          by_cases hlt : j < o.length
          · obtain ⟨b2, o2, hA, l2, k2⟩ := hWr.out.at_ hlt
            subst hA
            have k2j := k2 j hlt
            have hj4 : j < 400 := by have := e3.out; omega
            have cv := hF.out.cell hj4
            have hnj := hid (show o.getD j 0 = -1 → marked u k j = false → X = false by rw [hke.out]; exact hno.out j hlt)
            have q0 : (0 : Int) ≤ (j : Int) := by omega
            have hjb : o.length ≤ 400 := by have := e3.out; omega
            have q1 : (j : Int) < (o.length : Int) := by omega
            have q2 : (j : Int) < 400 := by omega
            have hxs := hid (show ∀ q, q < j + 1 → (q < j ∨ q = j) by intro q hq; omega)
            clear k2 c2
            obtain ⟨x, hx⟩ : ∃ x, o.getD j 0 = x := ⟨_, rfl⟩
            obtain ⟨bv, hbv⟩ : ∃ bv, marked u k j = bv := ⟨_, rfl⟩
            rw [hx] at hnj k2j
            rw [hbv] at hnj cv
            replace hall := hid hall
            replace hx := hid hx
            replace hbv := hid hbv
            have go_on : Hid ((x = -1 → bv = true) → ∀ q, q < j + 1 → o.getD q 0 = -1 → marked u k q = true) := hid (fun hh q hq hw => by
              rcases hxs.out q hq with h1 | rfl
              · exact hall.out q h1 hw
              · rw [hbv.out]; exact hh (by rw [← hx.out]; exact hw))
            by_cases hx1 : x = -1
            · subst hx1
              cases bv with
              | false =>
                have hf := hid (hnj.out rfl rfl)
                go_wp2_with fail
                go_ret
                exact ⟨by rw [hf.out]; rfl, hGG.out⟩
              | true =>
                go_wp2_with fail
                go_roundw
                case rel => exact ⟨j + 1, by omega, by go_num, by first | rfl | trivial, go_on.out (fun _ => rfl)⟩
                case measure => simp [intOf]; omega
            · have hne : (x == -1) = false := by simp [hx1]
              have hgo := hid (go_on.out (fun e => absurd e hx1))
              replace hx1 := hid hx1
              go_wp2_with fail
              go_roundw
              case rel => exact ⟨j + 1, by omega, by go_num, by first | rfl | trivial, hgo.out⟩
              case measure => simp [intOf]; omega
          · have hV := hid (hyes.out (fun q hq hw => by rw [← hke.out]; exact hall q (by omega) hw))
            have hlt' : ¬ ((j : Int) < (o.length : Int)) := by omega
            clear hall c2
            go_wp2_with fail
            go_ret
            exact ⟨by rw [hV.out]; rfl, hGG.out⟩

end Go.Proofs.Ytojbkhheaondhaa

namespace Go.Proofs.Ytojbkhheaondhaa
open Go.RowKit PlainLetter Go.ChangeMaps Go.MapKept Go.Maps

theorem int_law : Keyed Try.prog 3 := int_keyed Try.underlying3
theorem plc_map : Try.prog.underlying 58 = some (.map 3 3) := by kernel_rfl
theorem plc_zero (w : World) : (zeroValue 3).run Try.prog w = .ok (.int .i64 0) w := by kernel_rfl

theorem nkey_of (k : Int) (h : (Lit.int .i64 k).wf = true) : keyOf Try.prog 3 (.int .i64 k) = some (.int .i64 k) := by
  unfold keyOf
  simp [Try.underlying3, h, mapKey]

/-- Block b is a map that has just these keys, and tells f of them. -/
def MapN (w : World) (b : Nat) (ks : List Int) (f : Int → Int) : Prop :=
  ∃ es clock, w.heap[b]? = some (.map es clock) ∧ es.size = ks.length ∧ (∀ (i : Nat) (e : MapEntry), es.toList[i]? = some e → e.key = .int .i64 (ks.getD i 0) ∧ e.val = .int .i64 (f (ks.getD i 0))) ∧ ks.Nodup ∧ ∀ k ∈ ks, (Lit.int .i64 k).wf = true

theorem MapN.kept {w w' : World} {b : Nat} {ks : List Int} {f : Int → Int} {row : Option Nat} (h : MapN w b ks f) (hg : w.grownBy w' row) (hne : some b ≠ row) : MapN w' b ks f := by
  obtain ⟨es, clock, hb, hr⟩ := h
  exact ⟨es, clock, (hg.block b (Array.getElem?_eq_some_iff.1 hb).1 hne).trans hb, hr⟩
theorem MapN.lt {w : World} {b : Nat} {ks : List Int} {f : Int → Int} (h : MapN w b ks f) : b < w.heap.size := by
  obtain ⟨es, clock, hb, hr⟩ := h
  exact (Array.getElem?_eq_some_iff.1 hb).1
theorem MapN.made (w : World) (f : Int → Int) : MapN (w.alloc (.map #[] 0)) w.heap.size [] f := ⟨#[], 0, World.alloc_heap_new w _, rfl, fun i e h => by simp at h, List.nodup_nil, fun k h => by cases h⟩

theorem MapN.find {w : World} {b : Nat} {ks : List Int} {f : Int → Int} (h : MapN w b ks f) (k : Int) (hk : (Lit.int .i64 k).wf = true) :
    ∃ es clock, w.heap[b]? = some (.map es clock) ∧ es.size = ks.length ∧
      (if k ∈ ks then ∃ j e0, (Instr.findKey 3 (.int .i64 k) es.toList).run Try.prog w = .ok (some (j, .int .i64 (f k))) w ∧ es.toList[j]? = some e0 ∧ e0.key = .int .i64 k ∧ ks.getD j 0 = k ∧ j < ks.length
       else (Instr.findKey 3 (.int .i64 k) es.toList).run Try.prog w = .ok none w) := by
  obtain ⟨es, clock, hb, hs, he, hn, ho⟩ := h
  have hl := nkey_of k hk
  have hsl : es.toList.length = ks.length := by rw [Array.length_toList, hs]
  refine ⟨es, clock, hb, hs, ?_⟩
  have gd : ∀ {i : Nat}, i < ks.length → ks.getD i 0 = ks[i]! := fun hi => by simp [List.getD, hi]
  rcases int_law.find w hl es.toList (fun e hm => by
    obtain ⟨i, hi, rfl⟩ := List.mem_iff_getElem.1 hm
    rw [(he i _ (List.getElem?_eq_getElem hi)).1]
    exact ⟨_, nkey_of _ (ho _ (by rw [show ks.getD i 0 = ks[i]'(by omega) by simp [List.getD, show i < ks.length by omega]]; exact List.getElem_mem _))⟩) with ⟨h1, h2⟩ | ⟨j, e0, h1, h2, h3⟩
  · rw [if_neg, h1]
    intro hm
    obtain ⟨i, hi, rfl⟩ := List.mem_iff_getElem.1 hm
    refine h2 es.toList[i] (List.getElem_mem _) ?_
    rw [(he i _ (List.getElem?_eq_getElem (by omega))).1]
    simp [List.getD, hi]
  · obtain ⟨e1, e2⟩ := he j e0 h2
    have hj : j < ks.length := by have := (List.getElem?_eq_some_iff.1 h2).1; omega
    have e1' := e1
    rw [h3] at e1
    injection e1 with _ ek
    rw [← ek] at e2
    rw [e2] at h1
    rw [if_pos (by rw [ek, show ks.getD j 0 = ks[j] by simp [List.getD, hj]]; exact List.getElem_mem _)]
    exact ⟨j, e0, h1, h2, h3, ek.symm, hj⟩

theorem nlook_is {w : World} {b : Nat} {ks : List Int} {f : Int → Int} (h : MapN w b ks f) (k : Int) (hk : (Lit.int .i64 k).wf = true) :
    (Instr.lookup 58 (.map (some b)) (.int .i64 k) false).run Try.prog w = .ok (.int .i64 (if k ∈ ks then f k else 0)) w := by
  obtain ⟨es, clock, hb, hs, hf⟩ := h.find k hk
  have hl := nkey_of k hk
  by_cases hm : k ∈ ks
  · rw [if_pos hm] at hf
    obtain ⟨j, e0, hf, _⟩ := hf
    simp [Instr.lookup, run_underlying plc_map, MapKept.run_getObj_map hb, int_law.check w _ hl, hf, Result.andThen, hm]
  · rw [if_neg hm] at hf
    simp [Instr.lookup, run_underlying plc_map, MapKept.run_getObj_map hb, int_law.check w _ hl, hf, plc_zero, Result.andThen, hm]

theorem nlen_is {w : World} {b : Nat} {ks : List Int} {f : Int → Int} (h : MapN w b ks f) : (Builtin.len_ #[58] 3 #[.map (some b)]).run Try.prog w = .ok (.int .i64 (ks.length : Nat)) w := by
  obtain ⟨es, clock, hb, hs, _⟩ := h
  rw [run_len_map w 58 3 b es clock plc_map hb, hs]
  rfl

def addN (ks : List Int) (k : Int) : List Int := if k ∈ ks then ks else ks ++ [k]
theorem nupdate_is {w : World} {b : Nat} {ks : List Int} {f : Int → Int} (h : MapN w b ks f) (k v : Int) (hk : (Lit.int .i64 k).wf = true) :
    ∃ w', (Instr.mapUpdate 58 (.map (some b)) (.int .i64 k) (.int .i64 v)).run Try.prog w = .ok () w' ∧ MapN w' b (addN ks k) (fun x => if x = k then v else f x) ∧ w.grownBy w' (some b) := by
  obtain ⟨es, clock, hb, hs, hf⟩ := h.find k hk
  obtain ⟨es', clock', hb', hs', he, hn, ho⟩ := h
  rw [hb] at hb'
  injection hb' with hb'
  injection hb' with hb1 hb2
  subst hb1
  have hl := nkey_of k hk
  have hsl : es.toList.length = ks.length := by rw [Array.length_toList, hs]
  unfold addN
  by_cases hm : k ∈ ks
  · rw [if_pos hm] at hf ⊢
    obtain ⟨j, e0, hf, h2, h3, h4, hj⟩ := hf
    have hj2 : es[j]? = some e0 := by rw [← Array.getElem?_toList]; exact h2
    refine ⟨setBlock w b (.map (es.modify j fun e => { e with key := .int .i64 k, val := .int .i64 v }) clock), by
      simp [Instr.mapUpdate, run_underlying plc_map, MapKept.run_getObj_map hb, int_law.check w false hl, hf, hj2, h3, int_law.stays w hl, MapKept.run_setObj_map _ hb, Result.andThen, setBlock],
      ⟨_, _, heap_setBlock_same hb _, by simp [hs], fun i e hi => ?_, hn, ho⟩, ⟨rfl, rfl, rfl, by simp [setBlock], fun i _ hi => heap_setBlock_other hb _ (fun e => hi (by rw [e]))⟩⟩
    have hi' : (es.modify j fun e => { e with key := .int .i64 k, val := .int .i64 v })[i]? = some e := by rw [← Array.getElem?_toList]; exact hi
    rw [Array.getElem?_modify] at hi'
    by_cases e' : j = i
    · subst e'
      rw [if_pos rfl, hj2] at hi'
      simp at hi'
      subst hi'
      exact ⟨by rw [h4], by rw [h4]; simp⟩
    · rw [if_neg e'] at hi'
      obtain ⟨a1, a2⟩ := he i e (by rw [Array.getElem?_toList]; exact hi')
      refine ⟨a1, ?_⟩
      have hil : i < ks.length := by have := (Array.getElem?_eq_some_iff.1 hi').1; omega
      have hne : ks.getD i 0 ≠ k := by
        rw [← h4]
        intro e2
        rw [show ks.getD i 0 = ks[i] by simp [List.getD, hil], show ks.getD j 0 = ks[j] by simp [List.getD, hj]] at e2
        have g1 := hn.idxOf_getElem i hil
        have g2 := hn.idxOf_getElem j hj
        rw [e2, g2] at g1
        exact e' g1
      rw [a2]
      show Value.int .i64 (f (ks.getD i 0)) = Value.int .i64 (if ks.getD i 0 = k then v else f (ks.getD i 0))
      rw [if_neg hne]
  · rw [if_neg hm] at hf ⊢
    refine ⟨setBlock w b (.map (es.push ⟨.int .i64 k, .int .i64 v, clock⟩) (clock + 1)), by
      simp [Instr.mapUpdate, run_underlying plc_map, MapKept.run_getObj_map hb, int_law.check w false hl, hf, MapKept.run_setObj_map _ hb, Result.andThen, setBlock],
      ⟨_, _, heap_setBlock_same hb _, by simp [hs], fun i e hi => ?_, ?_, ?_⟩, ⟨rfl, rfl, rfl, by simp [setBlock], fun i _ hi => heap_setBlock_other hb _ (fun e => hi (by rw [e]))⟩⟩
    · rw [Array.toList_push] at hi
      by_cases hlt : i < ks.length
      · rw [List.getElem?_append_left (by omega)] at hi
        obtain ⟨a1, a2⟩ := he i e hi
        have e3 : (ks ++ [k]).getD i 0 = ks.getD i 0 := by simp [List.getD, List.getElem?_append_left hlt]
        have hne : ks.getD i 0 ≠ k := fun e2 => hm (by rw [← e2, show ks.getD i 0 = ks[i] by simp [List.getD, hlt]]; exact List.getElem_mem _)
        rw [e3]
        refine ⟨a1, ?_⟩
        rw [a2]
        show Value.int .i64 (f (ks.getD i 0)) = Value.int .i64 (if ks.getD i 0 = k then v else f (ks.getD i 0))
        rw [if_neg hne]
      · have hil : i = ks.length := by
          have := (List.getElem?_eq_some_iff.1 hi).1
          simp at this
          omega
        subst hil
        rw [← hsl] at hi
        simp at hi
        subst hi
        exact ⟨by simp [List.getD], by simp [List.getD]⟩
    · rw [List.nodup_append]
      refine ⟨hn, by simp, fun a ha c hc => ?_⟩
      obtain rfl : c = k := by simpa using hc
      rintro rfl
      exact hm ha
    · intro x hx
      rcases List.mem_append.1 hx with hx | hx
      · exact ho x hx
      · obtain rfl : x = k := by simpa using hx
        exact hk

/-- The update, at the operation. -/
theorem wpList_nupdate (w : World) {ops : Array Oper} {rest : List Oper} {o : Oper} {a : Act} {Q : Exit → Act → World → Prop}
    (hg : o.guard = none) (m x v : Operand) (hop : o.op = Op.mapUpdate 58 m x v) (b : Nat) (ks : List Int) (f : Int → Int) (k z : Int) (hM : MapN w b ks f) (hk : (Lit.int .i64 k).wf = true)
    (em : a.eval m = .map (some b)) (ex : a.eval x = .int .i64 k) (ev : a.eval v = .int .i64 z)
    (hK : ∀ w', MapN w' b (addN ks k) (fun x => if x = k then z else f x) → w.grownBy w' (some b) → wpList Try.prog ops Q rest (a.put o.dst undef) w') :
    wpList Try.prog ops Q (o :: rest) a w := by
  refine wpList_plain hg fun K' hK' => ?_
  obtain ⟨w', hrun, r1, r2⟩ := nupdate_is hM k z hk
  unfold Oper.wp
  simp [execOp, hop, em, ex, ev, hrun, Result.andThen]
  exact hK' _ _ (hK w' r1 r2)

/-- The words' places of the first i nodes. -/
structure PlTo (t : PlainTrie.Tree) (i : Nat) (ks : List Int) (f : Int → Int) : Prop where
  nodup : ks.Nodup
  keys : ∀ k, k ∈ ks ↔ k ≠ -1 ∧ ∃ j, j < i ∧ t.word.getD j 0 = k
  last : ∀ k ∈ ks, ∃ j : Nat, f k = j ∧ j < i ∧ t.word.getD j 0 = k ∧ ∀ q, j < q → q < i → t.word.getD q 0 ≠ k
theorem PlTo.zero (t : PlainTrie.Tree) (f : Int → Int) : PlTo t 0 [] f := ⟨List.nodup_nil, fun k => by simp, fun k h => by cases h⟩
theorem PlTo.skip {t : PlainTrie.Tree} {i : Nat} {ks : List Int} {f : Int → Int} (h : PlTo t i ks f) (hw : t.word.getD i 0 = -1) : PlTo t (i + 1) ks f := by
  refine ⟨h.nodup, fun k => ?_, fun k hk => ?_⟩
  · rw [h.keys]
    constructor
    · rintro ⟨h1, j, h2, h3⟩; exact ⟨h1, j, by omega, h3⟩
    · rintro ⟨h1, j, h2, h3⟩
      by_cases e : j = i
      · subst e; exact absurd (h3.symm.trans hw) h1
      · exact ⟨h1, j, by omega, h3⟩
  · obtain ⟨j, h1, h2, h3, h4⟩ := h.last k hk
    have hk1 := ((h.keys k).1 hk).1
    refine ⟨j, h1, by omega, h3, fun q q1 q2 e => ?_⟩
    by_cases e' : q = i
    · subst e'; exact hk1 (e.symm.trans hw)
    · exact h4 q q1 (by omega) e
theorem PlTo.put {t : PlainTrie.Tree} {i : Nat} {ks : List Int} {f : Int → Int} (h : PlTo t i ks f) {z : Int} (hz : t.word.getD i 0 = z) (hw : z ≠ -1) : PlTo t (i + 1) (addN ks z) (fun x => if x = z then (i : Int) else f x) := by
  have hmem : ∀ k, k ∈ addN ks z ↔ k ∈ ks ∨ k = z := fun k => by
    unfold addN
    split
    · constructor
      · exact .inl
      · rintro (h | rfl) <;> assumption
    · simp
  refine ⟨?_, fun k => ?_, fun k hk => ?_⟩
  · unfold addN
    split
    · exact h.nodup
    · rename_i hm
      rw [List.nodup_append]
      refine ⟨h.nodup, by simp, fun a ha c hc => ?_⟩
      obtain rfl : c = z := by simpa using hc
      rintro rfl
      exact hm ha
  · rw [hmem, h.keys]
    constructor
    · rintro (⟨h1, j, h2, h3⟩ | rfl)
      · exact ⟨h1, j, by omega, h3⟩
      · exact ⟨hw, i, by omega, hz⟩
    · rintro ⟨h1, j, h2, h3⟩
      by_cases e : j = i
      · subst e; exact .inr (h3.symm.trans hz)
      · exact .inl ⟨h1, j, by omega, h3⟩
  · by_cases e : k = z
    · subst e
      exact ⟨i, by simp, by omega, hz, fun q q1 q2 => by omega⟩
    · obtain ⟨j, h1, h2, h3, h4⟩ := h.last k (by rcases (hmem k).1 hk with h | h; exact h; exact absurd h e)
      refine ⟨j, by simp [e, h1], by omega, h3, fun q q1 q2 e' => ?_⟩
      by_cases e'' : q = i
      · subst e''; exact e (e'.symm.trans hz)
      · exact h4 q q1 (by omega) e'
/-- The words' places. -/
abbrev Places (t : PlainTrie.Tree) (ks : List Int) (f : Int → Int) : Prop := PlTo t t.word.length ks f
theorem Places.isKeys {t : PlainTrie.Tree} {ks : List Int} {f : Int → Int} (h : Places t ks f) : PlainTrie.Keys t ks := by
  refine ⟨h.nodup, fun k => ?_⟩
  rw [h.keys, PlainTrie.mem_getD]

def PlacesTold (t : PlainTrie.Tree) (w : World) : Ending → World → Prop := fun e w' => ∃ (g : Nat) (ks : List Int) (f : Int → Int), e = .returned (.map (some g)) ∧ w.heap.size ≤ g ∧ MapN w' g ks f ∧ Places t ks f ∧ w.grownBy w' none

set_option maxHeartbeats 4000000 in
theorem places_is (U D W B : Option Addr) (cu cd cw cb : Nat) (t : PlainTrie.Tree) (w : World) (hl : t.word.length ≤ 100000) (hwf : ∀ x ∈ t.word, (Lit.int .i64 x).wf = true) (hT : TreeAt w U D W B t) :
    Calls Try.prog 38 #[treeV U D W B t cu cd cw cb] w (PlacesTold t w) := by
  obtain ⟨PT, hPT⟩ : ∃ PT, PlTo t = PT := ⟨_, rfl⟩
  have hskip : Hid (∀ i ks f, PT i ks f → t.word.getD i 0 = -1 → PT (i + 1) ks f) := hid (by rw [← hPT]; exact fun i ks f h e => h.skip e)
  have hput : Hid (∀ i ks f, PT i ks f → ∀ z, t.word.getD i 0 = z → z ≠ -1 → PT (i + 1) (addN ks z) (fun x => if x = z then (i : Int) else f x)) := hid (by rw [← hPT]; exact fun i ks f h z e e' => h.put e e')
  have hzero : Hid (PT 0 [] fun _ => 0) := hid (by rw [← hPT]; exact PlTo.zero t _)
  have hend : Hid (∀ w' g ks f, w.heap.size ≤ g → MapN w' g ks f → PT t.word.length ks f → w.grownBy w' none → PlacesTold t w (.returned (.map (some g))) w') := hid (by rw [← hPT]; exact fun w' g ks f h1 h2 h3 h4 => ⟨g, ks, f, rfl, h1, h2, h3, h4⟩)
  clear hPT
  obtain ⟨R, hR⟩ : ∃ R, PlacesTold t w = R := ⟨_, rfl⟩
  rw [hR] at hend ⊢
  clear hR
  obtain ⟨u, d, o, b⟩ := t
  simp only at hskip hput hzero hend hwf hl
  have hW := hid hT.word
  clear hT
  simp only at hW
  have hwf2 : Hid (∀ i, i < o.length → (Lit.int .i64 (o.getD i 0)).wf = true) := hid (fun i hi => hwf _ (by rw [PlainTrie.getD_of hi]; exact List.getElem_mem _))
  clear hwf
  have hG0 : Hid (w.grownBy (w.alloc (.cells #[.slice U u.length cu, .slice D d.length cd, .slice W o.length cw, .slice B b.length cb] 30)) none) := grown_alloc (grown_refl w none) _
  have K1 : Hid (Holds (w.alloc (.cells #[.slice U u.length cu, .slice D d.length cd, .slice W o.length cw, .slice B b.length cb] 30)) w.heap.size 30 #[.slice U u.length cu, .slice D d.length cd, .slice W o.length cw, .slice B b.length cb]) := Holds.new _ _ _
  have hle : Hid (w.heap.size ≤ (w.alloc (.cells #[.slice U u.length cu, .slice D d.length cd, .slice W o.length cw, .slice B b.length cb] 30)).heap.size) := hid (by simp)
  go_enter Try.func38, Try.ntmps38
  go_upto_region 1 with fail
  obtain ⟨W0, hW0⟩ : ∃ W0, w.alloc (.cells #[.slice U u.length cu, .slice D d.length cd, .slice W o.length cw, .slice B b.length cb] 30) = W0 := ⟨_, rfl⟩
  rw [hW0] at K1 hG0 hle ⊢
  clear hW0
  obtain ⟨h, hh⟩ : ∃ h, w.heap.size = h := ⟨_, rfl⟩
  rw [hh] at K1 hend hle ⊢
  replace hh := hid hh
  have hW0 := hid (hW.out.grown hG0.out)
  clear hW
  have hMm := hid (MapN.made W0 (fun _ => 0))
  have hgm := hid (grown_alloc (grown_refl W0 none) (.map #[] 0))
  have hsz := hid (show (W0.alloc (.map #[] 0)).heap.size = W0.heap.size + 1 by simp)
  have hmk := @run_makeMap Try.prog
  go_upto_region 2 with fail
  obtain ⟨W1, hW1⟩ : ∃ W1, W0.alloc (.map #[] 0) = W1 := ⟨_, rfl⟩
  rw [hW1] at hMm hgm hsz ⊢
  clear hW1
  obtain ⟨g, hg⟩ : ∃ g, W0.heap.size = g := ⟨_, rfl⟩
  rw [hg] at hMm hle ⊢
  replace hg := hid hg
  have L1 := K1.out.kept0 hgm.out
  have c2 := (L1.cell 2).trans (show _ = some (Value.slice W o.length cw) from rfl)
  clear L1
  go_wp2_with fail
  go_loopw [10] (fun i wr => ∃ (k : Nat) (ks : List Int) (f : Int → Int), k ≤ o.length ∧ i = .int .i64 k ∧ W1.grownBy wr (some g) ∧ MapN wr g ks f ∧ PT k ks f) (fun i _ => o.length - (intOf i).toNat)
  case atStart => exact ⟨0, [], fun _ => 0, Nat.zero_le _, rfl, grown_refl _ _, hMm.out, hzero.out⟩
  case round =>
    obtain ⟨k, ks, f, hk, rfl, hG, hM, hP⟩ := hrel
    have hGw := hid (grown_trans_row hgm.out (by have := hg.out; omega) hG)
    by_cases hlt : k < o.length
    · obtain ⟨b2, o2, hA, l2, k2⟩ := (hW0.out.grown hGw.out).at_ hlt
      subst hA
      have k2j := k2 k hlt
      have hwk := hid (hwf2.out k hlt)
      have hsk := hid (hskip.out k ks f hP)
      have hpk := hid (hput.out k ks f hP)
      have q0 : (0 : Int) ≤ (k : Int) := by omega
      have q1 : (k : Int) < (o.length : Int) := by omega
      obtain ⟨x, hx⟩ : ∃ x, o.getD k 0 = x := ⟨_, rfl⟩
      rw [hx] at k2j hwk hsk hpk
      replace hx := hid hx
      replace hM := hid hM
      replace hP := hid hP
      replace hG := hid hG
      clear k2 c2
      by_cases hx1 : x = -1
      · subst hx1
        have hnx := hid (hsk.out rfl)
        go_wp2_with fail
        go_roundw
        case rel => exact ⟨k + 1, ks, f, by omega, by go_num, hG.out, hM.out, hnx.out⟩
        case measure => simp [intOf]; omega
      · have hne : (x != -1) = true := by simp [hx1]
        have hnx := hid (hpk.out x rfl hx1)
        replace hx1 := hid hx1
        go_wp2_with (at_mapUpdate; refine wpList_nupdate _ rfl _ _ _ rfl g ks f x k hM.out hwk.out rfl rfl rfl ?_; intro w5 hM5 hg5)
        go_roundw
        case rel => exact ⟨k + 1, _, _, by omega, by go_num, grown_trans_same hG.out hg5, hM5, hnx.out⟩
        case measure => simp [intOf]; omega
    · obtain rfl : k = o.length := by omega
      have hfin := hid (hend.out wr g ks f (by have := hle.out; have := hg.out; omega) hM hP (grown_trans hG0.out hGw.out))
      have hlt' : ¬ ((o.length : Int) < (o.length : Int)) := by omega
      replace hM := hid hM
      replace hP := hid hP
      replace hG := hid hG
      clear c2
      go_wp2_with fail
      exact hfin.out

end Go.Proofs.Ytojbkhheaondhaa
