/- The law PatsetOwn: sets are told in memory of their own. -/
import Derived.Test.YtojbfjlihenjaaaQWakes
import Derived.Test.YtojbfjlihenjaaaLRefJoin
import Derived.Test.YtojbfjlihenjaaaTail
import Derived.StillTailTactics
set_option linter.unusedSimpArgs false
set_option linter.unusedVariables false
set_option maxRecDepth 100000
namespace Go.Proofs.Ytojbfjlihenjaaa
open Go.RowKit PlainLetter PlainPatset

/-- The first n cells behind A are bytes, in a block from base on. -/
def Byted (base : Nat) (A : Option Addr) (n : Nat) (w : World) : Prop :=
  0 < n → ∃ g cur, A = some ⟨g, 0, none⟩ ∧ base ≤ g ∧ Holds w g 5 cur ∧ ∀ i, i < n → ∃ x : Int, cur[i]? = some (.int .u8 x) ∧ 0 ≤ x ∧ x ≤ 255

theorem Byted.of_own {base : Nat} {x : Sl} {w : World} (h : OwnBytes w base x) (hb : Bytes x.2.1) : Byted base x.1 x.2.1.length w := fun hn => by
  rcases h.2 with ⟨hv, h0⟩ | ⟨g, cap, cur, hv, hbg, hg, hnc, hm, hs, ht⟩
  · omega
  · injection hv with hA _ _
    refine ⟨g, cur, hA, hbg, hg, fun i hi => ⟨x.2.1.getD i 0, ?_, hb i⟩⟩
    have : (cur.toList.take (x.2.1.length * 1))[i]? = some (Value.int .u8 (x.2.1.getD i 0)) := by rw [ht]; simp [List.getD, hi]
    rw [List.getElem?_take] at this
    split at this
    · simpa using this
    · cases this
theorem Byted.grown {base n : Nat} {A : Option Addr} {w w' : World} (h : Byted base A n w) (hg : w.grownBy w' none) : Byted base A n w' := fun hn => by
  obtain ⟨g, cur, h1, h2, h3, h4⟩ := h hn
  exact ⟨g, cur, h1, h2, h3.kept0 hg, h4⟩
theorem Byted.mono {base b n : Nat} {A : Option Addr} {w : World} (h : Byted base A n w) (hb : b ≤ base) : Byted b A n w := fun hn => by
  obtain ⟨g, cur, h1, h2, h3, h4⟩ := h hn
  exact ⟨g, cur, h1, by omega, h3, h4⟩
theorem Byted.drew {base n : Nat} {A : Option Addr} {w : World} (h : Byted base A n w) : Byted base A n w.drew := fun hn => by
  obtain ⟨g, cur, h1, h2, h3, h4⟩ := h hn
  exact ⟨g, cur, h1, h2, h3, h4⟩
theorem Byted.at2 {base n k : Nat} {A : Option Addr} {w : World} (h : Byted base A n w) (hk : k < n) :
    ∃ g x cur, A = some ⟨g, 0, none⟩ ∧ base ≤ g ∧ Holds w g 5 cur ∧ w.cell? ⟨g, k, none⟩ = some (.int .u8 x) ∧ w.frozen? ⟨g, k, none⟩ = false ∧ g < w.heap.size ∧ k < cur.size ∧ 0 ≤ x ∧ x ≤ 255 := by
  obtain ⟨g, cur, rfl, h2, h3, h4⟩ := h (by omega)
  obtain ⟨x, hx, x0, x1⟩ := h4 k hk
  exact ⟨g, x, cur, rfl, h2, h3, (h3.cell k).trans hx, h3.free k, h3.lt, (Array.getElem?_eq_some_iff.1 hx).1, x0, x1⟩
/-- Any byte of any bytes is put. -/
theorem Byted.set {base n g k : Nat} {A : Option Addr} {w : World} {cur : Array Value} {y : Int} (h : Byted base A n w) (hH : Holds w g 5 cur) (hk : k < cur.size) (y0 : 0 ≤ y) (y1 : y ≤ 255) : Byted base A n (w.setCell ⟨g, k, none⟩ (.int .u8 y)) := fun hn => by
  obtain ⟨g', cur', h1, h2, h3, h4⟩ := h hn
  by_cases hg : g' = g
  · subst hg
    refine ⟨g', _, h1, h2, h3.set k _, fun i hi => ?_⟩
    obtain ⟨x, hx, x0, x1⟩ := h4 i hi
    have hki : i < cur'.size := (Array.getElem?_eq_some_iff.1 hx).1
    by_cases hik : k = i
    · subst hik; exact ⟨y, by simp [hki], y0, y1⟩
    · exact ⟨x, by rw [Array.getElem?_setIfInBounds_ne hik]; exact hx, x0, x1⟩
  · exact ⟨g', cur', h1, h2, h3.far (p := ⟨g, k, none⟩) hg _, h4⟩

/-- A set in block h, whose words are the call's own: where they lie stays, their bytes may turn. -/
structure SetMine (base h : Nat) (b : Bool) (A : Option Addr) (c : Nat) (l : List Sl) (W : World) : Prop where
  box : Holds W h 24 #[.bool b, .slice A l.length c]
  row : l ≠ [] → ∃ g cur, A = some ⟨g, 0, none⟩ ∧ base ≤ g ∧ Holds W g 25 cur ∧ ∀ i (hi : i < l.length), cur[i]? = some (slV l[i])
  mine : ∀ x ∈ l, Byted base x.1 x.2.1.length W
  len : ∀ x ∈ l, x.2.1.length ≤ 9223372036854775807

theorem SetMine.grown {base h c : Nat} {b : Bool} {A : Option Addr} {l : List Sl} {W W' : World} (s : SetMine base h b A c l W) (hg : W.grownBy W' none) : SetMine base h b A c l W' where
  box := s.box.kept0 hg
  row := fun hz => by obtain ⟨g, cur, h1, h2, h3, h4⟩ := s.row hz; exact ⟨g, cur, h1, h2, h3.kept0 hg, h4⟩
  mine := fun x hx => (s.mine x hx).grown hg
  len := s.len
theorem SetMine.drew {base h c : Nat} {b : Bool} {A : Option Addr} {l : List Sl} {W : World} (s : SetMine base h b A c l W) : SetMine base h b A c l W.drew where
  box := s.box
  row := fun hz => by obtain ⟨g, cur, h1, h2, h3, h4⟩ := s.row hz; exact ⟨g, cur, h1, h2, h3, h4⟩
  mine := fun x hx => (s.mine x hx).drew
  len := s.len
theorem SetMine.set {base h c g k : Nat} {b : Bool} {A : Option Addr} {l : List Sl} {W : World} {cur : Array Value} {y : Int} (s : SetMine base h b A c l W) (hH : Holds W g 5 cur) (hk : k < cur.size) (y0 : 0 ≤ y) (y1 : y ≤ 255) : SetMine base h b A c l (W.setCell ⟨g, k, none⟩ (.int .u8 y)) where
  box := s.box.far (p := ⟨g, k, none⟩) (s.box.other hH (by decide)) _
  row := fun hz => by obtain ⟨g', cur', h1, h2, h3, h4⟩ := s.row hz; exact ⟨g', cur', h1, h2, h3.far (p := ⟨g, k, none⟩) (h3.other hH (by decide)) _, h4⟩
  mine := fun x hx => (s.mine x hx).set hH hk y0 y1
  len := s.len
theorem SetMine.at_ {base h c i : Nat} {b : Bool} {A : Option Addr} {l : List Sl} {W : World} (s : SetMine base h b A c l W) (hi : i < l.length) : ∃ g, A = some ⟨g, 0, none⟩ ∧ base ≤ g ∧ W.cell? ⟨g, i, none⟩ = some (slV l[i]) := by
  obtain ⟨g, cur, h1, h2, h3, h4⟩ := s.row (by intro e; subst e; simp at hi)
  exact ⟨g, h1, h2, (h3.cell i).trans (h4 i hi)⟩
theorem SetMine.same {base h c g i : Nat} {b : Bool} {l : List Sl} {W W' : World} {v : Value} (s : SetMine base h b (some ⟨g, 0, none⟩) c l W') (hi : i < l.length) (s' : SetMine base h b (some ⟨g, 0, none⟩) c l W) (hv : W.cell? ⟨g, i, none⟩ = some v) : W'.cell? ⟨g, i, none⟩ = some v := by
  obtain ⟨g1, e1, _, c1⟩ := s.at_ hi
  obtain ⟨g2, e2, _, c2⟩ := s'.at_ hi
  injection e1 with e1
  injection e1 with e1
  subst e1
  injection e2 with e2
  injection e2 with e2
  subst e2
  rw [c1, ← c2, hv]
theorem SetMine.of_own {w W : World} {base h c : Nat} {b : Bool} {A : Option Addr} {l : List Sl} (hH : Holds W h 24 #[.bool b, .slice A l.length c]) (ho : OwnRows W base (.slice A l.length c) l) (hb : ∀ x ∈ l, Bytes x.2.1) : SetMine base h b A c l W where
  box := hH
  row := fun hz => by
    rcases ho.1.2 with ⟨_, h0⟩ | ⟨g, cap, cur, hv, hbg, hg, hnc, hm, hs, ht⟩
    · exact absurd (List.eq_nil_of_length_eq_zero h0) hz
    · injection hv with hA _ _
      refine ⟨g, cur, hA, hbg, hg, fun i hi => ?_⟩
      have : (cur.toList.take (l.length * 1))[i]? = some (slV l[i]) := by rw [ht]; simp [hi]
      rw [List.getElem?_take] at this
      split at this
      · simpa using this
      · cases this
  mine := fun x hx => Byted.of_own (ho.2 x hx) (hb x hx)
  len := fun x hx => by
    obtain ⟨_, _, _, hc9, hm9⟩ := own_form (ho.2 x hx)
    unfold maxLen at hm9
    omega

theorem bytes_sl {l : List Sl} {ws : List (List Int)} (h : l.map (·.2.1) = ws) (hb : ∀ i, Bytes (ws.getD i [])) : ∀ x ∈ l, Bytes x.2.1 := fun x hx => by
  obtain ⟨i, hi, rfl⟩ := List.mem_iff_getElem.1 hx
  have := hb i
  rw [← h] at this
  simpa [List.getD, hi] using this

set_option maxHeartbeats 16000000 in
theorem qown_walk (f : Bool) (P : Option Addr) (c : Nat) (xss : List (List Int)) (w : World) (hB : ∀ i, Bytes (xss.getD i [])) (hP : Arrs w P xss) (hl : xss.length ≤ 9223372036854775807) :
    Calls Try.prog 7 #[.bool f, .slice P xss.length c] w fun e w' => e = .returned (.bool true) ∧ w.grownBy w' none := by
  replace hB := hid hB
  replace hP := hid hP
  go_enter Try.func7, Try.ntmps7
  go_wp2_with fail
  refine (greatTexts_is P c xss _ hP.out hl).mono ?_
  rintro e w1 ⟨rfl, rfl | ⟨rfl, h80, h3000⟩⟩
  · go_wp2_with fail
    refine (qwakes_true _).mono ?_
    rintro e w2 ⟨rfl, hg⟩
    replace hg := hid hg
    go_wp2_with fail
    go_ret
    exact ⟨rfl, hg.out⟩
  go_wp2_with fail
  refine (refJoinTexts_is P c xss w (by omega) (by omega) hP.out).mono ?_
  rintro e w1 ho
  have hj := hid (fun w => refJoinTexts_is P c xss w (by omega) (by omega))
  have hmk := hid (fun w => patMake_is f P c xss w (by omega) (by omega) hB.out)
  have how := hid (fun w => patOwn_is false P c xss w (by omega) (by omega))
  have hmb : Hid (∀ i, Bytes ((makeWords f xss).getD i [])) := hid (fun i => ((make_small f xss (by omega) (fun i => by
      by_cases hk : i < xss.length
      · have h1 := flatten_take_succ xss i hk
        have h2 := flatten_take_le xss (i + 1)
        rw [h1, List.length_append] at h2
        omega
      · simp [List.getD, List.getElem?_eq_none (Nat.le_of_not_lt hk)]) hB.out).2 i).2)
  obtain ⟨A1, c1, rfl, _, _, h1, hg1⟩ := ho.arr
  revert ho
  intro _
  obtain ⟨jn, hjn⟩ : ∃ jn, xss.flatten = jn := ⟨_, rfl⟩
  rw [hjn] at h1 hj h3000 ⊢
  clear hjn
  have cv := conv_arr w1 A1 c1 jn h1
  have hG1 := hid hg1
  clear hg1 h1
  generalize hsj : strOfNums jn = sj at cv
  replace hsj := hid hsj
  go_wp2_with fail
  clear cv
  refine (hmk.out w1 (hP.out.grown hG1.out)).mono ?_
  rintro e w2 ⟨v, rfl, hv, hg2⟩
  obtain ⟨b1, B1, d1, l1, rfl, hr1, hby1⟩ : ∃ b1 B1 d1 l1, v = .agg #[.bool b1, .slice B1 (l1 : List Sl).length d1] ∧ OwnRows w2 w1.heap.size (.slice B1 l1.length d1) l1 ∧ ∀ x ∈ l1, Bytes x.2.1 := by
    by_cases h0 : check f xss = 0
    · rw [if_pos h0] at hv
      obtain ⟨A, cA, l, rfl, hlm, hrows⟩ := hv
      exact ⟨f, A, cA, l, rfl, hrows, bytes_sl hlm hmb.out⟩
    · rw [if_neg h0] at hv
      exact ⟨false, none, 0, [], hv, OwnRows.nil _ _, fun x hx => by cases hx⟩
  have hl1 : l1.length ≤ 9223372036854775807 := by
    obtain ⟨_, _, _, hc9, hm9⟩ := own_form hr1.1
    unfold maxLen at hm9
    omega
  clear hv hmk hmb
  have hG2 := hid (grown_trans hG1.out hg2)
  have hr1' := hid (hr1.mono hG1.out.size)
  replace hby1 := hid hby1
  clear hg2 hG1 hr1
  generalize check f xss = ce
  obtain ⟨h1, hh1⟩ : ∃ h1, w2.heap.size = h1 := ⟨_, rfl⟩
  replace hh1 := hid hh1
  go_wp2_with fail
  refine (how.out _ (hP.out.grown (grown_alloc hG2.out _))).mono ?_
  rintro e w3 ⟨v, rfl, ⟨B2, d2, l2, rfl, hlm2, hr2⟩, hg3⟩
  have hS1 := hid (SetMine.of_own (w := w) (h := h1) (b := b1) ((Holds.new_at 24 _ hh1.out).kept0 hg3) ((hr1'.out.grown (grown_alloc (grown_refl w2 none) _)).grown hg3) hby1.out)
  have hby2 := hid (bytes_sl hlm2 hB.out)
  have hG3 := hid (grown_trans (grown_alloc hG2.out (.cells #[.bool b1, .slice B1 l1.length d1] 24)) hg3)
  have hr2' := hid (hr2.mono (base' := w.heap.size) (by have := hG2.out.size; simp; omega))
  have hl2 : l2.length ≤ 9223372036854775807 := by
    obtain ⟨_, _, _, hc9, hm9⟩ := own_form hr2.1
    unfold maxLen at hm9
    omega
  clear how hg3 hr2 hlm2 hr1' hG2
  obtain ⟨h2, hh2⟩ : ∃ h2, w3.heap.size = h2 := ⟨_, rfl⟩
  replace hh2 := hid hh2
  go_upto_region 6 with fail
  have hS2 : Hid (SetMine w.heap.size h2 false B2 d2 l2 (w3.alloc (.cells #[.bool false, .slice B2 l2.length d2] 24))) := SetMine.of_own (w := w) (Holds.new_at 24 _ hh2.out) (hr2'.out.grown (grown_alloc (grown_refl w3 none) _)) hby2.out
  replace hS1 := hid (hS1.out.grown (grown_alloc (grown_refl w3 none) (.cells #[.bool false, .slice B2 l2.length d2] 24)))
  have hG := hid (grown_alloc hG3.out (.cells #[.bool false, .slice B2 l2.length d2] 24))
  simp only [hh1.out, hh2.out]
  clear hG3 hr2' hby1 hby2
  obtain ⟨W4, hW4⟩ : ∃ W4, w3.alloc (.cells #[.bool false, .slice B2 l2.length d2] 24) = W4 := ⟨_, rfl⟩
  rw [hW4] at hS1 hS2 hG ⊢
  clear hW4
  go_wp2_with fail
  go_loopw [9] (fun i wr => ∃ k : Nat, k ≤ l1.length ∧ i = .int .i64 k ∧ w.grownBy wr none ∧ SetMine w.heap.size h1 b1 B1 d1 l1 wr ∧ SetMine w.heap.size h2 false B2 d2 l2 wr) (fun i _ => l1.length - (intOf i).toNat)
  case atStart => exact ⟨0, Nat.zero_le _, rfl, hG.out, hS1.out, hS2.out⟩
  case round =>
    clear hG hS1 hS2
    obtain ⟨i, hi, rfl, hG, hS1, hS2⟩ := hrel
    have bx := hS1.box.cell 1
    simp at bx
    by_cases hlt : i < l1.length
    · obtain ⟨g, rfl, hbg, hci⟩ := hS1.at_ hlt
      have i0 : (0 : Int) ≤ (i : Int) := by omega
      have i1 : (i : Int) < (l1.length : Int) := by omega
      have hmem := hid (List.getElem_mem hlt)
      have hzl := hS1.len _ (List.getElem_mem hlt)
      generalize hx : l1[i] = x at hci hmem hzl
      clear hx
      obtain ⟨Ai, zi, ci⟩ := x
      simp only [slV] at hci hzl
      have hmi := hid (fun (W : World) (s : SetMine w.heap.size h1 b1 (some ⟨g, 0, none⟩) d1 l1 W) => s.mine _ hmem.out)
      have hat := hid (fun (W : World) (s : SetMine w.heap.size h1 b1 (some ⟨g, 0, none⟩) d1 l1 W) => s.same hlt hS1 hci)
      replace hG := hid hG
      replace hS1 := hid hS1
      replace hS2 := hid hS2
      go_wp2_with fail
      clear bx hci
      obtain ⟨wo, rfl⟩ : ∃ wo : World, wo = wr := ⟨_, rfl⟩
      go_loopw [10] (fun j wx => ∃ k : Nat, k ≤ zi.length ∧ j = .int .i64 k ∧ w.grownBy wx none ∧ SetMine w.heap.size h1 b1 (some ⟨g, 0, none⟩) d1 l1 wx ∧ SetMine w.heap.size h2 false B2 d2 l2 wx) (fun j _ => zi.length - (intOf j).toNat)
      case atStart => exact ⟨0, Nat.zero_le _, rfl, hG.out, hS1.out, hS2.out⟩
      case round =>
        clear hG hS1 hS2
        obtain ⟨k, hk, rfl, hG, hS1, hS2⟩ := hrel
        have bx := hS1.box.cell 1
        simp at bx
        have hcx := hat.out _ hS1
        have hbl := hS1.box.lt
        by_cases hkt : k < zi.length
        · obtain ⟨g5, x5, cur5, rfl, hb5, hH5, ck, fk, hl5, hks, x0, x1⟩ := (hmi.out _ hS1).at2 hkt
          obtain ⟨y0, y1, _⟩ := xor_u8 x5 255 ⟨x0, x1⟩ (by omega) (by omega)
          have hS1' := hid (hS1.set hH5 hks y0 y1)
          have hS2' := hid (hS2.set hH5 hks y0 y1)
          have hG' := hid (grown_set (p := ⟨g5, k, none⟩) hG (.inr hb5) (.int .u8 (bits BinOp.xor .u8 x5 255)))
          have k0 : (0 : Int) ≤ (k : Int) := by omega
          have k1 : (k : Int) < (zi.length : Int) := by omega
          clear hS1 hS2 hH5 y0 y1
          replace hG := hid hG
          go_upto_region 12 with fail
          go_still_tail 16, (by kernel_rfl)
          change wpList _ _ _ _ _ (World.drew _)
          go_wp2_with fail
          go_roundw
          case rel => exact ⟨k + 1, by omega, by go_num, grown_drew hG'.out, hS1'.out.drew, hS2'.out.drew⟩
          case measure => simp [intOf]; omega
        · replace hG := hid hG
          replace hS1 := hid hS1
          replace hS2 := hid hS2
          go_wp2_with fail
          go_roundw
          case rel => exact ⟨i + 1, by omega, by go_num, hG.out, hS1.out, hS2.out⟩
          case measure => simp [intOf]; omega
    · replace hG := hid hG
      replace hS1 := hid hS1
      replace hS2 := hid hS2
      go_wp2_with fail
      go_loopw [11] (fun i wr => ∃ k : Nat, k ≤ l2.length ∧ i = .int .i64 k ∧ w.grownBy wr none ∧ SetMine w.heap.size h1 b1 B1 d1 l1 wr ∧ SetMine w.heap.size h2 false B2 d2 l2 wr) (fun i _ => l2.length - (intOf i).toNat)
      case atStart => exact ⟨0, Nat.zero_le _, rfl, hG.out, hS1.out, hS2.out⟩
      case round =>
        clear hG hS1 hS2
        obtain ⟨i, hi, rfl, hG, hS1, hS2⟩ := hrel
        have bx := hS2.box.cell 1
        simp at bx
        by_cases hlt : i < l2.length
        · obtain ⟨g, rfl, hbg, hci⟩ := hS2.at_ hlt
          have i0 : (0 : Int) ≤ (i : Int) := by omega
          have i1 : (i : Int) < (l2.length : Int) := by omega
          have hmem := hid (List.getElem_mem hlt)
          have hzl := hS2.len _ (List.getElem_mem hlt)
          generalize hx : l2[i] = x at hci hmem hzl
          clear hx
          obtain ⟨Ai, zi, ci⟩ := x
          simp only [slV] at hci hzl
          have hmi := hid (fun (W : World) (s : SetMine w.heap.size h2 false (some ⟨g, 0, none⟩) d2 l2 W) => s.mine _ hmem.out)
          have hat := hid (fun (W : World) (s : SetMine w.heap.size h2 false (some ⟨g, 0, none⟩) d2 l2 W) => s.same hlt hS2 hci)
          replace hG := hid hG
          replace hS1 := hid hS1
          replace hS2 := hid hS2
          go_wp2_with fail
          clear bx hci
          obtain ⟨wo, rfl⟩ : ∃ wo : World, wo = wr := ⟨_, rfl⟩
          go_loopw [12] (fun j wx => ∃ k : Nat, k ≤ zi.length ∧ j = .int .i64 k ∧ w.grownBy wx none ∧ SetMine w.heap.size h1 b1 B1 d1 l1 wx ∧ SetMine w.heap.size h2 false (some ⟨g, 0, none⟩) d2 l2 wx) (fun j _ => zi.length - (intOf j).toNat)
          case atStart => exact ⟨0, Nat.zero_le _, rfl, hG.out, hS1.out, hS2.out⟩
          case round =>
            clear hG hS1 hS2
            obtain ⟨k, hk, rfl, hG, hS1, hS2⟩ := hrel
            have bx := hS2.box.cell 1
            simp at bx
            have hcx := hat.out _ hS2
            have hbl := hS2.box.lt
            by_cases hkt : k < zi.length
            · obtain ⟨g5, x5, cur5, rfl, hb5, hH5, ck, fk, hl5, hks, x0, x1⟩ := (hmi.out _ hS2).at2 hkt
              obtain ⟨y0, y1, _⟩ := xor_u8 x5 255 ⟨x0, x1⟩ (by omega) (by omega)
              have hS1' := hid (hS1.set hH5 hks y0 y1)
              have hS2' := hid (hS2.set hH5 hks y0 y1)
              have hG' := hid (grown_set (p := ⟨g5, k, none⟩) hG (.inr hb5) (.int .u8 (bits BinOp.xor .u8 x5 255)))
              have k0 : (0 : Int) ≤ (k : Int) := by omega
              have k1 : (k : Int) < (zi.length : Int) := by omega
              clear hS1 hS2 hH5 y0 y1
              replace hG := hid hG
              go_upto_region 19 with fail
              go_still_tail 16, (by kernel_rfl)
              change wpList _ _ _ _ _ (World.drew _)
              go_wp2_with fail
              go_roundw
              case rel => exact ⟨k + 1, by omega, by go_num, grown_drew hG'.out, hS1'.out.drew, hS2'.out.drew⟩
              case measure => simp [intOf]; omega
            · replace hG := hid hG
              replace hS1 := hid hS1
              replace hS2 := hid hS2
              go_wp2_with fail
              go_roundw
              case rel => exact ⟨i + 1, by omega, by go_num, hG.out, hS1.out, hS2.out⟩
              case measure => simp [intOf]; omega
        · replace hG := hid hG
          replace hS1 := hid hS1
          replace hS2 := hid hS2
          go_wp2_with fail
          have hPw := hP.out.grown hG.out
          refine (hj.out _ hPw).mono ?_
          rintro e w9 ho
          obtain ⟨A9, c9, rfl, _, _, h9, hg9⟩ := ho.arr
          revert ho
          intro _
          have cv := conv_arr w9 A9 c9 jn h9
          rw [hsj.out] at cv
          have hG9 := hid (grown_trans hG.out hg9)
          clear hg9 h9 hPw
          go_wp2_with fail
          refine (qwakes_true _).mono ?_
          rintro e w' ⟨rfl, hg⟩
          replace hg := hid hg
          go_wp2_with fail
          go_ret
          exact ⟨rfl, grown_trans hG9.out hg.out⟩
end Go.Proofs.Ytojbfjlihenjaaa
