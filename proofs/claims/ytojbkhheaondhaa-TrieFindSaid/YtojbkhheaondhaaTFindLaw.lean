/- The law TrieFind: just the words' beginnings are found. -/
import Derived.Test.YtojbkhheaondhaaK34
import Derived.Test.YtojbkhheaondhaaTWakes
import Derived.Test.YtojbkhheaondhaaK21
import Derived.Test.YtojbkhheaondhaaK14
set_option linter.unusedVariables false
set_option linter.unusedSimpArgs false
set_option maxRecDepth 100000
namespace Go.Proofs.Ytojbkhheaondhaa
open Go.RowKit PlainLetter PlainPatset

set_option maxHeartbeats 8000000 in
theorem tfind_walk (f : Bool) (P A : Option Addr) (c d : Nat) (xss : List (List Int)) (b : List Int) (w : World) (hB : ∀ i, Bytes (xss.getD i [])) (hP : ArrsR w P xss) (hA : Arr w .u8 A b) (hbb : Bytes b) (hl : xss.length ≤ 9223372036854775807) :
    Calls Try.prog 5 #[.agg #[.bool f, .slice P xss.length c], .slice A b.length d] w fun e w' => e = .returned (.bool true) ∧ w.grownBy w' none := by
  replace hA := hid hA
  replace hbb := hid hbb
  replace hB := hid hB
  replace hP := hid hP
  have H1 : Holds (w.alloc (.cells #[.bool f, .slice P xss.length c] 24)) w.heap.size 24 #[.bool f, .slice P xss.length c] := Holds.new _ _ _
  have hG : Hid (w.grownBy (w.alloc (.cells #[.bool f, .slice P xss.length c] 24)) none) := grown_alloc (grown_refl w none) _
  go_enter Try.func5, Try.ntmps5
  go_upto_region 1 with fail
  obtain ⟨W0, hW0⟩ : ∃ W0, w.alloc (.cells #[.bool f, .slice P xss.length c] 24) = W0 := ⟨_, rfl⟩
  rw [hW0] at H1 hG ⊢
  clear hW0
  obtain ⟨h, hh⟩ : ∃ h, w.heap.size = h := ⟨_, rfl⟩
  rw [hh] at H1 ⊢
  clear hh
  replace H1 := hid H1
  have hW : Hid (W0.grownBy W0 none) := grown_refl _ _
  have e0 := ((H1.out.kept0 hW.out).cell 0).trans (show _ = some (Value.bool f) from rfl)
  have e1 := ((H1.out.kept0 hW.out).cell 1).trans (show _ = some (Value.slice P xss.length c) from rfl)
  go_wp2_with fail
  refine (refSetGreat_is f P c xss _ (hP.out.arrs.grown hG.out) hl).mono ?_
  rintro e w1 ⟨rfl | ⟨rfl, h80, h3000⟩, hg⟩
  · replace hG := hid (grown_trans hG.out hg)
    clear hg
    go_wp2_with fail
    refine (twakes_true _).mono ?_
    rintro e w9 ⟨rfl, hg⟩
    have hGf := hid (grown_trans hG.out hg)
    clear hg
    go_wp2_with fail
    go_ret
    exact ⟨rfl, hGf.out⟩
  replace hG := hid (grown_trans hG.out hg)
  replace hW := hid (grown_trans hW.out hg)
  clear hg e0 e1
  have e0 := ((H1.out.kept0 hW.out).cell 0).trans (show _ = some (Value.bool f) from rfl)
  have e1 := ((H1.out.kept0 hW.out).cell 1).trans (show _ = some (Value.slice P xss.length c) from rfl)
  go_wp2_with fail
  refine (refRight_is f P c xss _ (by omega) (by omega) hB.out (hP.out.arrs.grown hG.out)).mono ?_
  rintro e w2 ⟨rfl, hg⟩
  replace hG := hid (grown_trans hG.out hg)
  replace hW := hid (grown_trans hW.out hg)
  clear hg e0 e1
  have e0 := ((H1.out.kept0 hW.out).cell 0).trans (show _ = some (Value.bool f) from rfl)
  have e1 := ((H1.out.kept0 hW.out).cell 1).trans (show _ = some (Value.slice P xss.length c) from rfl)
  cases hR : right f xss with
  | false =>
    go_wp2_with fail
    refine (twakes_true _).mono ?_
    rintro e w9 ⟨rfl, hg⟩
    have hGf := hid (grown_trans hG.out hg)
    clear hg
    go_wp2_with fail
    go_ret
    exact ⟨rfl, hGf.out⟩
  | true =>
  have hWs := hid (set_words hR)
  replace hR := hid hR
  by_cases h60 : 60 < b.length
  · have h60' : (60 : Int) < (b.length : Int) := by omega
    go_wp2_with fail
    refine (twakes_true _).mono ?_
    rintro e w9 ⟨rfl, hg⟩
    have hGf := hid (grown_trans hG.out hg)
    clear hg
    go_wp2_with fail
    go_ret
    exact ⟨rfl, hGf.out⟩
  have h60' : ¬ (60 : Int) < (b.length : Int) := by omega
  go_wp2_with fail
  refine (tMake_is f P c xss _ (by omega) (by omega) hB.out (hP.out.arrs.grown hG.out)).mono ?_
  rintro e w3 ⟨U, D, O, B, cu, cd, cw, cb, s, rfl, hs, -, hT, ⟨hru, hrd, hro, hrb⟩, ⟨hmu, hmd, hmo, hmb⟩, hg⟩
  obtain rfl : s = PlainTrie.make xss := hs hR.out
  rw [hR.out, if_pos rfl]
  clear hs
  replace hT := hid (show TreeOk w3 U D O B cu cd cw cb (PlainTrie.make xss) from ⟨hT, made_byte hB.out, made_wf hWs.out, hru⟩)
  replace hG := hid (grown_trans hG.out hg)
  replace hW := hid (grown_trans hW.out hg)
  clear hg e0 e1
  have e0 := ((H1.out.kept0 hW.out).cell 0).trans (show _ = some (Value.bool f) from rfl)
  have e1 := ((H1.out.kept0 hW.out).cell 1).trans (show _ = some (Value.slice P xss.length c) from rfl)
  clear h60'
  have hnok : ∃ n ok, foundAt (PlainTrie.make xss) b = (n, ok) ∧ begTo xss b xss.length = ok ∧ (ok = true → there (PlainTrie.make xss) n = true ∧ PlainTrie.spell (PlainTrie.make xss) n = b) ∧ (ok = false → n = 0) := by
    by_cases hm : b ∈ PlainTrie.nodes xss
    · exact ⟨_, _, found_yes hWs.out hm, (begTo_all hWs.out b).2 hm, fun _ => set_spell hWs.out hm, fun h => by cases h⟩
    · refine ⟨_, _, found_no hWs.out hm, ?_, (fun h => by cases h), fun _ => rfl⟩
      cases hb : begTo xss b xss.length with
      | false => rfl
      | true => exact absurd ((begTo_all hWs.out b).1 hb) hm
  obtain ⟨n, ok, hfo, hbeg, hyes, hno⟩ := hnok
  replace hfo := hid hfo
  replace hbeg := hid hbeg
  replace hyes := hid hyes
  replace hno := hid hno
  clear hWs
  generalize PlainTrie.make xss = t at hT hfo hyes hru hrd hro hrb ⊢
  go_upto_region 4 with fail
  have H2 := hid (Holds.new w3 30 #[.slice U t.up.length cu, .slice D t.depth.length cd, .slice O t.word.length cw, .slice B t.byte.length cb])
  have hg := grown_alloc (grown_refl w3 none) (.cells #[.slice U t.up.length cu, .slice D t.depth.length cd, .slice O t.word.length cw, .slice B t.byte.length cb] 30)
  obtain ⟨w4, hW4⟩ : ∃ W, w3.alloc (.cells #[.slice U t.up.length cu, .slice D t.depth.length cd, .slice O t.word.length cw, .slice B t.byte.length cb] 30) = W := ⟨_, rfl⟩
  rw [hW4] at H2 hg ⊢
  clear hW4
  obtain ⟨bt, hbt⟩ : ∃ x, w3.heap.size = x := ⟨_, rfl⟩
  rw [hbt] at H2 ⊢
  clear hbt
  replace hT := hid (hT.out.grown hg)
  replace hG := hid (grown_trans hG.out hg)
  replace hW := hid (grown_trans hW.out hg)
  clear hg e0 e1
  have e0 := ((H1.out.kept0 hW.out).cell 0).trans (show _ = some (Value.bool f) from rfl)
  have e1 := ((H1.out.kept0 hW.out).cell 1).trans (show _ = some (Value.slice P xss.length c) from rfl)
  have c0 := (H2.out.cell 0).trans (show _ = some (Value.slice U t.up.length cu) from rfl)
  have c1 := (H2.out.cell 1).trans (show _ = some (Value.slice D t.depth.length cd) from rfl)
  have c2 := (H2.out.cell 2).trans (show _ = some (Value.slice O t.word.length cw) from rfl)
  have c3 := (H2.out.cell 3).trans (show _ = some (Value.slice B t.byte.length cb) from rfl)
  go_wp2_with fail
  refine (tFind_is U D O B cu cd cw cb t A d b _ hT.out (hA.out.grown hG.out) (by omega)).mono ?_
  rintro e w5 ⟨rfl, hg⟩
  rw [hfo.out]
  replace hT := hid (hT.out.grown hg)
  replace H2 := hid (H2.out.kept0 hg)
  clear c0 c1 c2 c3
  replace hG := hid (grown_trans hG.out hg)
  replace hW := hid (grown_trans hW.out hg)
  clear hg e0 e1
  have e0 := ((H1.out.kept0 hW.out).cell 0).trans (show _ = some (Value.bool f) from rfl)
  have e1 := ((H1.out.kept0 hW.out).cell 1).trans (show _ = some (Value.slice P xss.length c) from rfl)
  go_wp2_with fail
  clear e0 e1
  go_loopw [9, 10] (fun bg v wr => ∃ k : Nat, k ≤ xss.length ∧ v = .int .i64 (k : Nat) ∧ bg = .bool (begTo xss b k) ∧ w5.grownBy wr none) (fun _ v _ => xss.length - (intOf v).toNat)
  case atStart => exact ⟨0, Nat.zero_le _, rfl, rfl, grown_refl _ _⟩
  case round =>
    obtain ⟨k, hk, rfl, rfl, hr⟩ := hrel
    have hWr := hid (grown_trans hW.out hr)
    have hGr := hid (grown_trans hG.out hr)
    by_cases hlt : k < xss.length
    · have e1 := ((H1.out.kept0 hWr.out).cell 1).trans (show _ = some (Value.slice P xss.length c) from rfl)
      have q0 : (k : Int) < (xss.length : Int) := by omega
      have hsucc : begTo xss b (k + 1) = (begTo xss b k || stands false (xss.getD k []) b.length b) := rfl
      obtain ⟨b2, o2, Ak, ck, rfl, hb2, hcell, hck, hcm, hAk⟩ := hP.out.at_ hlt
      cases hbt : begTo xss b k with
      | true =>
        rw [hbt, Bool.true_or] at hsucc
        replace hr := hid hr
        clear hcell hAk
        go_wp2_with fail
        go_roundw
        case rel => exact ⟨k + 1, by omega, by go_num, by rw [hsucc], hr.out⟩
        case measure => simp [intOf]; omega
      | false =>
        rw [hbt, Bool.false_or] at hsucc
        have hcc := ((gcell hGr.out).1 b2 (o2 + k) hb2).trans hcell
        have hbl := Nat.lt_of_lt_of_le hb2 hGr.out.size
        have hxb := hid (hB.out k)
        have hxl : (xss.getD k []).length ≤ 3000 := by
          have h1 := flatten_take_succ xss k hlt
          have h2 := flatten_take_le xss (k + 1)
          rw [h1, List.length_append] at h2
          omega
        have hxa := hid (hAk.grown hGr.out)
        clear hcell hAk
        generalize xss.getD k [] = x at hcc hxb hxl hxa hsucc hck
        replace hr := hid hr
        replace hsucc := hid hsucc
        have hkk1 : (0 : Int) ≤ (k : Int) := by omega
        go_wp2_with fail
        refine (refAt_is false Ak A ck d x b (b.length : Int) _ (by omega) (by omega) hck hcm hxb.out hbb.out hxa.out (hA.out.grown hGr.out)).mono ?_
        rintro e w6 ⟨rfl, hg⟩
        replace hr := hid (grown_trans hr.out hg)
        clear hg e1 hcc hxa hGr hWr
        obtain ⟨B9, hB9⟩ : ∃ y, stands false x (b.length : Int) b = y := ⟨_, rfl⟩
        rw [hB9]
        replace hB9 := hid hB9
        go_wp2_with fail
        go_roundw
        case rel => exact ⟨k + 1, by omega, by go_num, by rw [hsucc.out, hB9.out], hr.out⟩
        case measure => simp [intOf]; omega
    · obtain rfl : k = xss.length := by omega
      rw [hbeg.out]
      have e1 := ((H1.out.kept0 hWr.out).cell 1).trans (show _ = some (Value.slice P xss.length c) from rfl)
      have H2r := H2.out.kept0 hr
      have c0 := (H2r.cell 0).trans (show _ = some (Value.slice U t.up.length cu) from rfl)
      have c1 := (H2r.cell 1).trans (show _ = some (Value.slice D t.depth.length cd) from rfl)
      have c2 := (H2r.cell 2).trans (show _ = some (Value.slice O t.word.length cw) from rfl)
      have c3 := (H2r.cell 3).trans (show _ = some (Value.slice B t.byte.length cb) from rfl)
      have hTr := hid (hT.out.grown hr)
      clear H2r hr hWr
      cases ok with
      | false =>
        obtain rfl : n = 0 := hno.out rfl
        go_wp2_with fail
        refine (tSpell_is U D O B cu cd cw cb t 0 _ hTr.out).mono ?_
        rintro e w7 ⟨A9, n9, c9, rfl, hn9, hc9, hm9, ho9, hg⟩
        replace hGr := hid (grown_trans hGr.out hg)
        obtain ⟨y9, hy9⟩ : ∃ y, there t 0 = y := ⟨_, rfl⟩
        rw [hy9]
        clear hg ho9 hy9 hn9 c0 c1 c2 c3 e1
        go_wp2_with fail
        refine (twakes_true _).mono ?_
        rintro e w9 ⟨rfl, hg⟩
        have hGf := hid (grown_trans hGr.out hg)
        clear hg
        go_wp2_with fail
        go_ret
        exact ⟨rfl, hGf.out⟩
      | true =>
        obtain ⟨hth, hsp⟩ := hyes.out rfl
        go_wp2_with fail
        refine (tSpell_is U D O B cu cd cw cb t n _ hTr.out).mono ?_
        rintro e w7 ⟨A9, n9, c9, rfl, hn9, hc9, hm9, ho9, hg⟩
        replace hGr := hid (grown_trans hGr.out hg)
        rw [if_pos hth, hsp] at hn9 ho9
        rw [hth]
        subst hn9
        have h9 : Arr w7 .u8 A9 b := Arr.of_own (k := .u8) ho9
        have cv1 := conv_arr w7 A9 c9 b h9
        have cv2 := conv_arr w7 A d b (hA.out.grown hGr.out)
        have hse := str_eq b b hbb.out hbb.out
        rw [decide_eq_true rfl] at hse
        clear hg ho9 c0 c1 c2 c3 e1 h9
        go_wp2_with fail
        refine (twakes_true _).mono ?_
        rintro e w9 ⟨rfl, hg⟩
        have hGf := hid (grown_trans hGr.out hg)
        clear hg
        go_wp2_with fail
        go_ret
        exact ⟨rfl, hGf.out⟩

end Go.Proofs.Ytojbkhheaondhaa
