/- The document's own answer: packed words, taken. -/
import Derived.Test.YtghnbfphhmgcpaaPBody
import Derived.Test.YtghnbfphhmgcpaaOwnRows
set_option linter.unusedSimpArgs false
set_option linter.unusedVariables false
set_option maxRecDepth 100000
namespace Go.Proofs.Ytghnbfphhmgcpaa
open Go.RowKit Plain PlainSum PlainPacked

/-- What a call that tells packed words leaves. -/
def GivesWords (r : Bool × List (List Int) × Int) (w : World) : Ending → World → Prop := fun e w' =>
  ∃ (A : Option Addr) (c : Nat) (l : List Sl), e = .returned (.tuple #[.bool r.1, .slice A l.length c, .int .i64 r.2.2]) ∧ l.map (·.2.1) = r.2.1 ∧ OwnRows w' w.heap.size (.slice A l.length c) l ∧ w.grownBy w' none

theorem GivesWords.none (f : Bool) (er : Int) {w w' : World} (hg : w.grownBy w' none) : GivesWords (f, [], er) w (.returned (.tuple #[.bool f, .slice none 0 0, .int .i64 er])) w' :=
  ⟨Option.none, 0, [], rfl, rfl, OwnRows.nil _ _, hg⟩

theorem got_none (b : List Int) (h0 : headErr b = 0) (h : getAll (between b) = Option.none) : got b = (false, [], 12) := by unfold got; rw [if_pos h0, h]
theorem got_rest (b : List Int) (ws : List (List Int)) (r : List Int) (h0 : headErr b = 0) (h : getAll (between b) = some (ws, r)) (hr : r ≠ []) : got b = (false, [], 43) := by unfold got; rw [if_pos h0, h]; simp [hr]
theorem got_yes (b : List Int) (ws : List (List Int)) (h0 : headErr b = 0) (h : getAll (between b) = some (ws, [])) : got b = (headFold b, ws, 0) := by unfold got; rw [if_pos h0, h]; simp
theorem getAll_bad (b : List Int) (er : Int) (h : take b = .bad er) : getAll b = Option.none := by unfold getAll; rw [h]
theorem getAll_good (b r : List Int) (n : Int) (h : take b = .good n r) : getAll b = getWords n.toNat r := by unfold getAll; rw [h]
theorem getWords_bad (k : Nat) (b : List Int) (er : Int) (h : take b = .bad er) : getWords (k + 1) b = Option.none := by simp only [getWords]; rw [h]
theorem getWords_short (k : Nat) (b r : List Int) (n : Int) (h : take b = .good n r) (hs : (r.length : Int) < n) : getWords (k + 1) b = Option.none := by simp only [getWords]; rw [h]; simp [hs]
theorem getWords_good (k : Nat) (b r : List Int) (n : Int) (h : take b = .good n r) (hs : ¬ (r.length : Int) < n) : getWords (k + 1) b = (getWords k (r.drop n.toNat)).map fun x => (r.take n.toNat :: x.1, x.2) := by
  simp only [getWords]; rw [h]; simp [hs]

set_option maxRecDepth 100000 in
set_option maxHeartbeats 2000000 in
theorem refUnpack_is (A : Option Addr) (c : Nat) (bs : List Int) (w : World) (hl : bs.length ≤ 100000) (hc : bs.length ≤ c) (hc2 : c ≤ maxLen) (hb : Bytes bs) (hA : Arr w .u8 A bs) :
    Calls Try.prog 11 #[.slice A bs.length c] w (GivesWords (got bs) w) := by
  obtain ⟨i0, hi, hz0, hz1, hz2⟩ := info_parts Try.info5
  obtain ⟨i3, hi3, hy0, hy1, hy2⟩ := info_parts Try.rowInfo
  replace hb := hid hb
  replace hA := hid hA
  by_cases h0 : headErr bs = 0
  · obtain ⟨h10, _, _, _⟩ := head_right bs h0
    obtain ⟨b, off, rfl, hb0, hx⟩ := hA.out.at_ (i := 4) (by omega)
    have hA2 : Hid (Arr w .u8 (some ⟨b, off + 5, none⟩) (between bs)) := fun _ =>
      ⟨b, off + 5, rfl, hb0, fun i hi => by
        have hi' : i < bs.length - 4 - 5 := by unfold between at hi; simpa using hi
        have := hx (5 + i) (by omega)
        rw [Nat.add_assoc, this]
        unfold between
        rw [getD_drop, getD_take, if_pos (by omega)]⟩
    have hbt : Hid (∀ x ∈ between bs, isByte x) := fun x hx => of_bytes hb.out x (List.mem_of_mem_take (List.mem_of_mem_drop hx))
    have hbl : (between bs).length = bs.length - 4 - 5 := by unfold between; rw [List.length_drop, List.length_take]; omega
    have hnone := hid (fun h => got_none bs h0 h)
    have hrest := hid (fun ws r h hr => got_rest bs ws r h0 h hr)
    have hyes := hid (fun ws h => got_yes bs ws h0 h)
    have h0' := hid h0
    clear hx
    unfold maxLen at hc2
    go_enter Try.func11, Try.ntmps11
    go_wp2_with fail
    refine (refHead_is _ c bs _ hl hc (by unfold maxLen; exact hc2) hb.out hA.out).mono ?_
    rintro e w1 ⟨rfl, hg1⟩
    rw [h0'.out]
    have hA3 := hid (hA2.out.grown hg1)
    replace hg1 := hid hg1
    generalize headFold bs = F at hyes ⊢
    clear hA hA2 hb
    generalize between bs = bt at hbt hbl hnone hrest hyes hA3
    have q0 : (5 : Int) ≤ (bs.length : Int) - 4 := by omega
    go_wp2_with fail
    have key := refTake_new (some ⟨b, off + 5, none⟩) (c - 5) bt w1 (by omega) (by omega) (by unfold maxLen; omega) hbt.out hA3.out
    rw [hbl] at key
    refine key.mono ?_
    clear key
    rintro e w2 ⟨n, er, rest, A2, c2, rfl, hc3, hd3, hA4, hg2, htold, _, hown2⟩
    have hG2 := hid (grown_trans hg1.out hg2)
    clear hg2
    rcases htold with ⟨htk, rfl⟩ | ⟨htk, hne, rfl, rfl⟩
    · obtain ⟨hn0, hn1, hsp⟩ := take_only bt n rest hbt.out htk
      have hrl : rest.length ≤ bs.length := by
        have := congrArg List.length hsp
        rw [List.length_append] at this
        omega
      have hrb : Hid (∀ x ∈ rest, isByte x) := fun x hx => hbt.out x (by rw [hsp]; simp [hx])
      have hall := hid (getAll_good bt rest n htk)
      have hr2 : Hid (Arr w2 .u8 A2 rest) := hA4
      clear htk hsp hA4 hown2 hA3
      go_wp2_with fail
      go_loopw [8, 10, 11] (fun r o i wr => ∃ (k : Nat) (R : Option Addr) (rs : List Int) (cr : Nat) (l : List Sl), (k : Int) ≤ n ∧ i = .int .i64 k ∧ r = .slice R rs.length cr ∧ rs.length ≤ cr ∧ cr ≤ maxLen ∧ Arr wr .u8 R rs ∧ rs.length ≤ bs.length ∧ Hid (l.length = k) ∧
          Hid (∀ x ∈ rs, isByte x) ∧ OwnRows wr w.heap.size o l ∧ Hid (getAll bt = (getWords (n.toNat - k) rs).map (fun x => (l.map (·.2.1) ++ x.1, x.2))) ∧ w.grownBy wr none) (fun _ _ i _ => (n - intOf i).toNat)
      case atStart => exact ⟨0, A2, rest, c2, [], by omega, rfl, rfl, hc3, hd3, hr2.out, hrl, rfl, hrb, OwnRows.nil _ _, hid (by rw [hall.out]; simp), hG2.out⟩
      case round =>
        clear hr2 hall hG2 hrb hrl hc3 hd3
        obtain ⟨k, R, rs, cr, l, hk, rfl, rfl, hcr, hmr, hAr, hrl, hll, hrb, hrows, hgo, hG⟩ := hrel
        by_cases hlt : (k : Int) < n
        · go_wp2_with fail
          refine (refTake_new R cr rs wr (by omega) hcr hmr hrb.out hAr).mono ?_
          rintro e w3 ⟨n2, er2, more, A5, c5, rfl, hc5, hd5, hA5, hg3, htold, _, hown3⟩
          have hG3 := hid (grown_trans hG hg3)
          have hrows3 := hid (hrows.grown hg3)
          have hsz := hid hG.size
          have hsz3 := hid hg3.size
          replace hgo := hid hgo.out
          clear hrows hG hg3 hAr
          rcases htold with ⟨htk, rfl⟩ | ⟨htk, hne, rfl, rfl⟩
          · obtain ⟨hm0, hm1, hsp⟩ := take_only rs n2 more hrb.out htk
            have hml : more.length ≤ rs.length := by
              have := congrArg List.length hsp
              rw [List.length_append] at this
              omega
            have hmb : Hid (∀ x ∈ more, isByte x) := fun x hx => hrb.out x (by rw [hsp]; simp [hx])
            clear hsp
            obtain ⟨N, rfl⟩ := Int.eq_ofNat_of_zero_le hm0
            by_cases hs : (more.length : Int) < (N : Int)
            · have hN := hid (hnone.out (by rw [hgo.out, show n.toNat - k = (n.toNat - (k + 1)) + 1 by omega, getWords_short _ _ _ _ htk hs]; rfl))
              clear htk hgo hA5 hown3
              go_wp2_with fail
              go_ret3
              rw [hN.out]
              exact GivesWords.none false _ hG3.out
            · have hstep := hid (show getAll bt = (getWords (n.toNat - (k + 1)) (more.drop N)).map (fun x => (l.map (·.2.1) ++ more.take N :: x.1, x.2)) by
                rw [hgo.out, show n.toNat - k = (n.toNat - (k + 1)) + 1 by omega, getWords_good _ _ _ _ htk hs, Int.toNat_natCast]
                cases getWords (n.toNat - (k + 1)) (more.drop N) <;> rfl)
              have htl : (more.take N).length = N := by rw [List.length_take]; omega
              have hdl : (more.drop N).length = more.length - N := by rw [List.length_drop]
              have hdb : Hid (∀ x ∈ more.drop N, isByte x) := fun x hx => hmb.out x (List.mem_of_mem_drop hx)
              have hAt := hid (hA5.take N)
              have hAd := hid (fun (W : World) (h : Arr W .u8 A5 more) => h.drop (i := N) hc5)
              have hownM : Hid (OwnBytes w3 wr.heap.size (A5, more, c5)) := hown3
              clear hA5 htk hown3 hmb hgo
              generalize more.take N = tk at hstep htl hAt
              generalize more.drop N = dr at hstep hdl hdb hAd
              obtain rfl : N = tk.length := htl.symm
              clear htl
              have hrowE : Hid ((w3.alloc (.cells #[] 5)).ownsRow w3.heap.size 5 1 (.slice (some ⟨w3.heap.size, 0, none⟩) 0 0) ([] : List Int).length (([] : List Int).map (Value.int .u8))) :=
                World.ownsRow_made w3 #[] 0 (Nat.le_refl _) (by simp) (by simp)
              have hAt3 := hid (hAt.out.grown (World.grownBy_alloc w3 (.cells #[] 5) none))
              have r0 : ¬ ((more.length : Int) < (tk.length : Int)) := hs
              have r1 : (tk.length : Int) ≤ (c5 : Int) := by omega
              have r2 : (tk.length : Int) ≤ (more.length : Int) := by omega
              unfold maxLen at hd5
              by_cases hcn : c5 = tk.length
              all_goals
                go_upto_region 15 with (first
                  | (at_builtin; refine wpList_append_all rfl _ _ 23 rfl w3.heap.size 5 i0 .u8 1 Try.underlying23 hi hz0 hz1 hz2 _ [] tk _ _ _ (w3.alloc (.cells #[] 5)) hrowE.out hAt3.out rfl rfl rfl (by decide) (by simp; omega) (by simp) ?_; intro v7 w7 hrow7 hB7; rw [List.nil_append] at hrow7; obtain ⟨A7, c7, rfl, hc7, hd7⟩ := own_form hrow7; have hG7 := hid (below_grown (((Below.refl _ w3).alloc (Nat.le_refl _) (.cells #[] 5)).trans hB7)); have hO7 := hid (OwnBytes.mono (x := (A7, tk, c7)) hrow7 (Nat.le_trans hsz.out hsz3.out)); have hR7 := hid (hrows3.out.grown hG7.out); have hs7 := hid (Nat.le_trans (Nat.le_trans hsz.out hsz3.out) hG7.out.size); clear hrow7 hB7 hc7 hd7)
                  | (at_builtin; refine wpList_push_row rfl _ _ 22 rfl w.heap.size i3 Try.underlying22 hi3 hy0 hy1 hy2 _ l (A7, tk, c7) w7 hR7.out hO7.out rfl rfl (by rw [hll.out]; omega) hs7.out ?_; intro v8 w8 hrows8 hkeep8 hB8))
                have hG8 := hid (below_grown ((Below.of_grown' (grown_trans hG3.out hG7.out)).trans hB8))
                have hAr8 := hAd.out w8 (hkeep8 _ _ (hownM.out.grown hG7.out)).arr
                first | rw [if_pos hcn] at hAr8 | rw [if_neg hcn] at hAr8
                replace hAr8 := hid hAr8
                replace hrows8 := hid hrows8
                clear hkeep8 hB8 hR7 hO7 hG7 hG3 hrows3 hAt hAd hownM hrowE hAt3 hs7
                have hdl' := hid hdl
                clear hdl
                go_wp2_with fail
                go_roundw
                case rel => exact ⟨k + 1, _, dr, _, l ++ [(A7, tk, c7)], by omega, by go_num, by rw [hdl'.out], by rw [hdl'.out]; omega, by unfold maxLen; omega, hAr8.out, by rw [hdl'.out]; omega, hid (by have := hll.out; simp; omega), hdb, hrows8.out,
                  hid (by rw [hstep.out]; simp only [List.map_append, List.map_cons, List.map_nil, List.append_assoc, List.cons_append, List.nil_append]), hG8.out⟩
                case measure => simp [intOf]; omega
          · have hne' : (er2 != 0) = true := by rw [bne_iff_ne]; exact hne
            have hN := hid (hnone.out (by rw [hgo.out, show n.toNat - k = (n.toNat - (k + 1)) + 1 by omega, getWords_bad _ _ _ htk]; rfl))
            clear htk hgo
            go_wp2_with fail
            go_ret3
            rw [hN.out]
            exact GivesWords.none false _ hG3.out
        · obtain rfl : n = (k : Int) := by omega
          have hend : getAll bt = some (l.map (·.2.1), rs) := by
            rw [hgo.out, show (k : Int).toNat - k = 0 by omega]
            simp [getWords]
          by_cases hr : rs = []
          · subst hr
            have hN := hid (hyes.out _ hend)
            obtain ⟨A9, c9, rfl, _, _⟩ := own_form hrows.1
            replace hrows := hid hrows
            replace hG := hid hG
            clear hgo hend hAr
            go_wp2_with fail
            go_ret3
            rw [hN.out]
            exact ⟨A9, c9, l, rfl, rfl, hrows.out, hG.out⟩
          · have hN := hid (hrest.out _ _ hend hr)
            have hpos : (0 : Int) < (rs.length : Int) := by have := List.length_pos_iff.2 hr; omega
            replace hr := hid hr
            replace hG := hid hG
            clear hgo hend hAr hrows
            go_wp2_with fail
            go_ret3
            rw [hN.out]
            exact GivesWords.none false _ hG.out
    · have hne' : (er != 0) = true := by rw [bne_iff_ne]; exact hne
      have hN := hid (hnone.out (getAll_bad bt er htk))
      clear htk
      go_wp2_with fail
      go_ret3
      rw [hN.out]
      exact GivesWords.none false _ hG2.out
  · have hG : Hid (got bs = (false, [], headErr bs)) := got_err bs h0
    have hF : Hid (headFold bs = false) := hid (by unfold headFold; simp [h0])
    go_enter Try.func11, Try.ntmps11
    go_wp2_with fail
    refine (refHead_is A c bs _ hl hc hc2 hb.out hA.out).mono ?_
    rintro e w1 ⟨rfl, hg1⟩
    rw [hF.out]
    have he : (headErr bs != 0) = true := by rw [bne_iff_ne]; exact h0
    generalize headErr bs = er at he hG ⊢
    replace hg1 := hid hg1
    clear h0
    go_wp2_with fail
    go_ret3
    rw [hG.out]
    exact GivesWords.none false _ hg1.out
end Go.Proofs.Ytghnbfphhmgcpaa
