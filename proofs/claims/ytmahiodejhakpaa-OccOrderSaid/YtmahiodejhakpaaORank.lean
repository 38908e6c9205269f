/- Package occ: the words' numbers in the order in which hits of one End come. -/
import Derived.Test.YtmahiodejhakpaaOGath
import Derived.Test.YtmahiodejhakpaaK20
import Derived.Laws.MakeOwn
set_option linter.unusedSimpArgs false
set_option linter.unusedVariables false
set_option maxRecDepth 100000
namespace Go.Proofs.Ytmahiodejhakpaa
open Go.RowKit PlainLetter PlainPatset PlainOcc

/-- The numbers 0, 1, .. below n. -/
def numbersTo (n : Nat) : List Int := (List.range n).map fun (j : Nat) => (j : Int)
theorem numbersTo_mem (n : Nat) (j : Int) : j ∈ numbersTo n ↔ 0 ≤ j ∧ j < n := by
  unfold numbersTo
  rw [List.mem_map]
  constructor
  · rintro ⟨k, hk, rfl⟩
    have := List.mem_range.1 hk
    omega
  · rintro ⟨h0, h1⟩
    exact ⟨j.toNat, List.mem_range.2 (by omega), by omega⟩
theorem numbersTo_len (n : Nat) : (numbersTo n).length = n := by simp [numbersTo]

/-- All numbers, each but the last one ahead of the next one. -/
structure Ranked (xss : List (List Int)) (zs : List Int) : Prop where
  perm : zs.Perm (numbersTo xss.length)
  order : zs.Pairwise (fun a b => less xss (0, a) (0, b) = true)
theorem Ranked.len {xss : List (List Int)} {zs : List Int} (h : Ranked xss zs) : zs.length = xss.length := h.perm.length_eq.trans (numbersTo_len _)
theorem Ranked.at_ {xss : List (List Int)} {zs : List Int} (h : Ranked xss zs) (k : Nat) (hk : k < zs.length) : 0 ≤ zs.getD k 0 ∧ zs.getD k 0 < xss.length := by
  have hm : zs.getD k 0 ∈ zs := by simp [List.getD, hk]
  exact (numbersTo_mem _ _).1 (h.perm.mem_iff.1 hm)

/-- The hits at one place of words in their order. -/
def rankHits (f : Bool) (xss : List (List Int)) (text : List Int) (fr : Int) (place : Nat) (zs : List Int) : List Hit := (zs.filter fun j => stands f text place (xss.getD j.toNat [])).map fun j => (fr + place, j)
theorem rankHits_snoc (f : Bool) (xss : List (List Int)) (text : List Int) (fr : Int) (place : Nat) (zs : List Int) (j : Int) :
    rankHits f xss text fr place (zs ++ [j]) = rankHits f xss text fr place zs ++ if stands f text place (xss.getD j.toNat []) = true then [(fr + place, j)] else [] := by
  unfold rankHits
  rw [List.filter_append, List.map_append]
  congr 1
  by_cases hs : stands f text place (xss.getD j.toNat []) = true
  · rw [if_pos hs, List.filter_cons_of_pos (by exact hs)]; rfl
  · rw [if_neg hs, List.filter_cons_of_neg (by exact hs)]; rfl
theorem rankHits_le (f : Bool) (xss : List (List Int)) (text : List Int) (fr : Int) (place : Nat) (zs : List Int) : (rankHits f xss text fr place zs).length ≤ zs.length := by
  unfold rankHits
  rw [List.length_map]
  exact List.length_filter_le _ _
theorem rankHits_here (f : Bool) (xss : List (List Int)) (text : List Int) (fr : Int) (place : Nat) (zs : List Int) (h : Ranked xss zs) : rankHits f xss text fr place zs = here f xss text fr place xss.length := by
  refine sorted_ext xss _ _ ?_ (here_sorted f xss text fr place _) (fun x => ?_)
  · unfold Sorted rankHits
    rw [List.pairwise_map]
    refine (List.Pairwise.filter _ h.order).imp (fun {a b} hab => ?_)
    have h1 := (less_iff _ _ _).1 hab
    refine (less_iff _ _ _).2 (.inr ⟨rfl, ?_⟩)
    rcases h1 with h1 | ⟨_, h1⟩
    · exact absurd h1 (Int.lt_irrefl _)
    · exact h1
  · rw [here_mem]
    unfold rankHits
    rw [List.mem_map]
    constructor
    · rintro ⟨j, hj, rfl⟩
      obtain ⟨h1, h2⟩ := List.mem_filter.1 hj
      obtain ⟨h3, h4⟩ := (numbersTo_mem _ _).1 (h.perm.mem_iff.1 h1)
      exact ⟨j.toNat, by omega, by rw [show ((j.toNat : Nat) : Int) = j by omega], h2⟩
    · rintro ⟨k, hk, rfl, hs⟩
      refine ⟨(k : Int), List.mem_filter.2 ⟨h.perm.mem_iff.2 ((numbersTo_mem _ _).2 (by omega)), by simpa using hs⟩, rfl⟩

/-- A sort turns the row alone. -/
theorem sort_grown {α : Type} [Inhabited α] (enc : α → Value) (w : World) (blk off n : Nat) (d : Array α) (os : Array Obj) : w.grownBy (sortWorld enc w blk off n d os) (some blk) := by
  refine ⟨rfl, rfl, rfl, ?_, fun k hk hne => ?_⟩
  · unfold sortWorld; rw [Go.Sort.size_grow, Go.Proofs.size_putRow]; exact Nat.le_add_right _ _
  · show ((w.heap.modify blk _) ++ os)[k]? = w.heap[k]?
    rw [Array.getElem?_append_left (by simpa using hk), Array.getElem?_modify]
    rw [if_neg (fun e => hne (by rw [e]))]
theorem sort_cell {α : Type} [Inhabited α] (enc : α → Value) (w : World) (blk n : Nat) (d0 d : Array α) (os : Array Obj) (hb : blk < w.heap.size) (h0 : Go.Sort.Holds enc w blk 0 d0) (hs : d.size = d0.size) (j : Nat) (hj : j < d.size) :
    (sortWorld enc w blk 0 n d os).cell? ⟨blk, j, none⟩ = some (enc d[j]!) := by
  unfold sortWorld
  rw [Go.Sort.cell?_grow _ _ _ (by rw [Go.Proofs.size_putRow]; exact hb)]
  have := Go.Sort.cell?_putRow enc (Go.Sort.ahead w n) blk 0 d0 d (Go.Sort.holds_ahead enc w n blk 0 d0 h0) hs j hj
  rwa [Nat.zero_add] at this

theorem Try.intInfo : (Try.prog.info? 3).map (fun i => (i.zero, i.size, i.bytes)) = some (some (.int .i64 0), 1, 8) := by kernel_rfl

theorem closure_is (f : Bool) (P : Option Addr) (c h0 hg : Nat) (xss : List (List Int)) (v : Value) (x y : Int) (w : World) (Hb : Holds w h0 63 #[.pointer (some ⟨hg, 0, none⟩)]) (H : Holds w hg 52 #[.bool f, .slice P xss.length c, v]) (hP : Arrs w P xss) :
    Calls Try.prog 54 #[.int .i64 x, .int .i64 y, .pointer (some ⟨h0, 0, none⟩)] w fun e w' => e = .returned (.int .i64 (cmpHit xss (0, x) (0, y))) ∧ G.Gr w w' := by
  have c0 := (Hb.cell 0).trans (show _ = some (Value.pointer (some ⟨hg, 0, none⟩)) from rfl)
  have key := hid (G.compare_is f P c xss v hg (0, x) (0, y) w H hP)
  generalize cmpHit xss (0, x) (0, y) = r at key ⊢
  clear H Hb hP
  go_enter Try.func54, Try.ntmps54
  go_wp2_with (go_at_call 31; refine key.out.mono ?_; rintro e w2 ⟨rfl, hg⟩; have hG := hid hg; clear hg)
  go_ret
  exact ⟨rfl, hG.out⟩

theorem madeInts (n k : Nat) (hk : k < n) : (madeCells #[.int .i64 0] (n * 1))[k]? = some (.int .i64 0) := by
  unfold madeCells
  simp [hk, Nat.mod_one]

set_option maxHeartbeats 2000000 in
theorem ranked_is (f : Bool) (P : Option Addr) (c hg : Nat) (xss : List (List Int)) (v : Value) (w : World) (hn : xss.length ≤ 1000) (H : Holds w hg 52 #[.bool f, .slice P xss.length c, v]) (hP : Arrs w P xss) :
    Calls Try.prog 38 #[.pointer (some ⟨hg, 0, none⟩)] w fun e w' => ∃ R zs, e = .returned (.slice (some ⟨R, 0, none⟩) zs.length zs.length) ∧ Ranked xss zs ∧ Arr w' .i64 (some ⟨R, 0, none⟩) zs ∧ w.grownBy w' none ∧ w.heap.size ≤ R := by
  obtain ⟨i0, hi0, hz0, hz1, hz2⟩ := info_parts Try.intInfo
  have hmf : ∀ (fn : Fn) (first cap : Array Value) (w : World), (Instr.makeFunc fn first cap).run Try.prog w = .ok (.func fn first cap) w := fun _ _ _ _ => rfl
  obtain ⟨h, hh⟩ : ∃ h, w.heap.size = h := ⟨_, rfl⟩
  obtain ⟨n, hnn⟩ : ∃ n, xss.length = n := ⟨_, rfl⟩
  have hmk := run_makeSlice (P := Try.prog) (w := w.alloc (.cells #[.pointer (some ⟨hg, 0, none⟩)] 63)) 64 3 i0 (.int .i64 0) Try.underlying64 hi0 hz0 .i64 .i64 (n : Int) (n : Int) (by omega) (by omega) (by rw [hz1]; simp; omega) (by rw [hz2]; omega) (by omega)
  simp only [Int.toNat_natCast, World.size_alloc, hh, hz1] at hmk
  obtain ⟨W1, hW1⟩ : ∃ W1, (w.alloc (.cells #[.pointer (some ⟨hg, 0, none⟩)] 63)).alloc (.cells (madeCells (Value.int .i64 0).cells (n * 1)) 3) = W1 := ⟨_, rfl⟩
  have hG1 : w.grownBy W1 none := by rw [← hW1]; exact grown_alloc (grown_alloc (grown_refl w none) _) _
  have Hb : Holds W1 h 63 #[.pointer (some ⟨hg, 0, none⟩)] := by rw [← hW1]; exact (Holds.new_at _ _ hh).alloc _
  have HR : Holds W1 (h + 1) 3 (madeCells (Value.int .i64 0).cells (n * 1)) := by rw [← hW1]; exact Holds.new_at _ _ (by simp [hh])
  rw [hW1] at hmk
  clear hW1
  have c1 := ((H.alloc (.cells #[.pointer (some ⟨hg, 0, none⟩)] 63)).cell 1).trans (show _ = some (Value.slice P xss.length c) from rfl)
  rw [hnn] at c1
  have H2 := hid H
  have hP2 := hid hP
  have hms : (madeCells (Value.int .i64 0).cells (n * 1)).size = n := by rw [size_madeCells]; simp
  have hmc : ∀ k, k < n → (madeCells (Value.int .i64 0).cells (n * 1))[k]? = some (.int .i64 0) := fun k hk => madeInts n k hk
  generalize madeCells (Value.int .i64 0).cells (n * 1) = cs0 at hmk HR hms hmc
  have hHR := hid HR
  have hHb := hid Hb
  have hGG := hid hG1
  have hhh := hid hh
  have hmc2 := hid hmc
  have hms2 := hid hms
  clear H hP HR Hb hG1 hmc hms
  go_enter Try.func38, Try.ntmps38
  go_wp2_with fail
  clear hmk c1 hh
  go_loopw [14] (fun i wr => ∃ (k : Nat) (cs : Array Value), k ≤ n ∧ i = .int .i64 k ∧ Holds wr (h + 1) 3 cs ∧ cs.size = n ∧ (∀ j, j < k → cs[j]? = some (.int .i64 (j : Nat))) ∧ W1.grownBy wr (some (h + 1))) (fun i _ => n - (intOf i).toNat)
  case atStart => exact ⟨0, cs0, Nat.zero_le _, rfl, hHR.out, hms2.out, fun j hj => absurd hj (Nat.not_lt_zero _), grown_refl _ _⟩
  case round =>
    obtain ⟨k, cs, hk, rfl, hR, hcs, hc, hG⟩ := hrel
    by_cases hlt : k < n
    · have hcell := hR.cell k
      obtain ⟨u, hu⟩ : ∃ u, cs[k]? = some u := ⟨_, Array.getElem?_eq_getElem (by omega)⟩
      rw [hu] at hcell
      have hfree := hR.free k
      have hl := hR.lt
      have q0 : (0 : Int) ≤ (k : Int) := by omega
      have q1 : (k : Int) < (n : Int) := by omega
      have hR2 := hid (hR.set k (.int .i64 (k : Nat)))
      have hG2 := hid (grown_set (p := ⟨h + 1, k, none⟩) hG (.inl rfl) (.int .i64 (k : Nat)))
      replace hc := hid hc
      replace hcs := hid hcs
      clear hR hG hu
      go_wp2_with fail
      go_roundw
      case rel =>
        refine ⟨k + 1, _, by omega, by go_num, hR2.out, by rw [Array.size_setIfInBounds]; exact hcs.out, fun j hj => ?_, hG2.out⟩
        by_cases hjk : j = k
        · subst hjk
          rw [Array.getElem?_setIfInBounds_self_of_lt (by rw [hcs.out]; omega)]
        · rw [Array.getElem?_setIfInBounds_ne (Ne.symm hjk)]
          exact hc.out j (by omega)
      case measure => simp [intOf]; omega
    · obtain rfl : k = n := by omega
      -- the sort
      have hHo : Go.Sort.Holds (Value.int .i64) wr (h + 1) 0 (numbersTo k).toArray := fun j hj => by
        have hj' : j < k := by simpa [numbersTo_len] using hj
        refine ⟨?_, hR.free _⟩
        rw [Nat.zero_add, hR.cell, hc j hj']
        have : (numbersTo k).toArray[j]! = (j : Int) := by
          rw [getElem!_pos _ j hj]
          simp [numbersTo]
        rw [this]
      have hds : (numbersTo k).toArray.size = k := by simp [numbersTo_len]
      have hwr : Hid (w.grownBy wr none) := hid (grown_new (grown_trans_same (grown_row hGG.out (some (h + 1))) hG) (by intro j hj; injection hj with hj; have := hhh.out; omega))
      have hbr : Hid (Holds wr h 63 #[.pointer (some ⟨hg, 0, none⟩)]) := hid (hHb.out.kept hG (by simp))
      have hl := hR.lt
      have eg : ∀ args w, (callFunc 54 args).run Try.prog w = .ok (.enter 54 args) w := enters_of Try.func54 (by kernel_rfl) rfl
      have hcmp : CmpLays1 Try.prog 54 #[.pointer (some ⟨h, 0, none⟩)] (Value.int .i64) (fun x y => cmpHit xss (0, x) (0, y)) (h + 1) 0 (numbersTo k).toArray.size wr := by
        intro m os dk hdk x y
        have hg1 := sort_grown (Value.int .i64) wr (h + 1) 0 m dk os
        have hg2 : w.grownBy (sortWorld (Value.int .i64) wr (h + 1) 0 m dk os) none := grown_new (grown_trans_same (grown_row hwr.out (some (h + 1))) hg1) (by intro j hj; injection hj with hj; have := hhh.out; omega)
        refine (closure_is f P c h hg xss v x y _ (hbr.out.kept hg1 (by simp)) (H2.out.kept0 hg2) (hP2.out.grown hg2)).mono ?_
        rintro e w' ⟨rfl, hgr⟩
        exact ⟨rfl, hgr.grow⟩
      have hsort := Try.slices_SortFunc (Value.int .i64) (fun _ => rfl) (fun x y => cmpHit xss (0, x) (0, y)) (cmpHit_swo xss (fun x => (0, x))) 54 #[.pointer (some ⟨h, 0, none⟩)] (h + 1) 0 k (numbersTo k).toArray wr eg hcmp hHo hl (by rw [hds]; omega)
      rw [hds] at hsort
      replace hsort := hid hsort
      replace hHo := hid hHo
      have hlr := hid hl
      clear hcmp eg hR hc hl hG hcs hds
      obtain ⟨w0, hw0⟩ : ∃ w0, w0 = wr := ⟨_, rfl⟩
      subst hw0
      go_wp2_with (go_at_call 53; refine hsort.out.mono ?_; rintro e w2 ⟨rfl, d, m, os, hperm, hord, rfl⟩; have hpp := hid hperm; have hoo := hid hord; clear hperm hord)
      go_ret
      have hdsz : d.size = k := by have := hpp.out.1; simpa [numbersTo_len] using this
      have hpl : d.toList.Perm (numbersTo k) := by
        have := hpp.out.2.2
        rw [Array.extract_eq_self_of_le (by omega), Array.extract_eq_self_of_le (by simp [numbersTo_len])] at this
        simpa using this
      have hlen : d.toList.length = k := by simpa using hdsz
      refine ⟨h + 1, d.toList, by rw [hlen]; rfl, ⟨by rw [hnn]; exact hpl, ?_⟩, fun _ => ⟨h + 1, 0, rfl, ?_, fun i hi => ?_⟩, ?_, by have := hhh.out; omega⟩
      · have hnd : d.toList.Nodup := hpl.nodup_iff.2 (by unfold numbersTo; exact List.pairwise_map.2 (List.nodup_range.imp (fun hab e => hab (by omega))))
        rw [List.pairwise_iff_getElem]
        intro i j hi hj hij
        have h1 := hoo.out i j (Nat.zero_le _) hij (by omega)
        rw [getElem!_pos d i (by simpa using hi), getElem!_pos d j (by simpa using hj)] at h1
        have h2 : decide (cmpHit xss (0, d[j]'(by simpa using hj)) (0, d[i]'(by simpa using hi)) < 0) = false := h1
        rw [cmpHit_less] at h2
        simp only [Array.getElem_toList]
        rcases less_total xss (0, d[i]'(by simpa using hi)) (0, d[j]'(by simpa using hj)) with h3 | h3 | h3
        · exfalso
          have h4 : d[i]'(by simpa using hi) = d[j]'(by simpa using hj) := (Prod.mk.inj h3).2
          exact (List.pairwise_iff_getElem.1 hnd) i j hi hj hij (by simpa using h4)
        · exact h3
        · rw [h2] at h3; cases h3
      · exact Nat.lt_of_lt_of_le hlr.out (sort_grown (Value.int .i64) w0 (h + 1) 0 m d os).size
      · rw [Nat.zero_add, sort_cell (Value.int .i64) w0 (h + 1) m (numbersTo k).toArray d os hlr.out hHo.out (by rw [hdsz]; simp [numbersTo_len]) i (by simpa using hi)]
        rw [getElem!_pos d i (by simpa using hi)]
        simp [List.getD, show i < d.size by simpa using hi]
      · exact grown_new (grown_trans_same (grown_row hwr.out (some (h + 1))) (sort_grown (Value.int .i64) w0 (h + 1) 0 m d os)) (by intro j hj; injection hj with hj; have := hhh.out; omega)
end Go.Proofs.Ytmahiodejhakpaa
