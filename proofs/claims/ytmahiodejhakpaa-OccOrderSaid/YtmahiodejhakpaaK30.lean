/- Package occ: its contracts. The document's own example of hits: the set; what its hits are; bytes of a constant text at a known place of memory. -/
import Derived.Test.YtmahiodejhakpaaOLead
import Derived.Test.YtmahiodejhakpaaK26
import Derived.Test.YtmahiodejhakpaaOGather
import Derived.Test.YtmahiodejhakpaaK6
set_option linter.unusedSimpArgs false
set_option linter.unusedVariables false
set_option maxRecDepth 100000
namespace Go.Proofs.Ytmahiodejhakpaa
open Go.RowKit PlainLetter PlainPatset PlainOcc

set_option maxHeartbeats 2000000 in
theorem occOcc_is (f : Bool) (P A : Option Addr) (c d : Nat) (fr : Int) (text : List Int) (xss : List (List Int)) (w : World) (hn : xss.length ≤ 1000) (hl : xss.flatten.length ≤ 10000) (hB : ∀ i, Bytes (xss.getD i [])) (hP : Arrs w P xss)
    (ht : text.length ≤ 10000) (hd : text.length ≤ d) (hdm : d ≤ maxLen) (htb : Bytes text) (hA : Arr w .u8 A text) (hf0 : -9223372036854775808 ≤ fr) (hf1 : fr ≤ 9223372036854775807) :
    Calls Try.prog 9 #[.agg #[.bool f, .slice P xss.length c], .int .i64 fr, .slice A text.length d] w fun e w' => ∃ v, e = .returned v ∧ OccTold w.heap.size f xss text fr v w' ∧ w.grownBy w' none := by
  have hG0 : Hid (w.grownBy (w.alloc (.cells #[.bool f, .slice P xss.length c] 24)) none) := grown_alloc (grown_refl w none) _
  have HS : Hid (Holds (w.alloc (.cells #[.bool f, .slice P xss.length c] 24)) w.heap.size 24 #[.bool f, .slice P xss.length c]) := Holds.new _ _ _
  have c0 := (HS.out.cell 0).trans (show _ = some (Value.bool f) from rfl)
  have c1 := (HS.out.cell 1).trans (show _ = some (Value.slice P xss.length c) from rfl)
  have key0 := placed_is fr (w.alloc (.cells #[.bool f, .slice P xss.length c] 24))
  have keyR := patRight_is f P c xss (w.alloc (.cells #[.bool f, .slice P xss.length c] 24)) hn hl hB (hP.grown hG0.out)
  have keyG := hid (fun (hg : Nat) (w1 : World) (h1 : w.grownBy w1 none) (h2 : w.heap.size ≤ hg) (h0 : 0 ≤ fr) (h3 : fr ≤ 4611686018427387904) (HH : Holds w1 hg 52 #[.bool f, .slice P xss.length c, .slice none 0 0]) =>
    gather_is f P A c d hg fr text xss w w1 hn hl hB hP ht hd hdm htb hA h0 h3 h1 h2 HH)
  clear hP hA hB htb hdm hl hn
  by_cases hpl : 0 ≤ fr ∧ fr ≤ 4611686018427387904
  · have hD : decide (0 ≤ fr ∧ fr ≤ 4611686018427387904) = true := decide_eq_true hpl
    rw [hD] at key0
    replace key0 := hid key0
    clear hD
    cases hR : right f xss with
    | true =>
      rw [hR] at keyR
      replace keyR := hid keyR
      have hok : Hid (∀ u w', OwnHits w' w.heap.size u (occ f xss text fr) → OccTold w.heap.size f xss text fr (.tuple #[u, .int .i64 0]) w') := hid (fun u w' hu => by
        unfold OccTold; rw [if_pos ⟨hR, hpl.1, hpl.2⟩]; exact ⟨u, rfl, hu⟩)
      replace hpl := hid hpl
      replace hR := hid hR
      go_enter Try.func9, Try.ntmps9
      go_wp2_with (first
        | (go_at_call 23; refine key0.out.mono ?_; rintro e w2 ⟨rfl, rfl⟩)
        | (go_at_call 24; refine keyR.out.mono ?_; rintro e w2 ⟨rfl, hg⟩; have hG2 := hid (grown_trans hG0.out hg); have HS2 := HS.out.kept0 hg; clear c0 c1; have c0 := (HS2.cell 0).trans (show _ = some (Value.bool f) from rfl); have c1 := (HS2.cell 1).trans (show _ = some (Value.slice P xss.length c) from rfl); clear hg HS2))
      have HH : Holds (w2.alloc (.cells #[.bool f, .slice P xss.length c, .slice none 0 0] 52)) w2.heap.size 52 #[.bool f, .slice P xss.length c, .slice none 0 0] := Holds.new _ _ _
      refine (keyG.out w2.heap.size _ (grown_alloc hG2.out _) hG2.out.size hpl.out.1 hpl.out.2 HH).mono ?_
      rintro e w3 ⟨⟨u, rfl⟩, hg3, A', m, HH3, hown3⟩
      have k2 := (HH3.cell 2).trans (show _ = some (Value.slice A' (occ f xss text fr).length m) from rfl)
      have hres := hid (hok.out _ _ hown3)
      have hG3 := hid hg3
      clear HH HH3 hown3 hg3 c0 c1
      obtain ⟨L, hL⟩ : ∃ L, (occ f xss text fr).length = L := ⟨_, rfl⟩
      rw [hL] at k2 hres
      replace hL := hid hL
      go_wp2_with fail
      go_ret2
      exact ⟨_, rfl, hres.out, hG3.out⟩
    | false =>
      rw [hR] at keyR
      replace keyR := hid keyR
      have hbad : Hid (∀ w', OccTold w.heap.size f xss text fr (.tuple #[.slice none 0 0, .int .i64 2]) w') := hid (fun w' => by
        unfold OccTold; rw [if_neg (by rw [hR]; simp)])
      clear keyG
      replace hpl := hid hpl
      replace hR := hid hR
      go_enter Try.func9, Try.ntmps9
      go_wp2_with (first
        | (go_at_call 23; refine key0.out.mono ?_; rintro e w2 ⟨rfl, rfl⟩)
        | (go_at_call 24; refine keyR.out.mono ?_; rintro e w2 ⟨rfl, hg⟩; have hG2 := hid (grown_trans hG0.out hg); clear hg))
      go_ret2
      exact ⟨_, rfl, hbad.out _, hG2.out⟩
  · have hD : decide (0 ≤ fr ∧ fr ≤ 4611686018427387904) = false := decide_eq_false hpl
    rw [hD] at key0
    replace key0 := hid key0
    have hbad : Hid (∀ w', OccTold w.heap.size f xss text fr (.tuple #[.slice none 0 0, .int .i64 2]) w') := hid (fun w' => by
      unfold OccTold; rw [if_neg (fun h => hpl h.2)])
    clear keyG keyR hD
    replace hpl := hid hpl
    go_enter Try.func9, Try.ntmps9
    go_wp2_with (go_at_call 23; refine key0.out.mono ?_; rintro e w2 ⟨rfl, rfl⟩)
    go_ret2
    exact ⟨_, rfl, hbad.out _, hG0.out⟩
end Go.Proofs.Ytmahiodejhakpaa

namespace Go.Proofs.Ytmahiodejhakpaa
open Go.RowKit PlainLetter PlainPatset PlainOcc

def sheWords : List (List Int) := [[104, 101], [115, 104, 101], [104, 101, 114]]
def usher : List Int := [117, 115, 104, 101, 114]
theorem p_she_right : right false sheWords = true := by decide +kernel
theorem p_she_none : right false [] = false := by decide +kernel
theorem p_she_occ : occ false sheWords usher 10 = [(14, 1), (14, 0), (15, 2)] := by decide +kernel
theorem p_she_stands : standsHit false sheWords usher 10 (15, 2) = true := by decide +kernel
theorem p_she_not : standsHit false sheWords usher 10 (15, 0) = false := by decide +kernel
theorem p_she_less : less sheWords (14, 1) (14, 0) = true := by decide +kernel
theorem p_she_more : less sheWords (14, 0) (14, 1) = false := by decide +kernel
theorem p_she_rise : rise sheWords [(14, 1), (14, 0), (15, 2)] = true := by decide +kernel
theorem p_she_twice : rise sheWords [(14, 1), (14, 1)] = false := by decide +kernel
theorem p_she_between : between 14 15 [(14, 1), (14, 0), (15, 2)] = [(15, 2)] := by decide +kernel

theorem she_is (w : World) : Calls Try.prog 22 #[] w fun e w' => ∃ A c, e = .returned (.agg #[.bool false, .slice A 3 c]) ∧ Arrs w' A sheWords ∧ w.grownBy w' none := by
  have kc := conv_const
  go_enter Try.func22, Try.ntmps22
  go_wp2_with fail
  have H0 : Holds (((((w.alloc (.cells #[.bool false, .slice (some ⟨w.heap.size + 1 + 1 + 1 + 1, 0, none⟩) 3 3] 24)).alloc (.cells #[.int .u8 104, .int .u8 101] 5 (2, 3))).alloc (.cells #[.int .u8 115, .int .u8 104, .int .u8 101] 5 (3, 4))).alloc (.cells #[.int .u8 104, .int .u8 101, .int .u8 114] 5 (3, 4))).alloc (.cells #[.slice (some ⟨w.heap.size + 1, 0, none⟩) 2 2, .slice (some ⟨w.heap.size + 1 + 1, 0, none⟩) 3 3, .slice (some ⟨w.heap.size + 1 + 1 + 1, 0, none⟩) 3 3] 25)) w.heap.size 24 #[.bool false, .slice (some ⟨w.heap.size + 1 + 1 + 1 + 1, 0, none⟩) 3 3] := ((((Holds.new _ _ _).alloc _).alloc _).alloc _).alloc _
  have H1 : Holds (((((w.alloc (.cells #[.bool false, .slice (some ⟨w.heap.size + 1 + 1 + 1 + 1, 0, none⟩) 3 3] 24)).alloc (.cells #[.int .u8 104, .int .u8 101] 5 (2, 3))).alloc (.cells #[.int .u8 115, .int .u8 104, .int .u8 101] 5 (3, 4))).alloc (.cells #[.int .u8 104, .int .u8 101, .int .u8 114] 5 (3, 4))).alloc (.cells #[.slice (some ⟨w.heap.size + 1, 0, none⟩) 2 2, .slice (some ⟨w.heap.size + 1 + 1, 0, none⟩) 3 3, .slice (some ⟨w.heap.size + 1 + 1 + 1, 0, none⟩) 3 3] 25)) (w.heap.size + 1 + 1 + 1 + 1) 25 #[.slice (some ⟨w.heap.size + 1, 0, none⟩) 2 2, .slice (some ⟨w.heap.size + 1 + 1, 0, none⟩) 3 3, .slice (some ⟨w.heap.size + 1 + 1 + 1, 0, none⟩) 3 3] := by
    refine Holds.new_at _ _ ?_
    simp
  have a1 : Arr (((((w.alloc (.cells #[.bool false, .slice (some ⟨w.heap.size + 1 + 1 + 1 + 1, 0, none⟩) 3 3] 24)).alloc (.cells #[.int .u8 104, .int .u8 101] 5 (2, 3))).alloc (.cells #[.int .u8 115, .int .u8 104, .int .u8 101] 5 (3, 4))).alloc (.cells #[.int .u8 104, .int .u8 101, .int .u8 114] 5 (3, 4))).alloc (.cells #[.slice (some ⟨w.heap.size + 1, 0, none⟩) 2 2, .slice (some ⟨w.heap.size + 1 + 1, 0, none⟩) 3 3, .slice (some ⟨w.heap.size + 1 + 1 + 1, 0, none⟩) 3 3] 25)) .u8 (some ⟨w.heap.size + 1, 0, none⟩) [104, 101] := (((const_at [104, 101] (2, 3) (by simp)).grown (grown_alloc (grown_refl _ _) _)).grown (grown_alloc (grown_refl _ _) _)).grown (grown_alloc (grown_refl _ _) _)
  have a2 : Arr (((((w.alloc (.cells #[.bool false, .slice (some ⟨w.heap.size + 1 + 1 + 1 + 1, 0, none⟩) 3 3] 24)).alloc (.cells #[.int .u8 104, .int .u8 101] 5 (2, 3))).alloc (.cells #[.int .u8 115, .int .u8 104, .int .u8 101] 5 (3, 4))).alloc (.cells #[.int .u8 104, .int .u8 101, .int .u8 114] 5 (3, 4))).alloc (.cells #[.slice (some ⟨w.heap.size + 1, 0, none⟩) 2 2, .slice (some ⟨w.heap.size + 1 + 1, 0, none⟩) 3 3, .slice (some ⟨w.heap.size + 1 + 1 + 1, 0, none⟩) 3 3] 25)) .u8 (some ⟨w.heap.size + 1 + 1, 0, none⟩) [115, 104, 101] := ((const_at [115, 104, 101] (3, 4) (by simp)).grown (grown_alloc (grown_refl _ _) _)).grown (grown_alloc (grown_refl _ _) _)
  have a3 : Arr (((((w.alloc (.cells #[.bool false, .slice (some ⟨w.heap.size + 1 + 1 + 1 + 1, 0, none⟩) 3 3] 24)).alloc (.cells #[.int .u8 104, .int .u8 101] 5 (2, 3))).alloc (.cells #[.int .u8 115, .int .u8 104, .int .u8 101] 5 (3, 4))).alloc (.cells #[.int .u8 104, .int .u8 101, .int .u8 114] 5 (3, 4))).alloc (.cells #[.slice (some ⟨w.heap.size + 1, 0, none⟩) 2 2, .slice (some ⟨w.heap.size + 1 + 1, 0, none⟩) 3 3, .slice (some ⟨w.heap.size + 1 + 1 + 1, 0, none⟩) 3 3] 25)) .u8 (some ⟨w.heap.size + 1 + 1 + 1, 0, none⟩) [104, 101, 114] := (const_at [104, 101, 114] (3, 4) (by simp)).grown (grown_alloc (grown_refl _ _) _)
  have hA : Arrs (((((w.alloc (.cells #[.bool false, .slice (some ⟨w.heap.size + 1 + 1 + 1 + 1, 0, none⟩) 3 3] 24)).alloc (.cells #[.int .u8 104, .int .u8 101] 5 (2, 3))).alloc (.cells #[.int .u8 115, .int .u8 104, .int .u8 101] 5 (3, 4))).alloc (.cells #[.int .u8 104, .int .u8 101, .int .u8 114] 5 (3, 4))).alloc (.cells #[.slice (some ⟨w.heap.size + 1, 0, none⟩) 2 2, .slice (some ⟨w.heap.size + 1 + 1, 0, none⟩) 3 3, .slice (some ⟨w.heap.size + 1 + 1 + 1, 0, none⟩) 3 3] 25)) (some ⟨w.heap.size + 1 + 1 + 1 + 1, 0, none⟩) sheWords := Arrs.three (c := 2) (c2 := 3) (c3 := 3) (xs := [104, 101]) (ys := [115, 104, 101]) (zs := [104, 101, 114]) H1 a1 a2 a3
  have hG : w.grownBy (((((w.alloc (.cells #[.bool false, .slice (some ⟨w.heap.size + 1 + 1 + 1 + 1, 0, none⟩) 3 3] 24)).alloc (.cells #[.int .u8 104, .int .u8 101] 5 (2, 3))).alloc (.cells #[.int .u8 115, .int .u8 104, .int .u8 101] 5 (3, 4))).alloc (.cells #[.int .u8 104, .int .u8 101, .int .u8 114] 5 (3, 4))).alloc (.cells #[.slice (some ⟨w.heap.size + 1, 0, none⟩) 2 2, .slice (some ⟨w.heap.size + 1 + 1, 0, none⟩) 3 3, .slice (some ⟨w.heap.size + 1 + 1 + 1, 0, none⟩) 3 3] 25)) none := grown_alloc (grown_alloc (grown_alloc (grown_alloc (grown_alloc (grown_refl w none) _) _) _) _) _
  obtain ⟨W0, hW0⟩ : ∃ W0, (((((w.alloc (.cells #[.bool false, .slice (some ⟨w.heap.size + 1 + 1 + 1 + 1, 0, none⟩) 3 3] 24)).alloc (.cells #[.int .u8 104, .int .u8 101] 5 (2, 3))).alloc (.cells #[.int .u8 115, .int .u8 104, .int .u8 101] 5 (3, 4))).alloc (.cells #[.int .u8 104, .int .u8 101, .int .u8 114] 5 (3, 4))).alloc (.cells #[.slice (some ⟨w.heap.size + 1, 0, none⟩) 2 2, .slice (some ⟨w.heap.size + 1 + 1, 0, none⟩) 3 3, .slice (some ⟨w.heap.size + 1 + 1 + 1, 0, none⟩) 3 3] 25)) = W0 := ⟨_, rfl⟩
  rw [hW0] at H0 hA hG ⊢
  clear hW0 H1 a1 a2 a3 kc
  have c0 := H0.cell 0
  have c1 := H0.cell 1
  simp at c0 c1
  refine bodyPost_ret (v := .agg #[.bool false, .slice (some ⟨w.heap.size + 1 + 1 + 1 + 1, 0, none⟩) 3 3]) (by simp [results, Try.results22, go_sem, c0, c1]) rfl ⟨_, _, rfl, hA, hG⟩

/-- A convert of a constant text's bytes, wherever its block lies: its mark is set, its cells are as they were. -/
theorem run_convert_mark (w : World) (g n c : Nat) (C : Array Value) (fr : Nat × Nat) (hC : w.heap[g]? = some (.cells C 5 fr)) :
    (convert 25 25 (.slice (some ⟨g, 0, none⟩) n c)).run Try.prog w = .ok (.slice (some ⟨g, 0, none⟩) n c) (w.freeze ⟨g, C.size, none⟩ 1) := by
  have hsh : w.shape? g = some (5, C.size) := by unfold World.shape?; rw [hC]
  simp [convert, run_underlying Try.underlying25, run_underlying Try.underlying5, markStringish, hsh]

end Go.Proofs.Ytmahiodejhakpaa
