/- Package patset: a set in memory of its own. -/
import Derived.Test.YtojbfjlihenjaaaPMake
import Derived.Test.YtojbfjlihenjaaaQRows
import Derived.Laws.MakeOwn
import Derived.Test.YtojbfjlihenjaaaDrawRow
set_option linter.unusedSimpArgs false
set_option linter.unusedVariables false
set_option maxRecDepth 100000
namespace Go.Proofs.Ytojbfjlihenjaaa
open Go.RowKit PlainLetter PlainPatset Go.Shelf

def isMade (base : Nat) : Fact := fun v w => ∃ g c, v = .slice (some ⟨g, 0, none⟩) 0 c ∧ OwnRows w base v []
def isMadeSet (base : Nat) (f : Bool) : Fact := fun v w => ∃ g c, v = .agg #[.bool f, .slice (some ⟨g, 0, none⟩) 0 c] ∧ OwnRows w base (.slice (some ⟨g, 0, none⟩) 0 c) []
def isBox (base : Nat) : Fact := fun v w => ∃ g, v = .pointer (some ⟨g, 0, none⟩) ∧ base ≤ g ∧ Holds w g 24 #[.bool false, .slice none 0 0]
def isOwn1B (b base : Nat) (zs : List Int) : Fact := fun v w => ∃ g A c, v = .slice (some ⟨g, 0, none⟩) 1 1 ∧ b ≤ g ∧ Holds w g 25 #[slV (A, zs, c)] ∧ OwnBytes w base (A, zs, c)
def isRowsMore (base : Nat) (l : List Sl) (zs : List Int) : Fact := fun v w => ∃ g c A d, v = .slice (some ⟨g, 0, none⟩) (l.length + 1) c ∧ OwnRows w base v (l ++ [(A, zs, d)])
theorem stable_isMade (base : Nat) : Stable (isMade base) := fun _ _ _ ⟨g, c, h1, h2⟩ hg => ⟨g, c, h1, h2.grown hg⟩
theorem stable_isMadeSet (base : Nat) (f : Bool) : Stable (isMadeSet base f) := fun _ _ _ ⟨g, c, h1, h2⟩ hg => ⟨g, c, h1, h2.grown hg⟩
theorem stable_isBox (base : Nat) : Stable (isBox base) := fun _ _ _ ⟨g, h1, h2, h3⟩ hg => ⟨g, h1, h2, h3.kept0 hg⟩
theorem stable_isOwn1B (b base : Nat) (zs : List Int) : Stable (isOwn1B b base zs) := fun _ _ _ ⟨g, A, c, h1, h2, h3, h4⟩ hg => ⟨g, A, c, h1, h2, h3.kept0 hg, h4.grown hg⟩
theorem stable_isRowsMore (base : Nat) (l : List Sl) (zs : List Int) : Stable (isRowsMore base l zs) := fun _ _ _ ⟨g, c, A, d, h1, h2⟩ hg => ⟨g, c, A, d, h1, h2.grown hg⟩

theorem own_bytes_set {w : World} {base gv n : Nat} {us : List Value} {cv m : Nat} {z : Sl} (hz : OwnBytes w base z) (hown : w.ownsRow base 25 1 (.slice (some ⟨gv, 0, none⟩) m cv) m us) (W : Value) : OwnBytes (w.setCell ⟨gv, n, none⟩ W) base z := by
  refine World.ownsRow.kept hz (grown_set (p := ⟨gv, n, none⟩) (grown_refl w _) (.inl rfl) W) ?_
  exact own_apart hown hz (by decide)

theorem grown_row_new {w wr w' : World} {gv : Nat} (h : w.grownBy wr none) (h' : wr.drew.grownBy w' (some gv)) (hg : w.heap.size ≤ gv) : w.grownBy w' none :=
  ⟨h'.os.trans h.os, h'.tape.trans h.tape, h'.output.trans h.output, Nat.le_trans h.size h'.size, fun k hk _ => (h'.block k (Nat.lt_of_lt_of_le hk h.size) (fun e => by injection e with e; omega)).trans (h.block k hk (by simp))⟩
theorem grown_then {w w1 w' : World} {row : Option Nat} (h : w.grownBy w1 row) (h' : w1.grownBy w' none) : w.grownBy w' row :=
  ⟨h'.os.trans h.os, h'.tape.trans h.tape, h'.output.trans h.output, Nat.le_trans h.size h'.size, fun k hk hne => (h'.block k (Nat.lt_of_lt_of_le hk h.size) (by simp)).trans (h.block k hk hne)⟩

set_option maxHeartbeats 8000000 in
theorem patOwn_is (f : Bool) (P : Option Addr) (c : Nat) (xss : List (List Int)) (w : World) (hn : xss.length ≤ 1000) (hl : xss.flatten.length ≤ 10000) (hP : Arrs w P xss) :
    Calls Try.prog 25 #[.agg #[.bool f, .slice P xss.length c]] w fun e w' => ∃ v, e = .returned v ∧ SetOwn w.heap.size f xss v w' ∧ w.grownBy w' none := by
  have hgl : Hid (∀ i, (xss.getD i []).length ≤ 100000) := hid (fun i => by
    by_cases hk : i < xss.length
    · have h1 := flatten_take_succ xss i hk
      have h2 := flatten_take_le xss (i + 1)
      rw [h1, List.length_append] at h2
      omega
    · simp [List.getD, List.getElem?_eq_none (Nat.le_of_not_lt hk)])
  obtain ⟨i3, hi3, hy0, hy1, hy2⟩ := info_parts Try.rowInfo
  replace hP := hid hP
  go_enter Try.func25, Try.ntmps25
  go_upto_region 1 with fail
  have hH1 : Holds ((w.alloc (.cells #[.bool f, .slice P xss.length c] 24)).alloc (.cells #[.bool false, .slice none 0 0] 24)) w.heap.size 24 #[.bool f, .slice P xss.length c] := (Holds.new _ _ _).alloc _
  have hH2 : Holds ((w.alloc (.cells #[.bool f, .slice P xss.length c] 24)).alloc (.cells #[.bool false, .slice none 0 0] 24)) (w.heap.size + 1) 24 #[.bool false, .slice none 0 0] := Holds.new_at _ _ (by simp)
  have hG0 : Hid (w.grownBy ((w.alloc (.cells #[.bool f, .slice P xss.length c] 24)).alloc (.cells #[.bool false, .slice none 0 0] 24)) none) := grown_alloc (grown_alloc (grown_refl w none) _) _
  have hsz0 : ((w.alloc (.cells #[.bool f, .slice P xss.length c] 24)).alloc (.cells #[.bool false, .slice none 0 0] 24)).heap.size = w.heap.size + 2 := by simp
  obtain ⟨W0, hW0⟩ : ∃ W0, (w.alloc (.cells #[.bool f, .slice P xss.length c] 24)).alloc (.cells #[.bool false, .slice none 0 0] 24) = W0 := ⟨_, rfl⟩
  rw [hW0] at hH1 hH2 hG0 hsz0 ⊢
  clear hW0
  obtain ⟨h, hh⟩ : ∃ h, w.heap.size = h := ⟨_, rfl⟩
  rw [hh] at hH1 hH2 hsz0 ⊢
  replace hh := hid hh
  have d0 := hid ((hH1.cell 0).trans (show _ = some (Value.bool f) from rfl))
  have d1 := hid ((hH1.cell 1).trans (show _ = some (Value.slice P xss.length c) from rfl))
  have dl := hid hH1.lt
  replace hH1 := hid hH1
  replace hH2 := hid hH2
  replace hsz0 := hid hsz0
  apply head_plain 8 [isv _, isv (.bool f), isv _, isv (.slice P xss.length c), isv (.int .i64 xss.length), isMade h, isMadeSet h f, isBox (h + 2)]
    29 [some 6, some 7, some 8, some 9, some 10, some 11, some 12, some 3]
    [some 6, some 7, some 8, some 9, some 10, some 11, some 12, some 3]
    [[], [0], [], [2], [3], [4], [1, 5], []]
    [(1, .pointer (some ⟨h, 0, none⟩))] (by kernel_rfl) rfl (by kernel_rfl) (by kernel_rfl) rfl rfl (by kernel_rfl) (OutsOk.cons rfl rfl OutsOk.nil) ?st ?ob ?fin
  case ob =>
    refine Obs.consv rfl ?o0 (Obs.consv rfl ?o1 (Obs.consv rfl ?o2 (Obs.consv rfl ?o3 (Obs.consv rfl ?o4 (Obs.consv rfl ?o5 (Obs.consv rfl ?o6 (Obs.consv rfl ?o7 Obs.nil)))))))
    case o0 =>
      go_light
      intro ac w' hgw
      have c0w := ((gcell hgw).1 h 0 dl.out).trans d0.out
      have c1w := ((gcell hgw).1 h 1 dl.out).trans d1.out
      have hszw := hid (Nat.le_trans (show h ≤ W0.heap.size from by have := hsz0.out; omega) hgw.size)
      have hsz2 := hid (Nat.le_trans (show h + 2 ≤ W0.heap.size from by have := hsz0.out; omega) hgw.size)
      replace hgw := hid hgw
      simp only [outThen, preThen, slotIs, factAt, isv, List.getElem?_cons_zero, List.getElem?_cons_succ, Option.getD_some, forall_eq]
      intros
      rename_i hK
      replace hK := hid hK
      simp only [wantedAt]
      go_simp
      exact hK.out _ _ rfl (grown_refl _ _)
    case o1 =>
      go_light
      intro ac w' hgw
      have c0w := ((gcell hgw).1 h 0 dl.out).trans d0.out
      have c1w := ((gcell hgw).1 h 1 dl.out).trans d1.out
      have hszw := hid (Nat.le_trans (show h ≤ W0.heap.size from by have := hsz0.out; omega) hgw.size)
      have hsz2 := hid (Nat.le_trans (show h + 2 ≤ W0.heap.size from by have := hsz0.out; omega) hgw.size)
      replace hgw := hid hgw
      simp only [outThen, preThen, slotIs, factAt, isv, List.getElem?_cons_zero, List.getElem?_cons_succ, Option.getD_some, forall_eq]
      intros
      rename_i hK
      replace hK := hid hK
      simp only [wantedAt]
      go_simp
      exact hK.out _ _ rfl (grown_refl _ _)
    case o2 =>
      go_light
      intro ac w' hgw
      have c0w := ((gcell hgw).1 h 0 dl.out).trans d0.out
      have c1w := ((gcell hgw).1 h 1 dl.out).trans d1.out
      have hszw := hid (Nat.le_trans (show h ≤ W0.heap.size from by have := hsz0.out; omega) hgw.size)
      have hsz2 := hid (Nat.le_trans (show h + 2 ≤ W0.heap.size from by have := hsz0.out; omega) hgw.size)
      replace hgw := hid hgw
      simp only [outThen, preThen, slotIs, factAt, isv, List.getElem?_cons_zero, List.getElem?_cons_succ, Option.getD_some, forall_eq]
      intros
      rename_i hK
      replace hK := hid hK
      simp only [wantedAt]
      go_simp
      exact hK.out _ _ rfl (grown_refl _ _)
    case o3 =>
      go_light
      intro ac w' hgw
      have c0w := ((gcell hgw).1 h 0 dl.out).trans d0.out
      have c1w := ((gcell hgw).1 h 1 dl.out).trans d1.out
      have hszw := hid (Nat.le_trans (show h ≤ W0.heap.size from by have := hsz0.out; omega) hgw.size)
      have hsz2 := hid (Nat.le_trans (show h + 2 ≤ W0.heap.size from by have := hsz0.out; omega) hgw.size)
      replace hgw := hid hgw
      simp only [outThen, preThen, slotIs, factAt, isv, List.getElem?_cons_zero, List.getElem?_cons_succ, Option.getD_some, forall_eq]
      intros
      rename_i hK
      replace hK := hid hK
      simp only [wantedAt]
      go_simp
      exact hK.out _ _ rfl (grown_refl _ _)
    case o4 =>
      go_light
      intro ac w' hgw
      have c0w := ((gcell hgw).1 h 0 dl.out).trans d0.out
      have c1w := ((gcell hgw).1 h 1 dl.out).trans d1.out
      have hszw := hid (Nat.le_trans (show h ≤ W0.heap.size from by have := hsz0.out; omega) hgw.size)
      have hsz2 := hid (Nat.le_trans (show h + 2 ≤ W0.heap.size from by have := hsz0.out; omega) hgw.size)
      replace hgw := hid hgw
      simp only [outThen, preThen, slotIs, factAt, isv, List.getElem?_cons_zero, List.getElem?_cons_succ, Option.getD_some, forall_eq]
      intros
      rename_i hK
      replace hK := hid hK
      simp only [wantedAt]
      go_simp
      exact hK.out _ _ rfl (grown_refl _ _)
    case o5 =>
      go_light
      intro ac w' hgw
      have c0w := ((gcell hgw).1 h 0 dl.out).trans d0.out
      have c1w := ((gcell hgw).1 h 1 dl.out).trans d1.out
      have hszw := hid (Nat.le_trans (show h ≤ W0.heap.size from by have := hsz0.out; omega) hgw.size)
      have hsz2 := hid (Nat.le_trans (show h + 2 ≤ W0.heap.size from by have := hsz0.out; omega) hgw.size)
      replace hgw := hid hgw
      simp only [outThen, preThen, slotIs, factAt, isv, List.getElem?_cons_zero, List.getElem?_cons_succ, Option.getD_some, forall_eq]
      intros
      rename_i hK
      replace hK := hid hK
      simp only [wantedAt]
      obtain ⟨w5, hrun5, r1, r2⟩ := run_make_own (P := Try.prog) (w := w') h 22 25 i3 (.slice none 0 0) 1 Try.underlying22 hi3 hy0 hy1 .i64 .i64 xss.length (by rw [hy2]; omega) (by unfold maxLen; omega) hszw.out
      replace r1 := hid r1
      replace r2 := hid r2
      go_simp
      exact hK.out _ _ ⟨_, _, rfl, r1.out, fun x hx => by cases hx⟩ r2.out
    case o6 =>
      go_light
      intro ac w' hgw
      have c0w := ((gcell hgw).1 h 0 dl.out).trans d0.out
      have c1w := ((gcell hgw).1 h 1 dl.out).trans d1.out
      have hszw := hid (Nat.le_trans (show h ≤ W0.heap.size from by have := hsz0.out; omega) hgw.size)
      have hsz2 := hid (Nat.le_trans (show h + 2 ≤ W0.heap.size from by have := hsz0.out; omega) hgw.size)
      replace hgw := hid hgw
      simp only [outThen, preThen, slotIs, factAt, isv, List.getElem?_cons_zero, List.getElem?_cons_succ, Option.getD_some, forall_eq]
      intros
      rename_i v5 h5 hv5 K hK
      replace hK := hid hK
      obtain ⟨g5, c5, rfl, h5⟩ := h5
      replace h5 := hid h5
      simp only [wantedAt]
      go_simp
      exact hK.out _ _ ⟨_, _, rfl, h5.out⟩ (grown_refl _ _)
    case o7 =>
      go_light
      intro ac w' hgw
      have c0w := ((gcell hgw).1 h 0 dl.out).trans d0.out
      have c1w := ((gcell hgw).1 h 1 dl.out).trans d1.out
      have hszw := hid (Nat.le_trans (show h ≤ W0.heap.size from by have := hsz0.out; omega) hgw.size)
      have hsz2 := hid (Nat.le_trans (show h + 2 ≤ W0.heap.size from by have := hsz0.out; omega) hgw.size)
      replace hgw := hid hgw
      simp only [outThen, preThen, slotIs, factAt, isv, List.getElem?_cons_zero, List.getElem?_cons_succ, Option.getD_some, forall_eq]
      intros
      rename_i hK
      replace hK := hid hK
      simp only [wantedAt]
      go_simp
      exact hK.out _ _ ⟨_, rfl, hsz2.out, Holds.new _ _ _⟩ (grown_alloc (grown_refl _ _) _)
  case st =>
    repeat (first | exact AllStable.nil | (refine AllStable.cons ?_ ?_; focus (first | exact stable_isv _ | exact stable_isMade _ | exact stable_isMadeSet _ _ | exact stable_isBox _)))
  case fin =>
    intro w8 hgw
    simp only [finalIn, factAt, isv, List.getElem?_cons_zero, List.getElem?_cons_succ, Option.getD_some, forall_eq, slotIs, subj, List.take_succ_cons, List.take_zero]
    rintro v11 - v12 ⟨gv, cv, rfl, hrows⟩ v3 ⟨g, rfl, hhg, hbox⟩
    simp only [Act.put, List.setIfInBounds_toArray, List.set_cons_zero, List.set_cons_succ, List.drop_succ_cons, List.drop_zero]
    have hgx : W0.grownBy w8 none := grown_trans (grown_drew (grown_refl W0 none)) hgw
    have a0 := (hbox.cell 0).trans (show _ = some (Value.bool false) from rfl)
    have a1 := (hbox.cell 1).trans (show _ = some (Value.slice none 0 0) from rfl)
    have f0 := hbox.free 0
    have f1 := hbox.free 1
    have l0 := hbox.lt
    have K1 := hH1.out.kept0 hgx
    have K2 := hH2.out.kept0 hgx
    have hS := (hbox.set 0 (.bool f)).set 1 (.slice (some ⟨gv, 0, none⟩) 0 cv)
    have hSb : Holds ((w8.setCell ⟨g, 0, none⟩ (.bool f)).setCell ⟨g, 1, none⟩ (.slice (some ⟨gv, 0, none⟩) 0 cv)) g 24 #[.bool f, .slice (some ⟨gv, 0, none⟩) 0 cv] := hS
    have hgb : g ≠ h ∧ g ≠ h + 1 := by omega
    have L1 : Holds ((w8.setCell ⟨g, 0, none⟩ (.bool f)).setCell ⟨g, 1, none⟩ (.slice (some ⟨gv, 0, none⟩) 0 cv)) h 24 #[.bool f, .slice P xss.length c] := (K1.far (p := ⟨g, 0, none⟩) (fun e => hgb.1 e.symm) _).far (p := ⟨g, 1, none⟩) (fun e => hgb.1 e.symm) _
    have L2 : Holds ((w8.setCell ⟨g, 0, none⟩ (.bool f)).setCell ⟨g, 1, none⟩ (.slice (some ⟨gv, 0, none⟩) 0 cv)) (h + 1) 24 #[.bool false, .slice none 0 0] := (K2.far (p := ⟨g, 0, none⟩) (fun e => hgb.2 e.symm) _).far (p := ⟨g, 1, none⟩) (fun e => hgb.2 e.symm) _
    have LG := grown_set (p := ⟨g, 1, none⟩) (grown_set (p := ⟨g, 0, none⟩) (grown_trans hG0.out hgx) (.inr (by have := hh.out; simp; omega)) (.bool f)) (.inr (by have := hh.out; simp; omega)) (.slice (some ⟨gv, 0, none⟩) 0 cv)
    have LR := (hrows.far hbox (by decide) (by decide) 0 (.bool f)).far (hbox.set 0 (.bool f)) (by decide) (by decide) 1 (.slice (some ⟨gv, 0, none⟩) 0 cv)
    have x1 := (L1.cell 1).trans (show _ = some (Value.slice P xss.length c) from rfl)
    replace hSb := hid hSb
    replace L2 := hid L2
    replace LG := hid LG
    replace LR := hid LR
    replace hgb := hid hgb
    clear hS K1 K2 hgw hgx hbox hrows L1
    gi_wp2
    go_wp2_with fail
    go_loopw [16] (fun v wr => ∃ (l : List Sl) (gv cv : Nat), l.length ≤ xss.length ∧ v = .int .i64 (l.length : Nat) ∧ Hid (l.map (·.2.1) = xss.take l.length) ∧ OwnRows wr h (.slice (some ⟨gv, 0, none⟩) l.length cv) l ∧ Holds wr g 24 #[.bool f, .slice (some ⟨gv, 0, none⟩) l.length cv] ∧ Holds wr (h + 1) 24 #[.bool false, .slice none 0 0] ∧ w.grownBy wr none) (fun v _ => xss.length - (intOf v).toNat)
    case atStart => exact ⟨[], gv, cv, by simp, rfl, hid (by simp), LR.out, hSb.out, L2.out, LG.out⟩
    case round =>
      obtain ⟨l, gv, cv, hln, rfl, hlm, hrows, hbox, hres, hG⟩ := hrel
      clear LR hSb L2 LG x1 f0 f1 l0 a0 a1 d0 d1 dl hH1 hH2 hG0 hsz0
      by_cases hlt : l.length < xss.length
      · obtain ⟨b, off, Ai, ci, rfl, hb, hcell0, hAi⟩ := hP.out.at_ hlt
        have hcell := ((gcell hG).1 b (off + l.length) hb).trans hcell0
        have hbl : b < wr.heap.size := Nat.lt_of_lt_of_le hb hG.size
        have hAr := hid hAi
        have hnew := hid (take_getD xss l.length [] hlt)
        have hxl := hgl.out l.length
        generalize xss.getD l.length [] = x at hcell hAr hnew hxl
        obtain ⟨hgvb, cur0, hgv0⟩ : h ≤ gv ∧ ∃ cur, wr.heap[gv]? = some (.cells cur 25 (0, 0)) := by
          rcases hrows.1.2 with ⟨h0, _⟩ | ⟨b2, cap, cur, h0, hb2, hg2, _⟩
          · cases h0
          · injection h0 with e1
            injection e1 with e1
            injection e1 with e1
            subst e1
            exact ⟨hb2, cur, hg2⟩
        have hgvg : gv ≠ g := by
          rintro rfl
          unfold Holds at hbox
          rw [hgv0] at hbox
          injection hbox with e
          injection e with _ e
          exact absurd e (by decide)
        have hgvr : gv ≠ h + 1 := by
          rintro rfl
          unfold Holds at hres
          rw [hgv0] at hres
          injection hres with e
          injection e with _ e
          exact absurd e (by decide)
        have hgvl := (Array.getElem?_eq_some_iff.1 hgv0).1
        have hrr := hid hrows
        have hbb := hid hbox
        have hre := hid hres
        have hGG := hid hG
        have hszr := hid hG.size
        clear hcell0 hAi hrows hbox hres hgv0 hG
        have i0' : (0 : Int) ≤ (l.length : Int) := by omega
        have i1' : (l.length : Int) < (xss.length : Int) := by omega
        go_upto_region 5 with fail
        apply RowDraw.head_plain (row := some gv) (i0 := 5) (I := fun W => OwnRows W h (.slice (some ⟨gv, 0, none⟩) l.length cv) l) 7 [isv (.pointer (some ⟨g, 1, none⟩)), isv (.slice (some ⟨gv, 0, none⟩) l.length cv), isv (.slice Ai x.length ci), isOwn h x, isOwn1B wr.heap.size h x, isRowsMore h l x, isv (.pointer (some ⟨g, 1, none⟩))]
          29 [some 20, some 21, some 22, some 23, some 24, some 25, some 26]
          [some 20, some 21, some 22, some 23, some 24, some 25, some 26]
          [[], [0], [], [2], [3], [1, 4], []]
          [(3, .pointer (some ⟨g, 0, none⟩)), (5, .slice Ai x.length ci)] (by kernel_rfl) rfl (by kernel_rfl) (by kernel_rfl) rfl rfl (by kernel_rfl) (OutsOk.cons rfl rfl (OutsOk.cons rfl rfl OutsOk.nil)) ?st (fun _ _ hg hr => hr.grown hg) hrr.out ?ob ?fin
        case ob =>
          refine RowDraw.Obs.consv rfl ?o0 (RowDraw.Obs.consv rfl ?o1 (RowDraw.Obs.consv rfl ?o2 (RowDraw.Obs.consv rfl ?o3 (RowDraw.Obs.consv rfl ?o4 (RowDraw.Obs.consa ?o5 (RowDraw.Obs.consv rfl ?o6 RowDraw.Obs.nil))))))
          case o0 =>
            go_light
            intro ac w' hgw
            have hbw := hbb.out.drew.kept hgw (fun e => hgvg (by injection e))
            have cbw := (hbw.cell 1).trans (show _ = some (Value.slice (some ⟨gv, 0, none⟩) l.length cv) from rfl)
            have hGw := hid (grown_row_new hGG.out hgw (by have := hh.out; omega))
            have hszw := hid (Nat.le_trans (show wr.heap.size ≤ wr.drew.heap.size from Nat.le_refl _) hgw.size)
            clear hbw
            replace hgw := hid hgw
            simp only [outThen, preThen, slotIs, factAt, isv, List.getElem?_cons_zero, List.getElem?_cons_succ, Option.getD_some, forall_eq]
            intros
            rename_i hK
            replace hK := hid hK
            simp only [wantedAt]
            go_simp
            exact hK.out _ _ rfl (grown_refl _ _)
          case o1 =>
            go_light
            intro ac w' hgw
            have hbw := hbb.out.drew.kept hgw (fun e => hgvg (by injection e))
            have cbw := (hbw.cell 1).trans (show _ = some (Value.slice (some ⟨gv, 0, none⟩) l.length cv) from rfl)
            have hGw := hid (grown_row_new hGG.out hgw (by have := hh.out; omega))
            have hszw := hid (Nat.le_trans (show wr.heap.size ≤ wr.drew.heap.size from Nat.le_refl _) hgw.size)
            clear hbw
            replace hgw := hid hgw
            simp only [outThen, preThen, slotIs, factAt, isv, List.getElem?_cons_zero, List.getElem?_cons_succ, Option.getD_some, forall_eq]
            intros
            rename_i hK
            replace hK := hid hK
            simp only [wantedAt]
            go_simp
            exact hK.out _ _ rfl (grown_refl _ _)
          case o2 =>
            go_light
            intro ac w' hgw
            have hbw := hbb.out.drew.kept hgw (fun e => hgvg (by injection e))
            have cbw := (hbw.cell 1).trans (show _ = some (Value.slice (some ⟨gv, 0, none⟩) l.length cv) from rfl)
            have hGw := hid (grown_row_new hGG.out hgw (by have := hh.out; omega))
            have hszw := hid (Nat.le_trans (show wr.heap.size ≤ wr.drew.heap.size from Nat.le_refl _) hgw.size)
            clear hbw
            replace hgw := hid hgw
            simp only [outThen, preThen, slotIs, factAt, isv, List.getElem?_cons_zero, List.getElem?_cons_succ, Option.getD_some, forall_eq]
            intros
            rename_i hK
            replace hK := hid hK
            simp only [wantedAt]
            go_simp
            exact hK.out _ _ rfl (grown_refl _ _)
          case o3 =>
            go_light
            intro ac w' hgw
            have hbw := hbb.out.drew.kept hgw (fun e => hgvg (by injection e))
            have cbw := (hbw.cell 1).trans (show _ = some (Value.slice (some ⟨gv, 0, none⟩) l.length cv) from rfl)
            have hGw := hid (grown_row_new hGG.out hgw (by have := hh.out; omega))
            have hszw := hid (Nat.le_trans (show wr.heap.size ≤ wr.drew.heap.size from Nat.le_refl _) hgw.size)
            clear hbw
            replace hgw := hid hgw
            simp only [outThen, preThen, slotIs, factAt, isv, List.getElem?_cons_zero, List.getElem?_cons_succ, Option.getD_some, forall_eq]
            intros
            rename_i hK
            replace hK := hid hK
            simp only [wantedAt]
            go_simp
            refine (clone_is Ai ci x _ hxl (hAr.out.grown hGw.out)).mono ?_
            rintro e w9 ⟨v9, rfl, hrow, hB⟩
            obtain ⟨A9, c9, rfl, _, _⟩ := own_form hrow
            exact hK.out _ _ ⟨A9, c9, rfl, OwnBytes.mono (x := (A9, x, c9)) hrow (by have := hszw.out; have := hszr.out; have := hh.out; omega)⟩ (below_grown hB)
          case o4 =>
            go_light
            intro ac w' hgw
            have hbw := hbb.out.drew.kept hgw (fun e => hgvg (by injection e))
            have cbw := (hbw.cell 1).trans (show _ = some (Value.slice (some ⟨gv, 0, none⟩) l.length cv) from rfl)
            have hGw := hid (grown_row_new hGG.out hgw (by have := hh.out; omega))
            have hszw := hid (Nat.le_trans (show wr.heap.size ≤ wr.drew.heap.size from Nat.le_refl _) hgw.size)
            clear hbw
            replace hgw := hid hgw
            simp only [outThen, preThen, slotIs, factAt, isv, List.getElem?_cons_zero, List.getElem?_cons_succ, Option.getD_some, forall_eq]
            intros
            rename_i v3 h3 hv3 K hK
            replace hK := hid hK
            obtain ⟨A9, c9, rfl, h9⟩ := h3
            have h9' := hid h9
            clear h9
            simp only [wantedAt]
            go_simp
            exact hK.out _ _ ⟨_, A9, c9, rfl, hszw.out, Holds.new _ _ _, h9'.out.grown (grown_alloc (grown_refl _ _) _)⟩ (grown_alloc (grown_refl _ _) _)
          case o5 =>
            go_light
            intro ac w' hgw hI
            have hbw := hbb.out.drew.kept hgw (fun e => hgvg (by injection e))
            have cbw := (hbw.cell 1).trans (show _ = some (Value.slice (some ⟨gv, 0, none⟩) l.length cv) from rfl)
            have hGw := hid (grown_row_new hGG.out hgw (by have := hh.out; omega))
            have hszw := hid (Nat.le_trans (show wr.heap.size ≤ wr.drew.heap.size from Nat.le_refl _) hgw.size)
            clear hbw
            replace hgw := hid hgw
            simp only [outThen, preThen, slotIs, factAt, isv, List.getElem?_cons_zero, List.getElem?_cons_succ, Option.getD_some, forall_eq]
            intros
            rename_i hv1 v4 h4 hv4 K2 hK2
            obtain ⟨g4, A9, c9, rfl, hB4, hH4, ho4⟩ := h4
            replace hK2 := hid hK2
            have hrw := hI rfl
            obtain ⟨v9, w9, hrun, hown9, ⟨g9, c10, rfl, hc9⟩, hcase⟩ := run_rows_one (P := Try.prog) (i := i3) Try.underlying22 hi3 hy0 hy1 hy2 w' h gv l.length cv g4 22 (l.map slV) (slV (A9, x, c9)) hrw.1 hH4 rfl (by omega) (by have := hszw.out; have := hszr.out; have := hh.out; omega)
            simp only [wantedAt, if_true]
            refine wp_append_run _ _ 22 rfl _ _ _ (by simp [Act.eval, Array.getD_eq_getD_getElem?, hv1]) (by simp [Act.eval, Array.getD_eq_getD_getElem?, hv4]) hrun ?_
            have hkb : ∀ z, OwnBytes w' h z → OwnBytes w9 h z := by
              intro z hz
              rcases hcase with ⟨_, rfl⟩ | hgr
              · exact own_bytes_set hz hrw.1 _
              · exact hz.grown hgr
            have hgr9 : wr.drew.grownBy w9 (some gv) := by
              rcases hcase with ⟨_, rfl⟩ | hgr
              · exact grown_set (p := ⟨gv, l.length, none⟩) hgw.out (.inl rfl) _
              · exact grown_then hgw.out hgr
            have hfact : isRowsMore h l x (.slice (some ⟨g9, 0, none⟩) (l.length + 1) c10) w9 := ⟨g9, c10, A9, c9, rfl, by simpa using hown9, fun z hz => by
              rcases List.mem_append.1 hz with hz | hz
              · exact hkb _ (hrw.2 z hz)
              · obtain rfl : z = (A9, x, c9) := by simpa using hz
                exact hkb _ ho4⟩
            refine hK2.out _ _ _ rfl hfact hgr9 (fun hne => absurd rfl hne) (fun j v hj hf => ?_)
            rcases j with _ | _ | _ | _ | _ | _ | _ | j
            · simpa [factAt, isv] using hf
            · simpa [factAt, isv] using hf
            · simpa [factAt, isv] using hf
            · simp only [factAt, List.getElem?_cons_succ, List.getElem?_cons_zero, Option.getD_some] at hf ⊢
              obtain ⟨A, c, h1, h2⟩ := hf
              exact ⟨A, c, h1, hkb _ h2⟩
            · simp only [factAt, List.getElem?_cons_succ, List.getElem?_cons_zero, Option.getD_some] at hf ⊢
              obtain ⟨q, A, c, h1, h2, h3, h4⟩ := hf
              refine ⟨q, A, c, h1, h2, ?_, hkb _ h4⟩
              rcases hcase with ⟨_, rfl⟩ | hgr
              · exact h3.far (p := ⟨gv, l.length, none⟩) (by simp; omega) _
              · exact h3.kept0 hgr
            · exact absurd rfl hj
            · simpa [factAt, isv] using hf
            · simp [factAt]
          case o6 =>
            go_light
            intro ac w' hgw
            have hbw := hbb.out.drew.kept hgw (fun e => hgvg (by injection e))
            have cbw := (hbw.cell 1).trans (show _ = some (Value.slice (some ⟨gv, 0, none⟩) l.length cv) from rfl)
            have hGw := hid (grown_row_new hGG.out hgw (by have := hh.out; omega))
            have hszw := hid (Nat.le_trans (show wr.heap.size ≤ wr.drew.heap.size from Nat.le_refl _) hgw.size)
            clear hbw
            replace hgw := hid hgw
            simp only [outThen, preThen, slotIs, factAt, isv, List.getElem?_cons_zero, List.getElem?_cons_succ, Option.getD_some, forall_eq]
            intros
            rename_i hK
            replace hK := hid hK
            simp only [wantedAt]
            go_simp
            exact hK.out _ _ rfl (grown_refl _ _)
        case st =>
          repeat (first | exact AllStable.nil | (refine AllStable.cons ?_ ?_; focus (first | exact stable_isv _ | exact stable_isOwn _ _ | exact stable_isOwn1B _ _ _ | exact stable_isRowsMore _ _ _)))
        case fin =>
          intro w8 hgw
          simp only [finalIn, factAt, isv, List.getElem?_cons_zero, List.getElem?_cons_succ, Option.getD_some, forall_eq, slotIs, subj, List.take_succ_cons, List.take_zero]
          rintro v23 - v24 - v25 ⟨g5, c5, A5, d5, rfl, hrows8⟩
          simp only [Act.put, List.setIfInBounds_toArray, List.set_cons_zero, List.set_cons_succ, List.drop_succ_cons, List.drop_zero]
          have hbw := hbb.out.drew.kept hgw (fun e => hgvg (by injection e))
          have hrw := hre.out.drew.kept hgw (fun e => hgvr (by injection e))
          have hGw := grown_row_new hGG.out hgw (by have := hh.out; omega)
          have c1 := (hbw.cell 1).trans (show _ = some (Value.slice (some ⟨gv, 0, none⟩) l.length cv) from rfl)
          have f1 := hbw.free 1
          have l1 := hbw.lt
          have hb2 : Holds (w8.setCell ⟨g, 1, none⟩ (.slice (some ⟨g5, 0, none⟩) (l.length + 1) c5)) g 24 #[.bool f, .slice (some ⟨g5, 0, none⟩) (l.length + 1) c5] := hbw.set 1 _
          have hr2 : Holds (w8.setCell ⟨g, 1, none⟩ (.slice (some ⟨g5, 0, none⟩) (l.length + 1) c5)) (h + 1) 24 #[.bool false, .slice none 0 0] := hrw.far (p := ⟨g, 1, none⟩) (fun e => hgb.out.2 e.symm) _
          have hG2 := grown_set (p := ⟨g, 1, none⟩) hGw (.inr (by have := hh.out; simp; omega)) (.slice (some ⟨g5, 0, none⟩) (l.length + 1) c5)
          have ho2 := hrows8.far hbw (by decide) (by decide) 1 (.slice (some ⟨g5, 0, none⟩) (l.length + 1) c5)
          replace hb2 := hid hb2
          replace hr2 := hid hr2
          replace hG2 := hid hG2
          replace ho2 := hid ho2
          clear hbw hrw hGw hrows8 hgw
          gi_wp2
          go_wp2_with fail
          have hll : (l ++ [(A5, x, d5)]).length = l.length + 1 := by simp
          go_roundw
          case rel => exact ⟨l ++ [(A5, x, d5)], g5, c5, by rw [hll]; omega, by rw [hll]; go_num, hid (by rw [hll, hnew.out, List.map_append, hlm.out]; rfl), by rw [hll]; exact ho2.out, by rw [hll]; exact hb2.out, hr2.out, hG2.out⟩
          case measure => simp [intOf]; omega
      · obtain hlen : l.length = xss.length := by omega
        have e0 := (hres.cell 0).trans (show _ = some (Value.bool false) from rfl)
        have e1 := (hres.cell 1).trans (show _ = some (Value.slice none 0 0) from rfl)
        have f0 := hres.free 0
        have f1 := hres.free 1
        have l0 := hres.lt
        have b0 := (hbox.cell 0).trans (show _ = some (Value.bool f) from rfl)
        have b1 := (hbox.cell 1).trans (show _ = some (Value.slice (some ⟨gv, 0, none⟩) l.length cv) from rfl)
        have hS2 : Holds ((wr.setCell ⟨h + 1, 0, none⟩ (.bool f)).setCell ⟨h + 1, 1, none⟩ (.slice (some ⟨gv, 0, none⟩) l.length cv)) (h + 1) 24 #[.bool f, .slice (some ⟨gv, 0, none⟩) l.length cv] := (hres.set 0 (.bool f)).set 1 (.slice (some ⟨gv, 0, none⟩) l.length cv)
        have s0 := (hS2.cell 0).trans (show _ = some (Value.bool f) from rfl)
        have s1 := (hS2.cell 1).trans (show _ = some (Value.slice (some ⟨gv, 0, none⟩) l.length cv) from rfl)
        have hgs := hid (grown_set (p := ⟨h + 1, 1, none⟩) (grown_set (p := ⟨h + 1, 0, none⟩) hG (.inr (by have := hh.out; simp; omega)) (.bool f)) (.inr (by have := hh.out; simp; omega)) (.slice (some ⟨gv, 0, none⟩) l.length cv))
        have hown := hid ((hrows.far hres (by decide) (by decide) 0 (.bool f)).far (hres.set 0 (.bool f)) (by decide) (by decide) 1 (.slice (some ⟨gv, 0, none⟩) l.length cv))
        have hlx : Hid (l.map (·.2.1) = xss) := hid (by rw [hlm.out, hlen, List.take_length])
        have hnlt : ¬ (l.length : Int) < (xss.length : Int) := by omega
        replace hlen := hid hlen
        clear hres hbox hrows hG hS2
        go_wp2_with fail
        refine bodyPost_ret (v := .agg #[.bool f, .slice (some ⟨gv, 0, none⟩) l.length cv]) (by simp [results, Try.results25, go_sem, s0, s1]) rfl ⟨_, rfl, ⟨_, cv, l, rfl, hlx.out, by rw [hh.out]; exact hown.out⟩, hgs.out⟩
end Go.Proofs.Ytojbfjlihenjaaa
