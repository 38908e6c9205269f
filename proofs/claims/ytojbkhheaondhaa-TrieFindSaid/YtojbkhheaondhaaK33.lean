/- Package trie: the bytes by which words go on from a node, one by one. Package trie: a tree in the making, between two nodes; the marks of loops over functions that a function leaves with. Package trie: all nodes are added, one behind the other. -/
import Derived.Test.YtojbkhheaondhaaK32
import Derived.Test.YtojbkhheaondhaaK6
import Derived.Test.YtojbkhheaondhaaCollect
import Derived.TacticsInMore
import Derived.LoopIn
import Derived.Shelf.Abstract
set_option linter.unusedSimpArgs false
set_option linter.unusedVariables false
set_option maxRecDepth 100000
namespace Go.Proofs.Ytojbkhheaondhaa
open Go.RowKit PlainLetter

attribute [local go_sem] Oper.semAt_some

theorem branches_is (hT : Nat) (i : Int) (w : World) :
    Calls Try.prog 52 #[.pointer (some ⟨hT, 0, none⟩), .int .i64 i] w fun e w' =>
      e = .returned (.func (.func 65) #[] #[.pointer (some ⟨w.heap.size, 0, none⟩), .pointer (some ⟨w.heap.size + 1, 0, none⟩)]) ∧
      w' = (w.alloc (.cells #[.pointer (some ⟨hT, 0, none⟩)] 70)).alloc (.cells #[.int .i64 i] 3) := by
  have hmf : ∀ (fn : Fn) (first cap : Array Value) (w : World), (Instr.makeFunc fn first cap).run Try.prog w = .ok (.func fn first cap) w := fun _ _ _ _ => rfl
  go_enter Try.func52, Try.ntmps52
  go_wp2_with fail
  go_ret
  exact ⟨by simp, rfl⟩

set_option maxHeartbeats 4000000 in
theorem branches_in (l bg bn hT i : Nat) (L : Nat → List Int) (S : Nat → World → Prop) (W0 : World) (hL : ∀ c, (L c).length ≤ 64)
    (hS : ∀ c V, S c V → Holds V bg 70 #[.pointer (some ⟨hT, 0, none⟩)] ∧ Holds V bn 3 #[.int .i64 (i : Int)])
    (hSg : ∀ c V V', S c V → V.grownBy V' none → S c V')
    (hOn : ∀ c V, S c V → c < 256 → Calls Try.prog 66 #[.pointer (some ⟨hT, 0, none⟩), .int .i64 (i : Int), .int .u8 (c : Int)] V (OnTold (L c) V))
    (hSk : ∀ c V, S c V → L c = [] → c < 256 → S (c + 1) V)
    (hY : ∀ c V V' A n cp, S c V → V.grownBy V' none → L c ≠ [] → c < 256 → n = (L c).length → V'.ownsRow V.heap.size 3 1 (.slice A n cp) (L c).length ((L c).map (Value.int .i64)) →
      YieldAt Fence.wide 0 Try.prog l #[.int .u8 (c : Int), .slice A n cp] V' (fun e V'' => e = .returned (.bool true) ∧ S (c + 1) V''))
    (h0 : S 0 W0) :
    CallsIn Fence.wide 0 Try.prog 65 #[.func (.yield l) #[] #[], .pointer (some ⟨bg, 0, none⟩), .pointer (some ⟨bn, 0, none⟩)] W0 fun e V' => (∃ v, e = .returned v) ∧ S 256 V' := by
  replace hS := hid hS
  replace hSg := hid hSg
  replace hOn := hid hOn
  replace hSk := hid hSk
  replace hY := hid hY
  replace hL := hid hL
  replace h0 := hid h0
  refine callsIn_of_wp Try.func65 rfl trivial ?_ rfl
  simp only [Try.ntmps65, List.size_toArray, List.length_cons, List.length_nil, Nat.reduceAdd, Nat.reduceSub, Array.replicate_succ, Array.replicate_zero, List.push_toArray, List.append_toArray, List.nil_append, List.cons_append]
  gi_wp2_with fail
  gi_loopw [6] (fun i wr => ∃ c : Nat, c ≤ 256 ∧ i = .int .i64 c ∧ S c wr) (fun i _ => 256 - (intOf i).toNat)
  case atStart => exact ⟨0, by omega, rfl, h0.out⟩
  case round =>
    obtain ⟨c, hc, rfl, hSc⟩ := hrel
    by_cases hlt : c < 256
    · obtain ⟨x1, x2⟩ := hS.out _ _ hSc
      have cg := (x1.cell 0).trans (show _ = some (Value.pointer (some ⟨hT, 0, none⟩)) from rfl)
      have cn := (x2.cell 0).trans (show _ = some (Value.int .i64 (i : Int)) from rfl)
      have q0 : (0 : Int) ≤ (c : Int) := by omega
      have q1 : (c : Int) < 256 := by omega
      have hcv : IntKind.u8.wrap (c : Int) = (c : Int) := by simp [IntKind.wrap, IntKind.bits, IntKind.signed]; omega
      have hOc := hid (hOn.out c wr hSc hlt)
      have hLc := hid (hL.out c)
      replace hSc := hid hSc
      clear x1 x2
      gi_wp2_with fail
      refine ⟨trivial, rfl, ?_⟩
      refine (callsIn_wide.2 hOc.out).mono ?_
      rintro e w2 ⟨A, n, cp, rfl, hn, hown, hg⟩
      clear cg cn
      by_cases hLe : L c = []
      · have hn0 : n = 0 := by rw [hn, hLe]; rfl
        subst hn0
        have hS2 := hid (hSk.out c w2 (hSg.out _ _ _ hSc.out hg) hLe hlt)
        clear hn hown hg
        replace hLe := hid hLe
        gi_wp2_with fail
        refine ⟨fun _ _ => trivial, ?_⟩
        gi_wp2_with fail
        go_roundw
        case rel => exact ⟨c + 1, by omega, by go_num, hS2.out⟩
        case measure => simp [intOf]; omega
      · have hn1 : 0 < n := by rw [hn]; exact List.length_pos_iff.2 hLe
        have hn2 : n ≤ 64 := by rw [hn]; exact hLc.out
        obtain ⟨fn, tmps, assign, body, hyy, hR⟩ := hY.out c wr w2 A n cp hSc.out hg hLe hlt hn hown
        clear hn hown hg
        replace hLe := hid hLe
        gi_wp2_with fail
        refine ⟨rfl, hR.mono ?_⟩
        rintro e W2 ⟨rfl, hx⟩
        replace hx := hid hx
        gi_wp2_with fail
        go_roundw
        case rel => exact ⟨c + 1, by omega, by go_num, hx.out⟩
        case measure => simp [intOf]; omega
    · obtain rfl : c = 256 := by omega
      replace hSc := hid hSc
      gi_wp2_with fail
      go_end0
      exact ⟨⟨_, rfl⟩, hSc.out⟩

end Go.Proofs.Ytojbkhheaondhaa

namespace Go.Proofs.Ytojbkhheaondhaa
open Go.RowKit PlainLetter PlainTrie

/-! ## Marks -/
def markOf (r : Nat) : Deferred := { target := .collected r, args := #[] }
/-- A function without results leaves, its marks taken up one by one. -/
theorem marks_leave {fn : Func} {T : Array Value} {R : Ending → World → Prop} (I : World → Prop) (B : Nat → Prop) (hres : ∀ V, (results fn T).run Try.prog V = .ok (.tuple #[]) V)
    (hI : ∀ V, I V → R (.returned (.tuple #[])) V) (hp : ∀ V r, B r → I V → V.heap[r]? = some (.deferred (some [])) → I (V.putObj r (.deferred none))) :
    ∀ (marks : List Nat) (V : World), marks.Nodup → (∀ r ∈ marks, B r) → (∀ r ∈ marks, V.heap[r]? = some (.deferred (some []))) → I V →
      LeavesInM Fence.wide 0 Try.prog fn T R (marks.map markOf) .returning V
  | [], V, _, _, _, h => ⟨_, hres V, hI V h⟩
  | r :: marks, V, hn, hb, hm, h => by
    obtain ⟨h1, h2⟩ := List.nodup_cons.1 hn
    have hr := hm r (by simp)
    refine ⟨by simp, .inl ⟨r, _, rfl, run_takeDeferred hr, ?_⟩⟩
    refine marks_leave I B hres hI hp marks _ h2 (fun q hq => hb q (by simp [hq])) (fun q hq => ?_) (hp V r (hb r (by simp)) h hr)
    exact (World.putObj_heap_other (fun e => h1 (by rw [← e]; exact hq))).trans (hm q (by simp [hq]))

/-! ## A variable of one number as a row of the call's own -/
def cellOf (q : Nat) (i : Int) : Sl := (some ⟨q, 0, none⟩, [i], 1)
theorem cell_own {W : World} {q base : Nat} {i : Int} (h : Holds W q 3 #[.int .i64 i]) (hb : base ≤ q) : OwnI W base (cellOf q i) :=
  ⟨rfl, .inr ⟨q, 1, #[.int .i64 i], rfl, hb, h, Nat.le_refl _, by unfold maxLen; omega, rfl, rfl⟩⟩
theorem cell_holds {W : World} {q base : Nat} {i : Int} (h : OwnI W base (cellOf q i)) : Holds W q 3 #[.int .i64 i] := by
  rcases h.2 with ⟨hv, h0⟩ | ⟨g, cap, cur, hv, _, hg, hnc, hm, hs, ht⟩
  · simp [cellOf, slV] at hv
  · have e1 : q = g ∧ cap = 1 := by
      simp [cellOf, slV] at hv
      omega
    obtain ⟨rfl, rfl⟩ := e1
    have hsz : cur.size = 1 := by omega
    have hc : cur = #[.int .i64 i] := by
      apply Array.ext'
      have : cur.toList.take 1 = [.int .i64 i] := by simpa [cellOf] using ht
      have h2 : cur.toList.take 1 = cur.toList := List.take_of_length_le (by simp [hsz])
      rw [h2] at this
      rw [this]
    rw [hc] at hg
    exact hg

section
variable {w4 W W' : World} {hT nu nd nv nb nn : Nat} {U D V B Un : Option Addr} {cu cd cv cb cn : Nat} {X : Value} {us ds vs bs : List Int} {uss es : List Sl}
theorem G6.els (s : G6 w4 hT nu nd nv nb nn U D V B Un cu cd cv cb cn X us ds vs bs uss es W) {es' : List Sl} (h : ∀ x ∈ es', x ∈ es) : G6 w4 hT nu nd nv nb nn U D V B Un cu cd cv cb cn X us ds vs bs uss es' W :=
  { s with el := fun x hx => s.el x (h x hx) }
/-- A row in new memory lies apart. -/
theorem G6.more (s : G6 w4 hT nu nd nv nb nn U D V B Un cu cd cv cb cn X us ds vs bs uss es W) (hg : W.grownBy W' none) {x : Sl} (hx : W'.ownsRow W.heap.size 3 1 (slV x) x.2.1.length (x.2.1.map (Value.int .i64))) : G6 w4 hT nu nd nv nb nn U D V B Un cu cd cv cb cn X us ds vs bs uss (x :: es) W' := by
  have s' := s.grown hg
  have far : ∀ {base n : Nat} {v : Value} {xs : List Value}, W.ownsRow base 3 1 v n xs → Apart v (slV x) := fun h g h1 h2 => by
    have a1 := (h.lt g h1).2
    have a2 := (hx.lt g h2).1
    omega
  have hel : ∀ y ∈ x :: es, OwnI W' (hT + 1) y ∧ Apart (.slice U nu cu) (slV y) ∧ Apart (.slice D nd cd) (slV y) ∧ Apart (.slice V nv cv) (slV y) := fun y hy => by
    rcases List.mem_cons.1 hy with rfl | hy
    · exact ⟨own_mono hx (by have := s.le; omega), far s.u, far s.d, far s.v⟩
    · exact s'.el y hy
  exact { s' with el := hel }
end

/-- A tree in the making that has its first m nodes; xs: numbers in other variables. -/
structure GS (w4 : World) (hT h : Nat) (X : Value) (ws : List (List Int)) (xs : List Sl) (marks : List Nat) (m : Nat) (W : World) : Prop where
  G : ∃ (nu nd nv nb nn : Nat) (U D V B Un : Option Addr) (cu cd cv cb cn : Nat) (ul : List Sl), G6 w4 hT nu nd nv nb nn U D V B Un cu cd cv cb cn X ((make ws).up.take m) ((make ws).depth.take m) ((make ws).word.take m) ((make ws).byte.take m) ul (xs ++ ul) W ∧
    ul.map (·.2.1) = ((nodes ws).take m).map (nums ws)
  hb : Holds W h 70 #[.pointer (some ⟨hT, 0, none⟩)]
  mks : ∀ r ∈ marks, W.heap[r]? = some (.deferred (some []))

section
variable {w4 W W' : World} {hT h m cP : Nat} {P : Option Addr} {X : Value} {ws : List (List Int)} {xs : List Sl} {marks : List Nat}
theorem GS.grown (s : GS w4 hT h X ws xs marks m W) (hg : W.grownBy W' none) : GS w4 hT h X ws xs marks m W' := by
  obtain ⟨nu, nd, nv, nb, nn, U, D, V, B, Un, cu, cd, cv, cb, cn, ul, G, hu⟩ := s.G
  refine ⟨⟨nu, nd, nv, nb, nn, U, D, V, B, Un, cu, cd, cv, cb, cn, ul, G.grown hg, hu⟩, s.hb.kept0 hg, fun r hr => ?_⟩
  have := s.mks r hr
  exact (hg.block r (Array.getElem?_eq_some_iff.1 this).1 (by simp)).trans this
theorem GS.gr (s : GS w4 hT h X ws xs marks m W) : w4.grownBy W none := by
  obtain ⟨nu, nd, nv, nb, nn, U, D, V, B, Un, cu, cd, cv, cb, cn, ul, G, hu⟩ := s.G
  exact G.gr
theorem GS.le (s : GS w4 hT h X ws xs marks m W) : hT + 1 ≤ W.heap.size := by
  obtain ⟨nu, nd, nv, nb, nn, U, D, V, B, Un, cu, cd, cv, cb, cn, ul, G, hu⟩ := s.G
  exact G.le
theorem GS.ne (s : GS w4 hT h X ws xs marks m W) {l : Nat} {o : Obj} (hl : W.heap[l]? = some o) (hm : o.isCells = false) : hT ≠ l ∧ h ≠ l := by
  obtain ⟨nu, nd, nv, nb, nn, U, D, V, B, Un, cu, cd, cv, cb, cn, ul, G, hu⟩ := s.G
  constructor
  · rintro rfl
    have := G.T
    unfold Holds at this
    rw [hl] at this
    injection this with this
    subst this
    simp [Obj.isCells] at hm
  · rintro rfl
    have := s.hb
    unfold Holds at this
    rw [hl] at this
    injection this with this
    subst this
    simp [Obj.isCells] at hm
/-- A record turns. -/
theorem GS.put (s : GS w4 hT h X ws xs marks m W) {l : Nat} {o o' : Obj} (hl : W.heap[l]? = some o) (hm : o.isCells = false) (hw : w4.heap.size ≤ l) (hr : l ∉ marks) : GS w4 hT h X ws xs marks m (W.putObj l o') := by
  obtain ⟨n1, n2⟩ := s.ne hl hm
  obtain ⟨nu, nd, nv, nb, nn, U, D, V, B, Un, cu, cd, cv, cb, cn, ul, G, hu⟩ := s.G
  exact ⟨⟨nu, nd, nv, nb, nn, U, D, V, B, Un, cu, cd, cv, cb, cn, ul, G.put hl hm hw n1, hu⟩, s.hb.put n2 _, fun r hr' => (World.putObj_heap_other (fun e => hr (by rw [← e]; exact hr'))).trans (s.mks r hr')⟩
theorem GS.less (s : GS w4 hT h X ws xs marks m W) {xs' : List Sl} {marks' : List Nat} (hx : ∀ x ∈ xs', x ∈ xs) (hr : ∀ r ∈ marks', r ∈ marks) : GS w4 hT h X ws xs' marks' m W := by
  obtain ⟨nu, nd, nv, nb, nn, U, D, V, B, Un, cu, cd, cv, cb, cn, ul, G, hu⟩ := s.G
  refine ⟨⟨nu, nd, nv, nb, nn, U, D, V, B, Un, cu, cd, cv, cb, cn, ul, G.els (fun x hx' => ?_), hu⟩, s.hb, fun r hr' => s.mks r (hr r hr')⟩
  rcases List.mem_append.1 hx' with h1 | h1
  · exact List.mem_append.2 (.inl (hx x h1))
  · exact List.mem_append.2 (.inr h1)
theorem GS.more (s : GS w4 hT h X ws xs marks m W) (hg : W.grownBy W' none) {x : Sl} (hx : W'.ownsRow W.heap.size 3 1 (slV x) x.2.1.length (x.2.1.map (Value.int .i64))) : GS w4 hT h X ws (x :: xs) marks m W' := by
  have s' := s.grown hg
  obtain ⟨nu, nd, nv, nb, nn, U, D, V, B, Un, cu, cd, cv, cb, cn, ul, G, hu⟩ := s.G
  exact ⟨⟨nu, nd, nv, nb, nn, U, D, V, B, Un, cu, cd, cv, cb, cn, ul, G.more hg hx, hu⟩, s'.hb, s'.mks⟩
theorem GS.mark (s : GS w4 hT h X ws xs marks m W) {r : Nat} (hr : W.heap[r]? = some (.deferred (some []))) : GS w4 hT h X ws xs (r :: marks) m W :=
  ⟨s.G, s.hb, fun q hq => by
    rcases List.mem_cons.1 hq with rfl | hq
    · exact hr
    · exact s.mks q hq⟩
theorem GS.cell (s : GS w4 hT h X ws xs marks m W) {q : Nat} {i : Int} (hq : cellOf q i ∈ xs) : Holds W q 3 #[.int .i64 i] := by
  obtain ⟨nu, nd, nv, nb, nn, U, D, V, B, Un, cu, cd, cv, cb, cn, ul, G, hu⟩ := s.G
  exact cell_holds (G.el _ (List.mem_append.2 (.inl hq))).1
/-- What the walk reads: the rows' lengths, a node's depth. -/
theorem GS.reads (s : GS w4 hT h X ws xs marks m W) (hm : m ≤ (nodes ws).length) : ∃ (U D V B Un : Option Addr) (cu cd cv cb cn : Nat), Holds W hT 55 #[.slice U m cu, .slice D m cd, .slice V m cv, .slice B m cb, X, .slice Un m cn] ∧
    ∀ i (hi : i < m), ∃ b, D = some ⟨b, 0, none⟩ ∧ W.cell? ⟨b, i, none⟩ = some (.int .i64 ((nodes ws)[i]'(by omega)).length) := by
  obtain ⟨nu, nd, nv, nb, nn, U, D, V, B, Un, cu, cd, cv, cb, cn, ul, G, hu⟩ := s.G
  obtain ⟨l1, l2, l3, l4⟩ := make_length ws
  have e1 : nu = m := by rw [← G.lu, List.length_take]; omega
  have e2 : nd = m := by rw [← G.ld, List.length_take]; omega
  have e3 : nv = m := by rw [← G.lv, List.length_take]; omega
  have e4 : nb = m := by rw [← G.lb, List.length_take]; omega
  have e5 : nn = m := by
    have := congrArg List.length hu
    simp at this
    rw [← G.ln]; omega
  subst e1 e2 e3 e4 e5
  refine ⟨U, D, V, B, Un, cu, cd, cv, cb, cn, G.T, fun i hi => ?_⟩
  obtain ⟨g, hg, _, k⟩ := own_cell G.d (i := i) (by rw [G.ld]; exact hi)
  refine ⟨g, hg, ?_⟩
  rw [k]
  congr 2
  rw [List.getElem_take]
  simp [make]
/-- Which words go on. -/
theorem GS.on (s : GS w4 hT h (.slice P ws.length cP) ws xs marks m W) (hm : m ≤ (nodes ws).length) (hP : Arrs w4 P ws) (hw : ws.length ≤ 64) (hN : (nodes ws).length ≤ 400) (h32 : ∀ b ∈ nodes ws, b.length ≤ 32) {i : Nat} (hi : i < m) (c : Int) :
    Calls Try.prog 66 #[.pointer (some ⟨hT, 0, none⟩), .int .i64 (i : Int), .int .u8 c] W (OnTold (nums ws ((nodes ws)[i]'(by omega) ++ [c])) W) := by
  obtain ⟨nu, nd, nv, nb, nn, U, D, V, B, Un, cu, cd, cv, cb, cn, ul, G, hu⟩ := s.G
  obtain ⟨l1, l2, l3, l4⟩ := make_length ws
  have e2 : nd = m := by rw [← G.ld, List.length_take]; omega
  have hul : ul.length = m := by
    have := congrArg List.length hu
    simp at this
    omega
  have hiu : i < ul.length := by omega
  have hel : ul[i].2.1 = nums ws ((nodes ws)[i]'(by omega)) := by
    have : (ul.map (·.2.1))[i]'(by simpa using hiu) = (((nodes ws).take m).map (nums ws))[i]'(by simp; omega) := by simp only [hu]
    simpa using this
  have hd : ((make ws).depth.take m).getD i 0 = (((nodes ws)[i]'(by omega)).length : Int) := by
    simp [make, List.getD, List.getElem?_take, hi, show i < (nodes ws).length by omega]
  have := on_is w4 hT nu nd nv nb nn U D V B Un cu cd cv cb cn P cP ws _ _ _ _ ul (xs ++ ul) W i ((nodes ws)[i]'(by omega)).length c G (fun x hx => List.mem_append.2 (.inr hx)) hP hw (by omega) (by omega) hiu hd (by have := h32 _ (List.getElem_mem (show i < (nodes ws).length by omega)); omega)
    (by rw [hel]; exact Nat.le_trans (nums_len _ _) hw) (fun z hz => by
      rw [hel] at hz
      obtain ⟨j, a, b, _⟩ := mem_nums.1 hz
      exact ⟨j, a, b⟩)
  rw [hel, on_nums] at this
  exact this
/-- A node more. -/
theorem GS.add (s : GS w4 hT h (.slice P ws.length cP) ws xs marks m W) (hs : w4.heap.size ≤ hT) (hne : h ≠ hT) (hm : m < (nodes ws).length) (hP : Arrs w4 P ws) (hw : ws.length ≤ 64) (hN : (nodes ws).length ≤ 400) (h32 : ∀ b ∈ nodes ws, b.length ≤ 32) (hnd : ws.Nodup)
    {up c : Int} {dep : Nat} {y : Sl} (hy : y ∈ xs) (e1 : (make ws).up.getD m 0 = up) (e2 : (nodes ws)[m].length = dep) (e3 : (make ws).byte.getD m 0 = c) (e4 : y.2.1 = nums ws (nodes ws)[m]) :
    Calls Try.prog 51 #[.pointer (some ⟨hT, 0, none⟩), .int .i64 up, .int .u8 c, .int .i64 (dep : Int), slV y] W (fun e W' => (∃ v, e = .returned v) ∧ GS w4 hT h (.slice P ws.length cP) ws xs marks (m + 1) W' ∧ Turned hT W W') := by
  have s0 := s
  obtain ⟨nu, nd, nv, nb, nn, U, D, V, B, Un, cu, cd, cv, cb, cn, ul, G, hu⟩ := s.G
  obtain ⟨l1, l2, l3, l4⟩ := make_length ws
  have f1 : nu = m := by rw [← G.lu, List.length_take]; omega
  have f2 : nd = m := by rw [← G.ld, List.length_take]; omega
  have f3 : nv = m := by rw [← G.lv, List.length_take]; omega
  have f4 : nb = m := by rw [← G.lb, List.length_take]; omega
  have hul : ul.length = m := by
    have := congrArg List.length hu
    simp at this
    omega
  have f5 : nn = m := by rw [← G.ln]; exact hul
  have h3 := h32 _ (List.getElem_mem hm)
  refine (add_is w4 hT nu nd nv nb nn U D V B Un cu cd cv cb cn P cP ws _ _ _ _ ul (xs ++ ul) W up c dep y hs G (List.mem_append.2 (.inl hy)) hP hw (by omega) (by rw [e4]; exact Nat.le_trans (nums_len _ _) hw) (fun z hz => by
    rw [e4] at hz
    obtain ⟨j, a, b, _⟩ := mem_nums.1 hz
    exact ⟨j, a, b⟩) (by omega)).mono ?_
  rintro e W' ⟨hv, ⟨nu', nd', nv', nb', nn', U', D', V', B', Un', cu', cd', cv', cb', cn', G'⟩, ht⟩
  have hm4 := made_at ws hm
  have g1 : (make ws).up.take m ++ [up] = (make ws).up.take (m + 1) := by rw [take_getD _ m 0 (by omega), e1]
  have g2 : (make ws).depth.take m ++ [(dep : Int)] = (make ws).depth.take (m + 1) := by rw [take_getD _ m 0 (by omega), hm4.2.1, e2]
  have g3 : (make ws).word.take m ++ [lastTo ws dep y.2.1 y.2.1.length] = (make ws).word.take (m + 1) := by
    rw [take_getD _ m 0 (by omega), hm4.2.2.1, e4, ← e2, last_nums hnd]
  have g4 : (make ws).byte.take m ++ [c] = (make ws).byte.take (m + 1) := by rw [take_getD _ m 0 (by omega), e3]
  rw [g1, g2, g3, g4] at G'
  refine ⟨hv, ⟨⟨nu', nd', nv', nb', nn', U', D', V', B', Un', cu', cd', cv', cb', cn', ul ++ [y], G'.els (fun x hx => ?_), ?_⟩, ht.holds s0.hb hne (by decide), fun r hr => ?_⟩, ht⟩
  · rcases List.mem_append.1 hx with h1 | h1
    · exact List.mem_append.2 (.inl h1)
    · rcases List.mem_append.1 h1 with h2 | h2
      · exact List.mem_append.2 (.inr h2)
      · obtain rfl : x = y := by simpa using h2
        exact List.mem_append.2 (.inl hy)
  · rw [List.map_append, hu, take_getD _ m [] hm, List.map_append]
    congr 1
    simp [e4, List.getD, hm]
  · have := s0.mks r hr
    refine ht r _ (fun e => ?_) this (fun cs t mm e => by cases e)
    exact (s0.ne this rfl).1 e.symm
end

end Go.Proofs.Ytojbkhheaondhaa

namespace Go.Proofs.Ytojbkhheaondhaa
open Go.RowKit PlainLetter

open PlainTrie Go.Shelf
attribute [local go_sem] Oper.semAt_some

theorem wpListIn_push {F : Fence} {m0 : Nat} {P : Program} {ops : Array Oper} {rest : List Oper} {o : Oper} {a : Act} {Q : Exit → Act → World → Prop} (hgd : o.guard = none) (s x : Operand) (t : TypeId) (ho : o.op = .call { callee := .builtin .append, args := #[s, x], argTypes := #[t, t] })
    (base : Nat) (e : TypeId) (i : TypeInfo) (k : IntKind) (bytes : Nat) (ht : P.underlying t = some (.slice e)) (hi : P.info? e = some i) (hz : i.zero = some (.int k 0)) (hsize : i.size = 1) (hby : i.bytes = bytes)
    (v : Value) (xs : List Int) (y : Int) (w : World) (hown : w.ownsRow base e 1 v xs.length (xs.map (Value.int k))) (hs : a.eval s = v)
    (hx : a.eval x = .slice (some ⟨w.heap.size, 0, none⟩) 1 1) (hb8 : bytes ≤ 8) (hlen : xs.length ≤ 1099511627776) (hbase : base ≤ w.heap.size)
    (h : ∀ v' w', w'.ownsRow base e 1 v' (xs ++ [y]).length ((xs ++ [y]).map (Value.int k)) → Below base w w' → wpListIn F m0 P ops Q rest (a.put o.dst v') w') :
    wpListIn F m0 P ops Q (o :: rest) a (w.alloc (.cells #[.int k y] e)) := by
  refine wpListIn_append_own (w.alloc (.cells #[.int k y] e)) hgd s x t ho base e i (.int k 0) 1 bytes ht hi hz hsize hby rfl (by decide) v xs.length (xs.map (Value.int k)) hs (hown.alloc _) ⟨w.heap.size, 0, none⟩ 1 1 [.int k y] hx rfl
    (cell_one_new _ _ _) (by simp [Value.oneCell']) (by unfold maxLen; omega) ?_ (by simp; omega) ?_
  · have : (xs.length + 1) * bytes ≤ (xs.length + 1) * 8 := Nat.mul_le_mul_left _ hb8
    omega
  · intro v' w' h1 h2 _
    refine h v' w' (by simpa using h1) ?_
    have hlt := hown.lt
    exact ((Below.refl base w).alloc hbase _).trans (below_of_grown h2 (by simp; omega) (fun j hj => (hlt j hj).1))

/-- The number that a variable holds. -/
def numIn (v : Value) (w : World) : Nat := match v with
  | .pointer (some p) => match w.cell? p with
    | some (.int _ i) => i.toNat
    | _ => 0
  | _ => 0
theorem numIn_is {w : World} {q : Nat} {i : Nat} (h : w.cell? ⟨q, 0, none⟩ = some (.int .i64 (i : Int))) : numIn (.pointer (some ⟨q, 0, none⟩)) w = i := by
  unfold numIn
  simp [h]

/-- Between two nodes. -/
def GRel (w4 : World) (hT h : Nat) (X : Value) (ws : List (List Int)) (q : Nat) (dfs : List Deferred) (W : World) : Prop := ∃ (i m : Nat) (marks : List Nat), i ≤ m ∧ Upto ws m i 0 ∧ GS w4 hT h X ws [cellOf q (i : Int)] marks m W ∧ marks.Nodup ∧ (∀ r ∈ marks, w4.heap.size ≤ r) ∧ dfs = marks.map markOf

/-- Between two bytes of a node. -/
def BS (w4 : World) (hT h : Nat) (X : Value) (ws : List (List Int)) (i q s : Nat) (marks : List Nat) (rc : LoopState → Option Code → Loop) (c : Nat) (V : World) : Prop := ∃ m, i < m ∧ Upto ws m i (c : Int) ∧ GS w4 hT h X ws [cellOf (s + 1) (i : Int), cellOf q (i : Int)] ((s + 2) :: marks) m V ∧
  Holds V s 70 #[.pointer (some ⟨hT, 0, none⟩)] ∧ V.heap[s + 3]? = some (.loop (rc .ready none))

set_option maxHeartbeats 8000000 in
theorem grow_is (w4 : World) (hT : Nat) (P : Option Addr) (cP : Nat) (ws : List (List Int)) (w : World) (hs : w4.heap.size ≤ hT) (hgr : w4.grownBy w none)
    (hH : Holds w hT 55 #[.slice none 0 0, .slice none 0 0, .slice none 0 0, .slice none 0 0, .slice P ws.length cP, .slice none 0 0])
    (hP : Arrs w4 P ws) (hw : ws.length ≤ 64) (hN : (nodes ws).length ≤ 400) (h32 : ∀ b ∈ nodes ws, b.length ≤ 32) (hnd : ws.Nodup)
    (hby : ∀ j, 0 ≤ (make ws).byte.getD j 0 ∧ (make ws).byte.getD j 0 ≤ 255) :
    Calls Try.prog 28 #[.pointer (some ⟨hT, 0, none⟩)] w fun e w' => (∃ v, e = .returned v) ∧ ∃ (h : Nat) (xs : List Sl) (marks : List Nat), GS w4 hT h (.slice P ws.length cP) ws xs marks (nodes ws).length w' := by
  obtain ⟨i0, hi0, hz0, hz1, hz2⟩ := info_parts Try.gintInfo
  obtain ⟨h, hh⟩ : ∃ h, w.heap.size = h := ⟨_, rfl⟩
  have hTlt : hT < h := by rw [← hh]; exact hH.lt
  obtain ⟨Wa, hWa⟩ : ∃ Wa, w.alloc (.cells #[.pointer (some ⟨hT, 0, none⟩)] 70) = Wa := ⟨_, rfl⟩
  have hga : Hid (w.grownBy Wa none) := hid (by rw [← hWa]; exact grown_alloc (grown_refl w none) _)
  have hHa : Hid (Holds Wa hT 55 #[.slice none 0 0, .slice none 0 0, .slice none 0 0, .slice none 0 0, .slice P ws.length cP, .slice none 0 0]) := hid (hH.kept0 hga.out)
  have hBa : Hid (Holds Wa h 70 #[.pointer (some ⟨hT, 0, none⟩)]) := hid (by rw [← hWa]; exact Holds.new_at _ _ hh)
  have hsa : Hid (Wa.heap.size = h + 1) := hid (by rw [← hWa]; simp [hh])
  have b0 := (hBa.out.cell 0).trans (show _ = some (Value.pointer (some ⟨hT, 0, none⟩)) from rfl)
  have b4 := (hHa.out.cell 4).trans (show _ = some (Value.slice P ws.length cP) from rfl)
  refine (callsIn_wide (n := 0)).1 ?_
  refine callsIn_of_wp_marks Try.func28 rfl trivial ?_ rfl
  simp only [Try.ntmps28, List.size_toArray, List.length_cons, List.length_nil, Nat.reduceAdd, Nat.reduceSub, Array.replicate_succ, Array.replicate_zero, List.push_toArray, List.append_toArray, List.nil_append, List.cons_append]
  have hht := hid hh
  replace hWa := hid hWa
  have hrg := hid (nums_all ws)
  obtain ⟨L, hL⟩ : ∃ L, ws.length = L := ⟨_, rfl⟩
  have hL64 : L ≤ 64 := by omega
  rw [hL] at b4 hrg
  replace hL := hid hL
  have hN0 := hid (root_at ws)
  replace hN := hid hN
  replace h32 := hid h32
  replace hnd := hid hnd
  replace hby := hid hby
  replace hP := hid hP
  replace hw := hid hw
  replace hgr := hid hgr
  replace hs := hid hs
  replace hH := hid hH
  have hWa2 := hWa.out
  gi_wp2_with fail
  clear b0 b4
  gi_loopw [2, 12] (fun v i wr => ∃ (k : Nat) (A : Option Addr) (n c : Nat), k ≤ L ∧ i = .int .i64 k ∧ v = .slice A n c ∧ n = k ∧ wr.ownsRow Wa.heap.size 3 1 (.slice A n c) ((List.range k).map fun j : Nat => (j : Int)).length (((List.range k).map fun j : Nat => (j : Int)).map (Value.int .i64)) ∧ Wa.grownBy wr none) (fun _ i _ => L - (intOf i).toNat)
  case atStart => exact ⟨0, none, 0, 0, Nat.zero_le _, rfl, rfl, rfl, World.ownsRow_nil _ _ _ _, by first | exact grown_refl _ _ | (rw [hWa2]; exact grown_refl _ _)⟩
  case round =>
    obtain ⟨k, A, n, c, hk, rfl, rfl, hn, hown, hG⟩ := hrel
    replace hn := hid hn
    by_cases hlt : k < L
    · have q0 : (0 : Int) ≤ (k : Int) := by omega
      have q1 : (k : Int) < (L : Int) := by omega
      have hs2 : Hid ((List.range (k + 1)).map (fun j : Nat => (j : Int)) = (List.range k).map (fun j : Nat => (j : Int)) ++ [(k : Int)]) := hid (by rw [List.range_succ, List.map_append]; rfl)
      have hlk : Hid (((List.range k).map fun j : Nat => (j : Int)).length = k) := hid (by simp)
      replace hown := hid hown
      replace hG := hid hG
      generalize (List.range k).map (fun j : Nat => (j : Int)) = lk at hown hs2 hlk
      clear hWa2
      gi_wp2_with (gi_at_builtin; refine wpListIn_push rfl _ _ 27 rfl Wa.heap.size 3 i0 .i64 8 Try.underlying27 hi0 hz0 hz1 hz2 _ lk (k : Int) wr hown.out rfl rfl (by decide) (by have := hlk.out; omega) hG.out.size ?_; intro v5 w5 h1 hB; obtain ⟨A5, c5, rfl, x1, x2⟩ := own_form h1; have g5 := hid (below_grown ((grown_below hG.out).trans hB)); have h5 := hid h1; clear h1 hB; replace x1 := hid x1; replace x2 := hid x2)
      go_roundw
      case rel => exact ⟨k + 1, A5, _, c5, by omega, by go_num, rfl, by first | (rw [List.length_append, hlk.out]; done) | (have := hlk.out; omega), by
        have h6 := h5.out
        rw [hs2.out]
        simp only [List.length_append, List.length_singleton] at h6 ⊢
        exact h6, g5.out⟩
      case measure => simp [intOf]; omega
    · have hke : k = L := by omega
      have hlt' : ¬ ((k : Int) < (L : Int)) := by omega
      rw [hke] at hown
      have hkl : Hid (n = L) := hid (by rw [hn.out, hke])
      replace hke := hid hke
      have hBw := hid (hBa.out.kept0 hG)
      have b0 := (hBw.out.cell 0).trans (show _ = some (Value.pointer (some ⟨hT, 0, none⟩)) from rfl)
      have hS0 : Hid (GS w4 hT h (.slice P ws.length cP) ws [(A, (List.range L).map (fun j : Nat => (j : Int)), c)] [] 0 wr) := hid {
        G := ⟨0, 0, 0, 0, 0, none, none, none, none, none, 0, 0, 0, 0, 0, [], {
          gr := grown_trans hgr.out (grown_trans hga.out hG)
          le := by have h1 := hG.size; have h2 := hsa.out; omega
          T := hHa.out.kept0 hG
          lu := rfl, ld := rfl, lv := rfl, lb := rfl, ln := rfl
          u := World.ownsRow_nil _ _ _ _, d := World.ownsRow_nil _ _ _ _, v := World.ownsRow_nil _ _ _ _, b := World.ownsRow_nil _ _ _ _, n := World.ownsRow_nil _ _ _ _
          ud := Apart.nil_left _, uv := Apart.nil_left _, dv := Apart.nil_left _
          el := fun x hx => by
            obtain rfl : x = (A, (List.range L).map (fun j : Nat => (j : Int)), c) := by simpa using hx
            refine ⟨?_, Apart.nil_left _, Apart.nil_left _, Apart.nil_left _⟩
            have h1 := own_mono hown (base' := hT + 1) (by have h2 := hsa.out; omega)
            unfold OwnI slV
            simp only
            rw [show ((List.range L).map (fun j : Nat => (j : Int))).length = n by rw [hkl.out]; simp] at h1 ⊢
            exact h1 }, rfl⟩
        hb := hBw.out
        mks := fun r hr => by cases hr }
      have hsv : Hid (slV (A, (List.range L).map (fun j : Nat => (j : Int)), c) = .slice A n c) := hid (by unfold slV; simp only; rw [hkl.out]; simp)
      obtain ⟨h0, hroot⟩ := hN0.out
      have hm0 := made_at ws h0
      have hadd := hS0.out.add (up := 0) (c := 0) (dep := 0) (y := (A, (List.range L).map (fun j : Nat => (j : Int)), c)) hs.out (by omega) h0 hP.out hw.out hN.out h32.out hnd.out (by simp)
        (by rw [hm0.1, hroot]; have := place_at (rises_nodup (nodes_rises ws)) 0 h0; rw [hroot] at this; simpa using this) (by rw [hroot]; rfl) (by rw [hm0.2.2.2, hroot]; rfl) (by rw [hroot, hrg.out])
      rw [hsv.out, show ((0 : Nat) : Int) = 0 from rfl] at hadd
      replace hadd := hid hadd
      clear hown hWa2 hG hm0
      gi_wp2_with fail
      refine ⟨trivial, rfl, ?_⟩
      refine (callsIn_wide.2 hadd.out).mono ?_
      rintro e w2 ⟨⟨v, rfl⟩, s1, _⟩
      replace s1 := hid s1
      clear b0 hadd hS0 hsv hBw
      gi_wp2_with fail
      have hst : GRel w4 hT h (.slice P ws.length cP) ws w2.heap.size [] (w2.alloc (.cells #[.int .i64 0] 3)) := by
        refine ⟨0, 1, [], by omega, Upto.start (fun j => (hby.out j).1), ?_, List.nodup_nil, (fun r hr => by cases hr), rfl⟩
        have hx : Holds (w2.alloc (.cells #[.int .i64 0] 3)) w2.heap.size 3 #[.int .i64 0] := Holds.new w2 3 #[.int .i64 0]
        exact (s1.out.less (xs' := []) (fun x hx => by cases hx) (fun r hr => hr)).more (grown_alloc (grown_refl w2 none) _) (cell_own hx (Nat.le_refl _))
      generalize w2.alloc (.cells #[.int .i64 0] 3) = W3 at hst ⊢
      generalize w2.heap.size = q0 at hst ⊢
      refine wpIn_loop (fun a' w' => ∃ (u0 u2 u3 u5 u6 u7 u8 u9 u10 u11 u12 u13 u14 u15 u16 u17 u18 u19 u20 u21 u22 u23 u24 u25 u26 u27 u28 u29 u30 u31 u32 u33 u34 u35 u36 u37 u38 u39 u40 u41 u42 u43 u44 u45 u46 u47 u48 u49 u50 u51 u52 : Value) (q : Nat) (dfs : List Deferred), GRel w4 hT h (.slice P ws.length cP) ws q dfs w' ∧ a' = { tmps := (u0 :: .pointer (some ⟨h, 0, none⟩) :: u2 :: u3 :: .pointer (some ⟨q, 0, none⟩) :: u5 :: u6 :: u7 :: u8 :: u9 :: u10 :: u11 :: u12 :: u13 :: u14 :: u15 :: u16 :: u17 :: u18 :: u19 :: u20 :: u21 :: u22 :: u23 :: u24 :: u25 :: u26 :: u27 :: u28 :: u29 :: u30 :: u31 :: u32 :: u33 :: u34 :: u35 :: u36 :: u37 :: u38 :: u39 :: u40 :: u41 :: u42 :: u43 :: u44 :: u45 :: u46 :: u47 :: u48 :: u49 :: u50 :: u51 :: u52 :: []).toArray, defers := dfs }) (fun a' w' => 500 - numIn (a'.tmps.getD 4 undef) w') ?start ?round
      case start => exact ⟨_, _, _, _, _, _, _, _, _, _, _, _, _, _, _, _, _, _, _, _, _, _, _, _, _, _, _, _, _, _, _, _, _, _, _, _, _, _, _, _, _, _, _, _, _, _, _, _, _, _, _, q0, [], hst, rfl⟩
      case round =>
        clear hst
        rintro a wr ⟨u0, u2, u3, u5, u6, u7, u8, u9, u10, u11, u12, u13, u14, u15, u16, u17, u18, u19, u20, u21, u22, u23, u24, u25, u26, u27, u28, u29, u30, u31, u32, u33, u34, u35, u36, u37, u38, u39, u40, u41, u42, u43, u44, u45, u46, u47, u48, u49, u50, u51, u52, q, dfs, ⟨i, m, marks, him, hU, hG, hmn, hmb, rfl⟩, rfl⟩
        have hGh := hid hG
        have hmN := hU.le
        have hq := (hG.cell (q := q) (i := (i : Int)) (by simp)).cell 0
        have hq0 := hq.trans (show _ = some (Value.int .i64 (i : Int)) from rfl)
        have hnum := hid (numIn_is hq0)
        obtain ⟨RU, RD, RV, RB, Rn, ru, rd, rv, rb, rn, hTT, hdep⟩ := hG.reads hmN
        have c0 := (hTT.cell 0).trans (show _ = some (Value.slice RU m ru) from rfl)
        have b0 := (hG.hb.cell 0).trans (show _ = some (Value.pointer (some ⟨hT, 0, none⟩)) from rfl)
        have hUh := hid hU
        have hmnh := hid hmn
        have hmbh := hid hmb
        have hm4 : m ≤ 400 := by have := hN.out; omega
        have hdeph := hid hdep
        have hTTh := hid hTT
        clear hq hG hTT hdep hU hmn hmb
        by_cases him2 : i < m
        · have q1 : (i : Int) < (m : Int) := by omega
          gi_wp2_with fail
          refine tail_plain 7 (by kernel_rfl) (by kernel_rfl) rfl ?_
          simp only [List.take_succ_cons, List.take_zero, List.drop_succ_cons, List.drop_zero]
          repeat still_step
          refine wpStill_nil ?_
          have d0 : wr.drew.cell? ⟨q, 0, none⟩ = some (.int .i64 (i : Int)) := hq0
          have e0 : wr.drew.cell? ⟨h, 0, none⟩ = some (.pointer (some ⟨hT, 0, none⟩)) := b0
          have hG1 := hid (hGh.out.grown (grown_drew (grown_refl wr none)))
          have hmeas : Hid (500 - numIn (.pointer (some ⟨q, 0, none⟩)) wr = 500 - i) := hid (by rw [hnum.out])
          obtain ⟨W1, hW1⟩ : ∃ W1, wr.drew = W1 := ⟨_, rfl⟩
          rw [hW1] at d0 e0 hG1
          replace hW1 := hid hW1
          clear hq0 c0 b0
          try rw [hW1.out]
          gi_wp2_with fail
          refine ⟨trivial, rfl, ?_⟩
          refine (callsIn_wide.2 (branches_is hT (i : Int) _)).mono ?_
          rintro e w5 ⟨rfl, rfl⟩
          obtain ⟨s, hs1⟩ : ∃ s, W1.heap.size = s := ⟨_, rfl⟩
          have hsh := hid hs1
          gi_wp2
          refine range_wide (gf := 65) rfl (enters_of Try.func65 (by kernel_rfl) rfl) (fun fn rc hrc => ?_)
          replace hrc := hid hrc
          simp only [World.size_alloc, hsh.out, Nat.add_assoc, Nat.reduceAdd] at hrc ⊢
          clear hs1
          obtain ⟨W2, hW2⟩ : ∃ W2, (((W1.alloc (.cells #[.pointer (some ⟨hT, 0, none⟩)] 70)).alloc (.cells #[.int .i64 (i : Int)] 3)).alloc (Obj.deferred (some []))).alloc (Obj.loop (rc .ready none)) = W2 := ⟨_, rfl⟩
          rw [hW2]
          have hmlt : Hid (∀ r ∈ marks, r < s) := hid (fun r hr => by have := hG1.out.mks r hr; have h2 := (Array.getElem?_eq_some_iff.1 this).1; have h3 := hsh.out; omega)
          have hq_s : q < s := by have h2 := (hG1.out.cell (q := q) (i := (i : Int)) (by simp)).lt; have h3 := hsh.out; omega
          have hh_s : h < s := by have h2 := hG1.out.hb.lt; have h3 := hsh.out; omega
          have hN2 : BS w4 hT h (.slice P ws.length cP) ws i q s marks rc 0 W2 := by
            subst hW2
            have g1 := grown_alloc (grown_refl W1 none) (.cells #[.pointer (some ⟨hT, 0, none⟩)] 70)
            have S1 := hG1.out.grown g1
            have hx : Holds ((W1.alloc (.cells #[.pointer (some ⟨hT, 0, none⟩)] 70)).alloc (.cells #[.int .i64 (i : Int)] 3)) (s + 1) 3 #[.int .i64 (i : Int)] := Holds.new_at _ _ (by simp [hsh.out])
            have S2 := S1.more (grown_alloc (grown_refl _ none) (.cells #[.int .i64 (i : Int)] 3)) (x := cellOf (s + 1) (i : Int)) (cell_own hx (by simp [hsh.out]))
            have S3 := S2.grown (grown_alloc (grown_refl _ none) (Obj.deferred (some [])))
            have S4 := (S3.mark (r := s + 2) (alloc_at _ (by simp [hsh.out]))).grown (grown_alloc (grown_refl _ none) (Obj.loop (rc .ready none)))
            exact ⟨m, him2, hUh.out, S4, ((((Holds.new_at _ _ hsh.out).alloc _).alloc _).alloc _), alloc_at _ (by simp [hsh.out])⟩
          clear hW2
          have hiN : i < (nodes ws).length := by omega
          have hi : Hid (i < (nodes ws).length) := hid hiN
          refine CallsIn.mono (branches_in (s + 3) s (s + 1) hT i (fun c => nums ws ((nodes ws)[i]'hiN ++ [(c : Int)])) (BS w4 hT h (.slice P ws.length cP) ws i q s marks rc) W2 (fun c => Nat.le_trans (nums_len _ _) hw.out)
            (fun c V ⟨m', _, _, S, hb, _⟩ => ⟨hb, S.cell (by simp)⟩)
            (fun c V V' ⟨m', a1, a2, S, hb, hr⟩ hg => ⟨m', a1, a2, S.grown hg, hb.kept0 hg, (hg.block _ (Array.getElem?_eq_some_iff.1 hr).1 (by simp)).trans hr⟩)
            (fun c V ⟨m', a1, a2, S, hb, hr⟩ hc => S.on a2.le hP.out hw.out hN.out h32.out a1 (c : Int))
            (fun c V ⟨m', a1, a2, S, hb, hr⟩ hL0 hc => ⟨m', a1, by
              have h5 := a2.skip hi.out (fun hm => (nums_some (by simp)).2 hm hL0)
              simpa using h5, S, hb, hr⟩) ?goes hN2) ?behind
          case goes =>
            rintro c V V' A n cp ⟨m', a1, hU', S0, hb0, hr0⟩ hg hLne hc hn hown
            have hin : (nodes ws)[i]'hiN ++ [(c : Int)] ∈ nodes ws := (nums_some (by simp)).1 hLne
            obtain ⟨hm', e1, e2, e3, hU2⟩ := hU'.put hi.out hin
            have S1 := S0.more hg (x := (A, nums ws ((nodes ws)[i]'hiN ++ [(c : Int)]), cp)) (by
              have : slV (A, nums ws ((nodes ws)[i]'hiN ++ [(c : Int)]), cp) = .slice A n cp := by unfold slV; simp only; rw [hn]
              rw [this]; exact hown)
            have hr1 : V'.heap[s + 3]? = some (.loop (rc .ready none)) := (hg.block _ (Array.getElem?_eq_some_iff.1 hr0).1 (by simp)).trans hr0
            have hb1 := hb0.kept0 hg
            have hw4s : w4.heap.size ≤ s + 3 := by have := hs.out; omega
            have hs3 : s + 3 ∉ (s + 2) :: marks := fun hm => by
              rcases List.mem_cons.1 hm with h5 | h5
              · omega
              · have := hmlt.out _ h5; omega
            have hsv : Hid (slV (A, nums ws ((nodes ws)[i]'hiN ++ [(c : Int)]), cp) = .slice A n cp) := hid (by unfold slV; simp only; rw [hn])
            have Hr := hid hr1
            replace hn := hid hn
            replace e1 := hid e1
            replace e2 := hid e2
            replace e3 := hid e3
            refine round_wide hrc.out hr1 rfl fun K hK => ?_
            replace hK := hid hK
            gi_wp2
            refine hK.out _ ?_
            clear hK
            clear K
            have S2 := S1.put (o' := .loop (rc .busy none)) hr1 rfl hw4s hs3
            have hb2 := hb1.put (l := s + 3) (by omega) (.loop (rc .busy none))
            have hr2 : (V'.putObj (s + 3) (.loop (rc .busy none))).heap[s + 3]? = some (.loop (rc .busy none)) := World.putObj_heap_same (Array.getElem?_eq_some_iff.1 hr1).1
            obtain ⟨Vb, hVb⟩ : ∃ Vb, V'.putObj (s + 3) (.loop (rc .busy none)) = Vb := ⟨_, rfl⟩
            rw [hVb] at S2 hb2 hr2 ⊢
            have k0 := (S2.hb.cell 0).trans (show _ = some (Value.pointer (some ⟨hT, 0, none⟩)) from rfl)
            have kq := ((S2.cell (q := q) (i := (i : Int)) (by simp)).cell 0).trans (show _ = some (Value.int .i64 (i : Int)) from rfl)
            obtain ⟨RU', RD', RV', RB', Rn', ru', rd', rv', rb', rn', hTT', hdep'⟩ := S2.reads hU'.le
            obtain ⟨gd, hgd, kd⟩ := hdep' i a1
            have k1 := (hTT'.cell 1).trans (show _ = some (Value.slice RD' m' rd') from rfl)
            rw [hgd] at k1
            have hlenm : Hid ((nodes ws)[m'].length = (nodes ws)[i].length + 1) := hid (by rw [e1.out, List.length_append]; rfl)
            have hdl := h32.out _ (List.getElem_mem hiN)
            have hadd := (S2.grown (grown_drew (grown_refl Vb none))).add (up := (i : Int)) (c := (c : Int)) (dep := (nodes ws)[i].length + 1) (y := (A, nums ws ((nodes ws)[i]'hiN ++ [(c : Int)]), cp)) hs.out (by omega) hm' hP.out hw.out hN.out h32.out hnd.out (by simp) e2.out hlenm.out e3.out (by rw [e1.out])
            rw [hsv.out, Int.natCast_add] at hadd
            have hm5 : m' ≤ 400 := by have := hN.out; omega
            replace hadd := hid hadd
            generalize (nodes ws)[i].length = dl at kd hadd hdl
            have q2 : (i : Int) < (m' : Int) := by omega
            have q3 : (0 : Int) ≤ (i : Int) := by omega
            have hwd : IntKind.i64.wrap ((dl : Int) + 1) = (dl : Int) + 1 := IntWalk.i64_in _ (by omega)
            have Hb2 := hid hb2
            have Hr2 := hid hr2
            clear S0 S1 S2 hb0 hb1 hb2 hr0 hr1 hr2 hTT' hdep' hown hg hVb hLne hin hn hlenm e1 e2 e3 hsv Hr hdl
            replace hU' := hid hU'
            replace hU2 := hid hU2
            replace hs3 := hid hs3
            gi_wp2_with fail
            refine tail_round 13 (by kernel_rfl) (by kernel_rfl) rfl ?_
            simp only [List.take_succ_cons, List.take_zero, List.drop_succ_cons, List.drop_zero]
            repeat still_step
            refine wpStill_nil ?_
            clear k0 kq k1 kd hwd
            gi_wp2_with fail
            refine ⟨trivial, rfl, ?_⟩
            refine (wideAt_calls (r := some (s + 3)) hadd.out).mono ?_
            rintro e V3 ⟨⟨v, rfl⟩, S3, ht3⟩
            have hr3 : V3.heap[s + 3]? = some (.loop (rc .busy none)) := ht3 _ _ (by omega) (show Vb.drew.heap[s + 3]? = _ from Hr2.out) (fun cs t mm e => by cases e)
            have hb3 := ht3.holds (show Holds Vb.drew s _ _ from Hb2.out) (by omega) (by decide)
            have hend : Hid (BS w4 hT h (.slice P ws.length cP) ws i q s marks rc (c + 1) (V3.putObj (s + 3) (.loop (rc .ready none)))) := hid ⟨m' + 1, by omega, by simpa using hU2.out, (S3.put hr3 rfl hw4s hs3.out).less (fun x hx => by simp only [List.mem_cons] at hx ⊢; exact .inr hx) (fun r hr => hr), hb3.put (by omega) _, World.putObj_heap_same (Array.getElem?_eq_some_iff.1 hr3).1⟩
            replace hr3 := hid hr3
            clear S3 ht3 hb3
            gi_wp2_with fail
            exact ⟨hr3.out, by first | exact hend.out | exact ⟨rfl, hend.out⟩⟩
          case behind =>
            rintro e V2 ⟨hv, m', a1, hU', S0, hb0, hr0⟩
            refine ⟨hv, .inl ⟨hr0, fun o => ?_⟩⟩
            have hs3 : s + 3 ∉ (s + 2) :: marks := fun hm => by
              rcases List.mem_cons.1 hm with h5 | h5
              · omega
              · have := hmlt.out _ h5; omega
            have S1 := S0.put (o' := o) hr0 rfl (by have := hs.out; omega) hs3
            obtain ⟨V3, hV3⟩ : ∃ V3, V2.putObj (s + 3) o = V3 := ⟨_, rfl⟩
            rw [hV3] at S1 ⊢
            have k0 := ((S1.cell (q := q) (i := (i : Int)) (by simp)).cell 0).trans (show _ = some (Value.int .i64 (i : Int)) from rfl)
            have S1h := hid S1
            have hU3 := hid (hU'.next hby.out)
            have hmm : Hid (i + 1 ≤ m') := hid (by omega)
            have hi4 : i ≤ 400 := by omega
            have hw1 : IntKind.i64.wrap ((i : Int) + 1) = (i : Int) + 1 := IntWalk.i64_in _ (by omega)
            have hmn3 : Hid ((s + 2) :: marks).Nodup := hid (List.nodup_cons.2 ⟨fun hm => by have := hmlt.out _ hm; omega, hmnh.out⟩)
            have hmb3 : Hid (∀ r ∈ (s + 2) :: marks, w4.heap.size ≤ r) := hid (fun r hr => by
              rcases List.mem_cons.1 hr with h5 | h5
              · have := hs.out; omega
              · exact hmbh.out r h5)
            clear hV3 S0 S1 hb0 hr0 hU' a1 hs3
            gi_wp2_with fail
            refine ⟨⟨_, _, _, _, _, _, _, _, _, _, _, _, _, _, _, _, _, _, _, _, _, _, _, _, _, _, _, _, _, _, _, _, _, _, _, _, _, _, _, _, _, _, _, _, _, _, _, _, _, _, _, V3.heap.size, _, ⟨i + 1, m', (s + 2) :: marks, hmm.out, hU3.out, (S1h.out.less (xs' := []) (fun x hx => by cases hx) (fun r hr => hr)).more (grown_alloc (grown_refl V3 none) _) (cell_own (Holds.new V3 3 #[.int .i64 ((i : Int) + 1)]) (Nat.le_refl _)), hmn3.out, hmb3.out, rfl⟩, rfl⟩, ?_⟩
            have hn2 := numIn_is (w := V3.alloc (.cells #[.int .i64 ((i : Int) + 1)] 3)) (q := V3.heap.size) (i := i + 1) ((Holds.new V3 3 #[.int .i64 ((i : Int) + 1)]).cell 0)
            have hn3 := hnum.out
            show 500 - numIn (.pointer (some ⟨V3.heap.size, 0, none⟩)) _ < 500 - numIn (.pointer (some ⟨q, 0, none⟩)) _
            rw [hn2, hn3]
            omega
        · have hie : i = m := by omega
          have hmN2 : Hid (m = (nodes ws).length) := hid (by
            have := hUh.out
            rw [hie] at this
            exact this.all)
          have hG1 := hid (hGh.out.grown (grown_drew (grown_refl wr none)))
          have hfin : Hid (∀ T : Array Value, LeavesInM Fence.wide 0 Try.prog Try.f28 T (fun e w' => (∃ v, e = .returned v) ∧ ∃ (h : Nat) (xs : List Sl) (marks : List Nat), GS w4 hT h (.slice P ws.length cP) ws xs marks (nodes ws).length w') (marks.map markOf) .returning wr.drew) := hid (fun T =>
            marks_leave (fun V => GS w4 hT h (.slice P ws.length cP) ws [cellOf q (i : Int)] [] (nodes ws).length V) (fun r => w4.heap.size ≤ r) (fun V => by simp [results, Try.results28]) (fun V hV => ⟨⟨_, rfl⟩, h, _, _, hV⟩) (fun V r hb hV hr => hV.put hr rfl hb (fun hm => by cases hm)) marks _ hmnh.out hmbh.out hG1.out.mks (by
              have := hG1.out.less (xs' := [cellOf q (i : Int)]) (marks' := []) (fun x hx => hx) (fun r hr => by cases hr)
              rw [hmN2.out] at this
              exact this))
          have q1 : ¬ ((i : Int) < (m : Int)) := by omega
          replace hie := hid hie
          gi_wp2_with fail
          refine tail_plain 7 (by kernel_rfl) (by kernel_rfl) rfl ?_
          simp only [List.take_succ_cons, List.take_zero, List.drop_succ_cons, List.drop_zero]
          repeat still_step
          refine wpStill_nil ?_
          clear hq0 c0 b0
          gi_wp2_with fail
          exact hfin.out _

end Go.Proofs.Ytojbkhheaondhaa
