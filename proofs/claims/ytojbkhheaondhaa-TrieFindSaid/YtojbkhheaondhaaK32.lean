/- Several rows of the call's own that grow side by side: an append to one leaves the others. Package trie: a tree in the making: five rows of the call's own, apart, and the variable that holds them. Package trie: a node is added to a tree in the making. Package trie: which words go on from a node by a byte?. -/
import Derived.Test.YtojbkhheaondhaaK6
import Derived.Test.YtojbkhheaondhaaK8
import Derived.Maps.AppendAt
import Derived.Test.YtojbkhheaondhaaK22
import Derived.Test.YtojbkhheaondhaaPlainGrow
import Derived.StillTailTactics
import Derived.Deep.Light
set_option linter.unusedSimpArgs false
set_option linter.unusedVariables false
set_option maxRecDepth 100000
namespace Go.Proofs.Ytojbkhheaondhaa
open Go.RowKit

/-- Rows that lie in different blocks. -/
def Apart (v u : Value) : Prop := ∀ g, v.ownBlock = some g → u.ownBlock ≠ some g
theorem Apart.symm {v u : Value} (h : Apart v u) : Apart u v := fun g h1 h2 => h g h2 h1
theorem Apart.nil_left (u : Value) : Apart (.slice none 0 0) u := fun g h => by simp [Value.ownBlock] at h
theorem Apart.nil_right (u : Value) : Apart u (.slice none 0 0) := fun g _ h => by simp [Value.ownBlock] at h
theorem Apart.types {w : World} {base base' e e' n n' : Nat} {v v' : Value} {xs xs' : List Value} (h : w.ownsRow base e 1 v n xs) (h' : w.ownsRow base' e' 1 v' n' xs') (he : e ≠ e') : Apart v v' := fun g h1 h2 => by
  rcases own_apart h h' he with h3 | h3
  · rw [h2] at h3; cases h3
  · exact h3 (h2.trans h1.symm)
theorem Apart.kept {w w' : World} {base e n : Nat} {v u : Value} {xs : List Value} (h : w.ownsRow base e 1 u n xs) (ha : Apart v u) (hg : w.grownBy w' v.ownBlock) : w'.ownsRow base e 1 u n xs := by
  refine h.kept hg ?_
  cases hu : u.ownBlock with
  | none => exact .inl rfl
  | some g => exact .inr fun e => ha g e.symm hu

variable {P : Program} {ops : Array Oper} {rest : List Oper} {o : Oper} {a : Act} {Q : Exit → Act → World → Prop}

/-- One integer more: every row that lies apart stays, and lies apart. -/
theorem wpList_push_apart (hgd : o.guard = none) (s x : Operand) (t : TypeId) (ho : o.op = .call { callee := .builtin .append, args := #[s, x], argTypes := #[t, t] })
    (base : Nat) (e : TypeId) (i : TypeInfo) (k : IntKind) (bytes : Nat) (ht : P.underlying t = some (.slice e)) (hi : P.info? e = some i) (hz : i.zero = some (.int k 0)) (hsize : i.size = 1) (hby : i.bytes = bytes)
    (v : Value) (xs : List Int) (y : Int) (w : World) (hown : w.ownsRow base e 1 v xs.length (xs.map (Value.int k))) (hs : a.eval s = v)
    (hx : a.eval x = .slice (some ⟨w.heap.size, 0, none⟩) 1 1) (hb8 : bytes ≤ 8) (hlen : xs.length ≤ 1099511627776) (hbase : base ≤ w.heap.size)
    (h : ∀ v' w', w'.ownsRow base e 1 v' (xs ++ [y]).length ((xs ++ [y]).map (Value.int k)) →
      (∀ b' e' n' u us, w.ownsRow b' e' 1 u n' us → Apart v u → w'.ownsRow b' e' 1 u n' us ∧ Apart v' u) → Below base w w' → wpList P ops Q rest (a.put o.dst v') w') :
    wpList P ops Q (o :: rest) a (w.alloc (.cells #[.int k y] e)) := by
  refine wpList_append_own_at (w.alloc (.cells #[.int k y] e)) hgd s x t ho base e i (.int k 0) 1 bytes ht hi hz hsize hby rfl (by decide) v xs.length (xs.map (Value.int k)) hs (hown.alloc _) ⟨w.heap.size, 0, none⟩ 1 1 [.int k y] hx rfl
    (cell_one_new _ _ _) (by simp [Value.oneCell']) (by unfold maxLen; omega) ?_ (by simp; omega) ?_
  · have : (xs.length + 1) * bytes ≤ (xs.length + 1) * 8 := Nat.mul_le_mul_left _ hb8
    omega
  · intro v' w' h1 h2 _ h4
    have hlt := hown.lt
    refine h v' w' (by simpa using h1) (fun b' e' n' u us hu ha => ⟨Apart.kept (hu.alloc _) ha h2, fun g hg hug => ?_⟩) ?_
    · rcases h4 with h4 | h4
      · exact ha g (h4 ▸ hg) hug
      · rw [h4] at hg
        have := (hu.lt g hug).2
        injection hg with hg
        simp at hg
        omega
    · exact ((Below.refl base w).alloc hbase _).trans (below_of_grown h2 (by simp; omega) (fun j hj => (hlt j hj).1))

end Go.Proofs.Ytojbkhheaondhaa

namespace Go.Proofs.Ytojbkhheaondhaa
open Go.RowKit PlainLetter

theorem Try.gintInfo : (Try.prog.info? 3).map (fun i => (i.zero, i.size, i.bytes)) = some (some (.int .i64 0), 1, 8) := by kernel_rfl
theorem Try.gbyteInfo : (Try.prog.info? 5).map (fun i => (i.zero, i.size, i.bytes)) = some (some (.int .u8 0), 1, 1) := by kernel_rfl
theorem Try.gsliceInfo : (Try.prog.info? 27).map (fun i => (i.zero, i.size, i.bytes)) = some (some (.slice none 0 0), 1, 24) := by kernel_rfl

/-- Numbers of the call's own. -/
def OwnI (w : World) (base : Nat) (x : Sl) : Prop := w.ownsRow base 3 1 (slV x) x.2.1.length (x.2.1.map (Value.int .i64))
theorem OwnI.arr {w : World} {base : Nat} {x : Sl} (h : OwnI w base x) : Arr w .i64 x.1 x.2.1 := Arr.of_own (k := .i64) h

/-- What a push of one row leaves. -/
abbrev Keeps (W W' : World) (v v' : Value) : Prop := ∀ b' e' n' u us, W.ownsRow b' e' 1 u n' us → Apart v u → W'.ownsRow b' e' 1 u n' us ∧ Apart v' u

section
variable {P : Program} {ops : Array Oper} {rest : List Oper} {o : Oper} {a : Act} {Q : Exit → Act → World → Prop}
/-- One slice more: every row that lies apart stays, and lies apart. -/
theorem wpList_push_slice (hgd : o.guard = none) (s x : Operand) (t : TypeId) (ho : o.op = .call { callee := .builtin .append, args := #[s, x], argTypes := #[t, t] })
    (base : Nat) (e : TypeId) (i : TypeInfo) (ht : P.underlying t = some (.slice e)) (hi : P.info? e = some i) (hz : i.zero = some (.slice none 0 0)) (hsize : i.size = 1) (hby : i.bytes = 24)
    (v : Value) (l : List Sl) (y : Sl) (w : World) (hown : w.ownsRow base e 1 v l.length (l.map slV)) (hs : a.eval s = v)
    (hx : a.eval x = .slice (some ⟨w.heap.size, 0, none⟩) 1 1) (hlen : l.length ≤ 2147483647) (hbase : base ≤ w.heap.size)
    (h : ∀ v' w', w'.ownsRow base e 1 v' (l ++ [y]).length ((l ++ [y]).map slV) → Keeps w w' v v' → Below base w w' → wpList P ops Q rest (a.put o.dst v') w') :
    wpList P ops Q (o :: rest) a (w.alloc (.cells #[slV y] e)) := by
  refine wpList_append_own_at (w.alloc (.cells #[slV y] e)) hgd s x t ho base e i (.slice none 0 0) 1 24 ht hi hz hsize hby rfl (by decide) v l.length (l.map slV) hs (hown.alloc _) ⟨w.heap.size, 0, none⟩ 1 1 [slV y] hx rfl
    (cell_one_new _ _ _) (by simp [Value.oneCell']) (by unfold maxLen; omega) (by omega) (by simp; omega) ?_
  intro v' w' h1 h2 _ h4
  have hlt := hown.lt
  refine h v' w' (by simpa using h1) (fun b' e' n' u us hu ha => ⟨Apart.kept (hu.alloc _) ha h2, fun g hg hug => ?_⟩) ?_
  · rcases h4 with h4 | h4
    · exact ha g (h4 ▸ hg) hug
    · rw [h4] at hg
      have := (hu.lt g hug).2
      injection hg with hg
      simp at hg
      omega
  · exact ((Below.refl base w).alloc hbase _).trans (below_of_grown h2 (by simp; omega) (fun j hj => (hlt j hj).1))
end

structure G6 (w4 : World) (hT nu nd nv nb nn : Nat) (U D V B Un : Option Addr) (cu cd cv cb cn : Nat) (X : Value) (us ds vs bs : List Int) (uss es : List Sl) (W : World) : Prop where
  gr : w4.grownBy W none
  le : hT + 1 ≤ W.heap.size
  T : Holds W hT 55 #[.slice U nu cu, .slice D nd cd, .slice V nv cv, .slice B nb cb, X, .slice Un nn cn]
  lu : us.length = nu
  ld : ds.length = nd
  lv : vs.length = nv
  lb : bs.length = nb
  ln : uss.length = nn
  u : W.ownsRow (hT + 1) 3 1 (.slice U nu cu) us.length (us.map (Value.int .i64))
  d : W.ownsRow (hT + 1) 3 1 (.slice D nd cd) ds.length (ds.map (Value.int .i64))
  v : W.ownsRow (hT + 1) 3 1 (.slice V nv cv) vs.length (vs.map (Value.int .i64))
  b : W.ownsRow (hT + 1) 5 1 (.slice B nb cb) bs.length (bs.map (Value.int .u8))
  n : W.ownsRow (hT + 1) 27 1 (.slice Un nn cn) uss.length (uss.map slV)
  ud : Apart (.slice U nu cu) (.slice D nd cd)
  uv : Apart (.slice U nu cu) (.slice V nv cv)
  dv : Apart (.slice D nd cd) (.slice V nv cv)
  el : ∀ x ∈ es, OwnI W (hT + 1) x ∧ Apart (.slice U nu cu) (slV x) ∧ Apart (.slice D nd cd) (slV x) ∧ Apart (.slice V nv cv) (slV x)

section
variable {w4 W W' : World} {hT nu nd nv nb nn : Nat} {U D V B Un : Option Addr} {cu cd cv cb cn : Nat} {X : Value} {us ds vs bs : List Int} {uss es : List Sl}

theorem grow_store {base e n q : Nat} {v : Value} {xs : List Value} {k : Nat} {x : Value} (h : W.ownsRow base e 1 v n xs) (hq : q < base) : (W.setCell ⟨q, k, none⟩ x).ownsRow base e 1 v n xs :=
  World.ownsRow.kept h (grown_set (p := ⟨q, k, none⟩) (grown_refl W (some q)) (.inl rfl) x) (.inr fun e => by have := (h.lt q e).1; omega)
theorem grow_below {w : World} {g : Nat} (h : w4.grownBy W none) (hs : w4.heap.size ≤ g) (hB : Below (g + 1) W W') : w4.grownBy W' none :=
  ⟨hB.os.trans h.os, hB.tape.trans h.tape, hB.output.trans h.output, Nat.le_trans h.size hB.size, fun k hk _ => (hB.block k (by omega)).trans (h.block k hk (by simp))⟩
theorem own_none {w w' : World} {base e n : Nat} {v : Value} {xs : List Value} (h : w.ownsRow base e 1 v n xs) (hg : w.grownBy w' none) : w'.ownsRow base e 1 v n xs :=
  h.kept hg (by cases v.ownBlock <;> simp)

theorem G6.grown (s : G6 w4 hT nu nd nv nb nn U D V B Un cu cd cv cb cn X us ds vs bs uss es W) (h : W.grownBy W' none) : G6 w4 hT nu nd nv nb nn U D V B Un cu cd cv cb cn X us ds vs bs uss es W' :=
  ⟨grown_trans s.gr h, Nat.le_trans s.le h.size, s.T.kept0 h, s.lu, s.ld, s.lv, s.lb, s.ln, own_none s.u h, own_none s.d h, own_none s.v h, own_none s.b h, own_none s.n h, s.ud, s.uv, s.dv, fun x hx => by
    obtain ⟨a, b⟩ := s.el x hx
    exact ⟨own_none a h, b⟩⟩
/-- A loop's record turns: no row does. -/
theorem G6.put (s : G6 w4 hT nu nd nv nb nn U D V B Un cu cd cv cb cn X us ds vs bs uss es W) {l : Nat} {o o' : Obj} (hl : W.heap[l]? = some o) (hm : o.isCells = false) (hw : w4.heap.size ≤ l) (hne : hT ≠ l) : G6 w4 hT nu nd nv nb nn U D V B Un cu cd cv cb cn X us ds vs bs uss es (W.putObj l o') :=
  ⟨grown_put s.gr hw _, by simpa using s.le, s.T.put hne _, s.lu, s.ld, s.lv, s.lb, s.ln, ownsRow_putObj s.u _ hl hm, ownsRow_putObj s.d _ hl hm, ownsRow_putObj s.v _ hl hm, ownsRow_putObj s.b _ hl hm, ownsRow_putObj s.n _ hl hm, s.ud, s.uv, s.dv, fun x hx => by
    obtain ⟨a, b⟩ := s.el x hx
    exact ⟨ownsRow_putObj a _ hl hm, b⟩⟩
theorem G6.pushU (s : G6 w4 hT nu nd nv nb nn U D V B Un cu cd cv cb cn X us ds vs bs uss es W) (hs : w4.heap.size ≤ hT) {A : Option Addr} {c n : Nat} {y : Int} (hn : n = (us ++ [y]).length) (h1 : W'.ownsRow (hT + 1) 3 1 (.slice A n c) (us ++ [y]).length ((us ++ [y]).map (Value.int .i64)))
    (K : Keeps W W' (.slice U nu cu) (.slice A n c)) (hB : Below (hT + 1) W W') :
    W'.cell? ⟨hT, 0, none⟩ = some (.slice U nu cu) ∧ W'.frozen? ⟨hT, 0, none⟩ = false ∧ hT < W'.heap.size ∧ G6 w4 hT n nd nv nb nn A D V B Un c cd cv cb cn X (us ++ [y]) ds vs bs uss es (W'.setCell ⟨hT, 0, none⟩ (.slice A n c)) := by
  have hT' : Holds W' hT _ _ := (hB.block hT (by omega)).trans s.T
  obtain ⟨kd, ad⟩ := K _ _ _ _ _ s.d s.ud
  obtain ⟨kv, av⟩ := K _ _ _ _ _ s.v s.uv
  obtain ⟨kb, _⟩ := K _ _ _ _ _ s.b (Apart.types s.u s.b (by decide))
  obtain ⟨kn, _⟩ := K _ _ _ _ _ s.n (Apart.types s.u s.n (by decide))
  refine ⟨hT'.cell 0, hT'.free 0, hT'.lt, grown_set (grow_below (w := W) s.gr hs hB) (.inr hs) _, ?_, by simpa using hT'.set 0 (.slice A n c), hn.symm, s.ld, s.lv, s.lb, s.ln, grow_store h1 (by omega), grow_store kd (by omega), grow_store kv (by omega), grow_store kb (by omega), grow_store kn (by omega), ad, av, s.dv, fun x hx => ?_⟩
  · have := Nat.le_trans s.le hB.size
    simpa [World.setCell] using this
  · obtain ⟨e0, eu, ed, ev⟩ := s.el x hx
    obtain ⟨e1, en⟩ := K _ _ _ _ _ e0 eu
    exact ⟨grow_store e1 (by omega), en, ed, ev⟩
theorem G6.pushD (s : G6 w4 hT nu nd nv nb nn U D V B Un cu cd cv cb cn X us ds vs bs uss es W) (hs : w4.heap.size ≤ hT) {A : Option Addr} {c n : Nat} {y : Int} (hn : n = (ds ++ [y]).length) (h1 : W'.ownsRow (hT + 1) 3 1 (.slice A n c) (ds ++ [y]).length ((ds ++ [y]).map (Value.int .i64)))
    (K : Keeps W W' (.slice D nd cd) (.slice A n c)) (hB : Below (hT + 1) W W') :
    W'.cell? ⟨hT, 1, none⟩ = some (.slice D nd cd) ∧ W'.frozen? ⟨hT, 1, none⟩ = false ∧ hT < W'.heap.size ∧ G6 w4 hT nu n nv nb nn U A V B Un cu c cv cb cn X us (ds ++ [y]) vs bs uss es (W'.setCell ⟨hT, 1, none⟩ (.slice A n c)) := by
  have hT' : Holds W' hT _ _ := (hB.block hT (by omega)).trans s.T
  obtain ⟨ku, au⟩ := K _ _ _ _ _ s.u s.ud.symm
  obtain ⟨kv, av⟩ := K _ _ _ _ _ s.v s.dv
  obtain ⟨kb, _⟩ := K _ _ _ _ _ s.b (Apart.types s.d s.b (by decide))
  obtain ⟨kn, _⟩ := K _ _ _ _ _ s.n (Apart.types s.d s.n (by decide))
  refine ⟨hT'.cell 1, hT'.free 1, hT'.lt, grown_set (grow_below (w := W) s.gr hs hB) (.inr hs) _, ?_, by simpa using hT'.set 1 (.slice A n c), s.lu, hn.symm, s.lv, s.lb, s.ln, grow_store ku (by omega), grow_store h1 (by omega), grow_store kv (by omega), grow_store kb (by omega), grow_store kn (by omega), au.symm, s.uv, av, fun x hx => ?_⟩
  · have := Nat.le_trans s.le hB.size
    simpa [World.setCell] using this
  · obtain ⟨e0, eu, ed, ev⟩ := s.el x hx
    obtain ⟨e1, en⟩ := K _ _ _ _ _ e0 ed
    exact ⟨grow_store e1 (by omega), eu, en, ev⟩
theorem G6.pushV (s : G6 w4 hT nu nd nv nb nn U D V B Un cu cd cv cb cn X us ds vs bs uss es W) (hs : w4.heap.size ≤ hT) {A : Option Addr} {c n : Nat} {y : Int} (hn : n = (vs ++ [y]).length) (h1 : W'.ownsRow (hT + 1) 3 1 (.slice A n c) (vs ++ [y]).length ((vs ++ [y]).map (Value.int .i64)))
    (K : Keeps W W' (.slice V nv cv) (.slice A n c)) (hB : Below (hT + 1) W W') :
    W'.cell? ⟨hT, 2, none⟩ = some (.slice V nv cv) ∧ W'.frozen? ⟨hT, 2, none⟩ = false ∧ hT < W'.heap.size ∧ G6 w4 hT nu nd n nb nn U D A B Un cu cd c cb cn X us ds (vs ++ [y]) bs uss es (W'.setCell ⟨hT, 2, none⟩ (.slice A n c)) := by
  have hT' : Holds W' hT _ _ := (hB.block hT (by omega)).trans s.T
  obtain ⟨ku, au⟩ := K _ _ _ _ _ s.u s.uv.symm
  obtain ⟨kd, ad⟩ := K _ _ _ _ _ s.d s.dv.symm
  obtain ⟨kb, _⟩ := K _ _ _ _ _ s.b (Apart.types s.v s.b (by decide))
  obtain ⟨kn, _⟩ := K _ _ _ _ _ s.n (Apart.types s.v s.n (by decide))
  refine ⟨hT'.cell 2, hT'.free 2, hT'.lt, grown_set (grow_below (w := W) s.gr hs hB) (.inr hs) _, ?_, by simpa using hT'.set 2 (.slice A n c), s.lu, s.ld, hn.symm, s.lb, s.ln, grow_store ku (by omega), grow_store kd (by omega), grow_store h1 (by omega), grow_store kb (by omega), grow_store kn (by omega), s.ud, au.symm, ad.symm, fun x hx => ?_⟩
  · have := Nat.le_trans s.le hB.size
    simpa [World.setCell] using this
  · obtain ⟨e0, eu, ed, ev⟩ := s.el x hx
    obtain ⟨e1, en⟩ := K _ _ _ _ _ e0 ev
    exact ⟨grow_store e1 (by omega), eu, ed, en⟩
theorem G6.pushB (s : G6 w4 hT nu nd nv nb nn U D V B Un cu cd cv cb cn X us ds vs bs uss es W) (hs : w4.heap.size ≤ hT) {A : Option Addr} {c n : Nat} {y : Int} (hn : n = (bs ++ [y]).length) (h1 : W'.ownsRow (hT + 1) 5 1 (.slice A n c) (bs ++ [y]).length ((bs ++ [y]).map (Value.int .u8)))
    (K : Keeps W W' (.slice B nb cb) (.slice A n c)) (hB : Below (hT + 1) W W') :
    W'.cell? ⟨hT, 3, none⟩ = some (.slice B nb cb) ∧ W'.frozen? ⟨hT, 3, none⟩ = false ∧ hT < W'.heap.size ∧ G6 w4 hT nu nd nv n nn U D V A Un cu cd cv c cn X us ds vs (bs ++ [y]) uss es (W'.setCell ⟨hT, 3, none⟩ (.slice A n c)) := by
  have hT' : Holds W' hT _ _ := (hB.block hT (by omega)).trans s.T
  obtain ⟨ku, _⟩ := K _ _ _ _ _ s.u (Apart.types s.b s.u (by decide))
  obtain ⟨kd, _⟩ := K _ _ _ _ _ s.d (Apart.types s.b s.d (by decide))
  obtain ⟨kv, _⟩ := K _ _ _ _ _ s.v (Apart.types s.b s.v (by decide))
  obtain ⟨kn, _⟩ := K _ _ _ _ _ s.n (Apart.types s.b s.n (by decide))
  refine ⟨hT'.cell 3, hT'.free 3, hT'.lt, grown_set (grow_below (w := W) s.gr hs hB) (.inr hs) _, ?_, by simpa using hT'.set 3 (.slice A n c), s.lu, s.ld, s.lv, hn.symm, s.ln, grow_store ku (by omega), grow_store kd (by omega), grow_store kv (by omega), grow_store h1 (by omega), grow_store kn (by omega), s.ud, s.uv, s.dv, fun x hx => ?_⟩
  · have := Nat.le_trans s.le hB.size
    simpa [World.setCell] using this
  · obtain ⟨e0, eu, ed, ev⟩ := s.el x hx
    obtain ⟨e1, _⟩ := K _ _ _ _ _ e0 (Apart.types s.b e0 (by decide))
    exact ⟨grow_store e1 (by omega), eu, ed, ev⟩
theorem G6.pushUn (s : G6 w4 hT nu nd nv nb nn U D V B Un cu cd cv cb cn X us ds vs bs uss es W) (hs : w4.heap.size ≤ hT) {A : Option Addr} {c n : Nat} {y : Sl} (hn : n = (uss ++ [y]).length) (h1 : W'.ownsRow (hT + 1) 27 1 (.slice A n c) (uss ++ [y]).length ((uss ++ [y]).map slV))
    (K : Keeps W W' (.slice Un nn cn) (.slice A n c)) (hB : Below (hT + 1) W W') :
    W'.cell? ⟨hT, 5, none⟩ = some (.slice Un nn cn) ∧ W'.frozen? ⟨hT, 5, none⟩ = false ∧ hT < W'.heap.size ∧ G6 w4 hT nu nd nv nb n U D V B A cu cd cv cb c X us ds vs bs (uss ++ [y]) es (W'.setCell ⟨hT, 5, none⟩ (.slice A n c)) := by
  have hT' : Holds W' hT _ _ := (hB.block hT (by omega)).trans s.T
  obtain ⟨ku, _⟩ := K _ _ _ _ _ s.u (Apart.types s.n s.u (by decide))
  obtain ⟨kd, _⟩ := K _ _ _ _ _ s.d (Apart.types s.n s.d (by decide))
  obtain ⟨kv, _⟩ := K _ _ _ _ _ s.v (Apart.types s.n s.v (by decide))
  obtain ⟨kb, _⟩ := K _ _ _ _ _ s.b (Apart.types s.n s.b (by decide))
  refine ⟨hT'.cell 5, hT'.free 5, hT'.lt, grown_set (grow_below (w := W) s.gr hs hB) (.inr hs) _, ?_, by simpa using hT'.set 5 (.slice A n c), s.lu, s.ld, s.lv, s.lb, hn.symm, grow_store ku (by omega), grow_store kd (by omega), grow_store kv (by omega), grow_store kb (by omega), grow_store h1 (by omega), s.ud, s.uv, s.dv, fun x hx => ?_⟩
  · have := Nat.le_trans s.le hB.size
    simpa [World.setCell] using this
  · obtain ⟨e0, eu, ed, ev⟩ := s.el x hx
    obtain ⟨e1, _⟩ := K _ _ _ _ _ e0 (Apart.types s.n e0 (by decide))
    exact ⟨grow_store e1 (by omega), eu, ed, ev⟩
end

end Go.Proofs.Ytojbkhheaondhaa

namespace Go.Proofs.Ytojbkhheaondhaa
open Go.RowKit PlainLetter

section
variable {P : Program} {ops : Array Oper} {rest : List Oper} {o : Oper} {a : Act} {Q : Exit → Act → World → Prop}
/-- One number more: every row that lies apart stays, and lies apart; no block but the row's turns. -/
theorem wpList_push_num (hgd : o.guard = none) (s x : Operand) (t : TypeId) (ho : o.op = .call { callee := .builtin .append, args := #[s, x], argTypes := #[t, t] })
    (base : Nat) (e : TypeId) (i : TypeInfo) (k : IntKind) (bytes : Nat) (ht : P.underlying t = some (.slice e)) (hi : P.info? e = some i) (hz : i.zero = some (.int k 0)) (hsize : i.size = 1) (hby : i.bytes = bytes)
    (v : Value) (xs : List Int) (y : Int) (w : World) (hown : w.ownsRow base e 1 v xs.length (xs.map (Value.int k))) (hs : a.eval s = v)
    (hx : a.eval x = .slice (some ⟨w.heap.size, 0, none⟩) 1 1) (hb8 : bytes ≤ 8) (hlen : xs.length ≤ 1099511627776) (hbase : base ≤ w.heap.size)
    (h : ∀ v' w', w'.ownsRow base e 1 v' (xs ++ [y]).length ((xs ++ [y]).map (Value.int k)) → Keeps w w' v v' → Below base w w' → w.grownBy w' v.ownBlock → wpList P ops Q rest (a.put o.dst v') w') :
    wpList P ops Q (o :: rest) a (w.alloc (.cells #[.int k y] e)) := by
  refine wpList_append_own_at (w.alloc (.cells #[.int k y] e)) hgd s x t ho base e i (.int k 0) 1 bytes ht hi hz hsize hby rfl (by decide) v xs.length (xs.map (Value.int k)) hs (hown.alloc _) ⟨w.heap.size, 0, none⟩ 1 1 [.int k y] hx rfl
    (cell_one_new _ _ _) (by simp [Value.oneCell']) (by unfold maxLen; omega) ?_ (by simp; omega) ?_
  · have : (xs.length + 1) * bytes ≤ (xs.length + 1) * 8 := Nat.mul_le_mul_left _ hb8
    omega
  · intro v' w' h1 h2 _ h4
    have hlt := hown.lt
    refine h v' w' (by simpa using h1) (fun b' e' n' u us hu ha => ⟨Apart.kept (hu.alloc _) ha h2, fun g hg hug => ?_⟩) ?_ (grown_trans_same (grown_row (grown_alloc (grown_refl w none) _) _) h2)
    · rcases h4 with h4 | h4
      · exact ha g (h4 ▸ hg) hug
      · rw [h4] at hg
        have := (hu.lt g hug).2
        injection hg with hg
        simp at hg
        omega
    · exact ((Below.refl base w).alloc hbase _).trans (below_of_grown h2 (by simp; omega) (fun j hj => (hlt j hj).1))
theorem wpList_push_sl (hgd : o.guard = none) (s x : Operand) (t : TypeId) (ho : o.op = .call { callee := .builtin .append, args := #[s, x], argTypes := #[t, t] })
    (base : Nat) (e : TypeId) (i : TypeInfo) (ht : P.underlying t = some (.slice e)) (hi : P.info? e = some i) (hz : i.zero = some (.slice none 0 0)) (hsize : i.size = 1) (hby : i.bytes = 24)
    (v : Value) (l : List Sl) (y : Sl) (w : World) (hown : w.ownsRow base e 1 v l.length (l.map slV)) (hs : a.eval s = v)
    (hx : a.eval x = .slice (some ⟨w.heap.size, 0, none⟩) 1 1) (hlen : l.length ≤ 2147483647) (hbase : base ≤ w.heap.size)
    (h : ∀ v' w', w'.ownsRow base e 1 v' (l ++ [y]).length ((l ++ [y]).map slV) → Keeps w w' v v' → Below base w w' → w.grownBy w' v.ownBlock → wpList P ops Q rest (a.put o.dst v') w') :
    wpList P ops Q (o :: rest) a (w.alloc (.cells #[slV y] e)) := by
  refine wpList_append_own_at (w.alloc (.cells #[slV y] e)) hgd s x t ho base e i (.slice none 0 0) 1 24 ht hi hz hsize hby rfl (by decide) v l.length (l.map slV) hs (hown.alloc _) ⟨w.heap.size, 0, none⟩ 1 1 [slV y] hx rfl
    (cell_one_new _ _ _) (by simp [Value.oneCell']) (by unfold maxLen; omega) (by omega) (by simp; omega) ?_
  intro v' w' h1 h2 _ h4
  have hlt := hown.lt
  refine h v' w' (by simpa using h1) (fun b' e' n' u us hu ha => ⟨Apart.kept (hu.alloc _) ha h2, fun g hg hug => ?_⟩) ?_ (grown_trans_same (grown_row (grown_alloc (grown_refl w none) _) _) h2)
  · rcases h4 with h4 | h4
    · exact ha g (h4 ▸ hg) hug
    · rw [h4] at hg
      have := (hu.lt g hug).2
      injection hg with hg
      simp at hg
      omega
  · exact ((Below.refl base w).alloc hbase _).trans (below_of_grown h2 (by simp; omega) (fun j hj => (hlt j hj).1))
end

/-- No block turns but this one, and rows of numbers, bytes and slices of numbers. -/
def Turned (hT : Nat) (W W' : World) : Prop := ∀ q o, q ≠ hT → W.heap[q]? = some o → (∀ cs t m, o = .cells cs t m → t ≠ 3 ∧ t ≠ 5 ∧ t ≠ 27) → W'.heap[q]? = some o
theorem Turned.refl (hT : Nat) (W : World) : Turned hT W W := fun q o _ h _ => h
theorem Turned.trans {hT : Nat} {W W' W'' : World} (h : Turned hT W W') (h' : Turned hT W' W'') : Turned hT W W'' := fun q o h1 h2 h3 => h' q o h1 (h q o h1 h2 h3) h3
theorem Turned.of_none {hT : Nat} {W W' : World} (h : W.grownBy W' none) : Turned hT W W' := fun q o h1 h2 h3 => (h.block q (Array.getElem?_eq_some_iff.1 h2).1 (by simp)).trans h2
theorem Turned.push {hT k base e n : Nat} {v x : Value} {xs : List Value} {W W' : World} (hown : W.ownsRow base e 1 v n xs) (he : e = 3 ∨ e = 5 ∨ e = 27) (hg : W.grownBy W' v.ownBlock) : Turned hT W (W'.setCell ⟨hT, k, none⟩ x) := fun q o h1 h2 h3 => by
  refine other_set (p := ⟨hT, k, none⟩) ?_ h1 x
  refine (hg.block q (Array.getElem?_eq_some_iff.1 h2).1 fun e' => ?_).trans h2
  rcases hown.2 with ⟨rfl, _⟩ | ⟨g, cap, cur, rfl, _, hgc, _⟩
  · simp [Value.ownBlock] at e'
  · have e2 : g = q := by simpa [Value.ownBlock] using e'.symm
    subst e2
    rw [hgc] at h2
    injection h2 with h2
    have h4 := h3 cur e (0, 0) h2.symm
    rcases he with h5 | h5 | h5
    · exact h4.1 h5
    · exact h4.2.1 h5
    · exact h4.2.2 h5
theorem Turned.holds {hT g : Nat} {t : TypeId} {cs : Array Value} {W W' : World} (h : Turned hT W W') (hH : Holds W g t cs) (hg : g ≠ hT) (ht : t ≠ 3 ∧ t ≠ 5 ∧ t ≠ 27) : Holds W' g t cs :=
  h g _ hg hH (fun cs' t' m e => by injection e with _ e2; subst e2; exact ht)

/-- What add leaves. -/
def Added (w4 : World) (hT : Nat) (X : Value) (us ds vs bs : List Int) (uss es : List Sl) (W : World) : Ending → World → Prop := fun e W' => (∃ v, e = .returned v) ∧
  (∃ (nu nd nv nb nn : Nat) (U D V B Un : Option Addr) (cu cd cv cb cn : Nat), G6 w4 hT nu nd nv nb nn U D V B Un cu cd cv cb cn X us ds vs bs uss es W') ∧ Turned hT W W'

set_option maxHeartbeats 8000000 in
theorem add_is (w4 : World) (hT nu nd nv nb nn : Nat) (U D V B Un : Option Addr) (cu cd cv cb cn : Nat) (P : Option Addr) (cP : Nat) (ws : List (List Int)) (us ds vs bs : List Int) (uss es : List Sl) (W : World) (up c : Int) (dep : Nat) (y : Sl)
    (hs : w4.heap.size ≤ hT) (hG : G6 w4 hT nu nd nv nb nn U D V B Un cu cd cv cb cn (.slice P ws.length cP) us ds vs bs uss es W) (hy : y ∈ es) (hP : Arrs w4 P ws)
    (hw : ws.length ≤ 64) (hl : nu ≤ 400 ∧ nd ≤ 400 ∧ nv ≤ 400 ∧ nb ≤ 400 ∧ nn ≤ 400) (hz : y.2.1.length ≤ 64) (hzs : ∀ z ∈ y.2.1, ∃ j : Nat, z = j ∧ j < ws.length) (hdep : dep ≤ 64) :
    Calls Try.prog 51 #[.pointer (some ⟨hT, 0, none⟩), .int .i64 up, .int .u8 c, .int .i64 (dep : Int), slV y] W
      (Added w4 hT (.slice P ws.length cP) (us ++ [up]) (ds ++ [(dep : Int)]) (vs ++ [PlainTrie.lastTo ws dep y.2.1 y.2.1.length]) (bs ++ [c]) (uss ++ [y]) es W) := by
  obtain ⟨i0, hi0, hz0, hz1, hz2⟩ := info_parts Try.gintInfo
  obtain ⟨i8, hi8, hy0, hy1, hy2⟩ := info_parts Try.gbyteInfo
  obtain ⟨i3, hi3, ha0, ha1, ha2⟩ := info_parts Try.gsliceInfo
  obtain ⟨A, zs, cA⟩ := y
  simp only at hz hzs
  have hzi : Hid (∀ k, k < zs.length → ∃ j : Nat, zs.getD k 0 = j ∧ j < ws.length) := hid (fun k hk => hzs _ (by rw [PlainTrie.getD_of hk]; exact List.getElem_mem _))
  clear hzs
  have hA : Hid (Arr W .i64 A zs) := hid ((hG.el _ hy).1.arr)
  have hPW := hid (hP.grown hG.gr)
  clear hP
  have hln : Hid (∀ k, PlainTrie.lastTo ws dep zs (k + 1) = if (ws.getD (zs.getD k 0).toNat []).length = dep then zs.getD k 0 else PlainTrie.lastTo ws dep zs k) := hid (fun k => rfl)
  have hl0 : Hid (PlainTrie.lastTo ws dep zs 0 = -1) := hid rfl
  generalize PlainTrie.lastTo ws dep zs = LT at hln hl0
  obtain ⟨hl1, hl2, hl3, hl4, hl5⟩ := hl
  have hfin : Hid (∀ v W', (∃ (nu nd nv nb nn : Nat) (U D V B Un : Option Addr) (cu cd cv cb cn : Nat), G6 w4 hT nu nd nv nb nn U D V B Un cu cd cv cb cn (.slice P ws.length cP) (us ++ [up]) (ds ++ [(dep : Int)]) (vs ++ [LT zs.length]) (bs ++ [c]) (uss ++ [(A, zs, cA)]) es W') → Turned hT W W' → Added w4 hT (.slice P ws.length cP) (us ++ [up]) (ds ++ [(dep : Int)]) (vs ++ [LT zs.length]) (bs ++ [c]) (uss ++ [(A, zs, cA)]) es W (.returned v) W') := hid (fun v W' a b => ⟨⟨v, rfl⟩, a, b⟩)
  have hGh := hid hG
  have hle1 := hG.le
  replace hy := hid hy
  clear hG
  obtain ⟨R, hR⟩ : ∃ R, Added w4 hT (.slice P ws.length cP) (us ++ [up]) (ds ++ [(dep : Int)]) (vs ++ [LT zs.length]) (bs ++ [c]) (uss ++ [(A, zs, cA)]) es W = R := ⟨_, rfl⟩
  show Calls _ _ _ _ (Added w4 hT (.slice P ws.length cP) (us ++ [up]) (ds ++ [(dep : Int)]) (vs ++ [LT zs.length]) (bs ++ [c]) (uss ++ [(A, zs, cA)]) es W)
  rw [hR] at hfin ⊢
  clear hR
  obtain ⟨m, hm⟩ : ∃ m, zs.length = m := ⟨_, rfl⟩
  have hml : m ≤ 64 := by omega
  show Calls _ _ #[_, _, _, _, .slice A zs.length cA] _ _
  rw [hm] at hfin hzi ⊢
  have hmh := hid hm
  clear hm hz
  replace hle1 := hid hle1
  have hsh := hid hs
  clear hs
  go_enter Try.func51, Try.ntmps51
  go_wp2_with fail
  go_loopw [10, 15] (fun wd i wr => ∃ k : Nat, k ≤ m ∧ i = .int .i64 k ∧ wd = .int .i64 (LT k) ∧ wr = W) (fun _ i _ => m - (intOf i).toNat)
  case atStart => exact ⟨0, Nat.zero_le _, rfl, by rw [hl0.out], rfl⟩
  case round =>
    obtain ⟨k, hk, rfl, rfl, rfl⟩ := hrel
    by_cases hlt : k < m
    · obtain ⟨ba, oa, hAe, la, ka⟩ := hA.out.at_ (i := k) (by rw [hmh.out]; exact hlt)
      subst hAe
      have kk := ka k (by rw [hmh.out]; exact hlt)
      obtain ⟨j, hj1, hj2⟩ := hzi.out k hlt
      have hlk := hid (hln.out k)
      rw [hj1] at kk hlk
      rw [Int.toNat_natCast] at hlk
      obtain ⟨bp, op, Ai, ci, hPe, lp, kp, _⟩ := hPW.out.at_ hj2
      subst hPe
      have c4 := (hGh.out.T.cell 4).trans (show _ = some (Value.slice (some ⟨bp, op, none⟩) ws.length cP) from rfl)
      have q0 : (0 : Int) ≤ (k : Int) := by omega
      have q1 : (k : Int) < (m : Int) := by omega
      have q2 : (0 : Int) ≤ (j : Int) := by omega
      have q3 : (j : Int) < (ws.length : Int) := by omega
      generalize (ws.getD j []).length = n at kp hlk
      generalize LT k = lk at hlk
      replace hj1 := hid hj1
      replace la := hid la
      replace lp := hid lp
      clear ka
      by_cases hn : n = dep
      · subst hn
        have hl2' : Hid (LT (k + 1) = (j : Int)) := hid (by have := hlk.out; rw [if_pos rfl] at this; exact this)
        go_wp2_with fail
        go_roundw
        case rel => exact ⟨k + 1, by omega, by go_num, by first | (rw [hl2'.out]; done) | (rw [hl2'.out]; rfl), by first | rfl | trivial⟩
        case measure => simp [intOf]; omega
      · have hl2' : Hid (LT (k + 1) = lk) := hid (by have := hlk.out; rw [if_neg hn] at this; exact this)
        have hne : ((n : Int) == (dep : Int)) = false := by simp; omega
        replace hn := hid hn
        go_wp2_with fail
        go_roundw
        case rel => exact ⟨k + 1, by omega, by go_num, by first | (rw [hl2'.out]; done) | (rw [hl2'.out]; rfl), by first | rfl | trivial⟩
        case measure => simp [intOf]; omega
    · have hke : Hid (k = m) := hid (by omega)
      have hlt' : ¬ ((k : Int) < (m : Int)) := by omega
      obtain ⟨wd, hwd⟩ : ∃ wd, LT k = wd := ⟨_, rfl⟩
      rw [hke.out] at hwd
      rw [hwd] at hfin
      have hwd2 : Hid (LT k = wd) := hid (by rw [hke.out]; exact hwd)
      try rw [hwd2.out]
      clear hwd hln hl0
      have t0 := hid (Turned.refl hT wr)
      have s0 := hid hGh.out
      have y0 := hid (show slV (A, zs, cA) = .slice A m cA by rw [← hmh.out])
      clear hGh
      have e0 := (s0.out.T.cell 0).trans (show _ = some (Value.slice U nu cu) from rfl)
      go_upto_region 8 with (at_builtin; refine wpList_push_num rfl _ _ 27 rfl (hT + 1) 3 i0 .i64 8 Try.underlying27 hi0 hz0 hz1 hz2 _ us up wr s0.out.u rfl rfl (by decide) (by have := s0.out.lu; omega) s0.out.le ?_; intro v5 w5 h1 K hB hg5; obtain ⟨A5, c5, rfl, x1, x2⟩ := own_form h1; obtain ⟨z0, z1, z2, z3⟩ := s0.out.pushU hsh.out rfl h1 K hB; have t5 := hid (t0.out.trans (Turned.push (k := 0) (x := .slice A5 (us ++ [up]).length c5) s0.out.u (by first | exact .inl rfl | exact .inr (.inl rfl)) hg5)); have s5 := hid z3; clear z3 K hB hg5 h1 e0; replace x1 := hid x1; replace x2 := hid x2)
      try clear z0 z1 z2
      simp only [List.length_append, List.length_singleton] at s5 t5
      obtain ⟨W1, hW5⟩ : ∃ V5, w5.setCell ⟨hT, 0, none⟩ (.slice A5 (us.length + 1) c5) = V5 := ⟨_, rfl⟩
      rw [hW5] at s5 t5
      try rw [hW5]
      clear hW5 x1 x2
      have s1 := hid s5.out
      have t1 := hid t5.out
      clear s5 t5 s0 t0
      have e1 := (s1.out.T.cell 3).trans (show _ = some (Value.slice B nb cb) from rfl)
      go_upto_region 9 with (at_builtin; refine wpList_push_num rfl _ _ 28 rfl (hT + 1) 5 i8 .u8 1 Try.underlying28 hi8 hy0 hy1 hy2 _ bs c W1 s1.out.b rfl rfl (by decide) (by have := s1.out.lb; omega) s1.out.le ?_; intro v5 w5 h1 K hB hg5; obtain ⟨A5, c5, rfl, x1, x2⟩ := own_form h1; obtain ⟨z0, z1, z2, z3⟩ := s1.out.pushB hsh.out rfl h1 K hB; have t5 := hid (t1.out.trans (Turned.push (k := 3) (x := .slice A5 (bs ++ [c]).length c5) s1.out.b (by first | exact .inl rfl | exact .inr (.inl rfl)) hg5)); have s5 := hid z3; clear z3 K hB hg5 h1 e1; replace x1 := hid x1; replace x2 := hid x2)
      try clear z0 z1 z2
      simp only [List.length_append, List.length_singleton] at s5 t5
      obtain ⟨W2, hW5⟩ : ∃ V5, w5.setCell ⟨hT, 3, none⟩ (.slice A5 (bs.length + 1) c5) = V5 := ⟨_, rfl⟩
      rw [hW5] at s5 t5
      try rw [hW5]
      clear hW5 x1 x2
      have s2 := hid s5.out
      have t2 := hid t5.out
      clear s5 t5 s1 t1
      have e2 := (s2.out.T.cell 1).trans (show _ = some (Value.slice D nd cd) from rfl)
      go_upto_region 10 with (at_builtin; refine wpList_push_num rfl _ _ 27 rfl (hT + 1) 3 i0 .i64 8 Try.underlying27 hi0 hz0 hz1 hz2 _ ds (dep : Int) W2 s2.out.d rfl rfl (by decide) (by have := s2.out.ld; omega) s2.out.le ?_; intro v5 w5 h1 K hB hg5; obtain ⟨A5, c5, rfl, x1, x2⟩ := own_form h1; obtain ⟨z0, z1, z2, z3⟩ := s2.out.pushD hsh.out rfl h1 K hB; have t5 := hid (t2.out.trans (Turned.push (k := 1) (x := .slice A5 (ds ++ [(dep : Int)]).length c5) s2.out.d (by first | exact .inl rfl | exact .inr (.inl rfl)) hg5)); have s5 := hid z3; clear z3 K hB hg5 h1 e2; replace x1 := hid x1; replace x2 := hid x2)
      try clear z0 z1 z2
      simp only [List.length_append, List.length_singleton] at s5 t5
      obtain ⟨W3, hW5⟩ : ∃ V5, w5.setCell ⟨hT, 1, none⟩ (.slice A5 (ds.length + 1) c5) = V5 := ⟨_, rfl⟩
      rw [hW5] at s5 t5
      try rw [hW5]
      clear hW5 x1 x2
      have s3 := hid s5.out
      have t3 := hid t5.out
      clear s5 t5 s2 t2
      have e3 := (s3.out.T.cell 2).trans (show _ = some (Value.slice V nv cv) from rfl)
      go_upto_region 11 with (at_builtin; refine wpList_push_num rfl _ _ 27 rfl (hT + 1) 3 i0 .i64 8 Try.underlying27 hi0 hz0 hz1 hz2 _ vs wd W3 s3.out.v rfl rfl (by decide) (by have := s3.out.lv; omega) s3.out.le ?_; intro v5 w5 h1 K hB hg5; obtain ⟨A5, c5, rfl, x1, x2⟩ := own_form h1; obtain ⟨z0, z1, z2, z3⟩ := s3.out.pushV hsh.out rfl h1 K hB; have t5 := hid (t3.out.trans (Turned.push (k := 2) (x := .slice A5 (vs ++ [wd]).length c5) s3.out.v (by first | exact .inl rfl | exact .inr (.inl rfl)) hg5)); have s5 := hid z3; clear z3 K hB hg5 h1 e3; replace x1 := hid x1; replace x2 := hid x2)
      try clear z0 z1 z2
      simp only [List.length_append, List.length_singleton] at s5 t5
      obtain ⟨W4, hW5⟩ : ∃ V5, w5.setCell ⟨hT, 2, none⟩ (.slice A5 (vs.length + 1) c5) = V5 := ⟨_, rfl⟩
      rw [hW5] at s5 t5
      try rw [hW5]
      clear hW5 x1 x2
      have s4 := hid s5.out
      have t4 := hid t5.out
      clear s5 t5 s3 t3
      have hmm := hmh.out
      subst hmm
      have e4 := (s4.out.T.cell 5).trans (show _ = some (Value.slice Un nn cn) from rfl)
      go_wp2_with (at_builtin; refine wpList_push_sl rfl _ _ 53 rfl (hT + 1) 27 i3 Try.underlying53 hi3 ha0 ha1 ha2 _ uss (A, zs, cA) W4 s4.out.n rfl rfl (by have := s4.out.ln; omega) s4.out.le ?_; intro v5 w5 h1 K hB hg5; obtain ⟨A5, c5, rfl, x1, x2⟩ := own_form h1; obtain ⟨z0, z1, z2, z3⟩ := s4.out.pushUn hsh.out rfl h1 K hB; have t5 := hid (t4.out.trans (Turned.push (k := 5) (x := .slice A5 (uss ++ [(A, zs, cA)]).length c5) s4.out.n (.inr (.inr rfl)) hg5)); have s5 := hid z3; clear z3 K hB hg5 h1 e4; replace x1 := hid x1; replace x2 := hid x2)
      simp only [List.length_append, List.length_singleton] at s5 t5
      go_end0
      exact hfin.out _ _ ⟨_, _, _, _, _, _, _, _, _, _, _, _, _, _, _, s5.out⟩ t5.out

end Go.Proofs.Ytojbkhheaondhaa

namespace Go.Proofs.Ytojbkhheaondhaa
open Go.RowKit PlainLetter

theorem own_cell {w : World} {base e n c : Nat} {A : Option Addr} {α : Type} {f : α → Value} {l : List α} (h : w.ownsRow base e 1 (.slice A n c) l.length (l.map f)) {i : Nat} (hi : i < l.length) :
    ∃ g, A = some ⟨g, 0, none⟩ ∧ g < w.heap.size ∧ w.cell? ⟨g, i, none⟩ = some (f l[i]) := by
  rcases h.2 with ⟨hv, h0⟩ | ⟨g, cap, cur, hv, _, hg, hnc, hm, hs, ht⟩
  · omega
  · injection hv with h1 h2 h3
    subst h1
    refine ⟨g, rfl, (Array.getElem?_eq_some_iff.1 hg).1, ?_⟩
    rw [cell_of_row w g i cur e (0, 0) hg]
    have : (cur.toList.take (l.length * 1))[i]? = some (f l[i]) := by rw [ht]; simp [hi]
    rw [List.getElem?_take] at this
    split at this
    · simpa using this
    · cases this
theorem onL_snoc (ws : List (List Int)) (d : Nat) (c : Int) (zs : List Int) (k : Nat) (hk : k < zs.length) :
    PlainTrie.onL ws d c (zs.take (k + 1)) = PlainTrie.onL ws d c (zs.take k) ++ if PlainTrie.goesOn ws d c (zs.getD k 0) = true then [zs.getD k 0] else [] := by
  unfold PlainTrie.onL
  rw [take_getD zs k 0 hk, List.filter_append]
  congr 1
  by_cases h : PlainTrie.goesOn ws d c (zs.getD k 0) = true
  · rw [if_pos h, List.filter_cons_of_pos h]; rfl
  · rw [if_neg h, List.filter_cons_of_neg h]; rfl

def OnTold (L : List Int) (W : World) : Ending → World → Prop := fun e W' => ∃ A n c, e = .returned (.slice A n c) ∧ n = L.length ∧ W'.ownsRow W.heap.size 3 1 (.slice A n c) L.length (L.map (Value.int .i64)) ∧ W.grownBy W' none

set_option maxHeartbeats 8000000 in
theorem on_is (w4 : World) (hT nu nd nv nb nn : Nat) (U D V B Un : Option Addr) (cu cd cv cb cn : Nat) (P : Option Addr) (cP : Nat) (ws : List (List Int)) (us ds vs bs : List Int) (uss es : List Sl) (W : World) (i dep : Nat) (c : Int)
    (hG : G6 w4 hT nu nd nv nb nn U D V B Un cu cd cv cb cn (.slice P ws.length cP) us ds vs bs uss es W) (hes : ∀ x ∈ uss, x ∈ es) (hP : Arrs w4 P ws)
    (hw : ws.length ≤ 64) (hnd : nd ≤ 400) (hi : i < nd) (hin : i < uss.length) (hdi : ds.getD i 0 = (dep : Int)) (hdep : dep ≤ 64) (hz : uss[i].2.1.length ≤ 64) (hzs : ∀ z ∈ uss[i].2.1, ∃ j : Nat, z = j ∧ j < ws.length) :
    Calls Try.prog 66 #[.pointer (some ⟨hT, 0, none⟩), .int .i64 (i : Int), .int .u8 c] W (OnTold (PlainTrie.onL ws dep c uss[i].2.1) W) := by
  obtain ⟨i0, hi0, hz0, hz1, hz2⟩ := info_parts Try.gintInfo
  obtain ⟨gn, hUn, lgn, kgn⟩ := own_cell hG.n hin
  have hA : Hid (Arr W .i64 uss[i].1 uss[i].2.1) := hid ((hG.el _ (hes _ (List.getElem_mem hin))).1.arr)
  obtain ⟨y, hy⟩ : ∃ y, uss[i] = y := ⟨_, rfl⟩
  rw [hy] at hz hzs hA kgn ⊢
  obtain ⟨A, zs, cA⟩ := y
  simp only at hz hzs hA ⊢
  have hnn : (i : Int) < (nn : Int) := by have := hG.ln; omega
  clear hy hin
  have hzi : Hid (∀ k, k < zs.length → ∃ j : Nat, zs.getD k 0 = j ∧ j < ws.length) := hid (fun k hk => hzs _ (by rw [PlainTrie.getD_of hk]; exact List.getElem_mem _))
  clear hzs
  have hPW := hid (hP.grown hG.gr)
  clear hP
  have hD := Arr.of_own (k := .i64) (by have := hG.d; rw [hG.ld] at this; exact this)
  obtain ⟨bd, od, hDe, ld, kd⟩ := hD.at_ (i := i) (by rw [hG.ld]; exact hi)
  have kdi := kd i (by rw [hG.ld]; exact hi)
  rw [hdi] at kdi
  subst hDe
  subst hUn
  have hTW := hid hG.T
  have c1 := (hTW.out.cell 1).trans (show _ = some (Value.slice (some ⟨bd, od, none⟩) nd cd) from rfl)
  have c5 := (hTW.out.cell 5).trans (show _ = some (Value.slice (some ⟨gn, 0, none⟩) nn cn) from rfl)
  have hst := hid (fun (k : Nat) (hk : k < zs.length) => onL_snoc ws dep c zs k hk)
  have hall : Hid (PlainTrie.onL ws dep c (zs.take zs.length) = PlainTrie.onL ws dep c zs) := hid (by rw [List.take_length])
  have hgo : Hid (∀ j : Nat, PlainTrie.goesOn ws dep c (j : Int) = true ↔ dep < (ws.getD j []).length ∧ (ws.getD j []).getD dep 0 = c) := hid (fun j => by unfold PlainTrie.goesOn; rw [decide_eq_true_eq, Int.toNat_natCast])
  have h00 : Hid (PlainTrie.onL ws dep c (zs.take 0) = []) := hid rfl
  have hle : Hid (∀ k, (PlainTrie.onL ws dep c (zs.take k)).length ≤ 64) := hid (fun k => by
    have h1 := List.length_filter_le (PlainTrie.goesOn ws dep c) (zs.take k)
    have h2 : (zs.take k).length ≤ zs.length := by rw [List.length_take]; omega
    unfold PlainTrie.onL
    omega)
  have hfin : Hid (∀ A n c' W', n = (PlainTrie.onL ws dep c zs).length → W'.ownsRow W.heap.size 3 1 (.slice A n c') (PlainTrie.onL ws dep c zs).length ((PlainTrie.onL ws dep c zs).map (Value.int .i64)) → W.grownBy W' none → OnTold (PlainTrie.onL ws dep c zs) W (.returned (.slice A n c')) W') := hid (fun A n c' W' h1 h2 h3 => ⟨A, n, c', rfl, h1, h2, h3⟩)
  generalize hLL : PlainTrie.onL ws dep c zs = LL at hfin hall ⊢
  clear hLL
  obtain ⟨R, hR⟩ : ∃ R, OnTold LL W = R := ⟨_, rfl⟩
  rw [hR] at hfin ⊢
  clear hR
  obtain ⟨LK, hLK⟩ : ∃ LK : Nat → List Int, (fun k => PlainTrie.onL ws dep c (zs.take k)) = LK := ⟨_, rfl⟩
  replace hst : Hid (∀ k, k < zs.length → LK (k + 1) = LK k ++ if PlainTrie.goesOn ws dep c (zs.getD k 0) = true then [zs.getD k 0] else []) := hid (by rw [← hLK]; exact hst.out)
  replace hall : Hid (LK zs.length = LL) := hid (by rw [← hLK]; exact hall.out)
  replace h00 : Hid (LK 0 = []) := hid (by rw [← hLK]; exact h00.out)
  replace hle : Hid (∀ k, (LK k).length ≤ 64) := hid (by rw [← hLK]; exact hle.out)
  clear hLK
  generalize PlainTrie.goesOn ws dep c = GO at hst hgo
  have q0 : (0 : Int) ≤ (i : Int) := by omega
  have q1 : (i : Int) < (nd : Int) := by omega
  obtain ⟨m, hm⟩ : ∃ m, zs.length = m := ⟨_, rfl⟩
  have kgn2 : W.cell? ⟨gn, i, none⟩ = some (.slice A m cA) := by rw [← hm]; exact kgn
  rw [hm] at hzi hst hall hz
  replace hm := hid hm
  clear kgn kd hdi hG hes hD
  replace ld := hid ld
  replace lgn := hid lgn
  go_enter Try.func66, Try.ntmps66
  go_wp2_with fail
  clear c1 c5 kdi kgn2 q0 q1 hnn
  go_loopw [8, 28] (fun v i wr => ∃ (k : Nat) (A' : Option Addr) (n c' : Nat), k ≤ m ∧ i = .int .i64 k ∧ v = .slice A' n c' ∧ n = (LK k).length ∧ wr.ownsRow W.heap.size 3 1 (.slice A' n c') (LK k).length ((LK k).map (Value.int .i64)) ∧ W.grownBy wr none) (fun _ i _ => m - (intOf i).toNat)
  case atStart => exact ⟨0, none, 0, 0, Nat.zero_le _, rfl, rfl, by rw [h00.out]; rfl, by rw [h00.out]; exact World.ownsRow_nil _ _ _ _, grown_refl _ _⟩
  case round =>
    obtain ⟨k, A', n, c', hk, rfl, rfl, hn, hown, hG⟩ := hrel
    replace hn := hid hn
    by_cases hlt : k < m
    · obtain ⟨ba, oa, hAe, la, ka⟩ := (hA.out.grown hG).at_ (i := k) (by rw [hm.out]; exact hlt)
      have kk := ka k (by rw [hm.out]; exact hlt)
      obtain ⟨j, hj1, hj2⟩ := hzi.out k hlt
      have hsk := hid (hst.out k hlt)
      have hgk := hid (hgo.out j)
      rw [hj1] at kk hsk
      obtain ⟨bp, op, Ai, ci, hPe, lp, kp, hx⟩ := (hPW.out.grown hG).at_ hj2
      have c4 := ((hTW.out.kept0 hG).cell 4).trans (show _ = some (Value.slice P ws.length cP) from rfl)
      rw [hPe] at c4
      subst hAe
      have q0 : (0 : Int) ≤ (k : Int) := by omega
      have q1 : (k : Int) < (m : Int) := by omega
      have q2 : (0 : Int) ≤ (j : Int) := by omega
      have q3 : (j : Int) < (ws.length : Int) := by omega
      have q4 : (0 : Int) ≤ (dep : Int) := by omega
      have hlek := hid (hle.out k)
      have hnxt : Hid (∀ L : List Int, LK k ++ L = LK (k + 1) → L = [] → wr.ownsRow W.heap.size 3 1 (.slice A' n c') (LK (k + 1)).length ((LK (k + 1)).map (Value.int .i64)) ∧ n = (LK (k + 1)).length) := hid (fun L h1 h2 => by
        subst h2
        rw [List.append_nil] at h1
        rw [← h1]
        exact ⟨hown, hn.out⟩)
      generalize ws.getD j [] = x at kp hx hgk
      obtain ⟨xl, hxl⟩ : ∃ xl, x.length = xl := ⟨_, rfl⟩
      have hxg : Hid (dep < xl → ∃ bx ox, Ai = some ⟨bx, ox, none⟩ ∧ wr.cell? ⟨bx, ox + dep, none⟩ = some (.int .u8 (x.getD dep 0))) := hid (fun hd => by
        obtain ⟨bx, ox, e, _, kx⟩ := hx.at_ (i := dep) (by omega)
        exact ⟨bx, ox, e, kx dep (by omega)⟩)
      rw [hxl] at kp hgk
      replace hown := hid hown
      replace hG := hid hG
      replace hj1 := hid hj1
      replace la := hid la
      replace lp := hid lp
      replace hPe := hid hPe
      replace hxl := hid hxl
      clear ka hx
      by_cases hd : dep < xl
      · obtain ⟨bx, ox, rfl, kx⟩ := hxg.out hd
        generalize x.getD dep 0 = y at kx hgk
        have q5 : (dep : Int) < (xl : Int) := by omega
        by_cases hyc : y = c
        · subst hyc
          have hs2 : Hid (LK (k + 1) = LK k ++ [(j : Int)]) := hid (by rw [hsk.out, if_pos (hgk.out.2 ⟨hd, rfl⟩)])
          replace hd := hid hd
          obtain ⟨lk, hlk⟩ : ∃ lk, LK k = lk := ⟨_, rfl⟩
          rw [hlk] at hown hn hs2 hlek
          clear hlk
          go_wp2_with (at_builtin; refine wpList_push rfl _ _ 27 rfl W.heap.size 3 i0 .i64 8 Try.underlying27 hi0 hz0 hz1 hz2 _ lk (j : Int) wr hown.out rfl rfl (by decide) (by have := hlek.out; omega) hG.out.size ?_; intro v5 w5 h1 hB; obtain ⟨A5, c5, rfl, x1, x2⟩ := own_form h1; have g5 := hid (below_grown ((grown_below hG.out).trans hB)); have h5 := hid h1; clear h1 hB; replace x1 := hid x1; replace x2 := hid x2)
          go_roundw
          case rel => exact ⟨k + 1, A5, _, c5, by omega, by go_num, rfl, by rw [hs2.out]; simp, by rw [hs2.out]; simpa using h5.out, g5.out⟩
          case measure => simp [intOf]; omega
        · have hs2 := hid (hnxt.out _ hsk.out.symm (if_neg (fun e => hyc (hgk.out.1 e).2)))
          have hne : (y == c) = false := by simp [hyc]
          replace hyc := hid hyc
          replace hd := hid hd
          go_wp2_with fail
          go_roundw
          case rel => exact ⟨k + 1, A', n, c', by omega, by go_num, rfl, hs2.out.2, hs2.out.1, hG.out⟩
          case measure => simp [intOf]; omega
      · have hs2 := hid (hnxt.out _ hsk.out.symm (if_neg (fun e => hd (hgk.out.1 e).1)))
        have q5 : ¬ ((dep : Int) < (xl : Int)) := by omega
        replace hd := hid hd
        go_wp2_with fail
        go_roundw
        case rel => exact ⟨k + 1, A', n, c', by omega, by go_num, rfl, hs2.out.2, hs2.out.1, hG.out⟩
        case measure => simp [intOf]; omega
    · have hke : k = m := by omega
      have hf := hid (hfin.out A' n c' wr (by rw [← hall.out, ← hke]; exact hn.out) (by rw [← hall.out, ← hke]; exact hown) hG)
      have hlt' : ¬ ((k : Int) < (m : Int)) := by omega
      replace hown := hid hown
      replace hG := hid hG
      replace hke := hid hke
      go_wp2_with fail
      exact hf.out

end Go.Proofs.Ytojbkhheaondhaa
