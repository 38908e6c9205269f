/- Appending one integer to a slice that has no room; of no program. -/
import Derived.Test.YtojbfjlihenjaaaPush
import Derived.ArgAppend
set_option linter.unusedSimpArgs false
set_option linter.unusedVariables false
namespace Go.Proofs.Ytojbfjlihenjaaa
open Go.RowKit

variable {P : Program} {ops : Array Oper} {rest : List Oper} {o : Oper} {a : Act} {Q : Exit → Act → World → Prop}

theorem own_mono {w : World} {base base' : Nat} {e : TypeId} {size : Nat} {v : Value} {n : Nat} {xs : List Value} (h : w.ownsRow base e size v n xs) (hb : base' ≤ base) : w.ownsRow base' e size v n xs :=
  ⟨h.1, h.2.imp id fun ⟨g, cap, cur, h1, h2, h3⟩ => ⟨g, cap, cur, h1, Nat.le_trans hb h2, h3⟩⟩

/-- One integer more, where there is no room: a row of the call's own. -/
theorem wpList_push_full (hgd : o.guard = none) (s x : Operand) (t : TypeId) (ho : o.op = .call { callee := .builtin .append, args := #[s, x], argTypes := #[t, t] })
    (base : Nat) (e : TypeId) (i : TypeInfo) (k : IntKind) (bytes : Nat) (ht : P.underlying t = some (.slice e)) (hi : P.info? e = some i) (hz : i.zero = some (.int k 0)) (hsize : i.size = 1) (hby : i.bytes = bytes)
    (ad : Addr) (n c : Nat) (zs : List Int) (y : Int) (w : World) (hA : Arr w k (some ad) zs) (hs : a.eval s = .slice (some ad) n c) (hn : zs.length = n) (hc : c = n)
    (hx : a.eval x = .slice (some ⟨w.heap.size, 0, none⟩) 1 1) (hb8 : bytes ≤ 8) (hlen : zs.length ≤ 1099511627776) (hbase : base ≤ w.heap.size)
    (h : ∀ v' w', w'.ownsRow base e 1 v' (zs ++ [y]).length ((zs ++ [y]).map (Value.int k)) → Below base w w' → wpList P ops Q rest (a.put o.dst v') w') :
    wpList P ops Q (o :: rest) a (w.alloc (.cells #[.int k y] e)) := by
  subst hn
  subst hc
  have hnews : ∀ (j : Nat) (u : Value), (zs.map (Value.int k))[j]? = some u → (w.alloc (.cells #[.int k y] e)).cell? (ad.add j) = some u := by
    intro j u hj
    have hjl : j < zs.length := by
      have := (List.getElem?_eq_some_iff.1 hj).1
      simpa using this
    obtain ⟨b, off, h0, hb, hc⟩ := (hA.grown (World.grownBy_alloc w (.cells #[.int k y] e) none)).at_ hjl
    injection h0 with h0
    subst h0
    rw [add_lit, hc j hjl]
    simp [hjl] at hj
    simp [List.getD, hjl, hj]
  refine wpList_append_grows (w.alloc (.cells #[.int k y] e)) hgd s x t ho e i (.int k 0) 1 bytes ht hi hz hsize hby rfl (by decide) (some ad) zs.length zs.length (zs.map (Value.int k)) hs (by simp) (by simp)
    (fun b hb => by injection hb with hb; subst hb; exact hnews) ⟨w.heap.size, 0, none⟩ 1 1 [.int k y] hx rfl (cell_one_new _ _ _) (by simp [Value.oneCell']) (by omega) (by unfold maxLen; omega) ?_ ?_
  · have : (zs.length + 1) * bytes ≤ (zs.length + 1) * 8 := Nat.mul_le_mul_left _ hb8
    omega
  · intro v' w' h1 h2
    have hle : base ≤ (w.alloc (.cells #[.int k y] e)).heap.size := by simp; omega
    refine h v' w' (by simpa using own_mono h1 hle) ?_
    exact ((Below.refl base w).alloc hbase _).trans (below_of_grown h2 hle (by simp))

end Go.Proofs.Ytojbfjlihenjaaa
