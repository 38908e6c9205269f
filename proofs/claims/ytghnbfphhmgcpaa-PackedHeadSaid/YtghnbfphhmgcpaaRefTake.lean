/- The document's own answer: numbers of bytes. -/
import Derived.Test.YtghnbfphhmgcpaaTail
import Derived.Test.YtghnbfphhmgcpaaRefPut
set_option linter.unusedSimpArgs false
set_option linter.unusedVariables false
namespace Go.Proofs.Ytghnbfphhmgcpaa
open Go.RowKit Plain

section
variable {P : Program} {ops : Array Oper} {rest : List Oper} {o : Oper} {a : Act} {Q : Exit → Act → World → Prop}

/-- One integer more; of what was there the row's own block alone may turn. -/
theorem wpList_push_grown (hgd : o.guard = none) (s x : Operand) (t : TypeId) (ho : o.op = .call { callee := .builtin .append, args := #[s, x], argTypes := #[t, t] })
    (base : Nat) (e : TypeId) (i : TypeInfo) (k : IntKind) (bytes : Nat) (ht : P.underlying t = some (.slice e)) (hi : P.info? e = some i) (hz : i.zero = some (.int k 0)) (hsize : i.size = 1) (hby : i.bytes = bytes)
    (v : Value) (xs : List Int) (y : Int) (w : World) (hown : w.ownsRow base e 1 v xs.length (xs.map (Value.int k))) (hs : a.eval s = v)
    (hx : a.eval x = .slice (some ⟨w.heap.size, 0, none⟩) 1 1) (hb8 : bytes ≤ 8) (hlen : xs.length ≤ 1099511627776) (hbase : base ≤ w.heap.size)
    (h : ∀ v' w', w'.ownsRow base e 1 v' (xs ++ [y]).length ((xs ++ [y]).map (Value.int k)) → w.grownBy w' v.ownBlock → wpList P ops Q rest (a.put o.dst v') w') :
    wpList P ops Q (o :: rest) a (w.alloc (.cells #[.int k y] e)) := by
  refine wpList_append_own (w.alloc (.cells #[.int k y] e)) hgd s x t ho base e i (.int k 0) 1 bytes ht hi hz hsize hby rfl (by decide) v xs.length (xs.map (Value.int k)) hs (hown.alloc _) ⟨w.heap.size, 0, none⟩ 1 1 [.int k y] hx rfl
    (cell_one_new _ _ _) (by simp [Value.oneCell']) (by unfold maxLen; omega) ?_ (by simp; omega) ?_
  · have : (xs.length + 1) * bytes ≤ (xs.length + 1) * 8 := Nat.mul_le_mul_left _ hb8
    omega
  · intro v' w' h1 h2 _
    exact h v' w' (by simpa using h1) (grown_trans_same (World.grownBy_alloc w _ _) h2)
end

/-- What the document's own Take leaves: what stands behind lies in new memory. -/
def TakeLeavesNew (b : List Int) (w : World) (e : Ending) (w' : World) : Prop :=
  ∃ (n er : Int) (rest : List Int) (A : Option Addr) (c : Nat), e = .returned (.tuple #[.int .i64 n, .slice A rest.length c, .int .i64 er]) ∧ rest.length ≤ c ∧ c ≤ maxLen ∧ Arr w' .u8 A rest ∧
    w.grownBy w' none ∧ ((take b = .good n rest ∧ er = 0) ∨ (take b = .bad er ∧ er ≠ 0 ∧ n = 0 ∧ rest = [])) ∧ (∀ a, A = some a → w.heap.size ≤ a.block) ∧ w'.ownsRow w.heap.size 5 1 (.slice A rest.length c) rest.length (rest.map (Value.int .u8))

set_option maxRecDepth 100000 in
set_option maxHeartbeats 1000000 in
theorem refTake_new (A : Option Addr) (c : Nat) (bs : List Int) (w : World) (hl : bs.length ≤ 100000) (hc : bs.length ≤ c) (hc2 : c ≤ maxLen) (hby : ∀ x ∈ bs, isByte x) (hA : Arr w .u8 A bs) :
    Calls Try.prog 23 #[.slice A bs.length c] w (TakeLeavesNew bs w) := by
  unfold maxLen at hc2
  have hA1 := hid hA
  obtain ⟨i0, hi, hz0, hz1, hz2⟩ := info_parts Try.info5
  clear hA
  go_enter Try.func23, Try.ntmps23
  go_wp2
  go_loop [5, 6, 7] (fun n g i => ∃ (k : Nat) (acc : Int), k ≤ bs.length ∧ k ≤ 5 ∧ i = .int .i64 k ∧ n = .int .i64 acc ∧ g = .int .i64 (128 ^ k) ∧ 0 ≤ acc ∧ acc ≤ 2147483647 ∧ Hid (takeFrom k acc (bs.drop k) = take bs))
    (fun _ _ i => bs.length - (intOf i).toNat)
  case atStart => exact ⟨0, 0, by omega, by omega, rfl, rfl, by simp, by omega, by omega, by simp [Hid, take]⟩
  case round =>
    obtain ⟨k, acc, hk, hk5, rfl, rfl, rfl, ha0, ha1, hgo⟩ := hrel
    by_cases hlt : k < bs.length
    · obtain ⟨b, off, rfl, _, hcell⟩ := hA1.out.at_ hlt
      have hck := hcell k hlt
      have hyb := hby _ (show bs.getD k 0 ∈ bs by simp [List.getD, hlt])
      have hd : bs.drop k = bs.getD k 0 :: bs.drop (k + 1) := by rw [List.drop_eq_getElem_cons hlt]; simp [List.getD, hlt]
      have hgo' := hgo.out
      rw [hd] at hgo'
      unfold isByte at hyb
      generalize bs.getD k 0 = y at hck hyb hgo'
      have hp0 : (0 : Int) < 128 ^ k := Int.pow_pos (by omega)
      have hp1 : (128 : Int) ^ k ≤ 34359738368 := by
        have : k = 0 ∨ k = 1 ∨ k = 2 ∨ k = 3 ∨ k = 4 ∨ k = 5 := by omega
        rcases this with rfl | rfl | rfl | rfl | rfl | rfl <;> decide
      have hz0' : 0 ≤ y % 128 * 128 ^ k := Int.mul_nonneg (by omega) (by omega)
      have hz1' : y % 128 * 128 ^ k ≤ 127 * 34359738368 := Int.mul_le_mul (by omega) hp1 (by omega) (by omega)
      have hps : Hid ((128 : Int) ^ k * 128 = 128 ^ (k + 1)) := (Int.pow_succ 128 k).symm
      simp only [takeFrom] at hgo'
      clear hcell hgo hd
      by_cases h5 : k = 5
      · subst h5
        have hend := hid (show take bs = .bad 11 by rw [← hgo']; rfl)
        clear hgo' hps
        go_wp2_with fail
        go_ret3
        exact ⟨0, 11, [], none, 0, rfl, by simp, by simp, Arr.nil _, grown_refl _ _, .inr ⟨hend.out, by omega, rfl, rfl⟩, (fun a ha => by cases ha), World.ownsRow_nil _ _ _ _⟩
      have h5' : ((k : Int) == 5) = false := by simp; omega
      rw [if_neg h5] at hgo'
      by_cases hg : 2147483647 < acc + y % 128 * 128 ^ k
      · rw [if_pos hg] at hgo'
        have hend := hid hgo'.symm
        clear hgo' hps
        go_wp2_with fail
        go_ret3
        exact ⟨0, 11, [], none, 0, rfl, by simp, by simp, Arr.nil _, grown_refl _ _, .inr ⟨hend.out, by omega, rfl, rfl⟩, (fun a ha => by cases ha), World.ownsRow_nil _ _ _ _⟩
      rw [if_neg hg] at hgo'
      by_cases hy : y = 0 ∧ 0 < k
      · rw [if_pos hy] at hgo'
        have hend := hid hgo'.symm
        obtain ⟨rfl, hk0⟩ := hy
        clear hgo' hps
        go_wp2_with fail
        go_ret3
        exact ⟨0, 12, [], none, 0, rfl, by simp, by simp, Arr.nil _, grown_refl _ _, .inr ⟨hend.out, by omega, rfl, rfl⟩, (fun a ha => by cases ha), World.ownsRow_nil _ _ _ _⟩
      rw [if_neg hy] at hgo'
      by_cases hs : y < 128
      · rw [if_pos hs] at hgo'
        have hend := hid hgo'.symm
        have hrowE : (w.alloc (.cells #[] 5)).ownsRow w.heap.size 5 1 (.slice (some ⟨w.heap.size, 0, none⟩) 0 0) ([] : List Int).length (([] : List Int).map (Value.int .u8)) :=
          World.ownsRow_made w #[] 0 (Nat.le_refl _) (by simp) (by simp)
        have hAd := (hA1.out.grown (World.grownBy_alloc w (.cells #[] 5) none)).drop (i := k + 1) hc
        have hyz : k = 0 ∨ (y == 0) = false := by
          by_cases hk0 : k = 0
          · exact .inl hk0
          · exact .inr (by simp; omega)
        clear hgo' hps hy
        replace hAd := hid hAd
        rcases hyz with rfl | hyz
        all_goals
          try simp only [Nat.add_zero] at hck
          go_wp2_with (at_builtin; refine wpList_append_all rfl _ _ 23 rfl w.heap.size 5 i0 .u8 1 Try.underlying23 hi hz0 hz1 hz2 _ [] (bs.drop _) _ _ _ (w.alloc (.cells #[] 5)) hrowE hAd.out rfl rfl (by rw [List.length_drop]) (by decide) (by rw [List.length_drop]; simp; omega) (by simp) ?_; intro v' w1 hrow1 hB1)
          all_goals
            rw [List.nil_append] at hrow1
            obtain ⟨A', c', rfl, hc1, hc3⟩ := own_form hrow1
            have hA' := Arr.of_own (k := .u8) hrow1
            have hlt' := hrow1.lt
            go_ret3
            exact ⟨_, 0, _, A', c', rfl, hc1, hc3, hA', below_grown (((Below.refl _ w).alloc (Nat.le_refl _) _).trans hB1), .inl ⟨(by have h := hend.out; simpa using h), rfl⟩, (fun a ha => by subst ha; exact (hlt' a.block rfl).1), hrow1⟩
      · rw [if_neg hs] at hgo'
        have hgo2 : Hid (takeFrom (k + 1) (acc + y % 128 * 128 ^ k) (bs.drop (k + 1)) = take bs) := hgo'
        have hyz : (y == 0) = false := by simp; omega
        clear hgo' hy
        go_wp2_with fail
        all_goals
          go_round
          case rel => exact ⟨k + 1, acc + y % 128 * 128 ^ k, by omega, by omega, by go_num, rfl, by rw [← hps.out], by omega, by omega, hgo2⟩
          case measure => simp [intOf]; omega
    · obtain rfl : k = bs.length := by omega
      have hend := hgo.out
      rw [List.drop_length] at hend
      have hend' := hid (show take bs = .bad 10 by rw [← hend]; rfl)
      clear hend hgo
      go_wp2_with fail
      go_ret3
      exact ⟨0, 10, [], none, 0, rfl, by simp, by simp, Arr.nil _, grown_refl _ _, .inr ⟨hend'.out, by omega, rfl, rfl⟩, (fun a ha => by cases ha), World.ownsRow_nil _ _ _ _⟩

theorem refTake_any (A : Option Addr) (c : Nat) (bs : List Int) (w : World) (hl : bs.length ≤ 100000) (hc : bs.length ≤ c) (hc2 : c ≤ maxLen) (hby : ∀ x ∈ bs, isByte x) (hA : Arr w .u8 A bs) :
    Calls Try.prog 23 #[.slice A bs.length c] w (TakeLeaves bs w) :=
  (refTake_new A c bs w hl hc hc2 hby hA).mono fun e w' ⟨n, er, rest, A', c', h1, h2, h3, h4, h5, h6, _⟩ => ⟨n, er, rest, A', c', h1, h2, h3, h4, h5, h6⟩

end Go.Proofs.Ytghnbfphhmgcpaa
