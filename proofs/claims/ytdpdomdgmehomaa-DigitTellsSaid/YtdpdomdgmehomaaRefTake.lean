/- The document's own answer: numbers of bytes. -/
import Derived.Test.YtdpdomdgmehomaaRest
import Derived.Test.YtdpdomdgmehomaaRefPut
set_option linter.unusedVariables false
namespace Go.Proofs.Ytdpdomdgmehomaa
open Go.RowKit Plain

section
variable {P : Program} {ops : Array Oper} {rest : List Oper} {o : Oper} {a : Act} {Q : Exit → Act → World → Prop}

/-- One integer more; of what was there the row's own block alone may turn. -/
theorem wpList_push_grown (hgd : o.guard = none) (s x : Operand) (t : TypeId) (ho : o.op = .call { callee := .builtin .append, args := #[s, x], argTypes := #[t, t] })
    (base : Nat) (e : TypeId) (i : TypeInfo) (k : IntKind) (bytes : Nat) (ht : P.underlying t = some (.slice e)) (hi : P.info? e = some i) (hz : i.zero = some (.int k 0)) (hsize : i.size = 1) (hby : i.bytes = bytes)
    (v : Value) (xs : List Int) (y : Int) (w : World) (hown : w.ownsRow base e 1 v xs.length (xs.map (Value.int k))) (hs : a.eval s = v)
    (hx : a.eval x = .slice (some ⟨w.heap.size, 0, none⟩) 1 1) (hb8 : bytes ≤ 8) (hlen : xs.length ≤ 1099511627776) (hbase : base ≤ w.heap.size)
    (h : ∀ v' w', w'.ownsRow base e 1 v' (xs ++ [y]).length ((xs ++ [y]).map (Value.int k)) → w.grownBy w' v.ownBlock → wpList P ops Q rest (a.put o.dst v') w') :
    wpList P ops Q (o :: rest) a (w.alloc (.cells #[.int k y] e)) := by
  refine wpList_append_own (w.alloc (.cells #[.int k y] e)) hgd s x t ho base e i (.int k 0) 1 bytes ht hi hz hsize hby rfl (by decide) v xs.length (xs.map (Value.int k)) hs (hown.alloc _) ⟨w.heap.size, 0, none⟩ 1 1 [.int k y] hx rfl
    (cell_one_new _ _ _) (by simp [Value.oneCell']) (by unfold maxLen; omega) ?_ (by simp; omega) ?_
  · have : (xs.length + 1) * bytes ≤ (xs.length + 1) * 8 := Nat.mul_le_mul_left _ hb8
    omega
  · intro v' w' h1 h2 _
    exact h v' w' (by simpa using h1) (grown_trans_same (World.grownBy_alloc w _ _) h2)
end

/-- What the document's own Take leaves: what stands behind lies in new memory. -/
def TakeLeavesNew (b : List Int) (w : World) (e : Ending) (w' : World) : Prop :=
  ∃ (n er : Int) (rest : List Int) (A : Option Addr) (c : Nat), e = .returned (.tuple #[.int .i64 n, .slice A rest.length c, .int .i64 er]) ∧ rest.length ≤ c ∧ c ≤ maxLen ∧ Arr w' .u8 A rest ∧
    w.grownBy w' none ∧ ((take b = .good n rest ∧ er = 0) ∨ (take b = .bad er ∧ er ≠ 0 ∧ n = 0 ∧ rest = [])) ∧ ∀ a, A = some a → w.heap.size ≤ a.block

set_option maxRecDepth 100000 in
set_option maxHeartbeats 1000000 in
theorem refTake_new (A : Option Addr) (c : Nat) (bs : List Int) (w : World) (hl : bs.length ≤ 100000) (hc : bs.length ≤ c) (hc2 : c ≤ maxLen) (hby : ∀ x ∈ bs, isByte x) (hA : Arr w .u8 A bs) :
    Calls Try.prog 15 #[.slice A bs.length c] w (TakeLeavesNew bs w) := by
  unfold maxLen at hc2
  have hA1 := hid hA
  obtain ⟨i0, hi, hz0, hz1, hz2⟩ := info_parts Try.info5
  clear hA
  go_enter Try.func15, Try.ntmps15
  go_wp2
  go_loop [5, 6, 7] (fun n g i => ∃ (k : Nat) (acc : Int), k ≤ bs.length ∧ k ≤ 5 ∧ i = .int .i64 k ∧ n = .int .i64 acc ∧ g = .int .i64 (128 ^ k) ∧ 0 ≤ acc ∧ acc ≤ 2147483647 ∧ Hid (takeFrom k acc (bs.drop k) = take bs))
    (fun _ _ i => bs.length - (intOf i).toNat)
  case atStart => exact ⟨0, 0, by omega, by omega, rfl, rfl, by simp, by omega, by omega, by simp [Hid, take]⟩
  case round =>
    obtain ⟨k, acc, hk, hk5, rfl, rfl, rfl, ha0, ha1, hgo⟩ := hrel
    by_cases hlt : k < bs.length
    · obtain ⟨b, off, rfl, _, hcell⟩ := hA1.out.at_ hlt
      have hck := hcell k hlt
      have hyb := hby _ (show bs.getD k 0 ∈ bs by simp [List.getD, hlt])
      have hd : bs.drop k = bs.getD k 0 :: bs.drop (k + 1) := by rw [List.drop_eq_getElem_cons hlt]; simp [List.getD, hlt]
      have hgo' := hgo.out
      rw [hd] at hgo'
      unfold isByte at hyb
      generalize bs.getD k 0 = y at hck hyb hgo'
      have hp0 : (0 : Int) < 128 ^ k := Int.pow_pos (by omega)
      have hp1 : (128 : Int) ^ k ≤ 34359738368 := by
        have : k = 0 ∨ k = 1 ∨ k = 2 ∨ k = 3 ∨ k = 4 ∨ k = 5 := by omega
        rcases this with rfl | rfl | rfl | rfl | rfl | rfl <;> decide
      have hz0' : 0 ≤ y % 128 * 128 ^ k := Int.mul_nonneg (by omega) (by omega)
      have hz1' : y % 128 * 128 ^ k ≤ 127 * 34359738368 := Int.mul_le_mul (by omega) hp1 (by omega) (by omega)
      have hps : Hid ((128 : Int) ^ k * 128 = 128 ^ (k + 1)) := (Int.pow_succ 128 k).symm
      simp only [takeFrom] at hgo'
      clear hcell hgo hd
      by_cases h5 : k = 5
      · subst h5
        have hend := hid (show take bs = .bad 11 by rw [← hgo']; rfl)
        clear hgo' hps
        go_wp2_with fail
        go_ret3
        exact ⟨0, 11, [], none, 0, rfl, by simp, by simp, Arr.nil _, grown_refl _ _, .inr ⟨hend.out, by omega, rfl, rfl⟩, fun a ha => by cases ha⟩
      have h5' : ((k : Int) == 5) = false := by simp; omega
      rw [if_neg h5] at hgo'
      by_cases hg : 2147483647 < acc + y % 128 * 128 ^ k
      · rw [if_pos hg] at hgo'
        have hend := hid hgo'.symm
        clear hgo' hps
        go_wp2_with fail
        go_ret3
        exact ⟨0, 11, [], none, 0, rfl, by simp, by simp, Arr.nil _, grown_refl _ _, .inr ⟨hend.out, by omega, rfl, rfl⟩, fun a ha => by cases ha⟩
      rw [if_neg hg] at hgo'
      by_cases hy : y = 0 ∧ 0 < k
      · rw [if_pos hy] at hgo'
        have hend := hid hgo'.symm
        obtain ⟨rfl, hk0⟩ := hy
        clear hgo' hps
        go_wp2_with fail
        go_ret3
        exact ⟨0, 12, [], none, 0, rfl, by simp, by simp, Arr.nil _, grown_refl _ _, .inr ⟨hend.out, by omega, rfl, rfl⟩, fun a ha => by cases ha⟩
      rw [if_neg hy] at hgo'
      by_cases hs : y < 128
      · rw [if_pos hs] at hgo'
        have hend := hid hgo'.symm
        have hrowE : (w.alloc (.cells #[] 5)).ownsRow w.heap.size 5 1 (.slice (some ⟨w.heap.size, 0, none⟩) 0 0) ([] : List Int).length (([] : List Int).map (Value.int .u8)) :=
          World.ownsRow_made w #[] 0 (Nat.le_refl _) (by simp) (by simp)
        have hAd := (hA1.out.grown (World.grownBy_alloc w (.cells #[] 5) none)).drop (i := k + 1) hc
        have hyz : k = 0 ∨ (y == 0) = false := by
          by_cases hk0 : k = 0
          · exact .inl hk0
          · exact .inr (by simp; omega)
        clear hgo' hps hy
        replace hAd := hid hAd
        rcases hyz with rfl | hyz
        all_goals
          try simp only [Nat.add_zero] at hck
          go_wp2_with (at_builtin; refine wpList_append_all rfl _ _ 23 rfl w.heap.size 5 i0 .u8 1 Try.underlying23 hi hz0 hz1 hz2 _ [] (bs.drop _) _ _ _ (w.alloc (.cells #[] 5)) hrowE hAd.out rfl rfl (by rw [List.length_drop]) (by decide) (by rw [List.length_drop]; simp; omega) (by simp) ?_; intro v' w1 hrow1 hB1)
          all_goals
            rw [List.nil_append] at hrow1
            obtain ⟨A', c', rfl, hc1, hc3⟩ := own_form hrow1
            have hA' := Arr.of_own (k := .u8) hrow1
            have hlt' := hrow1.lt
            go_ret3
            exact ⟨_, 0, _, A', c', rfl, hc1, hc3, hA', below_grown (((Below.refl _ w).alloc (Nat.le_refl _) _).trans hB1), .inl ⟨(by have h := hend.out; simpa using h), rfl⟩, fun a ha => by subst ha; exact (hlt' a.block rfl).1⟩
      · rw [if_neg hs] at hgo'
        have hgo2 : Hid (takeFrom (k + 1) (acc + y % 128 * 128 ^ k) (bs.drop (k + 1)) = take bs) := hgo'
        have hyz : (y == 0) = false := by simp; omega
        clear hgo' hy
        go_wp2_with fail
        all_goals
          go_round
          case rel => exact ⟨k + 1, acc + y % 128 * 128 ^ k, by omega, by omega, by go_num, rfl, by rw [← hps.out], by omega, by omega, hgo2⟩
          case measure => simp [intOf]; omega
    · obtain rfl : k = bs.length := by omega
      have hend := hgo.out
      rw [List.drop_length] at hend
      have hend' := hid (show take bs = .bad 10 by rw [← hend]; rfl)
      clear hend hgo
      go_wp2_with fail
      go_ret3
      exact ⟨0, 10, [], none, 0, rfl, by simp, by simp, Arr.nil _, grown_refl _ _, .inr ⟨hend'.out, by omega, rfl, rfl⟩, fun a ha => by cases ha⟩

theorem refTake_any (A : Option Addr) (c : Nat) (bs : List Int) (w : World) (hl : bs.length ≤ 100000) (hc : bs.length ≤ c) (hc2 : c ≤ maxLen) (hby : ∀ x ∈ bs, isByte x) (hA : Arr w .u8 A bs) :
    Calls Try.prog 15 #[.slice A bs.length c] w (TakeLeaves bs w) :=
  (refTake_new A c bs w hl hc hc2 hby hA).mono fun e w' ⟨n, er, rest, A', c', h1, h2, h3, h4, h5, h6, _⟩ => ⟨n, er, rest, A', c', h1, h2, h3, h4, h5, h6⟩

theorem refTakes_neg (A : Option Addr) (n c : Nat) (many : Int) (w : World) (hm : many < 0) :
    Calls Try.prog 17 #[.slice A n c, .int .i64 many] w fun e w' => e = .returned (.tuple #[.slice none 0 0, .slice none 0 0, .int .i64 2]) ∧ w = w' := by
  go_enter Try.func17, Try.ntmps17
  go_wp2
  go_ret3
  exact ⟨rfl, rfl⟩

theorem take_bytes {b r : List Int} {n : Int} (hb : ∀ c ∈ b, isByte c) (h : take b = .good n r) : ∀ c ∈ r, isByte c := fun c hc => by
  obtain ⟨_, _, he⟩ := take_only b n r hb h
  exact hb c (by rw [he]; simp [hc])

set_option maxHeartbeats 1000000 in
theorem refTakes_any (A : Option Addr) (c : Nat) (bs : List Int) (many : Int) (w : World) (hl : bs.length ≤ 100000) (hc : bs.length ≤ c) (hc2 : c ≤ maxLen) (hby : ∀ x ∈ bs, isByte x) (hA : Arr w .u8 A bs)
    (hm0 : 0 ≤ many) (hm1 : many ≤ 9223372036854775807) :
    Calls Try.prog 17 #[.slice A bs.length c, .int .i64 many] w (TakesLeaves (takes many.toNat bs) w) := by
  obtain ⟨i0, hi, hz0, hz1, hz2⟩ := info_parts Try.info5
  obtain ⟨i3, hi3, hy0, hy1, hy2⟩ := info_parts Try.info3
  have hrowE : (w.alloc (.cells #[] 5)).ownsRow w.heap.size 5 1 (.slice (some ⟨w.heap.size, 0, none⟩) 0 0) ([] : List Int).length (([] : List Int).map (Value.int .u8)) :=
    World.ownsRow_made w #[] 0 (Nat.le_refl _) (by simp) (by simp)
  have hA1 := hA.grown (World.grownBy_alloc w (.cells #[] 5) none)
  clear hA
  go_enter Try.func17, Try.ntmps17
  go_wp2_with (at_builtin; refine wpList_append_all rfl _ _ 23 rfl w.heap.size 5 i0 .u8 1 Try.underlying23 hi hz0 hz1 hz2 _ [] bs _ _ _ (w.alloc (.cells #[] 5)) hrowE hA1 rfl rfl rfl (by decide) (by simp; omega) (by simp) ?_; intro v1 w1 hrow1 hB1)
  rw [List.nil_append] at hrow1
  obtain ⟨A1, c1, rfl, hc1, hd1⟩ := own_form hrow1
  have hAr := Arr.of_own (k := .u8) hrow1
  have hB0 := ((Below.refl _ w).alloc (Nat.le_refl _) (.cells #[] 5)).trans hB1
  clear hrow1 hB1 hrowE
  go_loopw [7, 8, 9] (fun u v j wr => ∃ (m : Nat) (l r : List Int) (A2 : Option Addr) (c2 : Nat), (m : Int) ≤ many ∧ j = .int .i64 m ∧ wr.ownsRow w.heap.size 3 1 u l.length (l.map (Value.int .i64)) ∧
      v = .slice A2 r.length c2 ∧ r.length ≤ c2 ∧ c2 ≤ maxLen ∧ Arr wr .u8 A2 r ∧ l.length + r.length ≤ bs.length ∧ Hid (∀ x ∈ r, isByte x) ∧
      Hid (prepend l (takes (many.toNat - m) r) = takes many.toNat bs) ∧ Below w.heap.size w wr) (fun _ _ j _ => (many - intOf j).toNat)
  case atStart => exact ⟨0, [], bs, A1, c1, by omega, rfl, World.ownsRow_nil _ _ _ _, by simp, hc1, hd1, hAr, by simp, hby, prepend_nil _, hB0⟩
  case round =>
    obtain ⟨m, l, r, A2, c2, hm, rfl, hrow, rfl, hc3, hd3, hAr2, hlr, hrb, hgo, hB⟩ := hrel
    by_cases hlt : (m : Int) < many
    · go_wp2_with fail
      refine (refTake_new A2 c2 r wr (by omega) hc3 hd3 hrb.out hAr2).mono ?_
      rintro e w2 ⟨n, er, rest, A4, c4, rfl, hc4, hd4, hA4, hg4, htold, hnew⟩
      have hB4 := hB.trans ((grown_below hg4).mono hB.size)
      have hrow4 := hrow.kept hg4 (by
        cases hv : u7.ownBlock with
        | none => exact .inl rfl
        | some j => exact .inr (by simp))
      rcases htold with ⟨htk, rfl⟩ | ⟨htk, hne, rfl, rfl⟩
      · have hsh := take_shorter _ _ _ _ _ htk
        have hrb' : Hid (∀ x ∈ rest, isByte x) := take_bytes hrb.out htk
        have hgo' : Hid (prepend (l ++ [n]) (takes (many.toNat - (m + 1)) rest) = takes many.toNat bs) := by
          rw [← hgo.out, show many.toNat - m = (many.toNat - (m + 1)) + 1 by omega]
          exact (takes_step _ _ _ _ _ htk).symm
        have hltr := hrow.lt
        clear htk hgo hrow hg4 hAr2 hB hrb
        go_wp2_with (at_builtin; refine wpList_push_grown rfl _ _ 22 rfl w.heap.size 3 i3 .i64 8 Try.underlying22 hi3 hy0 hy1 hy2 _ _ _ _ hrow4 rfl rfl (by decide) (by omega) (by have := hB4.size; omega) ?_; intro v' w3 hrow3 hg3)
        have hB3 : Below w.heap.size w2 w3 := below_of_grown hg3 hB4.size (fun j hj => (hrow4.lt j hj).1)
        have hA5 : Arr w3 .u8 A4 rest := hA4.kept hg3 (fun a hz ha e => by
          have h1 := (hltr _ e).2
          have h2 := hnew a ha
          omega)
        have hB5 := hB4.trans hB3
        clear hrow4 hB4 hA4 hB3 hnew hltr hg3
        go_roundw
        case rel => exact ⟨m + 1, l ++ [n], rest, A4, c4, by omega, by go_num, hrow3, rfl, hc4, hd4, hA5, by simp; omega, hrb', hgo', hB5⟩
        case measure => simp [intOf]; omega
      · have hne' : (er != 0) = true := by simpa using hne
        have hend : takes many.toNat bs = .bad er := by
          rw [← hgo.out, show many.toNat - m = (many.toNat - (m + 1)) + 1 by omega]
          exact takes_stop _ _ _ _ htk
        replace hend := hid hend
        replace hne := hid hne
        clear htk hgo hrow hrow4
        go_wp2
        go_ret3
        exact ⟨[], [], er, none, none, 0, 0, rfl, by simp, by simp, Arr.nil _, by simp, by simp, Arr.nil _, below_grown hB4, .inr ⟨hend.out, hne.out, rfl, rfl⟩⟩
    · obtain ⟨A', c', rfl, hc5, hd5⟩ := own_form hrow
      have hA2 := hid (Arr.of_own (k := .i64) hrow)
      have hend : takes many.toNat bs = .good l r := by
        rw [← hgo.out, show many.toNat - m = 0 by omega]
        simp [takes, prepend]
      replace hend := hid hend
      clear hgo hrow
      go_wp2
      go_ret3
      exact ⟨l, r, 0, A', A2, c', c2, rfl, hc5, hd5, hA2.out, hc3, hd3, hAr2, below_grown hB, .inl ⟨hend.out, rfl⟩⟩
end Go.Proofs.Ytdpdomdgmehomaa
