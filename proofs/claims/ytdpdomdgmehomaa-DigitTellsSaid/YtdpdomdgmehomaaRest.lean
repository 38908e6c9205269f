/- What stands behind the bytes that were passed; one number and several, and what stands behind them. -/
import Derived.Test.YtdpdomdgmehomaaTakes
import Derived.StillTailTactics
set_option linter.unusedVariables false
namespace Go.Proofs.Ytdpdomdgmehomaa
open Go.RowKit Plain

/-- What a call that tells a slice of integers leaves. -/
def Gives (k : IntKind) (zs : List Int) (w : World) (e : Ending) (w' : World) : Prop :=
  ∃ A c, e = .returned (.slice A zs.length c) ∧ zs.length ≤ c ∧ c ≤ maxLen ∧ Arr w' k A zs ∧ w.grownBy w' none

theorem rest_any (bt : Nat) (A : Option Addr) (c : Nat) (bs : List Int) (i : Nat) (w : World) (hl : bs.length ≤ 100000) (hi : i ≤ bs.length) (hc : bs.length ≤ c) (hc2 : c ≤ maxLen)
    (ht : Holds w bt 48 #[.slice A bs.length c, .int .i64 i]) (hA : Arr w .u8 A bs) :
    Calls Try.prog 23 #[.pointer (some ⟨bt, 0, none⟩)] w (Gives .u8 (bs.drop i) w) := by
  unfold maxLen at hc2
  have h0 := ht.cell 0
  have h1 := ht.cell 1
  simp at h0 h1
  have hA1 := hid (hA.drop (i := i) hc)
  obtain ⟨i0, hi0, hz0, hz1, hz2⟩ := info_parts Try.info5
  clear ht hA
  go_enter Try.func23, Try.ntmps23
  go_wp2_with fail
  go_still_tail 9, (by kernel_rfl)
  change wpList _ _ _ _ _ w.drew
  have hAd : Arr w.drew .u8 (if c = i then A else A.map (fun x => x.add i)) (bs.drop i) := hA1.out
  clear hA1
  generalize (if c = i then A else A.map (fun x => x.add i)) = A1 at hAd ⊢
  refine wpList_append_all rfl _ _ 23 rfl w.heap.size 5 i0 .u8 1 Try.underlying23 hi0 hz0 hz1 hz2 _ [] (bs.drop i) _ (bs.length - i) (c - i) w.drew (World.ownsRow_nil _ _ _ _) hAd rfl rfl (by simp) (by decide) (by simp; omega) (Nat.le_refl _) ?_
  intro v' w1 hrow hB
  obtain ⟨A', c', rfl, hc1, hc3⟩ := own_form hrow
  rw [List.nil_append] at hrow hc1
  have hA' := hid (Arr.of_own (k := .u8) hrow)
  have hG : w.grownBy w1 none := below_grown ((Below.refl _ w).drew.trans hB)
  replace hG := hid hG
  clear hrow hB hAd
  simp only [List.nil_append]
  go_wp2
  go_ret
  exact ⟨A', c', by simp, hc1, hc3, hA'.out, hG.out⟩

/-- What Take leaves. -/
def TakeLeaves (b : List Int) (w : World) (e : Ending) (w' : World) : Prop :=
  ∃ (n er : Int) (rest : List Int) (A : Option Addr) (c : Nat), e = .returned (.tuple #[.int .i64 n, .slice A rest.length c, .int .i64 er]) ∧ rest.length ≤ c ∧ c ≤ maxLen ∧ Arr w' .u8 A rest ∧
    w.grownBy w' none ∧ ((take b = .good n rest ∧ er = 0) ∨ (take b = .bad er ∧ er ≠ 0 ∧ n = 0 ∧ rest = []))

/-- What Takes leaves. -/
def TakesLeaves (g : GotAll) (w : World) (e : Ending) (w' : World) : Prop :=
  ∃ (l rest : List Int) (er : Int) (A1 A2 : Option Addr) (c1 c2 : Nat), e = .returned (.tuple #[.slice A1 l.length c1, .slice A2 rest.length c2, .int .i64 er]) ∧ l.length ≤ c1 ∧ c1 ≤ maxLen ∧ Arr w' .i64 A1 l ∧
    rest.length ≤ c2 ∧ c2 ≤ maxLen ∧ Arr w' .u8 A2 rest ∧ w.grownBy w' none ∧ ((g = .good l rest ∧ er = 0) ∨ (g = .bad er ∧ er ≠ 0 ∧ l = [] ∧ rest = []))

theorem arr_away {w : World} {k : IntKind} {A : Option Addr} {zs : List Int} {g : Nat} (h : Arr w k A zs) (hg : w.heap.size ≤ g) : ∀ a, zs ≠ [] → A = some a → a.block ≠ g := fun a hz ha => by
  obtain ⟨b, off, rfl, hb, _⟩ := h hz
  injection ha with ha
  subst ha
  intro e
  simp only at e
  omega

set_option maxHeartbeats 400000 in
theorem Take_any (A : Option Addr) (c : Nat) (bs : List Int) (w : World) (hl : bs.length ≤ 100000) (hc : bs.length ≤ c) (hc2 : c ≤ maxLen) (hby : ∀ x ∈ bs, isByte x) (hA : Arr w .u8 A bs) :
    Calls Try.prog 14 #[.slice A bs.length c] w (TakeLeaves bs w) := by
  have hA1 := hid (hA.grown (World.grownBy_alloc w (Obj.cells #[.slice A bs.length c, .int .i64 0] 48) none))
  have haw := hid (arr_away hA (Nat.le_refl _))
  clear hA
  go_enter Try.func14, Try.ntmps14
  go_wp2_with fail
  refine (number_any w.heap.size A c bs 0 _ hl (Nat.zero_le _) hby (Holds.new w 48 _) hA1.out haw.out).mono ?_
  rintro e w1 ⟨i, n, er, rfl, hi, htold, hat, hG⟩
  have hG0 := grown_new (grown_trans_same (World.grownBy_alloc w _ (some w.heap.size)) hG) (fun j hj => by injection hj with hj; omega)
  rw [List.drop_zero] at htold
  rcases htold with ⟨htk, rfl⟩ | ⟨htk, rfl⟩
  · replace htk := hid htk
    have hA2 := hid (hA1.out.kept hG (fun a hz ha e => haw.out a hz ha (by injection e with e; exact e.symm)))
    clear hG
    go_wp2_with fail
    refine (rest_any w.heap.size A c bs i w1 hl hi hc hc2 hat hA2.out).mono ?_
    rintro e w2 ⟨A', c', rfl, h1, h2, h3, h4⟩
    clear hat
    have hG1 := hid (grown_trans hG0 h4)
    clear hG0 h4
    go_wp2
    go_ret3
    exact ⟨n, 0, bs.drop i, A', c', by simp, h1, h2, h3, hG1.out, .inl ⟨htk.out, rfl⟩⟩
  · have hne := take_bad_ne _ _ htk
    have hne' : (er != 0) = true := by simpa using hne
    replace htk := hid htk
    replace hne := hid hne
    replace hG0 := hid hG0
    clear hG hat
    go_wp2
    go_ret3
    exact ⟨0, er, [], none, 0, rfl, by simp, by simp, Arr.nil _, hG0.out, .inr ⟨htk.out, hne.out, rfl, rfl⟩⟩

theorem ToldAll_bad (k : Nat) (b l rest : List Int) (er : Int) (h : ToldAll (takes k b) l er rest) : (takes k b = .good l rest ∧ er = 0) ∨ (takes k b = .bad er ∧ er ≠ 0 ∧ l = []) := by
  rcases h with h | ⟨h, hl⟩
  · exact .inl h
  · refine .inr ⟨h, ?_, hl⟩
    have := takes_bad k b er h
    omega

set_option maxHeartbeats 400000 in
theorem Takes_any (A : Option Addr) (c : Nat) (bs : List Int) (many : Int) (w : World) (hl : bs.length ≤ 100000) (hc : bs.length ≤ c) (hc2 : c ≤ maxLen) (hby : ∀ x ∈ bs, isByte x) (hA : Arr w .u8 A bs)
    (hm0 : 0 ≤ many) (hm1 : many ≤ 9223372036854775807) :
    Calls Try.prog 16 #[.slice A bs.length c, .int .i64 many] w (TakesLeaves (takes many.toNat bs) w) := by
  have hA1 := hid (hA.grown (World.grownBy_alloc w (Obj.cells #[.slice A bs.length c, .int .i64 0] 48) none))
  have haw := hid (arr_away hA (Nat.le_refl _))
  clear hA
  go_enter Try.func16, Try.ntmps16
  go_wp2_with fail
  refine (numbers_any w.heap.size A c bs 0 many _ hl (Nat.zero_le _) hby (Holds.new w 48 _) hA1.out haw.out hm0 hm1).mono ?_
  rintro e w1 ⟨i, l, er, A1, c1, rfl, hc3, hc4, hA3, hi, htold, hat, hG⟩
  have hG0 := grown_new (grown_trans_same (World.grownBy_alloc w _ (some w.heap.size)) hG) (fun j hj => by injection hj with hj; omega)
  rw [List.drop_zero] at htold
  rcases ToldAll_bad _ _ _ _ _ htold with ⟨htk, rfl⟩ | ⟨htk, hne, rfl⟩
  · replace htk := hid htk
    have hA2 := hid (hA1.out.kept hG (fun a hz ha e => haw.out a hz ha (by injection e with e; exact e.symm)))
    clear hG htold
    go_wp2_with fail
    refine (rest_any w.heap.size A c bs i w1 hl hi hc hc2 hat hA2.out).mono ?_
    rintro e w2 ⟨A', c', rfl, h1, h2, h3, h4⟩
    clear hat
    have hA4 := hid (hA3.grown h4)
    have hG1 := hid (grown_trans hG0 h4)
    clear hG0 h4 hA3
    go_wp2
    go_ret3
    exact ⟨l, bs.drop i, 0, A1, A', c1, c', by simp, hc3, hc4, hA4.out, h1, h2, h3, hG1.out, .inl ⟨htk.out, rfl⟩⟩
  · have hne' : (er != 0) = true := by simpa using hne
    replace htk := hid htk
    replace hne := hid hne
    replace hG0 := hid hG0
    clear hG hat htold
    go_wp2
    go_ret3
    exact ⟨[], [], er, none, none, 0, 0, rfl, by simp, by simp, Arr.nil _, by simp, by simp, Arr.nil _, hG0.out, .inr ⟨htk.out, hne.out, rfl, rfl⟩⟩

theorem Takes_neg (A : Option Addr) (n c : Nat) (many : Int) (w : World) (hm : many < 0) :
    Calls Try.prog 16 #[.slice A n c, .int .i64 many] w fun e w' => e = .returned (.tuple #[.slice none 0 0, .slice none 0 0, .int .i64 2]) ∧ w = w' := by
  go_enter Try.func16, Try.ntmps16
  go_wp2
  go_ret3
  exact ⟨rfl, rfl⟩
end Go.Proofs.Ytdpdomdgmehomaa
