/- What stands behind the bytes that were passed; one number and several, and what stands behind them. -/
import Derived.Test.YtghnbfphhmgcpaaTakes
import Derived.Test.YtghnbfphhmgcpaaTelling
import Derived.StillTailTactics
set_option linter.unusedSimpArgs false
set_option linter.unusedVariables false
set_option maxRecDepth 100000
namespace Go.Proofs.Ytghnbfphhmgcpaa
open Go.RowKit Plain

theorem rest_any (bt : Nat) (A : Option Addr) (c : Nat) (bs : List Int) (i : Nat) (w : World) (hl : bs.length ≤ 100000) (hi : i ≤ bs.length) (hc : bs.length ≤ c) (hc2 : c ≤ maxLen)
    (ht : Holds w bt 93 #[.slice A bs.length c, .int .i64 i]) (hA : Arr w .u8 A bs) :
    Calls Try.prog 55 #[.pointer (some ⟨bt, 0, none⟩)] w (Gives .u8 (bs.drop i) w) := by
  unfold maxLen at hc2
  have h0 := ht.cell 0
  have h1 := ht.cell 1
  simp at h0 h1
  have hA1 := hid (hA.drop (i := i) hc)
  obtain ⟨i0, hi0, hz0, hz1, hz2⟩ := info_parts Try.info5
  clear ht hA
  go_enter Try.func55, Try.ntmps55
  go_wp2_with fail
  go_still_tail 9, (by kernel_rfl)
  change wpList _ _ _ _ _ w.drew
  have hAd : Arr w.drew .u8 (if c = i then A else A.map (fun x => x.add i)) (bs.drop i) := hA1.out
  clear hA1
  generalize (if c = i then A else A.map (fun x => x.add i)) = A1 at hAd ⊢
  refine wpList_append_all rfl _ _ 23 rfl w.heap.size 5 i0 .u8 1 Try.underlying23 hi0 hz0 hz1 hz2 _ [] (bs.drop i) _ (bs.length - i) (c - i) w.drew (World.ownsRow_nil _ _ _ _) hAd rfl rfl (by simp) (by decide) (by simp; omega) (Nat.le_refl _) ?_
  intro v' w1 hrow hB
  obtain ⟨A', c', rfl, hc1, hc3⟩ := own_form hrow
  rw [List.nil_append] at hrow hc1
  have hA' := hid (Arr.of_own (k := .u8) hrow)
  have hG : w.grownBy w1 none := below_grown ((Below.refl _ w).drew.trans hB)
  replace hG := hid hG
  clear hrow hB hAd
  simp only [List.nil_append]
  go_wp2
  go_ret
  exact ⟨A', c', by simp, hc1, hc3, hA'.out, hG.out⟩

/-- What Takes leaves. -/
def TakesLeaves (g : GotAll) (w : World) (e : Ending) (w' : World) : Prop :=
  ∃ (l rest : List Int) (er : Int) (A1 A2 : Option Addr) (c1 c2 : Nat), e = .returned (.tuple #[.slice A1 l.length c1, .slice A2 rest.length c2, .int .i64 er]) ∧ l.length ≤ c1 ∧ c1 ≤ maxLen ∧ Arr w' .i64 A1 l ∧
    rest.length ≤ c2 ∧ c2 ≤ maxLen ∧ Arr w' .u8 A2 rest ∧ w.grownBy w' none ∧ ((g = .good l rest ∧ er = 0) ∨ (g = .bad er ∧ er ≠ 0 ∧ l = [] ∧ rest = []))

theorem arr_away {w : World} {k : IntKind} {A : Option Addr} {zs : List Int} {g : Nat} (h : Arr w k A zs) (hg : w.heap.size ≤ g) : ∀ a, zs ≠ [] → A = some a → a.block ≠ g := fun a hz ha => by
  obtain ⟨b, off, rfl, hb, _⟩ := h hz
  injection ha with ha
  subst ha
  intro e
  simp only at e
  omega

set_option maxHeartbeats 400000 in
theorem Take_any (A : Option Addr) (c : Nat) (bs : List Int) (w : World) (hl : bs.length ≤ 100000) (hc : bs.length ≤ c) (hc2 : c ≤ maxLen) (hby : ∀ x ∈ bs, isByte x) (hA : Arr w .u8 A bs) :
    Calls Try.prog 46 #[.slice A bs.length c] w (TakeLeaves bs w) := by
  have hA1 := hid (hA.grown (World.grownBy_alloc w (Obj.cells #[.slice A bs.length c, .int .i64 0] 93) none))
  have haw := hid (arr_away hA (Nat.le_refl _))
  clear hA
  go_enter Try.func46, Try.ntmps46
  go_wp2_with fail
  refine (number_any w.heap.size A c bs 0 _ hl (Nat.zero_le _) hby (Holds.new w 93 _) hA1.out haw.out).mono ?_
  rintro e w1 ⟨i, n, er, rfl, hi, htold, hat, hG⟩
  have hG0 := grown_new (grown_trans_same (World.grownBy_alloc w _ (some w.heap.size)) hG) (fun j hj => by injection hj with hj; omega)
  rw [List.drop_zero] at htold
  rcases htold with ⟨htk, rfl⟩ | ⟨htk, rfl⟩
  · replace htk := hid htk
    have hA2 := hid (hA1.out.kept hG (fun a hz ha e => haw.out a hz ha (by injection e with e; exact e.symm)))
    clear hG
    go_wp2_with fail
    refine (rest_any w.heap.size A c bs i w1 hl hi hc hc2 hat hA2.out).mono ?_
    rintro e w2 ⟨A', c', rfl, h1, h2, h3, h4⟩
    clear hat
    have hG1 := hid (grown_trans hG0 h4)
    clear hG0 h4
    go_wp2
    go_ret3
    exact ⟨n, 0, bs.drop i, A', c', by simp, h1, h2, h3, hG1.out, .inl ⟨htk.out, rfl⟩⟩
  · have hne := take_bad_ne _ _ htk
    have hne' : (er != 0) = true := by simpa using hne
    replace htk := hid htk
    replace hne := hid hne
    replace hG0 := hid hG0
    clear hG hat
    go_wp2
    go_ret3
    exact ⟨0, er, [], none, 0, rfl, by simp, by simp, Arr.nil _, hG0.out, .inr ⟨htk.out, hne.out, rfl, rfl⟩⟩

end Go.Proofs.Ytghnbfphhmgcpaa
