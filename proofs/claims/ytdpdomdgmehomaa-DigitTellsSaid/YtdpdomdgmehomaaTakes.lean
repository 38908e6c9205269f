/- Several numbers, taken one behind the other; what stands behind them. -/
import Derived.Test.YtdpdomdgmehomaaNumber
import Derived.Test.YtdpdomdgmehomaaAdd
namespace Go.Proofs.Ytdpdomdgmehomaa
open Go.RowKit Plain

/-- What taking several numbers has come to. -/
def ToldAll (g : GotAll) (l : List Int) (er : Int) (rest : List Int) : Prop := (g = .good l rest ∧ er = 0) ∨ (g = .bad er ∧ l = [])

def prepend (l : List Int) : GotAll → GotAll
  | .bad e => .bad e
  | .good l' r => .good (l ++ l') r

theorem prepend_nil (g : GotAll) : prepend [] g = g := by cases g <;> rfl

theorem takes_step (m : Nat) (b : List Int) (n : Int) (r l : List Int) (h : take b = .good n r) : prepend l (takes (m + 1) b) = prepend (l ++ [n]) (takes m r) := by
  simp only [takes, h]
  cases takes m r <;> simp [prepend]

theorem takes_stop (m : Nat) (b : List Int) (er : Int) (l : List Int) (h : take b = .bad er) : prepend l (takes (m + 1) b) = .bad er := by
  simp only [takes, h]
  rfl

theorem take_shorter (b : List Int) : ∀ (i : Nat) (acc n : Int) (r : List Int), takeFrom i acc b = .good n r → r.length < b.length := by
  induction b with
  | nil => intro i acc n r h; simp [takeFrom] at h
  | cons c b ih =>
    intro i acc n r h
    simp only [takeFrom] at h
    split at h
    · cases h
    split at h
    · cases h
    split at h
    · cases h
    split at h
    · injection h with _ h; subst h; simp
    · have := ih _ _ _ _ h; simp; omega

theorem take_bad_ne (b : List Int) (er : Int) (h : take b = .bad er) : er ≠ 0 := by
  have := takeFrom_bad b 0 0 er h
  omega

theorem grown_then_below {w w' w'' : World} {row : Option Nat} (h : w.grownBy w' row) (hB : Below w.heap.size w' w'') : w.grownBy w'' row :=
  ⟨hB.os.trans h.os, hB.tape.trans h.tape, hB.output.trans h.output, Nat.le_trans h.size hB.size, fun j hj hr => (hB.block j hj).trans (h.block j hj hr)⟩

theorem Holds.below {w w' : World} {B g : Nat} {t : TypeId} {cs : Array Value} (h : Holds w g t cs) (hB : Below B w w') (hg : g < B) : Holds w' g t cs := (hB.block g hg).trans h

set_option maxHeartbeats 1000000 in
theorem numbers_any (bt : Nat) (A : Option Addr) (c : Nat) (bs : List Int) (k : Nat) (many : Int) (w : World) (hl : bs.length ≤ 100000) (hk : k ≤ bs.length) (hby : ∀ x ∈ bs, isByte x)
    (ht : Holds w bt 48 #[.slice A bs.length c, .int .i64 k]) (hA : Arr w .u8 A bs) (hAb : ∀ a, bs ≠ [] → A = some a → a.block ≠ bt) (hm0 : 0 ≤ many) (hm1 : many ≤ 9223372036854775807) :
    Calls Try.prog 24 #[.pointer (some ⟨bt, 0, none⟩), .int .i64 many] w fun e w' => ∃ (i : Nat) (l : List Int) (er : Int) (A' : Option Addr) (c' : Nat),
      e = .returned (.tuple #[.slice A' l.length c', .int .i64 er]) ∧ l.length ≤ c' ∧ c' ≤ maxLen ∧ Arr w' .i64 A' l ∧ i ≤ bs.length ∧ ToldAll (takes many.toNat (bs.drop k)) l er (bs.drop i) ∧
      Holds w' bt 48 #[.slice A bs.length c, .int .i64 i] ∧ w.grownBy w' (some bt) := by
  obtain ⟨i0, hi, hz0, hz1, hz2⟩ := info_parts Try.info3
  have hbt := ht.lt
  have hT := hid ht
  have hArr := hid hA
  clear ht hA
  go_enter Try.func24, Try.ntmps24
  go_wp2_with fail
  go_loopw [6, 10] (fun u j wr => ∃ (m : Nat) (l : List Int) (i : Nat), (m : Int) ≤ many ∧ j = .int .i64 m ∧ wr.ownsRow w.heap.size 3 1 u l.length (l.map (Value.int .i64)) ∧ l.length ≤ i ∧ i ≤ bs.length ∧
      Hid (prepend l (takes (many.toNat - m) (bs.drop i)) = takes many.toNat (bs.drop k)) ∧ Holds wr bt 48 #[.slice A bs.length c, .int .i64 i] ∧ w.grownBy wr (some bt)) (fun _ j _ => (many - intOf j).toNat)
  case atStart => exact ⟨0, [], k, by omega, rfl, World.ownsRow_nil _ _ _ _, by simp, hk, prepend_nil _, hT.out, grown_refl _ _⟩
  case round =>
    obtain ⟨m, l, i, hm, rfl, hrow, hli, hib, hgo, hat, hG⟩ := hrel
    have hA' : Arr wr .u8 A bs := hArr.out.kept hG (fun a hz ha e => hAb a hz ha (by injection e with e; exact e.symm))
    by_cases hlt : (m : Int) < many
    · go_wp2_with fail
      refine (number_any bt A c bs i wr hl hib hby hat hA' hAb).mono ?_
      rintro e w1 ⟨i', n, er, rfl, hi', htold, hat1, hG1⟩
      have hrow1 := hrow.kept hG1 (by
        cases hv : u6.ownBlock with
        | none => exact .inl rfl
        | some j => exact .inr (by have := (hrow.lt j hv).1; intro e; injection e with e; omega))
      have hG2 := grown_trans_same hG hG1
      rcases htold with ⟨htk, rfl⟩ | ⟨htk, rfl⟩
      · have hsh := take_shorter _ _ _ _ _ htk
        simp only [List.length_drop] at hsh
        have hgo' : Hid (prepend (l ++ [n]) (takes (many.toNat - (m + 1)) (bs.drop i')) = takes many.toNat (bs.drop k)) := by
          rw [← hgo.out, show many.toNat - m = (many.toNat - (m + 1)) + 1 by omega]
          exact (takes_step _ _ _ _ _ htk).symm
        clear htk hgo hat hA' hrow hG1
        go_wp2_with (at_builtin; refine wpList_push rfl _ _ 22 rfl w.heap.size 3 i0 .i64 8 Try.underlying22 hi hz0 hz1 hz2 _ _ _ _ hrow1 rfl rfl (by decide) (by omega) (by have := hG2.size; omega) ?_; intro v' w2 hrow2 hB2)
        have hat2 := hat1.below hB2 hbt
        have hG3 := grown_then_below hG2 hB2
        clear hrow1 hB2 hat1 hG2
        go_roundw
        case rel => exact ⟨m + 1, l ++ [n], i', by omega, by go_num, hrow2, by simp; omega, hi', hgo', hat2, hG3⟩
        case measure => simp [intOf]; omega
      · have hne := take_bad_ne _ _ htk
        have hne' : (er != 0) = true := by simpa using hne
        have hend : takes many.toNat (bs.drop k) = .bad er := by
          rw [← hgo.out, show many.toNat - m = (many.toNat - (m + 1)) + 1 by omega]
          exact takes_stop _ _ _ _ htk
        replace hend := hid hend
        clear htk hgo hne
        go_wp2
        go_ret2
        exact ⟨i', [], er, none, 0, rfl, by simp, by simp, Arr.nil _, hi', .inr ⟨hend.out, rfl⟩, hat1, hG2⟩
    · obtain ⟨A', c', rfl, hc1, hc2⟩ := own_form hrow
      have hA2 := hid (Arr.of_own (k := .i64) hrow)
      have hend : takes many.toNat (bs.drop k) = .good l (bs.drop i) := by
        rw [← hgo.out, show many.toNat - m = 0 by omega]
        simp [takes, prepend]
      replace hend := hid hend
      clear hgo hA'
      go_wp2
      go_ret2
      exact ⟨i, l, 0, A', c', rfl, hc1, hc2, hA2.out, hib, .inl ⟨hend.out, rfl⟩, hat, hG⟩
end Go.Proofs.Ytdpdomdgmehomaa
