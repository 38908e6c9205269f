/- Words in bytes: what they are, and what is read of bytes. Plain mathematics, of no program. -/
import Derived.Test.YtghnbfphhmgcpaaPlain
import Derived.Test.YtghnbfphhmgcpaaPlainSum
set_option linter.unusedSimpArgs false
set_option linter.unusedVariables false
namespace Go.Proofs.Ytghnbfphhmgcpaa.PlainPacked
open Plain PlainSum

def magic : List Int := [84, 83, 76, 49]
def flag (f : Bool) : Int := if f = true then 1 else 0
/-- Words, one behind the other, each behind its length. -/
def words : List (List Int) → List Int
  | [] => []
  | w :: ws => enc w.length ++ w ++ words ws
def aheadOf (f : Bool) (ws : List (List Int)) : List Int := magic ++ [flag f] ++ (enc ws.length ++ words ws)
def summed (b : List Int) : List Int := b ++ four (value (feed first b))
def put (f : Bool) (ws : List (List Int)) : List Int := summed (aheadOf f ws)

/-- The head's error, 0: none. -/
def headErr (b : List Int) : Int :=
  if b.length < 10 then 10
  else if b.take 4 = magic then
    if 1 < b.getD 4 0 then 41
    else if number (b.drop (b.length - 4)) = value (feed first (b.take (b.length - 4))) then 0 else 42
  else 40
def headFold (b : List Int) : Bool := decide (headErr b = 0) && (b.getD 4 0 == 1)

/-- So many words, from the beginning on, and what is left; none: it is no form. -/
def getWords : Nat → List Int → Option (List (List Int) × List Int)
  | 0, b => some ([], b)
  | k + 1, b =>
    match take b with
    | .bad _ => none
    | .good n r => if (r.length : Int) < n then none else (getWords k (r.drop n.toNat)).map fun x => (r.take n.toNat :: x.1, x.2)

/-- How many words, and these. -/
def getAll (b : List Int) : Option (List (List Int) × List Int) :=
  match take b with
  | .bad _ => none
  | .good n r => getWords n.toNat r

def between (b : List Int) : List Int := (b.take (b.length - 4)).drop 5

/-- What Take tells. -/
def got (b : List Int) : Bool × List (List Int) × Int :=
  if headErr b = 0 then
    match getAll (between b) with
    | none => (false, [], 12)
    | some (ws, r) => if r = [] then (headFold b, ws, 0) else (false, [], 43)
  else (false, [], headErr b)

def Told (ws : List (List Int)) : Prop := ws.length ≤ 2147483647 ∧ ∀ w ∈ ws, w.length ≤ 2147483647

theorem getWords_words : ∀ (ws : List (List Int)) (r : List Int), (∀ w ∈ ws, w.length ≤ 2147483647) → getWords ws.length (words ws ++ r) = some (ws, r)
  | [], r, _ => rfl
  | w :: ws, r, h => by
    have hw := h w (by simp)
    have ht := take_enc (w.length : Int) (by omega) (by omega) (w ++ (words ws ++ r))
    rw [Int.toNat_natCast] at ht
    have e : words (w :: ws) ++ r = enc w.length ++ (w ++ (words ws ++ r)) := by simp [words]
    rw [e]
    show getWords (ws.length + 1) _ = _
    simp only [getWords, ht]
    rw [if_neg (by simp only [List.length_append]; omega), Int.toNat_natCast, List.drop_left, List.take_left, getWords_words ws r (fun x hx => h x (by simp [hx]))]
    rfl

theorem getAll_words (ws : List (List Int)) (r : List Int) (h : Told ws) : getAll (enc ws.length ++ words ws ++ r) = some (ws, r) := by
  have ht := take_enc (ws.length : Int) (by omega) (by have := h.1; omega) (words ws ++ r)
  rw [Int.toNat_natCast] at ht
  unfold getAll
  rw [List.append_assoc, ht]
  simp only [Int.toNat_natCast]
  exact getWords_words ws r h.2

theorem getWords_only : ∀ (k : Nat) (b : List Int) (ws : List (List Int)) (r : List Int), (∀ c ∈ b, isByte c) → getWords k b = some (ws, r) →
    ws.length = k ∧ b = words ws ++ r ∧ ∀ w ∈ ws, w.length ≤ 2147483647
  | 0, b, ws, r, _, h => by
    simp only [getWords, Option.some.injEq, Prod.mk.injEq] at h
    obtain ⟨rfl, rfl⟩ := h
    exact ⟨rfl, rfl, by simp⟩
  | k + 1, b, ws, r, hb, h => by
    simp only [getWords] at h
    cases ht : take b with
    | bad e => rw [ht] at h; cases h
    | good n q =>
      rw [ht] at h
      obtain ⟨h0, h1, he⟩ := take_only b n q hb ht
      simp only at h
      by_cases hlt : (q.length : Int) < n
      · rw [if_pos hlt] at h; cases h
      · rw [if_neg hlt] at h
        cases hg : getWords k (q.drop n.toNat) with
        | none => rw [hg] at h; cases h
        | some x =>
          obtain ⟨ws', r'⟩ := x
          rw [hg] at h
          simp only [Option.map_some, Option.some.injEq, Prod.mk.injEq] at h
          obtain ⟨rfl, rfl⟩ := h
          have hq : ∀ c ∈ q.drop n.toNat, isByte c := fun c hc => hb c (by rw [he]; exact List.mem_append_right _ (List.mem_of_mem_drop hc))
          obtain ⟨hl, hbe, hw⟩ := getWords_only k _ _ _ hq hg
          have hlen : (q.take n.toNat).length = n.toNat := by rw [List.length_take]; omega
          refine ⟨by simp [hl], ?_, ?_⟩
          · simp only [words, hlen]
            rw [he]
            conv => lhs; rw [← List.take_append_drop n.toNat q, hbe]
            simp
          · intro w hw'
            rcases List.mem_cons.1 hw' with rfl | hw'
            · omega
            · exact hw w hw'

theorem getAll_only (b : List Int) (ws : List (List Int)) (r : List Int) (hb : ∀ c ∈ b, isByte c) (h : getAll b = some (ws, r)) : b = enc ws.length ++ words ws ++ r ∧ Told ws := by
  unfold getAll at h
  cases ht : take b with
  | bad e => rw [ht] at h; cases h
  | good n q =>
    rw [ht] at h
    obtain ⟨h0, h1, he⟩ := take_only b n q hb ht
    have hq : ∀ c ∈ q, isByte c := fun c hc => hb c (by rw [he]; simp [hc])
    obtain ⟨hl, hbe, hw⟩ := getWords_only _ _ _ _ hq h
    refine ⟨?_, by omega, hw⟩
    rw [hl, he, hbe, List.append_assoc]

/-- Of what is one list's bytes, no less tells a list. -/
theorem getAll_less (ws : List (List Int)) (q s : List Int) (h : Told ws) (hb : ∀ c ∈ q, isByte c) (he : enc ws.length ++ words ws = q ++ s) (hs : s ≠ []) : getAll q = none := by
  cases hg : getAll q with
  | none => rfl
  | some x =>
    obtain ⟨ws', r'⟩ := x
    obtain ⟨hq, ht⟩ := getAll_only q ws' r' hb hg
    have h1 := getAll_words ws [] h
    have h2 := getAll_words ws' (r' ++ s) ht
    rw [List.append_nil, he, hq, List.append_assoc, h2] at h1
    simp only [Option.some.injEq, Prod.mk.injEq, List.append_eq_nil_iff] at h1
    exact absurd h1.2.2 hs

theorem len_four (v : Int) : (four v).length = 4 := rfl
theorem len_summed (b : List Int) : (summed b).length = b.length + 4 := by simp [summed, len_four]
theorem summed_take (b : List Int) : (summed b).take ((summed b).length - 4) = b := by
  rw [len_summed, Nat.add_sub_cancel]; unfold summed; exact List.take_left
theorem summed_drop (b : List Int) : (summed b).drop ((summed b).length - 4) = four (value (feed first b)) := by
  rw [len_summed, Nat.add_sub_cancel]; unfold summed; exact List.drop_left
theorem number_four' (v : Int) : number (four v) = v := by have := number_four v []; rwa [List.append_nil] at this

/-- The head of bytes with their sum behind them. -/
theorem headErr_summed (x : Int) (m : List Int) (hx : x ≤ 1) (hm : m ≠ []) : headErr (summed (magic ++ [x] ++ m)) = 0 := by
  have hl : 0 < m.length := List.length_pos_iff.2 hm
  have hs := summed_take (magic ++ [x] ++ m)
  have hd := summed_drop (magic ++ [x] ++ m)
  unfold headErr
  rw [hs, hd, number_four', if_neg (by rw [len_summed]; simp [magic]; omega), if_pos (by simp [summed, magic]), if_neg (by simp [summed, magic]; omega), if_pos rfl]

theorem between_summed (x : Int) (m : List Int) : between (summed (magic ++ [x] ++ m)) = m := by
  unfold between; rw [summed_take]; simp [magic]

theorem getD4_summed (x : Int) (m : List Int) : (summed (magic ++ [x] ++ m)).getD 4 0 = x := by simp [summed, magic]

/-- Bytes between, with the right sum: what is told is what stands between. -/
theorem got_summed (f : Bool) (m : List Int) (hm : m ≠ []) : got (summed (magic ++ [flag f] ++ m)) =
    match getAll m with
    | none => (false, [], 12)
    | some (ws, r) => if r = [] then (f, ws, 0) else (false, [], 43) := by
  have h0 := headErr_summed (flag f) m (by cases f <;> decide) hm
  have hf : headFold (summed (magic ++ [flag f] ++ m)) = f := by
    unfold headFold; rw [h0, getD4_summed]; cases f <;> rfl
  unfold got
  rw [if_pos h0, between_summed, hf]

/-- **What is put is taken.** -/
theorem got_put (f : Bool) (ws : List (List Int)) (h : Told ws) : got (put f ws) = (f, ws, 0) := by
  have hne : enc ws.length ++ words ws ≠ [] := by simp [enc_ne]
  have ha := getAll_words ws [] h
  rw [List.append_nil] at ha
  unfold put aheadOf
  rw [got_summed f _ hne, ha]
  simp

/-- Bytes more behind the words. -/
theorem got_more (f : Bool) (ws : List (List Int)) (more : List Int) (h : Told ws) (hne : more ≠ []) : got (summed (aheadOf f ws ++ more)) = (false, [], 43) := by
  have h1 : enc ws.length ++ words ws ++ more ≠ [] := by simp [enc_ne]
  have e : aheadOf f ws ++ more = magic ++ [flag f] ++ (enc ws.length ++ words ws ++ more) := by simp [aheadOf]
  rw [e, got_summed f _ h1, getAll_words ws more h]
  simp [hne]

theorem ahead_len (f : Bool) (ws : List (List Int)) : (aheadOf f ws).length = 5 + ((enc ws.length).length + (words ws).length) := by simp [aheadOf, magic]; omega

/-- Fewer of them. -/
theorem got_less (f : Bool) (ws : List (List Int)) (n : Nat) (h : Told ws) (hb : ∀ c ∈ words ws, isByte c) (h0 : 6 ≤ n) (h1 : n < (aheadOf f ws).length) : got (summed ((aheadOf f ws).take n)) = (false, [], 12) := by
  have e : (aheadOf f ws).take n = magic ++ [flag f] ++ (enc ws.length ++ words ws).take (n - 5) := by
    unfold aheadOf
    rw [List.take_append, List.take_of_length_le (by simp [magic]; omega)]
    simp [magic]
  have hl := ahead_len f ws
  have hlen : (enc ws.length ++ words ws).length = (enc ws.length).length + (words ws).length := List.length_append
  have hne : (enc ws.length ++ words ws).take (n - 5) ≠ [] := by
    intro hh
    have := congrArg List.length hh
    rw [List.length_take] at this
    simp only [List.length_nil] at this
    omega
  have hd : (enc ws.length ++ words ws).drop (n - 5) ≠ [] := by
    intro hh
    have := congrArg List.length hh
    rw [List.length_drop] at this
    simp only [List.length_nil] at this
    omega
  have hq : ∀ c ∈ (enc ws.length ++ words ws).take (n - 5), isByte c := fun c hc => by
    rcases List.mem_append.1 (List.mem_of_mem_take hc) with h | h
    · exact enc_byte _ c h
    · exact hb c h
  rw [e, got_summed f _ hne, getAll_less ws _ _ h hq (List.take_append_drop _ _).symm hd]

theorem len_put (f : Bool) (ws : List (List Int)) : (put f ws).length = 9 + (enc ws.length).length + (words ws).length := by unfold put; rw [len_summed, ahead_len]; omega
theorem len_put10 (f : Bool) (ws : List (List Int)) : 10 ≤ (put f ws).length := by have := enc_pos ws.length; rw [len_put]; omega

theorem words_byte : ∀ (ws : List (List Int)), (∀ w ∈ ws, ∀ c ∈ w, isByte c) → ∀ c ∈ words ws, isByte c
  | [], _, c, hc => by cases hc
  | w :: ws, h, c, hc => by
    rcases List.mem_append.1 hc with hc | hc
    · rcases List.mem_append.1 hc with hc | hc
      · exact enc_byte _ c hc
      · exact h w (by simp) c hc
    · exact words_byte ws (fun x hx => h x (by simp [hx])) c hc

theorem ahead_byte (f : Bool) (ws : List (List Int)) (h : ∀ w ∈ ws, ∀ c ∈ w, isByte c) : ∀ c ∈ aheadOf f ws, isByte c := by
  intro c hc
  unfold aheadOf at hc
  rcases List.mem_append.1 hc with hc | hc
  · cases f <;> simp [magic, flag] at hc <;> rcases hc with rfl | rfl | rfl | rfl | rfl <;> (unfold isByte; omega)
  · rcases List.mem_append.1 hc with hc | hc
    · exact enc_byte _ c hc
    · exact words_byte ws h c hc

theorem four_byte (v : Int) (h : 0 ≤ v ∧ v ≤ 4294967295) : ∀ c ∈ four v, isByte c := by
  intro c hc
  simp only [four, List.mem_cons, List.not_mem_nil, or_false] at hc
  unfold isByte
  omega

theorem four_number (d : List Int) (hl : d.length = 4) (hb : ∀ c ∈ d, isByte c) : four (number d) = d := by
  obtain ⟨a, b, c, e, rfl⟩ : ∃ a b c e, d = [a, b, c, e] := by
    match d, hl with
    | [a, b, c, e], _ => exact ⟨a, b, c, e, rfl⟩
  have h1 := hb a (by simp)
  have h2 := hb b (by simp)
  have h3 := hb c (by simp)
  have h4 := hb e (by simp)
  unfold isByte at h1 h2 h3 h4
  simp only [number, four, List.getD_cons_zero, List.getD_cons_succ, List.cons.injEq, and_true]
  omega

/-- What the head told as right is. -/
theorem head_right (b : List Int) (h : headErr b = 0) : 10 ≤ b.length ∧ b.take 4 = magic ∧ b.getD 4 0 ≤ 1 ∧ number (b.drop (b.length - 4)) = value (feed first (b.take (b.length - 4))) := by
  unfold headErr at h
  by_cases h1 : b.length < 10
  · rw [if_pos h1] at h; omega
  rw [if_neg h1] at h
  by_cases h2 : b.take 4 = magic
  · rw [if_pos h2] at h
    by_cases h3 : 1 < b.getD 4 0
    · rw [if_pos h3] at h; omega
    rw [if_neg h3] at h
    by_cases h4 : number (b.drop (b.length - 4)) = value (feed first (b.take (b.length - 4)))
    · exact ⟨by omega, h2, by omega, h4⟩
    · rw [if_neg h4] at h; omega
  · rw [if_neg h2] at h; omega

/-- **What is taken, put again, has just the same bytes.** -/
theorem put_got (b : List Int) (f : Bool) (ws : List (List Int)) (hb : ∀ c ∈ b, isByte c) (h : got b = (f, ws, 0)) : put f ws = b ∧ Told ws := by
  unfold got at h
  by_cases h0 : headErr b = 0
  · rw [if_pos h0] at h
    obtain ⟨hl, hm, h4, hs⟩ := head_right b h0
    cases hg : getAll (between b) with
    | none => rw [hg] at h; simp at h
    | some x =>
      obtain ⟨ws', r⟩ := x
      rw [hg] at h
      simp only at h
      by_cases hr : r = []
      · rw [if_pos hr] at h
        simp only [Prod.mk.injEq, and_true] at h
        obtain ⟨rfl, rfl⟩ := h
        subst hr
        have hbb : ∀ c ∈ between b, isByte c := fun c hc => hb c (List.mem_of_mem_take (List.mem_of_mem_drop hc))
        obtain ⟨he, ht⟩ := getAll_only _ _ _ hbb hg
        rw [List.append_nil] at he
        refine ⟨?_, ht⟩
        have hf : flag (headFold b) = b.getD 4 0 := by
          have hx : isByte (b.getD 4 0) := by
            have : b.getD 4 0 ∈ b := by simp only [List.getD, List.getElem?_eq_getElem (show 4 < b.length by omega), Option.getD_some]; exact List.getElem_mem _
            exact hb _ this
          unfold isByte at hx
          unfold headFold
          rw [h0]
          by_cases h1 : b.getD 4 0 = 1
          · simp only [h1]; decide
          · have : b.getD 4 0 = 0 := by omega
            simp only [this]; decide
        have ha : aheadOf (headFold b) ws' = b.take (b.length - 4) := by
          unfold aheadOf
          rw [hf, ← he, ← hm]
          unfold between
          have e5 : b.take 4 ++ [b.getD 4 0] = b.take 5 := by
            rw [List.take_add_one (i := 4), List.getElem?_eq_getElem (show 4 < b.length by omega)]
            simp [List.getD, show 4 < b.length by omega]
          rw [e5]
          have e6 : b.take 5 = (b.take (b.length - 4)).take 5 := by rw [List.take_take, Nat.min_eq_left (by omega)]
          rw [e6, List.take_append_drop]
        unfold put summed
        rw [ha, ← hs, four_number _ (by simp; omega) (fun c hc => hb c (List.mem_of_mem_drop hc)), List.take_append_drop]
      · rw [if_neg hr] at h; simp at h
  · rw [if_neg h0] at h
    simp only [Prod.mk.injEq] at h
    exact absurd h.2.2 h0

theorem number_other (v : Int) (j : Nat) (c : Int) (hj : j < 4) (h : c ≠ (four v).getD j 0) : number ((four v).set j c) ≠ v := by
  match j, hj with
  | 0, _ => simp [number, four] at h ⊢; omega
  | 1, _ => simp [number, four] at h ⊢; omega
  | 2, _ => simp [number, four] at h ⊢; omega
  | 3, _ => simp [number, four] at h ⊢; omega

/-- **One byte that is another one: which error.** -/
theorem one_err (f : Bool) (ws : List (List Int)) (i : Nat) (c : Int) (hw : ∀ w ∈ ws, ∀ c ∈ w, isByte c) (hi : i < (put f ws).length) (hc : isByte c) (hne : c ≠ (put f ws).getD i 0) :
    headErr ((put f ws).set i c) = if i < 4 then 40 else if i = 4 ∧ 1 < c then 41 else 42 := by
  have hbA := ahead_byte f ws hw
  have h10 := len_put10 f ws
  have hlA : (put f ws).length = (aheadOf f ws).length + 4 := len_summed _
  have hlen : ((put f ws).set i c).length = (aheadOf f ws).length + 4 := by rw [List.length_set, hlA]
  have hA4 : (aheadOf f ws).take 4 = magic := by simp [aheadOf, magic]
  have hA4' : (aheadOf f ws).getD 4 0 = flag f := by simp [aheadOf, magic]
  have hfl : flag f ≤ 1 := by cases f <;> decide
  unfold headErr
  rw [hlen, if_neg (by omega), Nat.add_sub_cancel]
  by_cases hin : i < (aheadOf f ws).length
  · have e : (put f ws).set i c = (aheadOf f ws).set i c ++ four (value (feed first (aheadOf f ws))) := by unfold put summed; rw [List.set_append, if_pos hin]
    have hge : (put f ws).getD i 0 = (aheadOf f ws).getD i 0 := by unfold put summed; simp [List.getD, List.getElem?_append_left hin]
    rw [hge] at hne
    have hx : isByte ((aheadOf f ws).getD i 0) := hbA _ (by simp only [List.getD, List.getElem?_eq_getElem hin, Option.getD_some]; exact List.getElem_mem _)
    have hv := value_ne (feed first ((aheadOf f ws).set i c)) (feed first (aheadOf f ws)) (right_feed _ _ right_start) (right_feed _ _ right_start) (one_other _ i c hin hc hx hne)
    have ht : ((put f ws).set i c).take (aheadOf f ws).length = (aheadOf f ws).set i c := by rw [e]; exact List.take_left' (by simp)
    have hd : ((put f ws).set i c).drop (aheadOf f ws).length = four (value (feed first (aheadOf f ws))) := by rw [e]; exact List.drop_left' (by simp)
    rw [ht, hd, number_four', if_neg (c := _ = _) (fun h => hv h.symm)]
    have h4 : ((put f ws).set i c).take 4 = (magic).set i c := by
      rw [e, List.take_append_of_le_length (by simp; omega), List.take_set, hA4]
    rw [h4]
    by_cases hi4 : i < 4
    · rw [if_pos hi4, if_neg]
      intro hm
      have hgi : (aheadOf f ws).getD i 0 = magic.getD i 0 := by rw [← hA4]; simp [List.getD, List.getElem?_take, hi4]
      have := congrArg (fun l => l.getD i 0) hm
      simp only [List.getD, List.getElem?_set_self (show i < magic.length from hi4), Option.getD_some] at this
      exact hne (by rw [hgi, this]; rfl)
    · rw [if_neg hi4]
      have hm : magic.set i c = magic := List.set_eq_of_length_le (by simp [magic]; omega)
      rw [if_pos hm]
      by_cases hi5 : i = 4
      · subst hi5
        have : ((put f ws).set 4 c).getD 4 0 = c := by simp [List.getD, hi]
        rw [this]
        by_cases h1 : 1 < c
        · rw [if_pos h1, if_pos ⟨rfl, h1⟩]
        · rw [if_neg h1, if_neg (by omega)]
      · have : ((put f ws).set i c).getD 4 0 = flag f := by
          rw [← hA4', e]
          simp only [List.getD]
          rw [List.getElem?_append_left (by simp; omega), List.getElem?_set_ne (by omega)]
        rw [this, if_neg (by omega), if_neg (by omega)]
  · have hj : i - (aheadOf f ws).length < 4 := by omega
    have e : (put f ws).set i c = aheadOf f ws ++ (four (value (feed first (aheadOf f ws)))).set (i - (aheadOf f ws).length) c := by unfold put summed; rw [List.set_append, if_neg hin]
    have hge : (put f ws).getD i 0 = (four (value (feed first (aheadOf f ws)))).getD (i - (aheadOf f ws).length) 0 := by unfold put summed; simp only [List.getD]; rw [List.getElem?_append_right (by omega)]
    rw [hge] at hne
    have hv := number_other _ _ c hj hne
    have ht : ((put f ws).set i c).take (aheadOf f ws).length = aheadOf f ws := by rw [e]; exact List.take_left
    have hd : ((put f ws).set i c).drop (aheadOf f ws).length = (four (value (feed first (aheadOf f ws)))).set (i - (aheadOf f ws).length) c := by rw [e]; exact List.drop_left
    have h4 : ((put f ws).set i c).take 4 = magic := by rw [e, List.take_append_of_le_length (by omega), hA4]
    have h5 : ((put f ws).set i c).getD 4 0 = flag f := by
      rw [← hA4', e]
      simp only [List.getD]
      rw [List.getElem?_append_left (by omega)]
    rw [ht, hd, h4, h5, if_pos rfl, if_neg (by omega), if_neg hv, if_neg (by omega), if_neg (by omega)]

theorem got_err (b : List Int) (h : headErr b ≠ 0) : got b = (false, [], headErr b) := if_neg h

/-- Whatever is told, it is this: the head's error, or a form's, or a rest's, or a list. -/
theorem got_cases (b : List Int) : (headErr b ≠ 0 ∧ got b = (false, [], headErr b)) ∨ (headErr b = 0 ∧ (got b = (false, [], 12) ∨ got b = (false, [], 43) ∨ ∃ ws, got b = (headFold b, ws, 0))) := by
  by_cases h : headErr b = 0
  · refine .inr ⟨h, ?_⟩
    unfold got
    rw [if_pos h]
    cases getAll (between b) with
    | none => exact .inl rfl
    | some x =>
      obtain ⟨ws, r⟩ := x
      by_cases hr : r = []
      · exact .inr (.inr ⟨ws, by simp [hr]⟩)
      · exact .inr (.inl (by simp [hr]))
  · exact .inl ⟨h, got_err b h⟩

/-- The head of four bytes, flags, bytes between and a sum. -/
theorem headErr_of (m : List Int) (x v : Int) (z : List Int) (hm : m.length = 4) : headErr (m ++ [x] ++ z ++ four v) =
    if z = [] then 10 else if m = magic then if 1 < x then 41 else if v = value (feed first (m ++ [x] ++ z)) then 0 else 42 else 40 := by
  have hl : (m ++ [x] ++ z ++ four v).length = 9 + z.length := by simp [len_four]; omega
  have ht : (m ++ [x] ++ z ++ four v).take (9 + z.length - 4) = m ++ [x] ++ z := by
    rw [show 9 + z.length - 4 = (m ++ [x] ++ z).length by simp; omega]; exact List.take_left
  have hd : (m ++ [x] ++ z ++ four v).drop (9 + z.length - 4) = four v := by
    rw [show 9 + z.length - 4 = (m ++ [x] ++ z).length by simp; omega]; exact List.drop_left
  have h4 : (m ++ [x] ++ z ++ four v).take 4 = m := by
    rw [List.append_assoc, List.append_assoc, ← hm]; exact List.take_left
  have h5 : (m ++ [x] ++ z ++ four v).getD 4 0 = x := by
    simp only [List.getD]
    rw [List.append_assoc, List.append_assoc, List.getElem?_append_right (by omega), hm]
    simp
  unfold headErr
  rw [hl, ht, hd, h4, h5, number_four']
  by_cases hz : z = []
  · subst hz; rfl
  · have := List.length_pos_iff.2 hz
    rw [if_neg (by omega), if_neg hz]

end Go.Proofs.Ytghnbfphhmgcpaa.PlainPacked
