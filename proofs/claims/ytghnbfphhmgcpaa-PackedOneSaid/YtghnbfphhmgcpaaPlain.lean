/- Plain facts on numbers in bytes of seven bits: no program is named here. What a number's bytes are, how bytes are read back, and that reading gives back what was written. -/
set_option linter.unusedVariables false
set_option linter.unusedSimpArgs false
namespace Go.Proofs.Ytghnbfphhmgcpaa.Plain

/-- The bytes of a number. -/
def enc (n : Nat) : List Int := if n < 128 then [(n : Int)] else (128 + (n : Int) % 128) :: enc (n / 128)
termination_by n
decreasing_by omega

/-- May all these numbers be told? -/
def toldB (l : List Int) : Bool := l.all fun n => decide (0 ≤ n ∧ n ≤ 2147483647)

/-- The bytes of several numbers. -/
def encs (l : List Int) : List Int := l.flatMap fun n => enc n.toNat

/-- What reading one number comes to: an error, or the number and what is left. -/
inductive Got where
  | bad (e : Int)
  | good (n : Int) (rest : List Int)

/-- Reading on, the bytes i to 4 of a number whose bits so far are acc. -/
def takeFrom : Nat → Int → List Int → Got
  | _, _, [] => .bad 10
  | i, acc, c :: r =>
    if i = 5 then .bad 11
    else if 2147483647 < acc + c % 128 * 128 ^ i then .bad 11
    else if c = 0 ∧ 0 < i then .bad 12
    else if c < 128 then .good (acc + c % 128 * 128 ^ i) r
    else takeFrom (i + 1) (acc + c % 128 * 128 ^ i) r

def take (b : List Int) : Got := takeFrom 0 0 b

/-- What reading several numbers comes to. -/
inductive GotAll where
  | bad (e : Int)
  | good (l : List Int) (rest : List Int)

def takes : Nat → List Int → GotAll
  | 0, b => .good [] b
  | k + 1, b =>
    match take b with
    | .bad e => .bad e
    | .good n r =>
      match takes k r with
      | .bad e => .bad e
      | .good l r' => .good (n :: l) r'

def isByte (c : Int) : Prop := 0 ≤ c ∧ c ≤ 255

theorem toldB_iff (l : List Int) : toldB l = true ↔ ∀ n ∈ l, 0 ≤ n ∧ n ≤ 2147483647 := by
  simp [toldB]

theorem toldB_nil : toldB [] = true := rfl
theorem toldB_cons (n : Int) (l : List Int) : toldB (n :: l) = (decide (0 ≤ n ∧ n ≤ 2147483647) && toldB l) := rfl

theorem enc_ne (n : Nat) : enc n ≠ [] := by
  unfold enc; split <;> simp

theorem enc_pos (n : Nat) : 0 < (enc n).length := List.length_pos_iff.2 (enc_ne n)

theorem enc_small (n : Nat) (h : n < 128) : enc n = [(n : Int)] := by
  rw [enc, if_pos h]

theorem enc_big (n : Nat) (h : 128 ≤ n) : enc n = (128 + (n : Int) % 128) :: enc (n / 128) := by
  rw [enc, if_neg (by omega)]

theorem enc_byte (n : Nat) : ∀ c ∈ enc n, isByte c := by
  induction n using Nat.strongRecOn with
  | _ n ih =>
    intro c hc
    by_cases h : n < 128
    · rw [enc_small n h] at hc
      simp at hc; subst hc
      unfold isByte; omega
    · rw [enc_big n (by omega)] at hc
      rcases List.mem_cons.1 hc with rfl | hc
      · unfold isByte; omega
      · exact ih (n / 128) (by omega) c hc

theorem encs_byte (l : List Int) : ∀ c ∈ encs l, isByte c := by
  intro c hc
  obtain ⟨n, _, h⟩ := List.mem_flatMap.1 hc
  exact enc_byte _ c h

theorem enc_len5 (n : Nat) (h : n < 34359738368) : (enc n).length ≤ 5 := by
  by_cases h1 : n < 128
  · rw [enc_small n h1]; simp
  rw [enc_big n (by omega)]
  by_cases h2 : n / 128 < 128
  · rw [enc_small _ h2]; simp
  rw [enc_big _ (by omega)]
  by_cases h3 : n / 128 / 128 < 128
  · rw [enc_small _ h3]; simp
  rw [enc_big _ (by omega)]
  by_cases h4 : n / 128 / 128 / 128 < 128
  · rw [enc_small _ h4]; simp
  rw [enc_big _ (by omega)]
  rw [enc_small _ (by omega)]; simp

theorem encs_nil : encs [] = [] := rfl
theorem encs_cons (n : Int) (l : List Int) : encs (n :: l) = enc n.toNat ++ encs l := rfl
theorem encs_snoc (l : List Int) (n : Int) : encs (l ++ [n]) = encs l ++ enc n.toNat := by
  simp [encs]

theorem encs_len (l : List Int) (h : toldB l = true) : (encs l).length ≤ 5 * l.length := by
  induction l with
  | nil => simp [encs]
  | cons n l ih =>
    rw [toldB_cons, Bool.and_eq_true] at h
    have := ih h.2
    have h1 : 0 ≤ n ∧ n ≤ 2147483647 := by simpa using h.1
    have := enc_len5 n.toNat (by omega)
    rw [encs_cons, List.length_append, List.length_cons]
    omega

theorem encs_len_ge (l : List Int) : l.length ≤ (encs l).length := by
  induction l with
  | nil => simp
  | cons n l ih =>
    have := enc_pos n.toNat
    rw [encs_cons, List.length_append, List.length_cons]; omega

/-- Reading a number's bytes from place i on, whatever stands behind. -/
theorem takeFrom_enc (n : Nat) : ∀ (i : Nat) (acc : Int) (r : List Int), i + (enc n).length ≤ 5 → (0 < i → 0 < n) → 0 ≤ acc → acc + n * 128 ^ i ≤ 2147483647 →
    takeFrom i acc (enc n ++ r) = .good (acc + n * 128 ^ i) r := by
  induction n using Nat.strongRecOn with
  | _ n ih =>
    intro i acc r hi hn ha hb
    by_cases h : n < 128
    · rw [enc_small n h] at hi ⊢
      have hm : (n : Int) % 128 = n := by omega
      simp only [List.cons_append, List.nil_append, takeFrom, hm]
      rw [if_neg (by simp at hi; omega), if_neg (by omega), if_neg (by omega), if_pos (by omega)]
    · rw [enc_big n (by omega)] at hi ⊢
      have hm : (128 + (n : Int) % 128) % 128 = (n : Int) % 128 := by omega
      simp only [List.cons_append, takeFrom, hm]
      have hpow : (0 : Int) < 128 ^ i := Int.pow_pos (by omega)
      have hsplit : (n : Int) * 128 ^ i = (n : Int) % 128 * 128 ^ i + ((n / 128 : Nat) : Int) * 128 ^ (i + 1) := by
        rw [Int.pow_succ, Int.mul_comm (128 ^ i) 128, ← Int.mul_assoc, ← Int.add_mul]
        congr 1
        omega
      have hnn : 0 ≤ ((n / 128 : Nat) : Int) * 128 ^ (i + 1) := Int.mul_nonneg (by omega) (Int.le_of_lt (Int.pow_pos (by omega)))
      have hmm : 0 ≤ (n : Int) % 128 * 128 ^ i := Int.mul_nonneg (by omega) (by omega)
      rw [if_neg (by simp at hi; have := enc_pos (n / 128); omega), if_neg (by omega), if_neg (by omega), if_neg (by omega)]
      rw [ih (n / 128) (by omega) (i + 1) _ r (by simp at hi; omega) (by intro; omega) (by omega) (by omega)]
      congr 1
      omega

theorem take_enc (n : Int) (h0 : 0 ≤ n) (h1 : n ≤ 2147483647) (r : List Int) : take (enc n.toNat ++ r) = .good n r := by
  unfold take
  have hl := enc_len5 n.toNat (by omega)
  rw [takeFrom_enc n.toNat 0 0 r (by omega) (by omega) (by omega) (by rw [Int.pow_zero]; omega)]
  congr 1
  rw [Int.pow_zero]; omega

/-- **What is put is taken.** -/
theorem takes_encs (l : List Int) (h : toldB l = true) (r : List Int) : takes l.length (encs l ++ r) = .good l r := by
  induction l with
  | nil => rfl
  | cons n l ih =>
    rw [toldB_cons, Bool.and_eq_true] at h
    have h1 : 0 ≤ n ∧ n ≤ 2147483647 := by simpa using h.1
    rw [encs_cons, List.append_assoc, List.length_cons, takes, take_enc n h1.1 h1.2, ]
    simp only [ih h.2]

/-- With the last byte left out a number is too short. -/
theorem takeFrom_short (n : Nat) : ∀ (i : Nat) (acc : Int), i + (enc n).length ≤ 5 → 0 ≤ acc → acc + n * 128 ^ i ≤ 2147483647 →
    takeFrom i acc ((enc n).dropLast) = .bad 10 := by
  induction n using Nat.strongRecOn with
  | _ n ih =>
    intro i acc hi ha hb
    by_cases h : n < 128
    · rw [enc_small n h]; rfl
    · rw [enc_big n (by omega)] at hi ⊢
      have hm : (128 + (n : Int) % 128) % 128 = (n : Int) % 128 := by omega
      rw [List.dropLast_cons_of_ne_nil (enc_ne _)]
      simp only [takeFrom, hm]
      have hpow : (0 : Int) < 128 ^ i := Int.pow_pos (by omega)
      have hsplit : (n : Int) * 128 ^ i = (n : Int) % 128 * 128 ^ i + ((n / 128 : Nat) : Int) * 128 ^ (i + 1) := by
        rw [Int.pow_succ, Int.mul_comm (128 ^ i) 128, ← Int.mul_assoc, ← Int.add_mul]
        congr 1
        omega
      have hnn : 0 ≤ ((n / 128 : Nat) : Int) * 128 ^ (i + 1) := Int.mul_nonneg (by omega) (Int.le_of_lt (Int.pow_pos (by omega)))
      have hmm : 0 ≤ (n : Int) % 128 * 128 ^ i := Int.mul_nonneg (by omega) (by omega)
      rw [if_neg (by simp at hi; have := enc_pos (n / 128); omega), if_neg (by omega), if_neg (by omega), if_neg (by omega)]
      exact ih (n / 128) (by omega) (i + 1) _ (by simp at hi; omega) (by omega) (by omega)

theorem takes_short (l : List Int) (h : toldB l = true) (hne : l ≠ []) : takes l.length ((encs l).dropLast) = .bad 10 := by
  induction l with
  | nil => exact absurd rfl hne
  | cons n l ih =>
    rw [toldB_cons, Bool.and_eq_true] at h
    have h1 : 0 ≤ n ∧ n ≤ 2147483647 := by simpa using h.1
    by_cases hl : l = []
    · subst hl
      have hlen := enc_len5 n.toNat (by omega)
      have hs : take ((enc n.toNat).dropLast) = .bad 10 := takeFrom_short n.toNat 0 0 (by omega) (by omega) (by rw [Int.pow_zero]; omega)
      simp only [encs_cons, encs_nil, List.append_nil, List.length_cons, List.length_nil, takes, hs]
    · have hne2 : encs l ≠ [] := by
        have := encs_len_ge l
        intro e
        rw [e] at this
        exact hl (List.eq_nil_of_length_eq_zero (by simpa using this))
      rw [encs_cons, List.dropLast_append_of_ne_nil hne2, List.length_cons, takes, take_enc n h1.1 h1.2]
      simp only [ih h.2 hl]

/-- **What is taken has just those bytes**: one number. -/
theorem takeFrom_only (b : List Int) : ∀ (i : Nat) (acc n : Int) (r : List Int), (∀ c ∈ b, isByte c) → 0 ≤ acc → takeFrom i acc b = .good n r →
    ∃ m : Nat, n = acc + m * 128 ^ i ∧ n ≤ 2147483647 ∧ b = enc m ++ r ∧ (0 < i → 0 < m) := by
  induction b with
  | nil => intro i acc n r _ _ h; simp [takeFrom] at h
  | cons c b ih =>
    intro i acc n r hc ha h
    have hc0 : isByte c := hc c (by simp)
    unfold isByte at hc0
    have hpow : (0 : Int) < 128 ^ i := Int.pow_pos (by omega)
    simp only [takeFrom] at h
    by_cases h5 : i = 5
    · rw [if_pos h5] at h; cases h
    rw [if_neg h5] at h
    by_cases hg : 2147483647 < acc + c % 128 * 128 ^ i
    · rw [if_pos hg] at h; cases h
    rw [if_neg hg] at h
    by_cases hz : c = 0 ∧ 0 < i
    · rw [if_pos hz] at h; cases h
    rw [if_neg hz] at h
    by_cases hs : c < 128
    · rw [if_pos hs] at h
      injection h with h1 h2
      subst h2
      have hm : c % 128 = c := by omega
      rw [hm] at h1 hg
      refine ⟨c.toNat, ?_, by omega, ?_, by intro; omega⟩
      · rw [← h1, Int.toNat_of_nonneg hc0.1]
      · rw [enc_small _ (by omega), Int.toNat_of_nonneg hc0.1]; rfl
    · rw [if_neg hs] at h
      have hmm : 0 ≤ c % 128 * 128 ^ i := Int.mul_nonneg (by omega) (by omega)
      obtain ⟨m, hn, hle, hb, hp⟩ := ih (i + 1) _ n r (fun x hx => hc x (by simp [hx])) (by omega) h
      have hp := hp (by omega)
      refine ⟨(c % 128).toNat + 128 * m, ?_, hle, ?_, by intro; omega⟩
      · rw [hn, Int.pow_succ, Int.natCast_add, Int.natCast_mul, Int.toNat_of_nonneg (by omega), Int.add_mul, Int.mul_comm (128 ^ i) 128, ← Int.mul_assoc,
          Int.mul_comm ((128 : Nat) : Int) (m : Int)]
        simp only [Int.add_assoc]
        rfl
      · rw [enc_big _ (by omega), hb]
        have e1 : ((c % 128).toNat + 128 * m) / 128 = m := by omega
        have e2 : (128 : Int) + (((c % 128).toNat + 128 * m : Nat) : Int) % 128 = c := by omega
        rw [e1, e2]; rfl

theorem take_only (b : List Int) (n : Int) (r : List Int) (hb : ∀ c ∈ b, isByte c) (h : take b = .good n r) : 0 ≤ n ∧ n ≤ 2147483647 ∧ b = enc n.toNat ++ r := by
  obtain ⟨m, hn, hle, he, _⟩ := takeFrom_only b 0 0 n r hb (by omega) h
  rw [Int.pow_zero] at hn
  have : n.toNat = m := by omega
  rw [this]
  exact ⟨by omega, hle, he⟩

theorem takes_only (k : Nat) : ∀ (b l r : List Int), (∀ c ∈ b, isByte c) → takes k b = .good l r → l.length = k ∧ toldB l = true ∧ b = encs l ++ r := by
  induction k with
  | zero =>
    intro b l r _ h
    simp only [takes] at h
    injection h with h1 h2
    subst h1 h2
    exact ⟨rfl, rfl, rfl⟩
  | succ k ih =>
    intro b l r hb h
    simp only [takes] at h
    cases ht : take b with
    | bad e => rw [ht] at h; cases h
    | good n r1 =>
      rw [ht] at h
      simp only at h
      obtain ⟨h0, h1, he⟩ := take_only b n r1 hb ht
      cases hts : takes k r1 with
      | bad e => rw [hts] at h; cases h
      | good l1 r2 =>
        rw [hts] at h
        simp only at h
        injection h with g1 g2
        subst g1 g2
        obtain ⟨i1, i2, i3⟩ := ih r1 l1 r2 (fun c hc => hb c (by rw [he]; simp [hc])) hts
        refine ⟨by simp [i1], ?_, ?_⟩
        · rw [toldB_cons, i2]; simp [h0, h1]
        · rw [encs_cons, List.append_assoc, ← i3]; exact he

/-- Which errors there are. -/
theorem takeFrom_bad (b : List Int) : ∀ (i : Nat) (acc e : Int), takeFrom i acc b = .bad e → e = 10 ∨ e = 11 ∨ e = 12 := by
  induction b with
  | nil => intro i acc e h; simp [takeFrom] at h; omega
  | cons c b ih =>
    intro i acc e h
    simp only [takeFrom] at h
    split at h
    · injection h with h; omega
    split at h
    · injection h with h; omega
    split at h
    · injection h with h; omega
    split at h
    · cases h
    · exact ih _ _ _ h

theorem takes_bad (k : Nat) : ∀ (b : List Int) (e : Int), takes k b = .bad e → e = 10 ∨ e = 11 ∨ e = 12 := by
  induction k with
  | zero => intro b e h; simp [takes] at h
  | succ k ih =>
    intro b e h
    simp only [takes] at h
    cases ht : take b with
    | bad e1 =>
      rw [ht] at h
      injection h with h; subst h
      exact takeFrom_bad _ _ _ _ ht
    | good n r1 =>
      rw [ht] at h
      simp only at h
      cases hts : takes k r1 with
      | bad e2 =>
        rw [hts] at h
        injection h with h; subst h
        exact ih _ _ hts
      | good l1 r2 => rw [hts] at h; cases h

end Go.Proofs.Ytghnbfphhmgcpaa.Plain
