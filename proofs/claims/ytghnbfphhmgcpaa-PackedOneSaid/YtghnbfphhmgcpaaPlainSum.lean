/- Plain facts on a sum of bytes: no program is named here. -/
set_option linter.unusedVariables false
set_option linter.unusedSimpArgs false
namespace Go.Proofs.Ytghnbfphhmgcpaa.PlainSum

abbrev S := Int × Int

/-- A byte comes. -/
def feed1 (s : S) (c : Int) : S := ((s.1 + c) % 65521, (s.2 + (s.1 + c) % 65521) % 65521)
def feed (s : S) (bs : List Int) : S := bs.foldl feed1 s
def first : S := (1, 0)
def right (s : S) : Bool := decide (0 ≤ s.1 ∧ s.1 ≤ 65520 ∧ 0 ≤ s.2 ∧ s.2 ≤ 65520)
/-- What Feed tells. -/
def fed (s : S) (bs : List Int) : S := if right s = true then feed s bs else s
def value (s : S) : Int := if right s = true then s.2 * 65536 + s.1 else 0
def join (a b : S) (n : Int) : S := ((a.1 + b.1 - 1) % 65521, (a.2 + b.2 + n * a.1 - n) % 65521)
def mayJoin (a b : S) (n : Int) : Bool := right a && right b && decide (0 ≤ n ∧ n ≤ 2147483647)

theorem right_iff (s : S) : right s = true ↔ 0 ≤ s.1 ∧ s.1 ≤ 65520 ∧ 0 ≤ s.2 ∧ s.2 ≤ 65520 := by simp [right]
theorem right_start : right first = true := by decide
theorem feed_nil (s : S) : feed s [] = s := rfl
theorem feed_cons (s : S) (c : Int) (bs : List Int) : feed s (c :: bs) = feed (feed1 s c) bs := rfl
theorem feed_append (s : S) (x y : List Int) : feed s (x ++ y) = feed (feed s x) y := List.foldl_append
theorem feed_snoc (s : S) (x : List Int) (c : Int) : feed s (x ++ [c]) = feed1 (feed s x) c := by rw [feed_append]; rfl
theorem right_feed1 (s : S) (c : Int) : right (feed1 s c) = true := by rw [right_iff]; unfold feed1; omega
theorem right_feed (s : S) (bs : List Int) (h : right s = true) : right (feed s bs) = true := by
  induction bs generalizing s with
  | nil => exact h
  | cons c bs ih => rw [feed_cons]; exact ih _ (right_feed1 s c)
theorem fed_right (s : S) (bs : List Int) (h : right s = true) : fed s bs = feed s bs := if_pos h
theorem fed_wrong (s : S) (bs : List Int) (h : right s = false) : fed s bs = s := if_neg (by simp [h])
theorem right_join (a b : S) (n : Int) : right (join a b n) = true := by rw [right_iff]; unfold join; omega

theorem snoc_ind {p : List Int → Prop} (h0 : p []) (h1 : ∀ x c, p x → p (x ++ [c])) : ∀ l, p l := by
  intro l
  have : ∀ l : List Int, p l.reverse := by
    intro l
    induction l with
    | nil => simpa using h0
    | cons c l ih => rw [List.reverse_cons]; exact h1 _ _ ih
  have h := this l.reverse
  rwa [List.reverse_reverse] at h

/-- From any sum on, what comes is what it would come to from the first, joined. -/
theorem feed_join (s : S) (h : right s = true) (y : List Int) : feed s y = join s (feed first y) y.length := by
  induction y using snoc_ind with
  | h0 =>
    rw [right_iff] at h
    simp only [feed_nil, join, first, List.length_nil]
    apply Prod.ext
    · simp only; omega
    · simp only; omega
  | h1 x c ih =>
    rw [feed_snoc, feed_snoc, ih, List.length_append, List.length_singleton]
    generalize feed first x = t
    simp only [join, feed1]
    have e : ((x.length + 1 : Nat) : Int) * s.1 = (x.length : Int) * s.1 + s.1 := by rw [Int.natCast_add, Int.add_mul]; simp
    rw [e]
    generalize (x.length : Int) * s.1 = q
    apply Prod.ext
    · simp only; omega
    · simp only; omega

/-- **Parts joined.** -/
theorem join_parts (x y : List Int) : join (feed first x) (feed first y) y.length = feed first (x ++ y) := by
  rw [feed_append, feed_join (feed first x) (right_feed _ _ right_start) y]

def total (bs : List Int) : Int := bs.foldr (· + ·) 0

theorem feed_fst (bs : List Int) : ∀ s : S, right s = true → (feed s bs).1 = (s.1 + total bs) % 65521 := by
  induction bs with
  | nil => intro s h; rw [right_iff] at h; simp only [feed_nil, total, List.foldr_nil]; omega
  | cons c bs ih =>
    intro s h
    rw [feed_cons, ih _ (right_feed1 s c)]
    simp only [feed1, total, List.foldr_cons]
    omega

theorem total_set (bs : List Int) : ∀ (i : Nat) (c : Int), i < bs.length → total (bs.set i c) = total bs - bs.getD i 0 + c := by
  induction bs with
  | nil => intro i c h; simp at h
  | cons b bs ih =>
    intro i c h
    cases i with
    | zero => simp [total]; omega
    | succ i =>
      have := ih i c (by simpa using h)
      simp only [List.set_cons_succ, total, List.foldr_cons, List.getD_cons_succ] at *
      omega

/-- **One byte that is another one makes another sum.** -/
theorem one_other (bs : List Int) (i : Nat) (c : Int) (h : i < bs.length) (h0 : 0 ≤ c ∧ c ≤ 255) (h1 : 0 ≤ bs.getD i 0 ∧ bs.getD i 0 ≤ 255) (hne : c ≠ bs.getD i 0) :
    (feed first (bs.set i c)).1 ≠ (feed first bs).1 := by
  rw [feed_fst _ _ right_start, feed_fst _ _ right_start, total_set bs i c h]
  simp only [first]
  generalize total bs = t
  generalize bs.getD i 0 = b at *
  omega

theorem value_inj (s t : S) (hs : right s = true) (ht : right t = true) : value s = value t ↔ s = t := by
  unfold value
  rw [if_pos hs, if_pos ht]
  rw [right_iff] at hs ht
  constructor
  · intro h
    apply Prod.ext <;> omega
  · intro h; rw [h]

theorem value_bd (s : S) : 0 ≤ value s ∧ value s ≤ 4294967295 := by
  unfold value
  split
  · rename_i h; rw [right_iff] at h; omega
  · omega

theorem value_ne (s t : S) (hs : right s = true) (ht : right t = true) (h : s.1 ≠ t.1) : value s ≠ value t := by
  intro e
  exact h (by rw [(value_inj s t hs ht).1 e])

/-- A number in four bytes. -/
def four (v : Int) : List Int := [v / 16777216, v / 65536 % 256, v / 256 % 256, v % 256]
def number (b : List Int) : Int := b.getD 0 0 * 16777216 + b.getD 1 0 * 65536 + b.getD 2 0 * 256 + b.getD 3 0

theorem number_four (v : Int) (r : List Int) : number (four v ++ r) = v := by
  simp [number, four]
  omega

end Go.Proofs.Ytghnbfphhmgcpaa.PlainSum
