/- A tree that grows node by node: which words go on, where the next node stands. Plain mathematics, of no program. -/
import Derived.Test.YtojbkhheaondhaaK4
set_option linter.unusedSimpArgs false
set_option linter.unusedVariables false
namespace Go.Proofs.Ytojbkhheaondhaa.PlainTrie
open PlainLetter

/-- The numbers of the words that begin with b. -/
def nums (ws : List (List Int)) (b : List Int) : List Int := ((List.range ws.length).filter fun j => b.isPrefixOf (ws.getD j [])).map fun j : Nat => (j : Int)
/-- Of these words those that go on by c behind d bytes. -/
def goesOn (ws : List (List Int)) (d : Nat) (c : Int) (j : Int) : Bool := decide (d < (ws.getD j.toNat []).length ∧ (ws.getD j.toNat []).getD d 0 = c)
def onL (ws : List (List Int)) (d : Nat) (c : Int) (zs : List Int) : List Int := zs.filter (goesOn ws d c)
/-- The last one of the first k that has d bytes. -/
def lastTo (ws : List (List Int)) (d : Nat) (zs : List Int) : Nat → Int
  | 0 => -1
  | k + 1 => if (ws.getD (zs.getD k 0).toNat []).length = d then zs.getD k 0 else lastTo ws d zs k

theorem mem_nums {ws : List (List Int)} {b : List Int} {z : Int} : z ∈ nums ws b ↔ ∃ j : Nat, z = j ∧ j < ws.length ∧ b <+: ws.getD j [] := by
  unfold nums
  simp only [List.mem_map, List.mem_filter, List.mem_range, List.isPrefixOf_iff_prefix]
  constructor
  · rintro ⟨j, ⟨h1, h2⟩, rfl⟩; exact ⟨j, rfl, h1, h2⟩
  · rintro ⟨j, rfl, h1, h2⟩; exact ⟨j, ⟨h1, h2⟩, rfl⟩
theorem nums_all (ws : List (List Int)) : nums ws [] = (List.range ws.length).map fun j : Nat => (j : Int) := by
  unfold nums
  rw [List.filter_eq_self.2 fun j _ => by simp]
theorem nums_len (ws : List (List Int)) (b : List Int) : (nums ws b).length ≤ ws.length := by
  unfold nums
  rw [List.length_map]
  have := List.length_filter_le (fun j => b.isPrefixOf (ws.getD j [])) (List.range ws.length)
  simpa using this
theorem prefix_on {b x : List Int} {c : Int} : b ++ [c] <+: x ↔ b <+: x ∧ b.length < x.length ∧ x.getD b.length 0 = c := by
  constructor
  · rintro ⟨r, rfl⟩
    refine ⟨⟨[c] ++ r, by simp⟩, by simp, by simp [List.getD]⟩
  · rintro ⟨⟨r, rfl⟩, h1, h2⟩
    cases r with
    | nil => simp at h1
    | cons y r =>
      refine ⟨r, ?_⟩
      simp [List.getD] at h2
      rw [h2]; simp
theorem on_nums (ws : List (List Int)) (b : List Int) (c : Int) : onL ws b.length c (nums ws b) = nums ws (b ++ [c]) := by
  unfold onL nums
  rw [List.filter_map, List.filter_filter]
  congr 1
  refine List.filter_congr fun j hj => ?_
  rw [Bool.eq_iff_iff]
  simp only [Function.comp_apply, Bool.and_eq_true, goesOn, decide_eq_true_eq, List.isPrefixOf_iff_prefix, Int.toNat_natCast]
  rw [prefix_on]
  constructor
  · rintro ⟨⟨h1, h2⟩, h3⟩; exact ⟨h3, h1, h2⟩
  · rintro ⟨h1, h2, h3⟩; exact ⟨⟨h2, h3⟩, h1⟩
theorem nums_some {ws : List (List Int)} {b : List Int} (hb : b ≠ []) : nums ws b ≠ [] ↔ b ∈ nodes ws := by
  rw [mem_nodes]
  constructor
  · intro h
    obtain ⟨z, hz⟩ := List.exists_mem_of_ne_nil _ h
    obtain ⟨j, _, h1, h2⟩ := mem_nums.1 hz
    exact .inr ⟨ws.getD j [], by rw [show ws.getD j [] = ws[j] by simp [List.getD, h1]]; exact List.getElem_mem _, h2⟩
  · rintro (h | ⟨x, hx, hp⟩) e
    · exact hb h
    · obtain ⟨j, hj, rfl⟩ := List.getElem_of_mem hx
      have : ((j : Nat) : Int) ∈ nums ws b := mem_nums.2 ⟨j, rfl, hj, by rw [show ws.getD j [] = ws[j] by simp [List.getD, hj]]; exact hp⟩
      rw [e] at this
      cases this
theorem lastTo_spec (ws : List (List Int)) (d : Nat) (zs : List Int) : ∀ k, (lastTo ws d zs k = -1 ∧ ∀ j, j < k → (ws.getD (zs.getD j 0).toNat []).length ≠ d) ∨ ∃ j, j < k ∧ lastTo ws d zs k = zs.getD j 0 ∧ (ws.getD (zs.getD j 0).toNat []).length = d
  | 0 => .inl ⟨rfl, fun j hj => by omega⟩
  | k + 1 => by
    unfold lastTo
    by_cases h : (ws.getD (zs.getD k 0).toNat []).length = d
    · rw [if_pos h]; exact .inr ⟨k, by omega, rfl, h⟩
    · rw [if_neg h]
      rcases lastTo_spec ws d zs k with ⟨h1, h2⟩ | ⟨j, h1, h2, h3⟩
      · refine .inl ⟨h1, fun j hj => ?_⟩
        by_cases e : j = k
        · subst e; exact h
        · exact h2 j (by omega)
      · exact .inr ⟨j, by omega, h2, h3⟩
theorem last_nums {ws : List (List Int)} (hn : ws.Nodup) (b : List Int) : lastTo ws b.length (nums ws b) (nums ws b).length = place ws b := by
  rcases lastTo_spec ws b.length (nums ws b) (nums ws b).length with ⟨h1, h2⟩ | ⟨j, h1, h2, h3⟩
  · rw [h1]
    refine (place_none fun hm => ?_).symm
    obtain ⟨i, hi, e⟩ := List.getElem_of_mem hm
    have hz : ((i : Nat) : Int) ∈ nums ws b := mem_nums.2 ⟨i, rfl, hi, by rw [show ws.getD i [] = ws[i] by simp [List.getD, hi], e]; exact List.prefix_refl _⟩
    obtain ⟨q, hq, e2⟩ := mem_getD.1 hz
    refine h2 q hq ?_
    rw [e2, Int.toNat_natCast, show ws.getD i [] = ws[i] by simp [List.getD, hi], e]
  · rw [h2]
    have hm : (nums ws b).getD j 0 ∈ nums ws b := by rw [getD_of h1]; exact List.getElem_mem _
    obtain ⟨i, e, hi, hp⟩ := mem_nums.1 hm
    rw [e] at h3 ⊢
    rw [Int.toNat_natCast] at h3
    have e3 : ws[i] = b := by
      have := hp.eq_of_length h3.symm
      rw [this]; simp [List.getD, hi]
    rw [← e3, place_at hn i hi]

/-- The first m nodes are those below a node ahead of i, or below i by a byte below c. -/
structure Upto (ws : List (List Int)) (m i : Nat) (c : Int) : Prop where
  pos : 1 ≤ m
  le : m ≤ (nodes ws).length
  lo : ∀ j, 0 < j → j < m → (make ws).up.getD j 0 < i ∨ (make ws).up.getD j 0 = i ∧ (make ws).byte.getD j 0 < c
  hi : ∀ j, m ≤ j → j < (nodes ws).length → (i : Int) < (make ws).up.getD j 0 ∨ (make ws).up.getD j 0 = i ∧ c ≤ (make ws).byte.getD j 0

theorem keys_rise {ws : List (List Int)} {j k : Nat} (hj : 0 < j) (hjk : j < k) (hk : k < (nodes ws).length) :
    (make ws).up.getD j 0 < (make ws).up.getD k 0 ∨ (make ws).up.getD j 0 = (make ws).up.getD k 0 ∧ (make ws).byte.getD j 0 < (make ws).byte.getD k 0 := by
  induction k with
  | zero => omega
  | succ k ih =>
    have h1 := (made_rising ws (k + 1) (by omega) (by rw [(make_length ws).1]; exact hk)).2.2.2 (by omega)
    simp only [Nat.add_sub_cancel] at h1
    by_cases e : j = k
    · subst e; exact h1
    · have h2 := ih (by omega) (by omega)
      omega
theorem node_key {ws : List (List Int)} {j : Nat} (h0 : 0 < j) (hj : j < (nodes ws).length) : ∃ u : Nat, ∃ hu : u < (nodes ws).length, (make ws).up.getD j 0 = u ∧ u < j ∧ (nodes ws)[j] = (nodes ws)[u] ++ [(make ws).byte.getD j 0] := by
  obtain ⟨u, hu, b1, b2, b3, b4⟩ := up_lt hj h0
  obtain ⟨a1, _, _, a4⟩ := made_at ws hj
  refine ⟨u, hu, by rw [a1, b1], b2, ?_⟩
  rw [b3, a4]
  exact take_last b4

theorem Upto.start {ws : List (List Int)} (hb : ∀ j, 0 ≤ (make ws).byte.getD j 0) : Upto ws 1 0 0 := by
  obtain ⟨h0, _⟩ := root_at ws
  refine ⟨Nat.le_refl _, by omega, fun j h1 h2 => by omega, fun j h1 h2 => ?_⟩
  obtain ⟨u, hu, e, _⟩ := node_key (by omega) h2
  have := hb j
  omega
theorem Upto.skip {ws : List (List Int)} {m i : Nat} {c : Int} (h : Upto ws m i c) (hi : i < (nodes ws).length) (hn : (nodes ws)[i] ++ [c] ∉ nodes ws) : Upto ws m i (c + 1) := by
  refine ⟨h.pos, h.le, fun j h1 h2 => ?_, fun j h1 h2 => ?_⟩
  · have := h.lo j h1 h2; omega
  · have h3 := h.hi j h1 h2
    obtain ⟨u, hu, e, _, e2⟩ := node_key (by have := h.pos; omega) h2
    by_cases hc : (make ws).up.getD j 0 = i ∧ (make ws).byte.getD j 0 = c
    · exfalso
      have : u = i := by omega
      subst this
      rw [hc.2] at e2
      exact hn (by rw [← e2]; exact List.getElem_mem _)
    · omega
theorem Upto.put {ws : List (List Int)} {m i : Nat} {c : Int} (h : Upto ws m i c) (hi : i < (nodes ws).length) (hn : (nodes ws)[i] ++ [c] ∈ nodes ws) :
    ∃ hm : m < (nodes ws).length, (nodes ws)[m] = (nodes ws)[i] ++ [c] ∧ (make ws).up.getD m 0 = i ∧ (make ws).byte.getD m 0 = c ∧ Upto ws (m + 1) i (c + 1) := by
  obtain ⟨p, hp, e⟩ := List.getElem_of_mem hn
  have hp0 : 0 < p := by
    rcases Nat.eq_zero_or_pos p with e0 | e0
    · subst e0
      obtain ⟨_, e1⟩ := root_at ws
      rw [e1] at e
      simp at e
    · exact e0
  obtain ⟨u, hu, e1, _, e2⟩ := node_key hp0 hp
  rw [e] at e2
  have e3 := List.append_inj e2.symm (by
    have := congrArg List.length e2
    simp at this
    omega)
  have hui : u = i := by
    have h1 := place_at (rises_nodup (nodes_rises ws)) u hu
    have h2 := place_at (rises_nodup (nodes_rises ws)) i hi
    rw [e3.1] at h1
    omega
  subst hui
  have e4 : (make ws).byte.getD p 0 = c := by have := e3.2; simpa using this
  have hpm : p = m := by
    have h1 := h.le
    have h5 := h.pos
    rcases Nat.lt_trichotomy p m with h2 | h2 | h2
    · have := h.lo p hp0 h2; omega
    · exact h2
    · have h3 := h.hi m (Nat.le_refl _) (by omega)
      have h4 := keys_rise (ws := ws) (j := m) (k := p) (by omega) h2 hp
      omega
  subst hpm
  refine ⟨hp, e, e1, e4, by omega, by omega, fun j h1 h2 => ?_, fun j h1 h2 => ?_⟩
  · by_cases ej : j = p
    · subst ej; omega
    · have := h.lo j h1 (by omega); omega
  · have := keys_rise (ws := ws) (j := p) (k := j) hp0 (by omega) h2
    omega
theorem Upto.next {ws : List (List Int)} {m i : Nat} (h : Upto ws m i 256) (hb : ∀ j, 0 ≤ (make ws).byte.getD j 0 ∧ (make ws).byte.getD j 0 ≤ 255) : Upto ws m (i + 1) 0 := by
  refine ⟨h.pos, h.le, fun j h1 h2 => ?_, fun j h1 h2 => ?_⟩
  · have := h.lo j h1 h2; omega
  · have := h.hi j h1 h2; have := hb j; omega
theorem Upto.all {ws : List (List Int)} {m : Nat} (h : Upto ws m m 0) : m = (nodes ws).length := by
  have h1 := h.le
  rcases Nat.lt_or_ge m (nodes ws).length with h2 | h2
  · have h3 := h.hi m (Nat.le_refl _) h2
    obtain ⟨u, hu, e, h4, _⟩ := node_key (by have := h.pos; omega) h2
    omega
  · omega

end Go.Proofs.Ytojbkhheaondhaa.PlainTrie
