/- Which trees may be, by their form: nodes in order, each below one ahead of it, words' numbers each once. Plain mathematics, of no program. Which trees may be, by their form: a made tree has that form; so just those with it may be. Plain mathematics, of no program. -/
import Derived.Test.YtojbkhheaondhaaK3
set_option linter.unusedSimpArgs false
set_option linter.unusedVariables false
namespace Go.Proofs.Ytojbkhheaondhaa.PlainTrie
open PlainLetter

def Even (t : Tree) : Prop := 0 < t.up.length ∧ t.up.length ≤ 400 ∧ t.depth.length = t.up.length ∧ t.word.length = t.up.length ∧ t.byte.length = t.up.length
instance (t : Tree) : Decidable (Even t) := by unfold Even; infer_instance
def Rooted (t : Tree) : Prop := t.up.getD 0 0 = 0 ∧ t.depth.getD 0 0 = 0 ∧ t.word.getD 0 0 = -1 ∧ t.byte.getD 0 0 = 0
instance (t : Tree) : Decidable (Rooted t) := by unfold Rooted; infer_instance
def RisesAt (t : Tree) (j : Nat) : Prop := 0 ≤ t.up.getD j 0 ∧ t.up.getD j 0 < j ∧ t.depth.getD j 0 = t.depth.getD (t.up.getD j 0).toNat 0 + 1 ∧
  (1 < j → t.up.getD (j - 1) 0 < t.up.getD j 0 ∨ t.up.getD (j - 1) 0 = t.up.getD j 0 ∧ t.byte.getD (j - 1) 0 < t.byte.getD j 0)
def Rising (t : Tree) : Prop := ∀ j, 0 < j → j < t.up.length → RisesAt t j
def Ended (t : Tree) : Prop := ∀ j, j < t.up.length → t.word.getD j 0 = -1 → ∃ i, 0 < i ∧ i < t.up.length ∧ t.up.getD i 0 = (j : Nat)
/-- The keys of the words' places: each number that is a word's, once. -/
def Keys (t : Tree) (K : List Int) : Prop := K.Nodup ∧ ∀ k, k ∈ K ↔ k ≠ -1 ∧ k ∈ t.word
/-- Node j is the last one that has this number. -/
def Last (t : Tree) (x : Int) (j : Nat) : Prop := j < t.word.length ∧ t.word.getD j 0 = x ∧ ∀ i, j < i → i < t.word.length → t.word.getD i 0 ≠ x
def Numbered (t : Tree) (K : List Int) : Prop := ∀ j, j < t.word.length → t.word.getD j 0 ≠ -1 → 0 ≤ t.word.getD j 0 ∧ t.word.getD j 0 < K.length ∧ Last t (t.word.getD j 0) j
def manyTo (t : Tree) : Nat → Nat
  | 0 => 0
  | k + 1 => manyTo t k + if t.word.getD k 0 = -1 then 0 else 1
def sumTo (t : Tree) : Nat → Int
  | 0 => 0
  | k + 1 => sumTo t k + if t.word.getD k 0 = -1 then 0 else t.depth.getD k 0
def Bounded (t : Tree) : Prop := manyTo t t.word.length ≤ 64 ∧ sumTo t t.word.length ≤ 600 ∧ ∀ j, j < t.depth.length → t.depth.getD j 0 ≤ 32

/-! ## Lists -/
theorem nodup_sub : ∀ {l m : List Int}, l.Nodup → (∀ x ∈ l, x ∈ m) → l.length ≤ m.length
  | [], m, _, _ => Nat.zero_le _
  | x :: l, m, hn, hs => by
    obtain ⟨h1, h2⟩ := List.nodup_cons.1 hn
    have hx : x ∈ m := hs x (by simp)
    have h3 := nodup_sub (l := l) (m := m.erase x) h2 (fun y hy => (List.mem_erase_of_ne (fun e => h1 (by rw [← e]; exact hy))).2 (hs y (by simp [hy])))
    have h4 := List.length_erase_of_mem hx
    have h5 := List.length_pos_of_mem hx
    simp only [List.length_cons]
    omega
def upTo (n : Nat) : List Int := (List.range n).map fun i : Nat => (i : Int)
theorem mem_upTo {n : Nat} {x : Int} : x ∈ upTo n ↔ 0 ≤ x ∧ x < n := by
  unfold upTo
  simp only [List.mem_map, List.mem_range]
  constructor
  · rintro ⟨a, h, rfl⟩; omega
  · rintro ⟨h1, h2⟩; exact ⟨x.toNat, by omega, by omega⟩
theorem upTo_nodup (n : Nat) : (upTo n).Nodup := by
  unfold upTo
  refine List.pairwise_map.2 (List.nodup_range.imp ?_)
  intro a b h e
  exact h (by omega)
theorem upTo_len (n : Nat) : (upTo n).length = n := by simp [upTo]
/-- Numbers each once, all below how many they are: each is there. -/
theorem all_there {K : List Int} (hn : K.Nodup) (hs : ∀ k ∈ K, 0 ≤ k ∧ k < K.length) {w : Nat} (hw : w < K.length) : (w : Int) ∈ K := by
  refine Decidable.byContradiction fun h => ?_
  have h1 := nodup_sub (l := (w : Int) :: K) (m := upTo K.length) (List.nodup_cons.2 ⟨h, hn⟩) (fun x hx => by
    rcases List.mem_cons.1 hx with rfl | hx
    · exact mem_upTo.2 ⟨by omega, by omega⟩
    · exact mem_upTo.2 (hs x hx))
  rw [upTo_len] at h1
  simp at h1
  omega
theorem getD_of {l : List Int} {i : Nat} (h : i < l.length) : l.getD i 0 = l[i] := by simp [List.getD, h]
theorem mem_getD {l : List Int} {x : Int} : x ∈ l ↔ ∃ i, i < l.length ∧ l.getD i 0 = x := by
  rw [List.mem_iff_getElem]
  constructor
  · rintro ⟨i, hi, e⟩; exact ⟨i, hi, by rw [getD_of hi]; exact e⟩
  · rintro ⟨i, hi, e⟩; exact ⟨i, hi, by rw [getD_of hi] at e; exact e⟩

/-! ## A tree's spellings -/
theorem climb_zero (up byte : List Int) (f : Nat) (i : Int) (h : i ≤ 0) : climb up byte f i = [] := by
  cases f with
  | zero => rfl
  | succ f => unfold climb; rw [if_neg (by omega)]

/-- Node i's bytes. -/
def sp (t : Tree) (i : Nat) : List Int := climb t.up t.byte (t.depth.getD i 0).toNat i

structure Tall (t : Tree) : Prop where
  even : Even t
  root : Rooted t
  rise : Rising t

theorem Tall.depth_pos {t : Tree} (h : Tall t) : ∀ i, i < t.up.length → 0 ≤ t.depth.getD i 0 ∧ (0 < i → 1 ≤ t.depth.getD i 0) := fun i => by
  induction i using Nat.strongRecOn with
  | _ i ih =>
    intro hi
    by_cases h0 : i = 0
    · subst h0; rw [h.root.2.1]; exact ⟨by omega, fun h => by omega⟩
    · obtain ⟨h1, h2, h3, _⟩ := h.rise i (by omega) hi
      have := (ih (t.up.getD i 0).toNat (by omega) (by omega)).1
      omega

theorem Tall.climb_step {t : Tree} (h : Tall t) {i : Nat} (hi : i < t.up.length) (h0 : 0 < i) (f : Nat) :
    climb t.up t.byte (f + 1) i = climb t.up t.byte f ((t.up.getD i 0).toNat : Nat) ++ [t.byte.getD i 0] := by
  obtain ⟨h1, _⟩ := h.rise i h0 hi
  have hb := h.even.2.2.2.2
  conv => lhs; unfold climb
  rw [if_pos ⟨by omega, by omega, by omega⟩, Int.toNat_natCast, Int.toNat_of_nonneg h1]

theorem Tall.climb_enough {t : Tree} (h : Tall t) : ∀ (f i : Nat), i < t.up.length → t.depth.getD i 0 ≤ f → climb t.up t.byte f i = sp t i := fun f => by
  induction f with
  | zero =>
    intro i hi hf
    have h1 := h.depth_pos i hi
    have h0 : i = 0 := by
      rcases Nat.eq_zero_or_pos i with e | e
      · exact e
      · have := h1.2 e; omega
    subst h0
    unfold sp
    rw [climb_zero _ _ _ _ (by omega), climb_zero _ _ _ _ (by omega)]
  | succ f ih =>
    intro i hi hf
    rcases Nat.eq_zero_or_pos i with h0 | h0
    · subst h0
      unfold sp
      rw [climb_zero _ _ _ _ (by omega), climb_zero _ _ _ _ (by omega)]
    · obtain ⟨h1, h2, h3, _⟩ := h.rise i h0 hi
      have hd := h.depth_pos i hi
      have hu := h.depth_pos (t.up.getD i 0).toNat (by omega)
      rw [h.climb_step hi h0, ih _ (by omega) (by omega)]
      unfold sp
      have e1 : (t.depth.getD i 0).toNat = (t.depth.getD (t.up.getD i 0).toNat 0).toNat + 1 := by omega
      rw [e1, h.climb_step hi h0]

theorem Tall.sp_zero {t : Tree} (h : Tall t) : sp t 0 = [] := climb_zero _ _ _ _ (by omega)
theorem Tall.sp_step {t : Tree} (h : Tall t) {i : Nat} (hi : i < t.up.length) (h0 : 0 < i) : sp t i = sp t (t.up.getD i 0).toNat ++ [t.byte.getD i 0] := by
  obtain ⟨h1, h2, h3, _⟩ := h.rise i h0 hi
  have hu := h.depth_pos (t.up.getD i 0).toNat (by omega)
  rw [← h.climb_enough ((t.depth.getD (t.up.getD i 0).toNat 0).toNat + 1) i hi (by omega), h.climb_step hi h0]
  rfl
theorem Tall.sp_len {t : Tree} (h : Tall t) : ∀ i, i < t.up.length → ((sp t i).length : Int) = t.depth.getD i 0 := fun i => by
  induction i using Nat.strongRecOn with
  | _ i ih =>
    intro hi
    rcases Nat.eq_zero_or_pos i with h0 | h0
    · subst h0; rw [h.sp_zero, h.root.2.1]; rfl
    · obtain ⟨h1, h2, h3, _⟩ := h.rise i h0 hi
      have := ih (t.up.getD i 0).toNat (by omega) (by omega)
      rw [h.sp_step hi h0, h3, List.length_append, ← this]
      simp

theorem lex_snoc : ∀ {a b : List Int} (x y : Int), a.length = b.length → lex a b = true → lex (a ++ [x]) (b ++ [y]) = true
  | [], b, x, y, hl, h => by cases b <;> simp [lex] at h
  | _ :: _, [], x, y, hl, h => by simp at hl
  | a :: as, b :: bs, x, y, hl, h => by
    simp only [lex, List.cons_append] at h ⊢
    split at h
    · rename_i e
      subst e
      simp at hl
      simp [lex_snoc x y hl h]
    · rename_i e
      simp [e]
      simpa using h
theorem lex_last : ∀ (a : List Int) (x y : Int), x < y → lex (a ++ [x]) (a ++ [y]) = true
  | [], x, y, h => by simp [lex]; omega
  | a :: as, x, y, h => by simp [lex, lex_last as x y h]
theorem less_snoc {a b : List Int} (x y : Int) (h : less a b = true) : less (a ++ [x]) (b ++ [y]) = true := by
  unfold less at h ⊢
  by_cases hl : a.length = b.length
  · rw [if_pos hl] at h
    rw [if_pos (by simp [hl])]
    exact lex_snoc x y hl h
  · rw [if_neg hl] at h
    rw [if_neg (by simp [hl])]
    simp at h ⊢
    omega
theorem less_last (a : List Int) {x y : Int} (h : x < y) : less (a ++ [x]) (a ++ [y]) = true := by
  unfold less
  rw [if_pos (by simp)]
  exact lex_last a x y h

theorem chain_less {s : Nat → List Int} {n : Nat} (h : ∀ j, 0 < j → j ≤ n → less (s (j - 1)) (s j) = true) : ∀ b, b ≤ n → ∀ a, a < b → less (s a) (s b) = true := fun b => by
  induction b with
  | zero => intro _ a ha; omega
  | succ b ih =>
    intro hb a ha
    have h1 := h (b + 1) (by omega) hb
    simp at h1
    by_cases e : a = b
    · subst e; exact h1
    · exact less_trans (ih (by omega) a (by omega)) h1

theorem Tall.sp_next {t : Tree} (h : Tall t) : ∀ j, 0 < j → j < t.up.length → less (sp t (j - 1)) (sp t j) = true := fun j => by
  induction j using Nat.strongRecOn with
  | _ j ih =>
    intro h0 hj
    obtain ⟨h1, h2, h3, h4⟩ := h.rise j h0 hj
    by_cases hj1 : j = 1
    · subst hj1
      rw [h.sp_step hj (by omega), show sp t (1 - 1) = [] from h.sp_zero]
      exact less_shorter (by simp)
    · obtain ⟨g1, g2, g3, _⟩ := h.rise (j - 1) (by omega) (by omega)
      rw [h.sp_step hj h0, h.sp_step (i := j - 1) (by omega) (by omega)]
      rcases h4 (by omega) with h5 | ⟨h5, h6⟩
      · refine less_snoc _ _ ?_
        exact chain_less (s := sp t) (n := j - 1) (fun k k0 k1 => ih k (by omega) k0 (by omega)) (t.up.getD j 0).toNat (by omega) (t.up.getD (j - 1) 0).toNat (by omega)
      · rw [h5]
        exact less_last _ h6
theorem Tall.sp_less {t : Tree} (h : Tall t) {a b : Nat} (hab : a < b) (hb : b < t.up.length) : less (sp t a) (sp t b) = true :=
  chain_less (s := sp t) (n := b) (fun k k0 k1 => h.sp_next k k0 (by omega)) b (Nat.le_refl _) a hab
theorem Tall.sp_inj {t : Tree} (h : Tall t) {a b : Nat} (ha : a < t.up.length) (hb : b < t.up.length) (e : sp t a = sp t b) : a = b := by
  rcases Nat.lt_trichotomy a b with h1 | h1 | h1
  · exact absurd e (less_ne (h.sp_less h1 hb))
  · exact h1
  · exact absurd e.symm (less_ne (h.sp_less h1 ha))

/-- All nodes' bytes, in order. -/
def sps (t : Tree) : List (List Int) := (List.range t.up.length).map (sp t)
theorem sps_len (t : Tree) : (sps t).length = t.up.length := by simp [sps]
theorem sps_at (t : Tree) {i : Nat} (hi : i < (sps t).length) : (sps t)[i] = sp t i := by simp [sps]
theorem mem_sps {t : Tree} {y : List Int} : y ∈ sps t ↔ ∃ i, i < t.up.length ∧ y = sp t i := by
  unfold sps
  simp only [List.mem_map, List.mem_range]
  exact ⟨fun ⟨i, h, e⟩ => ⟨i, h, e.symm⟩, fun ⟨i, h, e⟩ => ⟨i, h, e.symm⟩⟩
theorem Tall.sps_rises {t : Tree} (h : Tall t) : Rises (sps t) := by
  refine List.pairwise_iff_getElem.2 fun i j hi hj hij => ?_
  rw [sps_at, sps_at]
  exact h.sp_less hij (by rw [← sps_len]; exact hj)

theorem Tall.sp_prefix {t : Tree} (h : Tall t) : ∀ j, j < t.up.length → ∀ y, y <+: sp t j → ∃ i, i < t.up.length ∧ y = sp t i := fun j => by
  induction j using Nat.strongRecOn with
  | _ j ih =>
    intro hj y hy
    rcases Nat.eq_zero_or_pos j with h0 | h0
    · subst h0
      rw [h.sp_zero] at hy
      exact ⟨0, hj, by rw [h.sp_zero]; exact List.prefix_nil.1 hy⟩
    · obtain ⟨h1, h2, _⟩ := h.rise j h0 hj
      by_cases e : y = sp t j
      · exact ⟨j, hj, e⟩
      · rw [h.sp_step hj h0] at hy e
        rcases List.prefix_concat_iff.1 (by simpa using hy) with e' | hp
        · exact absurd (by simpa using e') e
        · exact ih (t.up.getD j 0).toNat (by omega) (by omega) y hp

structure Formed (t : Tree) (K : List Int) : Prop extends Tall t where
  ended : Ended t
  keys : Keys t K
  numbered : Numbered t K
  bounded : Bounded t

/-- The words, by their numbers. -/
def wordsBy (t : Tree) (m : Nat) : List (List Int) := (List.range m).map fun w : Nat => sp t (t.word.idxOf (w : Int))

theorem Formed.word_inj {t : Tree} {K : List Int} (h : Formed t K) {i j : Nat} (hi : i < t.word.length) (hj : j < t.word.length) (he : t.word.getD i 0 = t.word.getD j 0) (hne : t.word.getD i 0 ≠ -1) : i = j := by
  obtain ⟨_, _, _, _, h1⟩ := h.numbered i hi hne
  obtain ⟨_, _, _, _, h2⟩ := h.numbered j hj (by rw [← he]; exact hne)
  rcases Nat.lt_trichotomy i j with e | e | e
  · exact absurd he.symm (h1 j e hj)
  · exact e
  · exact absurd he (h2 i e hi)
theorem Formed.key_lt {t : Tree} {K : List Int} (h : Formed t K) : ∀ k ∈ K, 0 ≤ k ∧ k < K.length := fun k hk => by
  obtain ⟨h1, h2⟩ := (h.keys.2 k).1 hk
  obtain ⟨i, hi, rfl⟩ := mem_getD.1 h2
  obtain ⟨a, b, _⟩ := h.numbered i hi h1
  exact ⟨a, b⟩
/-- The node of a word's number. -/
theorem Formed.node {t : Tree} {K : List Int} (h : Formed t K) {w : Nat} (hw : w < K.length) : t.word.idxOf (w : Int) < t.up.length ∧ t.word.getD (t.word.idxOf (w : Int)) 0 = w := by
  have h1 := ((h.keys.2 w).1 (all_there h.keys.1 h.key_lt hw)).2
  have h2 := List.idxOf_lt_length_iff.2 h1
  have h3 := h.even.2.2.2.1
  refine ⟨by omega, ?_⟩
  rw [getD_of h2]
  exact List.getElem_idxOf h2
theorem Formed.idx {t : Tree} {K : List Int} (h : Formed t K) {j : Nat} (hj : j < t.up.length) {w : Nat} (hw : t.word.getD j 0 = w) : w < K.length ∧ t.word.idxOf (w : Int) = j := by
  have h3 := h.even.2.2.2.1
  obtain ⟨a, b, _⟩ := h.numbered j (by omega) (by omega)
  have hlt : w < K.length := by omega
  obtain ⟨c, d⟩ := h.node hlt
  exact ⟨hlt, h.word_inj (by omega) (by omega) (by omega) (by omega)⟩
theorem Formed.mem_words {t : Tree} {K : List Int} (h : Formed t K) {x : List Int} : x ∈ wordsBy t K.length ↔ ∃ j, j < t.up.length ∧ t.word.getD j 0 ≠ -1 ∧ x = sp t j := by
  have h3 := h.even.2.2.2.1
  unfold wordsBy
  simp only [List.mem_map, List.mem_range]
  constructor
  · rintro ⟨w, hw, rfl⟩
    obtain ⟨a, b⟩ := h.node hw
    exact ⟨_, a, by omega, rfl⟩
  · rintro ⟨j, hj, hne, rfl⟩
    obtain ⟨a, b, _⟩ := h.numbered j (by omega) hne
    obtain ⟨c, d⟩ := h.idx hj (w := (t.word.getD j 0).toNat) (by omega)
    exact ⟨_, c, by rw [d]⟩
theorem Formed.words_at {t : Tree} {K : List Int} (h : Formed t K) {w : Nat} (hw : w < (wordsBy t K.length).length) : (wordsBy t K.length)[w] = sp t (t.word.idxOf (w : Int)) := by simp [wordsBy]
theorem Formed.once {t : Tree} {K : List Int} (h : Formed t K) : (wordsBy t K.length).Nodup := by
  have hl : (wordsBy t K.length).length = K.length := by simp [wordsBy]
  refine List.pairwise_iff_getElem.2 fun i j hi hj hij e => ?_
  rw [h.words_at, h.words_at] at e
  obtain ⟨a, b⟩ := h.node (w := i) (by omega)
  obtain ⟨c, d⟩ := h.node (w := j) (by omega)
  have := h.sp_inj a c e
  rw [this] at b
  omega
theorem Formed.nodes_is {t : Tree} {K : List Int} (h : Formed t K) : nodes (wordsBy t K.length) = sps t := by
  refine rises_ext (nodes_rises _) h.sps_rises fun y => ?_
  rw [mem_nodes, mem_sps]
  constructor
  · rintro (rfl | ⟨x, hx, hp⟩)
    · exact ⟨0, h.even.1, h.sp_zero.symm⟩
    · obtain ⟨j, hj, _, rfl⟩ := h.mem_words.1 hx
      exact h.sp_prefix j hj y hp
  · rintro ⟨i, hi, rfl⟩
    refine .inr ?_
    have key : ∀ d i, i < t.up.length → t.up.length - i = d → ∃ x ∈ wordsBy t K.length, sp t i <+: x := fun d => by
      induction d using Nat.strongRecOn with
      | _ d ih =>
        intro i hi hd
        by_cases hw : t.word.getD i 0 = -1
        · obtain ⟨k, k0, k1, k2⟩ := h.ended i hi hw
          obtain ⟨g1, g2, _⟩ := h.rise k k0 k1
          obtain ⟨x, hx, hp⟩ := ih (t.up.length - k) (by omega) k k1 rfl
          refine ⟨x, hx, List.IsPrefix.trans ?_ hp⟩
          rw [h.sp_step k1 k0, k2, Int.toNat_natCast]
          exact List.prefix_append _ _
        · exact ⟨_, h.mem_words.2 ⟨i, hi, hw, rfl⟩, List.prefix_refl _⟩
    exact key _ i hi rfl

theorem tree_ext {a b : Tree} (hu : a.up.length = b.up.length) (hd : a.depth.length = b.depth.length) (hw : a.word.length = b.word.length) (hb : a.byte.length = b.byte.length)
    (h : ∀ i, (i < a.up.length → a.up.getD i 0 = b.up.getD i 0) ∧ (i < a.depth.length → a.depth.getD i 0 = b.depth.getD i 0) ∧ (i < a.word.length → a.word.getD i 0 = b.word.getD i 0) ∧ (i < a.byte.length → a.byte.getD i 0 = b.byte.getD i 0)) : a = b := by
  have ext : ∀ {l m : List Int}, l.length = m.length → (∀ i, i < l.length → l.getD i 0 = m.getD i 0) → l = m := fun hl hh =>
    List.ext_getElem hl fun i hi hi' => by have := hh i hi; rw [getD_of hi, getD_of hi'] at this; exact this
  obtain ⟨a1, a2, a3, a4⟩ := a
  obtain ⟨b1, b2, b3, b4⟩ := b
  simp only at hu hd hw hb h
  rw [ext hu fun i hi => (h i).1 hi, ext hd fun i hi => (h i).2.1 hi, ext hw fun i hi => (h i).2.2.1 hi, ext hb fun i hi => (h i).2.2.2 hi]

theorem Formed.made {t : Tree} {K : List Int} (h : Formed t K) : make (wordsBy t K.length) = t := by
  obtain ⟨m1, m2, m3, m4⟩ := make_length (wordsBy t K.length)
  obtain ⟨e0, e1, e2, e3, e4⟩ := h.even
  have hN := h.nodes_is
  have hl := sps_len t
  rw [hN, hl] at m1 m2 m3 m4
  have hnd := rises_nodup h.sps_rises
  have pl : ∀ i, i < t.up.length → place (sps t) (sp t i) = i := fun i hi => by
    have := place_at hnd i (by omega)
    rwa [sps_at] at this
  refine tree_ext (by omega) (by omega) (by omega) (by omega) fun i => ⟨fun hi => ?_, fun hi => ?_, fun hi => ?_, fun hi => ?_⟩
  · have hi' : i < t.up.length := by omega
    have g : (PlainTrie.make (wordsBy t K.length)).up.getD i 0 = place (sps t) ((sp t i).take ((sp t i).length - 1)) := by
      simp [PlainTrie.make, hN, List.getD, sps, hi']
    rw [g]
    rcases Nat.eq_zero_or_pos i with h0 | h0
    · subst h0
      rw [h.sp_zero, h.root.1]
      have := pl 0 hi'
      rw [h.sp_zero] at this
      simpa using this
    · obtain ⟨h1, h2, _⟩ := h.rise i h0 hi'
      rw [h.sp_step hi' h0]
      simp only [List.length_append, List.length_cons, List.length_nil, Nat.zero_add, Nat.add_sub_cancel, List.take_left']
      rw [pl _ (by omega)]
      omega
  · have hi' : i < t.up.length := by omega
    have g : (PlainTrie.make (wordsBy t K.length)).depth.getD i 0 = ((sp t i).length : Int) := by
      simp [PlainTrie.make, hN, List.getD, sps, hi']
    rw [g, h.sp_len i hi']
  · have hi' : i < t.up.length := by omega
    have g : (PlainTrie.make (wordsBy t K.length)).word.getD i 0 = place (wordsBy t K.length) (sp t i) := by
      simp [PlainTrie.make, hN, List.getD, sps, hi']
    rw [g]
    by_cases hw : t.word.getD i 0 = -1
    · rw [hw]
      refine place_none fun hm => ?_
      obtain ⟨j, hj, hne, e⟩ := h.mem_words.1 hm
      rw [h.sp_inj hi' hj e] at hw
      exact hne hw
    · obtain ⟨a, b, _⟩ := h.numbered i (by omega) hw
      obtain ⟨c, d⟩ := h.idx hi' (w := (t.word.getD i 0).toNat) (by omega)
      have hlen : (wordsBy t K.length).length = K.length := by simp [wordsBy]
      have := place_at h.once (t.word.getD i 0).toNat (by omega)
      rw [h.words_at, d] at this
      omega
  · have hi' : i < t.up.length := by omega
    have g : (PlainTrie.make (wordsBy t K.length)).byte.getD i 0 = (sp t i).getD ((sp t i).length - 1) 0 := by
      simp [PlainTrie.make, hN, List.getD, sps, hi']
    rw [g]
    rcases Nat.eq_zero_or_pos i with h0 | h0
    · subst h0
      rw [h.sp_zero, h.root.2.2.2]
      rfl
    · rw [h.sp_step hi' h0]
      simp [List.getD]

/-! ## How many words, and their lengths together -/
theorem total_append (a b : List (List Int)) : PlainPatset.total (a ++ b) = PlainPatset.total a + PlainPatset.total b := by simp [PlainPatset.total]
/-- The words of the first k nodes, in the nodes' order. -/
def inOrder (t : Tree) : Nat → List (List Int)
  | 0 => []
  | k + 1 => inOrder t k ++ if t.word.getD k 0 = -1 then [] else [sp t k]
theorem mem_inOrder {t : Tree} {x : List Int} : ∀ k, x ∈ inOrder t k ↔ ∃ j, j < k ∧ t.word.getD j 0 ≠ -1 ∧ x = sp t j
  | 0 => by simp [inOrder]
  | k + 1 => by
    unfold inOrder
    rw [List.mem_append, mem_inOrder k]
    constructor
    · rintro (⟨j, hj, h⟩ | h)
      · exact ⟨j, by omega, h⟩
      · split at h
        · cases h
        · rename_i hne
          exact ⟨k, by omega, hne, by simpa using h⟩
    · rintro ⟨j, hj, hne, rfl⟩
      by_cases e : j = k
      · subst e; right; rw [if_neg hne]; simp
      · exact .inl ⟨j, by omega, hne, rfl⟩
theorem Tall.inOrder_is {t : Tree} (h : Tall t) : ∀ k, k ≤ t.up.length → (inOrder t k).length = manyTo t k ∧ (PlainPatset.total (inOrder t k) : Int) = sumTo t k ∧ (inOrder t k).Nodup
  | 0, _ => ⟨rfl, rfl, List.nodup_nil⟩
  | k + 1, hk => by
    obtain ⟨h1, h2, h3⟩ := h.inOrder_is k (by omega)
    unfold inOrder manyTo sumTo
    by_cases e : t.word.getD k 0 = -1
    · simp only [if_pos e, List.append_nil, Nat.add_zero, Int.add_zero]
      exact ⟨h1, h2, h3⟩
    · simp only [if_neg e]
      refine ⟨by simp [h1], ?_, ?_⟩
      · rw [total_append, ← h.sp_len k (by omega), ← h2]
        simp [PlainPatset.total]
      · rw [List.nodup_append]
        refine ⟨h3, by simp, fun a ha b hb => ?_⟩
        obtain rfl : b = sp t k := by simpa using hb
        obtain ⟨j, hj, _, rfl⟩ := (mem_inOrder k).1 ha
        exact less_ne (h.sp_less hj (by omega))
theorem nodup_perm {l m : List (List Int)} (hl : l.Nodup) (hm : m.Nodup) (h : ∀ x, x ∈ l ↔ x ∈ m) : l.Perm m := (List.perm_ext_iff_of_nodup hl hm).2 h
theorem Formed.perm {t : Tree} {K : List Int} (h : Formed t K) : (inOrder t t.word.length).Perm (wordsBy t K.length) := by
  have h3 := h.even.2.2.2.1
  refine nodup_perm (h.inOrder_is _ (by omega)).2.2 h.once fun x => ?_
  rw [mem_inOrder, h.mem_words, h3]

theorem Formed.words_ok {t : Tree} {K : List Int} (h : Formed t K) : Words (wordsBy t K.length) := by
  have h3 := h.even.2.2.2.1
  obtain ⟨i1, i2, i3⟩ := h.inOrder_is t.word.length (by omega)
  have hp := h.perm
  have hlen : (wordsBy t K.length).length = K.length := by simp [wordsBy]
  have hl := hp.length_eq
  obtain ⟨b1, b2, b3⟩ := h.bounded
  have htot : PlainPatset.total (wordsBy t K.length) = PlainPatset.total (inOrder t t.word.length) := by
    have := hp.flatten.length_eq
    unfold PlainPatset.total
    omega
  refine ⟨?_, PlainPatset.makeWords_own false _ (fun x _ => by simp [foldIf]) h.once⟩
  unfold PlainPatset.check
  have c1 : wordsBy t K.length ≠ [] := by
    have hroot : [] ∈ nodes (wordsBy t K.length) := (mem_nodes _ _).2 (.inl rfl)
    obtain ⟨i, i0, i1, i2⟩ := h.ended 0 h.even.1 h.root.2.2.1
    intro e
    have hn := h.nodes_is
    rw [e] at hn
    have := congrArg List.length hn
    rw [sps_len] at this
    simp [PlainTrie.nodes, nodesTo] at this
    omega
  rw [if_neg c1, if_neg (by omega)]
  have c3 : ¬∃ x ∈ wordsBy t K.length, x = [] := by
    rintro ⟨x, hx, rfl⟩
    obtain ⟨j, hj, hne, e⟩ := h.mem_words.1 hx
    have : j = 0 := h.sp_inj hj h.even.1 (by rw [← e, h.sp_zero])
    subst this
    exact hne h.root.2.2.1
  rw [if_neg c3]
  have c4 : ¬∃ x ∈ wordsBy t K.length, 32 < x.length := by
    rintro ⟨x, hx, hlt⟩
    obtain ⟨j, hj, hne, rfl⟩ := h.mem_words.1 hx
    have := b3 j (by have := h.even.2.2.1; omega)
    have := h.sp_len j hj
    omega
  rw [if_neg c4, if_neg (by omega)]
  have c6 : PlainPatset.nodes false (wordsBy t K.length) = t.up.length := by
    unfold PlainPatset.nodes
    rw [map_foldIf_false, ← nodes_length, h.nodes_is, sps_len]
  rw [c6, if_neg (by have := h.even.2.1; omega)]

theorem Formed.is_right {t : Tree} {K : List Int} (h : Formed t K) : right t = true := by
  have := right_make h.words_ok
  rwa [h.made] at this

end Go.Proofs.Ytojbkhheaondhaa.PlainTrie

namespace Go.Proofs.Ytojbkhheaondhaa.PlainTrie
open PlainLetter

theorem take_last {b : List Int} (h : 0 < b.length) : b = b.take (b.length - 1) ++ [b.getD (b.length - 1) 0] := by
  have hlt : b.length - 1 < b.length := by omega
  rw [show b.getD (b.length - 1) 0 = b[b.length - 1] by simp [List.getD, hlt], ← List.take_succ_eq_append_getElem hlt, Nat.sub_add_cancel h, List.take_length]
theorem lex_two : ∀ {a b : List Int} {x y : Int}, a.length = b.length → lex (a ++ [x]) (b ++ [y]) = true → lex a b = true ∨ a = b ∧ x < y
  | [], [], x, y, _, h => .inr ⟨rfl, by simp [lex] at h; omega⟩
  | [], _ :: _, x, y, hl, h => by simp at hl
  | _ :: _, [], x, y, hl, h => by simp at hl
  | a :: as, b :: bs, x, y, hl, h => by
    simp only [lex, List.cons_append] at h ⊢
    by_cases e : a = b
    · subst e
      simp at h hl
      rcases lex_two hl h with h1 | ⟨rfl, h1⟩
      · left; simp [h1]
      · right; exact ⟨rfl, h1⟩
    · simp [e] at h ⊢
      exact h
theorem less_two {a b : List Int} {x y : Int} (h : less (a ++ [x]) (b ++ [y]) = true) : less a b = true ∨ a = b ∧ x < y := by
  unfold less at h ⊢
  by_cases hl : a.length = b.length
  · rw [if_pos (by simp [hl])] at h
    rw [if_pos hl]
    exact lex_two hl h
  · rw [if_neg (by simp [hl])] at h
    rw [if_neg hl]
    simp at h
    exact .inl (by simp; omega)

theorem made_at (ws : List (List Int)) {i : Nat} (hi : i < (nodes ws).length) :
    (make ws).up.getD i 0 = place (nodes ws) ((nodes ws)[i].take ((nodes ws)[i].length - 1)) ∧ (make ws).depth.getD i 0 = ((nodes ws)[i].length : Nat) ∧
    (make ws).word.getD i 0 = place ws (nodes ws)[i] ∧ (make ws).byte.getD i 0 = (nodes ws)[i].getD ((nodes ws)[i].length - 1) 0 := by
  simp [make, List.getD, hi]
theorem root_at (ws : List (List Int)) : ∃ h : 0 < (nodes ws).length, (nodes ws)[0] = [] := by
  obtain ⟨l, hl⟩ := nodes_first ws
  exact ⟨by rw [hl]; simp, by simp [hl]⟩

theorem made_rising (ws : List (List Int)) : Rising (make ws) := by
  intro j h0 hj
  rw [(make_length ws).1] at hj
  obtain ⟨a1, a2, a3, a4⟩ := made_at ws hj
  obtain ⟨u, hu, b1, b2, b3, b4⟩ := up_lt hj h0
  obtain ⟨c1, c2, c3, c4⟩ := made_at ws hu
  have e1 := take_last b4
  refine ⟨by omega, by omega, ?_, fun h1 => ?_⟩
  · rw [a1, b1, Int.toNat_natCast, c2, a2, b3, List.length_take]
    omega
  · have hk : j - 1 < (nodes ws).length := by omega
    obtain ⟨d1, d2, d3, d4⟩ := made_at ws hk
    obtain ⟨v, hv, f1, f2, f3, f4⟩ := up_lt hk (by omega)
    have e2 := take_last f4
    have hl := rises_at (nodes_rises ws) (i := j - 1) (j := j) (by omega) hj
    rw [e1, e2] at hl
    rw [a1, b1, d1, f1, a4, d4]
    rcases less_two hl with g | ⟨g1, g2⟩
    · left
      rw [← f3, ← b3] at g
      have := rises_lt (nodes_rises ws) hv hu g
      omega
    · right
      refine ⟨?_, g2⟩
      rw [← f1, ← b1, g1]
theorem made_even {ws : List (List Int)} (h : Words ws) : Even (make ws) := by
  obtain ⟨m1, m2, m3, m4⟩ := make_length ws
  have hn : (nodes ws).length ≤ 400 := by rw [nodes_length]; exact h.fine.nodes
  obtain ⟨h0, _⟩ := root_at ws
  exact ⟨by omega, by omega, by omega, by omega, by omega⟩
theorem made_rooted {ws : List (List Int)} (h : Words ws) : Rooted (make ws) := by
  obtain ⟨h0, e⟩ := root_at ws
  obtain ⟨a1, a2, a3, a4⟩ := made_at ws h0
  rw [e] at a1 a2 a3 a4
  refine ⟨?_, by simpa using a2, ?_, by simpa using a4⟩
  · have := place_at (rises_nodup (nodes_rises ws)) 0 h0
    rw [e] at this
    rw [a1]
    simpa using this
  · rw [a3]
    exact place_none fun hm => h.fine.full _ hm rfl
theorem made_tall {ws : List (List Int)} (h : Words ws) : Tall (make ws) := ⟨made_even h, made_rooted h, made_rising ws⟩
theorem made_ended {ws : List (List Int)} (h : Words ws) : Ended (make ws) := by
  intro j hj hw
  rw [(make_length ws).1] at hj ⊢
  obtain ⟨a1, a2, a3, a4⟩ := made_at ws hj
  have hnw : (nodes ws)[j] ∉ ws := fun hm => by
    rw [a3, place_mem hm] at hw
    omega
  obtain ⟨y, hy, h1, h2⟩ := kid_or_word h.fine (List.getElem_mem hj) hnw
  obtain ⟨i, hi, rfl⟩ := List.getElem_of_mem hy
  obtain ⟨b1, _⟩ := made_at ws hi
  refine ⟨i, ?_, hi, ?_⟩
  · rcases Nat.eq_zero_or_pos i with e | e
    · subst e
      obtain ⟨_, e⟩ := root_at ws
      rw [e] at h1
      simp at h1
    · exact e
  · rw [b1, h2, place_at (rises_nodup (nodes_rises ws)) j hj]
theorem made_sp (ws : List (List Int)) {i : Nat} (hi : i < (nodes ws).length) : sp (make ws) i = (nodes ws)[i] := by
  unfold sp
  rw [(made_at ws hi).2.1, Int.toNat_natCast]
  exact climb_make ws _ i hi (Nat.le_refl _)
theorem made_keys {ws : List (List Int)} (h : Words ws) {K : List Int} (hK : Keys (make ws) K) : K.length = ws.length := by
  have hm : ∀ k, k ∈ K ↔ k ∈ upTo ws.length := fun k => by
    rw [hK.2, mem_upTo]
    constructor
    · rintro ⟨h1, h2⟩
      obtain ⟨i, hi, e⟩ := mem_getD.1 h2
      rw [(make_length ws).2.2.1] at hi
      rw [(made_at ws hi).2.2.1] at e
      by_cases hb : (nodes ws)[i] ∈ ws
      · rw [place_mem hb] at e
        have := List.idxOf_lt_length_iff.2 hb
        omega
      · rw [place_none hb] at e
        omega
    · rintro ⟨h1, h2⟩
      refine ⟨by omega, ?_⟩
      have hk : k.toNat < ws.length := by omega
      have hn := word_node (List.getElem_mem hk)
      obtain ⟨i, hi, e⟩ := List.getElem_of_mem hn
      refine mem_getD.2 ⟨i, by rw [(make_length ws).2.2.1]; exact hi, ?_⟩
      rw [(made_at ws hi).2.2.1, e, place_at h.fine.once _ hk]
      omega
  have h1 := nodup_sub hK.1 (fun x hx => (hm x).1 hx)
  have h2 := nodup_sub (upTo_nodup ws.length) (fun x hx => (hm x).2 hx)
  rw [upTo_len] at h1 h2
  omega
theorem made_numbered {ws : List (List Int)} (h : Words ws) {K : List Int} (hK : Keys (make ws) K) : Numbered (make ws) K := by
  intro j hj hne
  rw [(make_length ws).2.2.1] at hj
  have a3 := (made_at ws hj).2.2.1
  have hm : (nodes ws)[j] ∈ ws := Decidable.byContradiction fun hb => by
    rw [a3, place_none hb] at hne
    exact hne rfl
  have hlt := List.idxOf_lt_length_iff.2 hm
  rw [made_keys h hK]
  refine ⟨by rw [a3, place_mem hm]; omega, by rw [a3, place_mem hm]; omega, by rw [(make_length ws).2.2.1]; exact hj, rfl, fun i hi hil e => ?_⟩
  rw [(make_length ws).2.2.1] at hil
  have b3 := (made_at ws hil).2.2.1
  have hm' : (nodes ws)[i] ∈ ws := Decidable.byContradiction fun hb => by
    rw [b3, place_none hb] at e
    exact hne (e.symm)
  rw [a3, b3, place_mem hm, place_mem hm'] at e
  have e2 : (nodes ws)[i] = (nodes ws)[j] := by
    have h1 := List.getElem_idxOf (List.idxOf_lt_length_iff.2 hm)
    have h2 := List.getElem_idxOf (List.idxOf_lt_length_iff.2 hm')
    have e3 : ws.idxOf (nodes ws)[i] = ws.idxOf (nodes ws)[j] := by omega
    rw [← h1, ← h2]
    simp only [e3]
  exact less_ne (rises_at (nodes_rises ws) hi hil) e2.symm
theorem made_bounded {ws : List (List Int)} (h : Words ws) : Bounded (make ws) := by
  obtain ⟨m1, m2, m3, m4⟩ := make_length ws
  obtain ⟨i1, i2, i3⟩ := (made_tall h).inOrder_is (make ws).word.length (by omega)
  have hp : (inOrder (make ws) (make ws).word.length).Perm ws := nodup_perm i3 h.fine.once fun x => by
    rw [mem_inOrder, m3]
    constructor
    · rintro ⟨j, hj, hne, rfl⟩
      rw [made_sp ws hj]
      exact Decidable.byContradiction fun hb => hne (by rw [(made_at ws hj).2.2.1, place_none hb])
    · intro hx
      obtain ⟨j, hj, rfl⟩ := List.getElem_of_mem (word_node hx)
      exact ⟨j, hj, by rw [(made_at ws hj).2.2.1, place_mem hx]; omega, (made_sp ws hj).symm⟩
  have hl := hp.length_eq
  have htot : PlainPatset.total (inOrder (make ws) (make ws).word.length) = PlainPatset.total ws := by
    have := hp.flatten.length_eq
    unfold PlainPatset.total
    exact this
  have hw := h
  obtain ⟨hc, _⟩ := hw
  have h5 : PlainPatset.total ws ≤ 600 := by
    unfold PlainPatset.check at hc
    repeat' split at hc
    all_goals first | omega | skip
  refine ⟨by have := h.fine.few; omega, by omega, fun j hj => ?_⟩
  rw [m2] at hj
  rw [(made_at ws hj).2.1]
  have := nodes_short h.fine _ (List.getElem_mem hj)
  omega

/-- What may be has the form. -/
theorem right_form {t : Tree} (h : right t = true) : Even t ∧ Rooted t ∧ Rising t ∧ Ended t ∧ (∀ K, Keys t K → Numbered t K) ∧ Bounded t := by
  obtain ⟨ws, hw, rfl, _⟩ := right_is h
  exact ⟨made_even hw, made_rooted hw, made_rising ws, made_ended hw, fun K hK => made_numbered hw hK, made_bounded hw⟩
theorem right_keys {t : Tree} (h : right t = true) {K : List Int} (hK : Keys t K) : K.length = (words t).length := by
  obtain ⟨ws, hw, rfl, e⟩ := right_is h
  rw [made_keys hw hK, e]

end Go.Proofs.Ytojbkhheaondhaa.PlainTrie
