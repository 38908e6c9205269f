/- Where words stand: hits, their order, all of a text's. Plain mathematics, of no program. -/
import Derived.Test.YtmahiodejhakpaaK1
set_option linter.unusedSimpArgs false
set_option linter.unusedVariables false
namespace Go.Proofs.Ytmahiodejhakpaa.PlainOcc
open PlainLetter PlainPatset

/-- A hit: its end, its word's number. -/
abbrev Hit := Int × Int

/-- A word's length; 0: there is no such word. -/
def lenOf (ws : List (List Int)) (k : Int) : Int := if k < 0 ∨ (ws.length : Int) ≤ k then 0 else ((ws.getD k.toNat []).length : Int)
def less (ws : List (List Int)) (a b : Hit) : Bool :=
  if a.1 = b.1 then if lenOf ws a.2 = lenOf ws b.2 then decide (a.2 < b.2) else decide (lenOf ws b.2 < lenOf ws a.2) else decide (a.1 < b.1)

theorem less_irrefl (ws : List (List Int)) (a : Hit) : less ws a a = false := by simp [less]
theorem less_iff (ws : List (List Int)) (a b : Hit) : less ws a b = true ↔ a.1 < b.1 ∨ (a.1 = b.1 ∧ (lenOf ws b.2 < lenOf ws a.2 ∨ (lenOf ws a.2 = lenOf ws b.2 ∧ a.2 < b.2))) := by
  unfold less
  by_cases h1 : a.1 = b.1
  · rw [if_pos h1]
    by_cases h2 : lenOf ws a.2 = lenOf ws b.2
    · rw [if_pos h2, decide_eq_true_iff]; omega
    · rw [if_neg h2, decide_eq_true_iff]; omega
  · rw [if_neg h1, decide_eq_true_iff]; omega
theorem less_trans (ws : List (List Int)) {a b c : Hit} (h : less ws a b = true) (h' : less ws b c = true) : less ws a c = true := by
  rw [less_iff] at *; omega
theorem less_asymm (ws : List (List Int)) {a b : Hit} (h : less ws a b = true) : less ws b a = false := by
  cases hb : less ws b a with
  | false => rfl
  | true => rw [less_iff] at *; omega
theorem less_total (ws : List (List Int)) (a b : Hit) : a = b ∨ less ws a b = true ∨ less ws b a = true := by
  rw [less_iff, less_iff]
  by_cases h : a.1 = b.1 ∧ a.2 = b.2
  · exact .inl (Prod.ext h.1 h.2)
  · right; omega

/-- Each comes ahead of all behind it. -/
def Sorted (ws : List (List Int)) (l : List Hit) : Prop := l.Pairwise (fun a b => less ws a b = true)

/-- Each but the last one comes ahead of the next one. -/
def rise (ws : List (List Int)) : List Hit → Bool
  | a :: b :: l => less ws a b && rise ws (b :: l)
  | _ => true

theorem rise_iff (ws : List (List Int)) : ∀ l, rise ws l = true ↔ Sorted ws l
  | [] => by simp [rise, Sorted]
  | [a] => by simp [rise, Sorted]
  | a :: b :: l => by
    have ih := rise_iff ws (b :: l)
    unfold rise
    rw [Bool.and_eq_true, ih]
    constructor
    · rintro ⟨h1, h2⟩
      refine List.Pairwise.cons (fun c hc => ?_) h2
      rcases List.mem_cons.1 hc with rfl | hc
      · exact h1
      · exact less_trans ws h1 (List.rel_of_pairwise_cons h2 hc)
    · intro h
      exact ⟨List.rel_of_pairwise_cons h (by simp), (List.pairwise_cons.1 h).2⟩

/-- Lists that rise, of the same hits, are the same. -/
theorem sorted_ext (ws : List (List Int)) : ∀ (l m : List Hit), Sorted ws l → Sorted ws m → (∀ h, h ∈ l ↔ h ∈ m) → l = m
  | [], [], _, _, _ => rfl
  | [], b :: m, _, _, h => by have := (h b).2 (by simp); cases this
  | a :: l, [], _, _, h => by have := (h a).1 (by simp); cases this
  | a :: l, b :: m, hl, hm, h => by
    have hl' := List.pairwise_cons.1 hl
    have hm' := List.pairwise_cons.1 hm
    have hab : a = b := by
      rcases List.mem_cons.1 ((h a).1 (by simp)) with e | ha
      · exact e
      rcases List.mem_cons.1 ((h b).2 (by simp)) with e | hb
      · exact e.symm
      have h1 := hm'.1 a ha
      have h2 := hl'.1 b hb
      rw [less_asymm ws h1] at h2
      cases h2
    subst hab
    congr 1
    refine sorted_ext ws l m hl'.2 hm'.2 fun x => ⟨fun hx => ?_, fun hx => ?_⟩
    · rcases List.mem_cons.1 ((h x).1 (by simp [hx])) with rfl | hx'
      · have := hl'.1 x hx; rw [less_irrefl] at this; cases this
      · exact hx'
    · rcases List.mem_cons.1 ((h x).2 (by simp [hx])) with rfl | hx'
      · have := hm'.1 x hx; rw [less_irrefl] at this; cases this
      · exact hx'

/-- Hits that rise, with one more: from the end on. -/
def insRev (ws : List (List Int)) (h : Hit) : List Hit → List Hit
  | [] => [h]
  | x :: r => if less ws h x = true then x :: insRev ws h r else h :: x :: r
def putHit (ws : List (List Int)) (l : List Hit) (h : Hit) : List Hit := (insRev ws h l.reverse).reverse

theorem insRev_mem (ws : List (List Int)) (h x : Hit) : ∀ r, x ∈ insRev ws h r ↔ x = h ∨ x ∈ r
  | [] => by simp [insRev]
  | y :: r => by
    unfold insRev
    split
    · rw [List.mem_cons, insRev_mem ws h x r, List.mem_cons]
      constructor
      · rintro (a | a | a)
        · exact .inr (.inl a)
        · exact .inl a
        · exact .inr (.inr a)
      · rintro (a | a | a)
        · exact .inr (.inl a)
        · exact .inl a
        · exact .inr (.inr a)
    · simp
theorem insRev_sorted (ws : List (List Int)) (h : Hit) : ∀ r, r.Pairwise (fun a b => less ws b a = true) → h ∉ r → (insRev ws h r).Pairwise (fun a b => less ws b a = true)
  | [], _, _ => by simp [insRev]
  | y :: r, hr, hn => by
    obtain ⟨h1, h2⟩ := List.pairwise_cons.1 hr
    unfold insRev
    by_cases hy : less ws h y = true
    · rw [if_pos hy]
      refine List.Pairwise.cons (fun x hx => ?_) (insRev_sorted ws h r h2 (fun hh => hn (by simp [hh])))
      rcases (insRev_mem ws h x r).1 hx with rfl | hx
      · exact hy
      · exact h1 x hx
    · rw [if_neg hy]
      have hyh : less ws y h = true := by
        rcases less_total ws h y with e | e | e
        · exact absurd (by simp [e] : h ∈ y :: r) hn
        · exact absurd e hy
        · exact e
      refine List.Pairwise.cons (fun x hx => ?_) hr
      rcases List.mem_cons.1 hx with rfl | hx
      · exact hyh
      · exact less_trans ws (h1 x hx) hyh
theorem insRev_len (ws : List (List Int)) (h : Hit) : ∀ r, (insRev ws h r).length = r.length + 1
  | [] => rfl
  | y :: r => by
    unfold insRev
    split
    · rw [List.length_cons, insRev_len ws h r, List.length_cons]
    · rfl

theorem put_mem (ws : List (List Int)) (l : List Hit) (h x : Hit) : x ∈ putHit ws l h ↔ x = h ∨ x ∈ l := by simp [putHit, insRev_mem]
theorem put_len (ws : List (List Int)) (l : List Hit) (h : Hit) : (putHit ws l h).length = l.length + 1 := by simp [putHit, insRev_len]
theorem put_sorted (ws : List (List Int)) (l : List Hit) (h : Hit) (hl : Sorted ws l) (hn : h ∉ l) : Sorted ws (putHit ws l h) := by
  unfold Sorted putHit
  rw [List.pairwise_reverse]
  exact insRev_sorted ws h l.reverse (by rw [List.pairwise_reverse]; exact hl) (by simpa using hn)

/-- The hits at a place, of the first n words. -/
def here (f : Bool) (ws : List (List Int)) (text : List Int) (fr : Int) (place : Nat) : Nat → List Hit
  | 0 => []
  | n + 1 => if stands f text place (ws.getD n []) = true then putHit ws (here f ws text fr place n) (fr + place, (n : Int)) else here f ws text fr place n
/-- The hits at the first n places. -/
def occTo (f : Bool) (ws : List (List Int)) (text : List Int) (fr : Int) : Nat → List Hit
  | 0 => []
  | p + 1 => occTo f ws text fr p ++ here f ws text fr p ws.length
def occ (f : Bool) (ws : List (List Int)) (text : List Int) (fr : Int) : List Hit := occTo f ws text fr (text.length + 1)

theorem here_mem (f : Bool) (ws : List (List Int)) (text : List Int) (fr : Int) (place : Nat) (h : Hit) : ∀ n, h ∈ here f ws text fr place n ↔ ∃ k : Nat, k < n ∧ h = (fr + place, (k : Int)) ∧ stands f text place (ws.getD k []) = true
  | 0 => by simp [here]
  | n + 1 => by
    have ih := here_mem f ws text fr place h n
    unfold here
    by_cases hs : stands f text place (ws.getD n []) = true
    · rw [if_pos hs, put_mem, ih]
      constructor
      · rintro (rfl | ⟨k, hk, e, hk'⟩)
        · exact ⟨n, by omega, rfl, hs⟩
        · exact ⟨k, by omega, e, hk'⟩
      · rintro ⟨k, hk, e, hk'⟩
        by_cases hkn : k = n
        · subst hkn; exact .inl e
        · exact .inr ⟨k, by omega, e, hk'⟩
    · rw [if_neg hs, ih]
      constructor
      · rintro ⟨k, hk, e, hk'⟩; exact ⟨k, by omega, e, hk'⟩
      · rintro ⟨k, hk, e, hk'⟩
        by_cases hkn : k = n
        · subst hkn; exact absurd hk' hs
        · exact ⟨k, by omega, e, hk'⟩
theorem here_sorted (f : Bool) (ws : List (List Int)) (text : List Int) (fr : Int) (place : Nat) : ∀ n, Sorted ws (here f ws text fr place n)
  | 0 => by simp [here, Sorted]
  | n + 1 => by
    have ih := here_sorted f ws text fr place n
    unfold here
    split
    · refine put_sorted ws _ _ ih fun hm => ?_
      obtain ⟨k, hk, e, _⟩ := (here_mem f ws text fr place _ n).1 hm
      have := congrArg Prod.snd e
      simp at this
      omega
    · exact ih
theorem occTo_mem (f : Bool) (ws : List (List Int)) (text : List Int) (fr : Int) (h : Hit) : ∀ p, h ∈ occTo f ws text fr p ↔ ∃ place k : Nat, place < p ∧ k < ws.length ∧ h = (fr + place, (k : Int)) ∧ stands f text place (ws.getD k []) = true
  | 0 => by simp [occTo]
  | p + 1 => by
    unfold occTo
    rw [List.mem_append, occTo_mem f ws text fr h p, here_mem]
    constructor
    · rintro (⟨place, k, h1, h2⟩ | ⟨k, h1, h2⟩)
      · exact ⟨place, k, by omega, h2⟩
      · exact ⟨p, k, by omega, h1, h2⟩
    · rintro ⟨place, k, h1, h2, h3⟩
      by_cases hp : place = p
      · subst hp; exact .inr ⟨k, h2, h3⟩
      · exact .inl ⟨place, k, by omega, h2, h3⟩
theorem occTo_sorted (f : Bool) (ws : List (List Int)) (text : List Int) (fr : Int) : ∀ p, Sorted ws (occTo f ws text fr p)
  | 0 => by simp [occTo, Sorted]
  | p + 1 => by
    unfold occTo Sorted
    rw [List.pairwise_append]
    refine ⟨occTo_sorted f ws text fr p, here_sorted f ws text fr p _, fun a ha b hb => ?_⟩
    obtain ⟨place, k, h1, _, rfl, _⟩ := (occTo_mem f ws text fr a p).1 ha
    obtain ⟨k', _, rfl, _⟩ := (here_mem f ws text fr p b _).1 hb
    rw [less_iff]
    left
    show fr + (place : Int) < fr + (p : Int)
    omega

/-- **All hits of a text rise**; which they are. -/
theorem occ_sorted (f : Bool) (ws : List (List Int)) (text : List Int) (fr : Int) : Sorted ws (occ f ws text fr) := occTo_sorted f ws text fr _
theorem occ_mem (f : Bool) (ws : List (List Int)) (text : List Int) (fr : Int) (h : Hit) : h ∈ occ f ws text fr ↔ ∃ place k : Nat, place ≤ text.length ∧ k < ws.length ∧ h = (fr + place, (k : Int)) ∧ stands f text place (ws.getD k []) = true := by
  unfold occ
  rw [occTo_mem]
  constructor
  · rintro ⟨place, k, h1, h2⟩; exact ⟨place, k, by omega, h2⟩
  · rintro ⟨place, k, h1, h2⟩; exact ⟨place, k, by omega, h2⟩

/-- How many there are. -/
def sumTo (g : Nat → Nat) : Nat → Nat
  | 0 => 0
  | n + 1 => sumTo g n + g n
theorem sumTo_add (g h : Nat → Nat) : ∀ n, sumTo (fun k => g k + h k) n = sumTo g n + sumTo h n
  | 0 => rfl
  | n + 1 => by simp only [sumTo, sumTo_add g h n]; omega
theorem sumTo_zero : ∀ n, sumTo (fun _ => 0) n = 0
  | 0 => rfl
  | n + 1 => by simp only [sumTo, sumTo_zero n]
theorem sumTo_swap (g : Nat → Nat → Nat) (m : Nat) : ∀ n, sumTo (fun k => sumTo (fun j => g k j) m) n = sumTo (fun j => sumTo (fun k => g k j) n) m
  | 0 => by simp only [sumTo]; exact (sumTo_zero m).symm
  | n + 1 => by simp only [sumTo, sumTo_swap g m n, ← sumTo_add]
def one (b : Bool) : Nat := if b = true then 1 else 0
theorem here_len (f : Bool) (ws : List (List Int)) (text : List Int) (fr : Int) (place : Nat) : ∀ n, (here f ws text fr place n).length = sumTo (fun k => one (stands f text place (ws.getD k []))) n
  | 0 => rfl
  | n + 1 => by
    have ih := here_len f ws text fr place n
    unfold here
    simp only [sumTo, one]
    split
    · rw [put_len, ih]; rfl
    · rw [ih]; rfl
theorem occTo_len (f : Bool) (ws : List (List Int)) (text : List Int) (fr : Int) : ∀ p, (occTo f ws text fr p).length = sumTo (fun place => sumTo (fun k => one (stands f text place (ws.getD k []))) ws.length) p
  | 0 => rfl
  | p + 1 => by unfold occTo; rw [List.length_append, occTo_len f ws text fr p, here_len]; rfl
/-- **Each word that stands anywhere is counted once.** -/
theorem occ_len (f : Bool) (ws : List (List Int)) (text : List Int) (fr : Int) : (occ f ws text fr).length = sumTo (fun k => sumTo (fun place => one (stands f text place (ws.getD k []))) (text.length + 1)) ws.length := by
  unfold occ
  rw [occTo_len]
  exact sumTo_swap (fun place k => one (stands f text place (ws.getD k []))) ws.length (text.length + 1)

/-- Those whose end is above low and at most high. -/
def between (low high : Int) (l : List Hit) : List Hit := l.filter fun h => decide (low < h.1 ∧ h.1 ≤ high)
theorem between_mem (low high : Int) (l : List Hit) (h : Hit) : h ∈ between low high l ↔ h ∈ l ∧ low < h.1 ∧ h.1 ≤ high := by simp [between]
theorem between_sorted (ws : List (List Int)) (low high : Int) (l : List Hit) (h : Sorted ws l) : Sorted ws (between low high l) := List.Pairwise.filter _ h

/-- Does it stand there? -/
def standsHit (f : Bool) (ws : List (List Int)) (text : List Int) (fr : Int) (h : Hit) : Bool :=
  if lenOf ws h.2 = 0 ∨ h.1 < fr ∨ fr + text.length < h.1 then false else stands f text (h.1 - fr) (ws.getD h.2.toNat [])

theorem lenOf_nat (ws : List (List Int)) (k : Nat) (hk : k < ws.length) : lenOf ws k = ((ws.getD k []).length : Int) := by
  unfold lenOf; rw [if_neg (by omega), Int.toNat_natCast]
theorem standsHit_at (f : Bool) (ws : List (List Int)) (text : List Int) (fr : Int) (place k : Nat) (hk : k < ws.length) (hp : place ≤ text.length) (hne : ws.getD k [] ≠ []) : standsHit f ws text fr (fr + place, (k : Int)) = stands f text place (ws.getD k []) := by
  have hl : 0 < (ws.getD k []).length := List.length_pos_iff.2 hne
  unfold standsHit
  rw [if_neg]
  · simp only [Int.toNat_natCast]
    rw [show fr + (place : Int) - fr = place by omega]
  · rw [lenOf_nat ws k hk]
    simp only
    omega

/-- A word stands in a beginning of the text just as in the text. -/
theorem stands_take (f : Bool) (text word : List Int) (at_ place : Nat) (h : place ≤ at_) (ha : at_ ≤ text.length) : stands f (text.take at_) place word = stands f text place word := by
  unfold stands
  rw [List.length_take, List.take_take, Int.toNat_natCast]
  have e1 : min place at_ = place := Nat.min_eq_left h
  have e2 : (((min at_ text.length : Nat) : Int)) = (at_ : Int) := by rw [Nat.min_eq_left ha]
  rw [e1, e2]
  congr 1
  exact decide_eq_decide.2 (by omega)
/-- And in what stands from a place on, if it is not longer than what stands there. -/
theorem stands_drop (f : Bool) (text word : List Int) (off place : Nat) (h : word.length ≤ place) (ho : off ≤ text.length) : stands f (text.drop off) place word = stands f text ((place + off : Nat) : Int) word := by
  unfold stands
  rw [List.length_drop, Int.toNat_natCast, Int.toNat_natCast]
  have e : (((text.drop off).take place).drop (place - word.length)) = ((text.take (place + off)).drop (place + off - word.length)) := by
    rw [List.take_drop, List.drop_drop]
    congr 1
    · omega
    · congr 1; omega
  rw [e]
  congr 1
  exact decide_eq_decide.2 (by omega)

theorem longest_le {ws : List (List Int)} : ∀ {z}, z ∈ ws → z.length ≤ longest ws := by
  induction ws with
  | nil => intro z hz; cases hz
  | cons a l ih =>
    intro z hz
    unfold longest
    simp only [List.foldr_cons]
    rcases List.mem_cons.1 hz with rfl | hz
    · omega
    · have := ih hz
      unfold longest at this
      omega

/-- **The hits of a text's beginning are those that end there.** -/
theorem occ_first (f : Bool) (ws : List (List Int)) (text : List Int) (fr : Int) (at_ : Nat) (ha : at_ ≤ text.length) : occ f ws (text.take at_) fr = between (fr - 1) (fr + at_) (occ f ws text fr) := by
  refine sorted_ext ws _ _ (occ_sorted f ws _ fr) (between_sorted ws _ _ _ (occ_sorted f ws text fr)) fun h => ?_
  rw [between_mem, occ_mem, occ_mem]
  have hlen : (text.take at_).length = at_ := by rw [List.length_take]; omega
  constructor
  · rintro ⟨place, k, h1, h2, rfl, h4⟩
    rw [hlen] at h1
    rw [stands_take f text _ at_ place h1 ha] at h4
    refine ⟨⟨place, k, by omega, h2, rfl, h4⟩, ?_, ?_⟩ <;> simp only <;> omega
  · rintro ⟨⟨place, k, h1, h2, rfl, h4⟩, h5, h6⟩
    simp only at h5 h6
    refine ⟨place, k, by rw [hlen]; omega, h2, rfl, ?_⟩
    rw [stands_take f text _ at_ place (by omega) ha]; exact h4

/-- **What is farther ahead makes no difference.** -/
theorem occ_parts (f : Bool) (ws : List (List Int)) (text : List Int) (fr : Int) (at_ warm : Nat) (ha : at_ ≤ text.length) (hw : warm = min (longest ws - 1) at_) :
    occ f ws text fr = occ f ws (text.take at_) fr ++ between (fr + at_) (fr + text.length) (occ f ws (text.drop (at_ - warm)) (fr + at_ - warm)) := by
  have hlen : (text.take at_).length = at_ := by rw [List.length_take]; omega
  have hdl : (text.drop (at_ - warm)).length = text.length - (at_ - warm) := List.length_drop
  have hww : warm ≤ at_ := by omega
  have hwl : ∀ k, k < ws.length → (ws.getD k []).length ≤ longest ws := fun k hk => longest_le (by simp only [List.getD, List.getElem?_eq_getElem hk, Option.getD_some]; exact List.getElem_mem hk)
  refine sorted_ext ws _ _ (occ_sorted f ws text fr) ?_ fun h => ?_
  · unfold Sorted
    rw [List.pairwise_append]
    refine ⟨occ_sorted f ws _ fr, between_sorted ws _ _ _ (occ_sorted f ws _ _), fun a ha' b hb' => ?_⟩
    obtain ⟨place, k, h1, _, rfl, _⟩ := (occ_mem f ws _ fr a).1 ha'
    obtain ⟨_, h5, _⟩ := (between_mem _ _ _ b).1 hb'
    rw [hlen] at h1
    rw [less_iff]
    left
    show fr + (place : Int) < b.1
    omega
  · rw [List.mem_append, between_mem, occ_mem, occ_mem, occ_mem, hlen, hdl]
    constructor
    · rintro ⟨place, k, h1, h2, rfl, h4⟩
      by_cases hp : place ≤ at_
      · left
        exact ⟨place, k, hp, h2, rfl, by rw [stands_take f text _ at_ place hp ha]; exact h4⟩
      · right
        have hl := hwl k h2
        have hb : (ws.getD k []).length ≤ place := by
          unfold stands at h4
          rw [Bool.and_eq_true, decide_eq_true_iff] at h4
          omega
        have hl2 : (ws.getD k []).length ≤ place - (at_ - warm) := by omega
        refine ⟨⟨place - (at_ - warm), k, by omega, h2, ?_, ?_⟩, ?_, ?_⟩
        · congr 1; omega
        · rw [stands_drop f text _ (at_ - warm) _ hl2 (by omega), show place - (at_ - warm) + (at_ - warm) = place by omega]
          exact h4
        · simp only; omega
        · simp only; omega
    · rintro (⟨place, k, h1, h2, rfl, h4⟩ | ⟨⟨place, k, h1, h2, rfl, h4⟩, h5, h6⟩)
      · rw [stands_take f text _ at_ place h1 ha] at h4
        exact ⟨place, k, by omega, h2, rfl, h4⟩
      · have hb : (ws.getD k []).length ≤ place := by
          unfold stands at h4
          rw [Bool.and_eq_true, decide_eq_true_iff] at h4
          omega
        simp only at h5 h6
        rw [stands_drop f text _ (at_ - warm) place hb (by omega)] at h4
        refine ⟨place + (at_ - warm), k, by omega, h2, ?_, h4⟩
        congr 1; omega

/-- Hits that are joined rise just if both lists do, and the last of one comes ahead of the first of the other. -/
theorem rise_parts (ws : List (List Int)) : ∀ (l m : List Hit), rise ws (l ++ m) = (rise ws l && rise ws m && (match l.getLast?, m.head? with | some a, some b => less ws a b | _, _ => true))
  | [], m => by simp [rise]
  | [a], [] => by simp [rise]
  | [a], b :: m => by simp [rise, Bool.and_comm]
  | a :: b :: l, m => by
    have ih := rise_parts ws (b :: l) m
    simp only [List.cons_append, rise] at ih ⊢
    rw [ih, List.getLast?_cons_cons]
    simp only [Bool.and_assoc]

end Go.Proofs.Ytmahiodejhakpaa.PlainOcc
