/- A region that draws its order in its first operations, each by a fact of its own, the others in their order; at the wide fence, in a round or not; of no program. -/
import Derived.Test.YtojbfjlihenjaaaOrder
import Derived.Test.YtojbfjlihenjaaaTail
set_option linter.unusedSimpArgs false
set_option linter.unusedVariables false
namespace Go.Proofs.Ytojbfjlihenjaaa
open Go.RowKit

variable {P : Program} {Q : Exit → Act → World → Prop} {l : List Oper} {fs : List Fact} {a0 : Act} {w0 : World} {outs : List (Tmp × Value)} {r : Option Nat} {n : Nat}

theorem wpIn_of_wp {o : Oper} {a : Act} {w : World} {K : Act → World → Prop} (hd : noDefer o = true) (h : o.wp P a w K Q) : o.wpIn (wideAt r) n P a w K Q := by
  refine ⟨fun _ _ => trivial, ?_⟩
  show o.uponIn (wideAt r) n P a K Q ((o.semAt r a.eval).run P w)
  rw [semAt_plain hd]
  unfold Oper.wp at h
  generalize (execOp a.eval o).run P w = res at *
  cases res with
  | ok x w' =>
    cases x <;> simp only [Oper.upon] at h <;> simp only [Oper.uponIn]
    case enter f args => exact ⟨(fun e => by cases e), wideAt_calls h⟩
    case row row args => exact ⟨(fun e => by cases e), fun c cs _ => let ⟨v, w', q, s⟩ := h c cs; ⟨v, w', q, stepsIn_wide.2 s⟩⟩
    all_goals exact h
  | halt x w' => cases x <;> simp only [Oper.upon] at h <;> simp only [Oper.uponIn] <;> exact h

/-- Does one wait for the other, by one or by several steps? -/
def waitsB (l : List Oper) : Nat → Nat → Nat → Bool
  | 0, _, _ => false
  | f + 1, i, j => match l[i]? with
    | some o => (predsOf o).any fun p => p == j || waitsB l f p j
    | none => false

/-- The first k may come in any order; all others wait for them, and come one by one. -/
def headB (k : Nat) (l : List Oper) : Bool :=
  decide (k < l.length) && (l.take k).all (fun o => o.guard.isNone && noDefer o) &&
  (List.range k).all (fun j => waitsB l l.length k j) &&
  (List.range l.length).all (fun i => decide (i ≤ k) || match l[i]? with | some o => (predsOf o).any (fun p => decide (k ≤ p ∧ p < i)) | none => true) &&
  Region.seqB .any l.toArray (l.length - k) k (Array.replicate k true ++ Array.replicate (l.length - k) false)

theorem seq_more {F : Fence} {ops : Array Oper} : ∀ (l : List Oper) (k : Nat) (listed : Array Bool) (a : Act) (w : World) (g : Nat), (∀ j, l[j]? = ops[k + j]?) →
    Region.seqB .any ops l.length k listed = true → wpListIn F n P ops Q l a w → l.length ≤ g → wpAnyIn F n P .any ops Q g listed a w
  | [], k, listed, a, w, g, _, hB, h, _ => by
    have hr : Region.ready .any ops listed = [] := by simpa [Region.seqB] using hB
    cases g with
    | zero => exact ⟨hr, h⟩
    | succ g => exact ⟨fun _ => h, fun i hi => by rw [hr] at hi; cases hi⟩
  | o :: l, k, listed, a, w, 0, _, _, _, hg => by simp at hg
  | o :: l, k, listed, a, w, g + 1, hl, hB, h, hg => by
    have h0 : ops[k]? = some o := by simpa using (hl 0).symm
    simp only [List.length_cons, Region.seqB, Bool.and_eq_true, decide_eq_true_eq] at hB
    refine ⟨fun h1 => (by rw [hB.1] at h1; cases h1), fun i hi => ?_⟩
    rw [hB.1] at hi
    have hik : i = k := by simpa using hi
    subst hik
    have hw : wpOpIn F n P ops Q i (wpListIn F n P ops Q l) a w := by unfold wpOpIn; simp only [h0]; exact h
    exact wpOpIn_mono (fun a' w' h' => seq_more l (i + 1) _ a' w' g (fun j => by have := hl (j + 1); simpa [Nat.add_assoc, Nat.add_comm 1 j] using this) hB.2 h' (by simpa using hg)) hw

theorem mem_ready {ops : Array Oper} {L : Array Bool} {i : Nat} : i ∈ Region.ready .any ops L ↔ i < ops.size ∧ L.getD i true = false ∧ ∃ o, ops[i]? = some o ∧ ∀ j ∈ predsOf o, L.getD j false = true := by
  unfold Region.ready
  simp only [List.mem_filter, List.mem_range, Bool.and_eq_true, Bool.not_eq_true']
  constructor
  · rintro ⟨h1, h2, h3⟩
    refine ⟨h1, h2, ops[i], Array.getElem?_eq_getElem h1, ?_⟩
    rw [Array.getElem?_eq_getElem h1] at h3
    simp only [Option.map_some, Option.getD_some, Array.all_eq_true_iff_forall_mem] at h3
    intro j hj
    obtain ⟨e, he, rfl⟩ := List.mem_map.1 hj
    obtain ⟨he1, he2⟩ := List.mem_filter.1 he
    have := h3 e (by simpa using he1)
    rw [he2] at this
    simpa using this
  · rintro ⟨h1, h2, o, ho, h3⟩
    refine ⟨h1, h2, ?_⟩
    rw [ho]
    simp only [Option.map_some, Option.getD_some, Array.all_eq_true_iff_forall_mem]
    intro e he
    cases hbe : Region.binds .any e with
    | false => rfl
    | true => simpa using h3 e.on (List.mem_map.2 ⟨e, List.mem_filter.2 ⟨by simpa using he, hbe⟩, rfl⟩)

theorem waits_listed {L : Nat → Bool} (hcl : ∀ (i : Nat) (o : Oper), l[i]? = some o → L i = true → ∀ j ∈ predsOf o, L j = true) : ∀ (f i j : Nat) (o : Oper), l[i]? = some o → (∀ p ∈ predsOf o, L p = true) → waitsB l f i j = true → L j = true
  | 0, _, _, _, _, _, h => by simp [waitsB] at h
  | f + 1, i, j, o, ho, hp, h => by
    simp only [waitsB, ho, List.any_eq_true, Bool.or_eq_true, beq_iff_eq] at h
    obtain ⟨p, hpm, rfl | hw⟩ := h
    · exact hp p hpm
    · cases hlp : l[p]? with
      | none => cases f <;> simp [waitsB, hlp] at hw
      | some op => exact waits_listed hcl f p j op hlp (fun q hq => hcl p op hlp (hp p hpm) q hq) hw

theorem unlisted_zero {L : Array Bool} {k : Nat} (h : unlisted L k = 0) (hk : L.size = k) : L = Array.replicate k true := by
  unfold unlisted at h
  have h0 := List.eq_nil_of_length_eq_zero h
  apply Array.ext
  · simp [hk]
  · intro i h1 h2
    have : i ∉ (List.range k).filter fun i => !L.getD i true := by rw [h0]; simp
    simp only [List.mem_filter, List.mem_range, not_and] at this
    have := this (by omega)
    simpa [h1] using this

theorem unlisted_pos {L : Array Bool} {k : Nat} (h : unlisted L k ≠ 0) (hk : L.size = k) : ∃ j, j < k ∧ L[j]? = some false := by
  unfold unlisted at h
  obtain ⟨j, hj⟩ := List.exists_mem_of_ne_nil ((List.range k).filter fun i => !L.getD i true) (fun e => h (by rw [e]; rfl))
  simp only [List.mem_filter, List.mem_range] at hj
  refine ⟨j, hj.1, ?_⟩
  have hjL : j < L.size := by omega
  have := hj.2
  simp [hjL] at this
  simp [hjL, this]

theorem anyIn_of_inv (k : Nat) (hh : headB k l = true) (hs : shapeB a0.tmps.size (l.take k) = true) (hout : OutsOk ((l.take k).map (·.dst)) a0 outs) (hst : AllStable fs) {ps : List (List Nat)} (hsub : subB ps (l.take k) = true)
    (hob : Obs P Q ((l.take k).map (·.dst)) ((l.take k).map subj) fs outs w0 0 ps (l.take k))
    (hf : ∀ w, w0.grownBy w none → finalIn (fun _ a w => wpListIn (wideAt r) n P l.toArray Q (l.drop k) a w) fs w 0 (l.take k) a0) :
    ∀ (fuel : Nat) (L : Array Bool) (a : Act) (w : World), RInv (l.take k) fs a0 w0 L a w → unlisted L k + (l.length - k) ≤ fuel →
      wpAnyIn (wideAt r) n P .any l.toArray Q fuel (L ++ Array.replicate (l.length - k) false) a w := by
  unfold headB at hh
  simp only [Bool.and_eq_true, decide_eq_true_eq] at hh
  obtain ⟨⟨⟨⟨hk, hg⟩, hwait⟩, hlate⟩, hseq⟩ := hh
  have hlen : (l.take k).length = k := by simp; omega
  intro fuel
  induction fuel with
  | zero => intro L a w hI hn; omega
  | succ fuel ih =>
    intro L a w hI hn
    have hL : L.size = k := hI.size.trans hlen
    by_cases h0 : unlisted L k = 0
    · have hLk := unlisted_zero h0 hL
      have hr : Region.ready .any (l.take k).toArray L = [] := by
        rw [List.eq_nil_iff_forall_not_mem]
        intro i hi
        obtain ⟨h1, h2, _⟩ := mem_ready.1 hi
        have : i < k := by simpa [hlen] using h1
        rw [hLk] at h2
        simp [this] at h2
      have := inv_final (Q := fun _ a w => wpListIn (wideAt r) n P l.toArray Q (l.drop k) a w) hs hf hI hr
      subst hLk
      refine seq_more (l.drop k) k _ a w (fuel + 1) (fun j => by simp [List.getElem?_drop]) ?_ this (by simp; omega)
      simpa using hseq
    · obtain ⟨j0, hj0, hLj⟩ := unlisted_pos h0 hL
      have hcl : ∀ (i : Nat) (o : Oper), l[i]? = some o → (L ++ Array.replicate (l.length - k) false).getD i false = true → ∀ j ∈ predsOf o, (L ++ Array.replicate (l.length - k) false).getD j false = true := by
        intro i o ho hi j hj
        by_cases hik : i < k
        · have ho' : (l.take k)[i]? = some o := by rw [List.getElem?_take, if_pos hik]; exact ho
          have hLi : L[i]? = some true := by
            have hiL : i < L.size := by omega
            rw [Array.getD_eq_getD_getElem?, Array.getElem?_append_left hiL] at hi
            simp [hiL] at hi
            simp [hiL, hi]
          have h1 := hI.closed i o ho' hLi j hj
          have hjL : j < L.size := (Array.getElem?_eq_some_iff.1 h1).1
          rw [Array.getD_eq_getD_getElem?, Array.getElem?_append_left hjL, h1]
          rfl
        · exfalso
          rw [Array.getD_eq_getD_getElem?, Array.getElem?_append_right (by omega), Array.getElem?_replicate] at hi
          split at hi <;> simp at hi
      have hsmall : ∀ i, i ∈ Region.ready .any l.toArray (L ++ Array.replicate (l.length - k) false) → i < k := by
        intro i hi
        obtain ⟨h1, _, o, ho, hp⟩ := mem_ready.1 hi
        have ho' : l[i]? = some o := by simpa using ho
        have h1' : i < l.length := by simpa using h1
        by_cases hik : i < k
        · exact hik
        exfalso
        by_cases hek : i = k
        · subst hek
          have hw := List.all_eq_true.1 hwait j0 (List.mem_range.2 hj0)
          have := waits_listed (L := fun j => (L ++ Array.replicate (l.length - i) false).getD j false) hcl _ _ _ o ho' hp hw
          have hjL : j0 < L.size := by omega
          rw [Array.getD_eq_getD_getElem?, Array.getElem?_append_left hjL, hLj] at this
          cases this
        · have := List.all_eq_true.1 hlate i (List.mem_range.2 h1')
          simp only [ho', Bool.or_eq_true, decide_eq_true_eq, List.any_eq_true] at this
          obtain h | ⟨p, hpm, hp1, hp2⟩ := this
          · omega
          · have := hp p hpm
            rw [Array.getD_eq_getD_getElem?, Array.getElem?_append_right (by omega), Array.getElem?_replicate] at this
            split at this <;> simp at this
      have hready : ∀ i, i < k → (i ∈ Region.ready .any l.toArray (L ++ Array.replicate (l.length - k) false) ↔ i ∈ Region.ready .any (l.take k).toArray L) := by
        intro i hik
        have hiL : i < L.size := by omega
        rw [mem_ready, mem_ready]
        have e1 : (l.take k).toArray[i]? = l.toArray[i]? := by simp [List.getElem?_take, hik]
        have e2 : (L ++ Array.replicate (l.length - k) false).getD i true = L.getD i true := by simp [Array.getD_eq_getD_getElem?, Array.getElem?_append_left hiL]
        rw [e1, e2]
        have e3 : ∀ o, l.toArray[i]? = some o → ∀ j ∈ predsOf o, (L ++ Array.replicate (l.length - k) false).getD j false = L.getD j false := by
          intro o ho j hj
          have := shape_preds hs (i := i) (o := o) (by rw [List.getElem?_take, if_pos hik]; simpa using ho) hj
          have hjL : j < L.size := by omega
          simp [Array.getD_eq_getD_getElem?, Array.getElem?_append_left hjL]
        constructor
        · rintro ⟨h1, h2, o, ho, hp⟩
          exact ⟨by simp; omega, h2, o, ho, fun j hj => by rw [← e3 o ho j hj]; exact hp j hj⟩
        · rintro ⟨h1, h2, o, ho, hp⟩
          exact ⟨by simp; omega, h2, o, ho, fun j hj => by rw [e3 o ho j hj]; exact hp j hj⟩
      refine ⟨fun hr => ?_, fun i hi => ?_⟩
      · exfalso
        have hr' : Region.ready .any (l.take k).toArray L = [] := by
          rw [List.eq_nil_iff_forall_not_mem]
          intro i hi
          have hik : i < k := by have := (mem_ready.1 hi).1; simpa [hlen] using this
          have := (hready i hik).2 hi
          rw [hr] at this
          cases this
        have := all_listed hs hI hr' j0 (by omega)
        rw [hLj] at this
        cases this
      · have hik := hsmall i hi
        have hi' := (hready i hik).1 hi
        obtain ⟨_, hgf, _⟩ := mem_ready.1 hi'
        obtain ⟨o, ho, H⟩ := inv_op (Q := Q) hs hout hst hsub hob hI hi'
        have ho' : l[i]? = some o := by rw [List.getElem?_take, if_pos hik] at ho; exact ho
        have hgo := List.all_eq_true.1 hg o (List.mem_of_getElem? ho)
        simp only [Bool.and_eq_true] at hgo
        have hgn : o.guard = none := by simpa using hgo.1
        have hset : (L ++ Array.replicate (l.length - k) false).setIfInBounds i true = L.setIfInBounds i true ++ Array.replicate (l.length - k) false := by
          rw [Array.setIfInBounds_append_left (by omega)]
        have hlt := unlisted_set hik hL hgf
        have hw1 : ∀ ys, Region.wanted o ys = true := fun ys => by simp [Region.wanted, hgn]
        unfold wpOpIn
        simp only [List.getElem?_toArray, ho', hw1, if_true]
        rw [if_pos (hw1 _)] at H
        refine wpIn_of_wp hgo.2 (Oper.wp_mono (fun a' w' h' => ?_) H)
        rw [hset]
        exact ih _ a' w' h' (by omega)

/-- **A region that draws its order in its first k operations, op by op; the others come in their order.** -/
theorem wpIn_region_head {id : Nat} {a : Act} {w : World} (k : Nat) (fs : List Fact) (m : Nat) (ds ss : List (Option Tmp)) (ps : List (List Nat)) (outs : List (Tmp × Value)) (hm : P.follows .mixedOrders = true) (hsz : a.tmps.size = m)
    (hh : headB k l = true) (hs : shapeB m (l.take k) = true) (hds : (l.take k).map (·.dst) = ds) (hss : (l.take k).map subj = ss) (hps : subB ps (l.take k) = true) (hout : OutsOk ds a outs) (hst : AllStable fs)
    (hob : Obs P Q ds ss fs outs w.drew 0 ps (l.take k)) (hf : ∀ w', w.drew.grownBy w' none → finalIn (fun _ a w => wpListIn (wideAt r) n P l.toArray Q (l.drop k) a w) fs w' 0 (l.take k) a) :
    (Code.region id l.toArray true).wpIn (wideAt r) n P Q a w := by
  subst hsz hds hss
  refine wpIn_region_any hm ?_
  have hk : k < l.length := by unfold headB at hh; simp only [Bool.and_eq_true, decide_eq_true_eq] at hh; exact hh.1.1.1.1
  have e : Array.replicate l.toArray.size false = Array.replicate k false ++ Array.replicate (l.length - k) false := by
    rw [Array.replicate_append_replicate]
    congr 1
    simp
    omega
  rw [e]
  refine anyIn_of_inv (w0 := w.drew) k hh hs hout hst hps hob hf _ _ a w.drew ⟨by simp; omega, ⟨rfl, rfl, rfl, Nat.le_refl _, fun _ _ _ => rfl⟩, rfl, rfl, fun _ _ => rfl, ?_, ?_⟩ ?_
  · intro i o _ hL
    exfalso
    rw [Array.getElem?_replicate] at hL
    split at hL <;> simp at hL
  · intro i o _ hL
    exfalso
    rw [Array.getElem?_replicate] at hL
    split at hL <;> simp at hL
  · have : unlisted (Array.replicate k false) k ≤ k := by
      unfold unlisted
      refine Nat.le_trans (List.length_filter_le _ _) (by simp)
    simp
    omega

theorem head_round {id d : Nat} {a : Act} {w : World} (k : Nat) (fs : List Fact) (m : Nat) (ds ss : List (Option Tmp)) (ps : List (List Nat)) (outs : List (Tmp × Value)) (hm : P.follows .mixedOrders = true) (hsz : a.tmps.size = m)
    (hh : headB k l = true) (hs : shapeB m (l.take k) = true) (hds : (l.take k).map (·.dst) = ds) (hss : (l.take k).map subj = ss) (hps : subB ps (l.take k) = true) (hout : OutsOk ds a outs) (hst : AllStable fs)
    (hob : Obs P Q ds ss fs outs w.drew 0 ps (l.take k)) (hf : ∀ w', w.drew.grownBy w' none → finalIn (fun _ a w => wpListIn (Fence.wide.inRound d) n P l.toArray Q (l.drop k) a w) fs w' 0 (l.take k) a) :
    (Code.region id l.toArray true).wpIn (Fence.wide.inRound d) n P Q a w :=
  wpIn_region_head (r := some d) k fs m ds ss ps outs hm hsz hh hs hds hss hps hout hst hob hf

/-- The same of no fence: the others by the wide fence's walk. -/
theorem head_plain {id : Nat} {a : Act} {w : World} (k : Nat) (fs : List Fact) (m : Nat) (ds ss : List (Option Tmp)) (ps : List (List Nat)) (outs : List (Tmp × Value)) (hm : P.follows .mixedOrders = true) (hsz : a.tmps.size = m)
    (hh : headB k l = true) (hs : shapeB m (l.take k) = true) (hds : (l.take k).map (·.dst) = ds) (hss : (l.take k).map subj = ss) (hps : subB ps (l.take k) = true) (hout : OutsOk ds a outs) (hst : AllStable fs)
    (hob : Obs P Q ds ss fs outs w.drew 0 ps (l.take k)) (hf : ∀ w', w.drew.grownBy w' none → finalIn (fun _ a w => wpListIn Fence.wide 0 P l.toArray Q (l.drop k) a w) fs w' 0 (l.take k) a) :
    (Code.region id l.toArray true).wp P Q a w :=
  wpIn_wide.1 (wpIn_region_head (r := none) (n := 0) k fs m ds ss ps outs hm hsz hh hs hds hss hps hout hst hob hf)

/-- The same at the wide fence, in no round. -/
theorem head_wide {id : Nat} {a : Act} {w : World} (k : Nat) (fs : List Fact) (m : Nat) (ds ss : List (Option Tmp)) (ps : List (List Nat)) (outs : List (Tmp × Value)) (hm : P.follows .mixedOrders = true) (hsz : a.tmps.size = m)
    (hh : headB k l = true) (hs : shapeB m (l.take k) = true) (hds : (l.take k).map (·.dst) = ds) (hss : (l.take k).map subj = ss) (hps : subB ps (l.take k) = true) (hout : OutsOk ds a outs) (hst : AllStable fs)
    (hob : Obs P Q ds ss fs outs w.drew 0 ps (l.take k)) (hf : ∀ w', w.drew.grownBy w' none → finalIn (fun _ a w => wpListIn Fence.wide n P l.toArray Q (l.drop k) a w) fs w' 0 (l.take k) a) :
    (Code.region id l.toArray true).wpIn Fence.wide n P Q a w :=
  wpIn_region_head (r := none) k fs m ds ss ps outs hm hsz hh hs hds hss hps hout hst hob hf

end Go.Proofs.Ytojbfjlihenjaaa
