/- A region that draws its order in its first operations, each by a fact of its own, the others in their order; at the wide fence, in a round or not; of no program. A loop over an iterator that collects bytes in a variable of the call's own: the append in a round, what stands between the rounds. The document's own answer: bytes folded, texts that are the same. -/
import Derived.Test.YtmahiodejhakpaaOrder
import Derived.Test.YtmahiodejhakpaaK4
import Derived.Test.YtmahiodejhakpaaK6
import Derived.RangeFuncBox
import Derived.OwnWalkIn
import Derived.Test.YtmahiodejhakpaaK1
import Derived.StillTailTactics
import Derived.Deep.Light
set_option linter.unusedSimpArgs false
set_option linter.unusedVariables false
namespace Go.Proofs.Ytmahiodejhakpaa
open Go.RowKit

variable {P : Program} {Q : Exit → Act → World → Prop} {l : List Oper} {fs : List Fact} {a0 : Act} {w0 : World} {outs : List (Tmp × Value)} {r : Option Nat} {n : Nat}

theorem wpIn_of_wp {o : Oper} {a : Act} {w : World} {K : Act → World → Prop} (hd : noDefer o = true) (h : o.wp P a w K Q) : o.wpIn (wideAt r) n P a w K Q := by
  refine ⟨fun _ _ => trivial, ?_⟩
  show o.uponIn (wideAt r) n P a K Q ((o.semAt r a.eval).run P w)
  rw [semAt_plain hd]
  unfold Oper.wp at h
  generalize (execOp a.eval o).run P w = res at *
  cases res with
  | ok x w' =>
    cases x <;> simp only [Oper.upon] at h <;> simp only [Oper.uponIn]
    case enter f args => exact ⟨(fun e => by cases e), wideAt_calls h⟩
    case row row args => exact ⟨(fun e => by cases e), fun c cs _ => let ⟨v, w', q, s⟩ := h c cs; ⟨v, w', q, stepsIn_wide.2 s⟩⟩
    all_goals exact h
  | halt x w' => cases x <;> simp only [Oper.upon] at h <;> simp only [Oper.uponIn] <;> exact h

/-- Does one wait for the other, by one or by several steps? -/
def waitsB (l : List Oper) : Nat → Nat → Nat → Bool
  | 0, _, _ => false
  | f + 1, i, j => match l[i]? with
    | some o => (predsOf o).any fun p => p == j || waitsB l f p j
    | none => false

/-- The first k may come in any order; all others wait for them, and come one by one. -/
def headB (k : Nat) (l : List Oper) : Bool :=
  decide (k < l.length) && (l.take k).all (fun o => o.guard.isNone && noDefer o) &&
  (List.range k).all (fun j => waitsB l l.length k j) &&
  (List.range l.length).all (fun i => decide (i ≤ k) || match l[i]? with | some o => (predsOf o).any (fun p => decide (k ≤ p ∧ p < i)) | none => true) &&
  Region.seqB .any l.toArray (l.length - k) k (Array.replicate k true ++ Array.replicate (l.length - k) false)

theorem seq_more {F : Fence} {ops : Array Oper} : ∀ (l : List Oper) (k : Nat) (listed : Array Bool) (a : Act) (w : World) (g : Nat), (∀ j, l[j]? = ops[k + j]?) →
    Region.seqB .any ops l.length k listed = true → wpListIn F n P ops Q l a w → l.length ≤ g → wpAnyIn F n P .any ops Q g listed a w
  | [], k, listed, a, w, g, _, hB, h, _ => by
    have hr : Region.ready .any ops listed = [] := by simpa [Region.seqB] using hB
    cases g with
    | zero => exact ⟨hr, h⟩
    | succ g => exact ⟨fun _ => h, fun i hi => by rw [hr] at hi; cases hi⟩
  | o :: l, k, listed, a, w, 0, _, _, _, hg => by simp at hg
  | o :: l, k, listed, a, w, g + 1, hl, hB, h, hg => by
    have h0 : ops[k]? = some o := by simpa using (hl 0).symm
    simp only [List.length_cons, Region.seqB, Bool.and_eq_true, decide_eq_true_eq] at hB
    refine ⟨fun h1 => (by rw [hB.1] at h1; cases h1), fun i hi => ?_⟩
    rw [hB.1] at hi
    have hik : i = k := by simpa using hi
    subst hik
    have hw : wpOpIn F n P ops Q i (wpListIn F n P ops Q l) a w := by unfold wpOpIn; simp only [h0]; exact h
    exact wpOpIn_mono (fun a' w' h' => seq_more l (i + 1) _ a' w' g (fun j => by have := hl (j + 1); simpa [Nat.add_assoc, Nat.add_comm 1 j] using this) hB.2 h' (by simpa using hg)) hw

theorem mem_ready {ops : Array Oper} {L : Array Bool} {i : Nat} : i ∈ Region.ready .any ops L ↔ i < ops.size ∧ L.getD i true = false ∧ ∃ o, ops[i]? = some o ∧ ∀ j ∈ predsOf o, L.getD j false = true := by
  unfold Region.ready
  simp only [List.mem_filter, List.mem_range, Bool.and_eq_true, Bool.not_eq_true']
  constructor
  · rintro ⟨h1, h2, h3⟩
    refine ⟨h1, h2, ops[i], Array.getElem?_eq_getElem h1, ?_⟩
    rw [Array.getElem?_eq_getElem h1] at h3
    simp only [Option.map_some, Option.getD_some, Array.all_eq_true_iff_forall_mem] at h3
    intro j hj
    obtain ⟨e, he, rfl⟩ := List.mem_map.1 hj
    obtain ⟨he1, he2⟩ := List.mem_filter.1 he
    have := h3 e (by simpa using he1)
    rw [he2] at this
    simpa using this
  · rintro ⟨h1, h2, o, ho, h3⟩
    refine ⟨h1, h2, ?_⟩
    rw [ho]
    simp only [Option.map_some, Option.getD_some, Array.all_eq_true_iff_forall_mem]
    intro e he
    cases hbe : Region.binds .any e with
    | false => rfl
    | true => simpa using h3 e.on (List.mem_map.2 ⟨e, List.mem_filter.2 ⟨by simpa using he, hbe⟩, rfl⟩)

theorem waits_listed {L : Nat → Bool} (hcl : ∀ (i : Nat) (o : Oper), l[i]? = some o → L i = true → ∀ j ∈ predsOf o, L j = true) : ∀ (f i j : Nat) (o : Oper), l[i]? = some o → (∀ p ∈ predsOf o, L p = true) → waitsB l f i j = true → L j = true
  | 0, _, _, _, _, _, h => by simp [waitsB] at h
  | f + 1, i, j, o, ho, hp, h => by
    simp only [waitsB, ho, List.any_eq_true, Bool.or_eq_true, beq_iff_eq] at h
    obtain ⟨p, hpm, rfl | hw⟩ := h
    · exact hp p hpm
    · cases hlp : l[p]? with
      | none => cases f <;> simp [waitsB, hlp] at hw
      | some op => exact waits_listed hcl f p j op hlp (fun q hq => hcl p op hlp (hp p hpm) q hq) hw

theorem unlisted_zero {L : Array Bool} {k : Nat} (h : unlisted L k = 0) (hk : L.size = k) : L = Array.replicate k true := by
  unfold unlisted at h
  have h0 := List.eq_nil_of_length_eq_zero h
  apply Array.ext
  · simp [hk]
  · intro i h1 h2
    have : i ∉ (List.range k).filter fun i => !L.getD i true := by rw [h0]; simp
    simp only [List.mem_filter, List.mem_range, not_and] at this
    have := this (by omega)
    simpa [h1] using this

theorem unlisted_pos {L : Array Bool} {k : Nat} (h : unlisted L k ≠ 0) (hk : L.size = k) : ∃ j, j < k ∧ L[j]? = some false := by
  unfold unlisted at h
  obtain ⟨j, hj⟩ := List.exists_mem_of_ne_nil ((List.range k).filter fun i => !L.getD i true) (fun e => h (by rw [e]; rfl))
  simp only [List.mem_filter, List.mem_range] at hj
  refine ⟨j, hj.1, ?_⟩
  have hjL : j < L.size := by omega
  have := hj.2
  simp [hjL] at this
  simp [hjL, this]

theorem anyIn_of_inv (k : Nat) (hh : headB k l = true) (hs : shapeB a0.tmps.size (l.take k) = true) (hout : OutsOk ((l.take k).map (·.dst)) a0 outs) (hst : AllStable fs) {ps : List (List Nat)} (hsub : subB ps (l.take k) = true)
    (hob : Obs P Q ((l.take k).map (·.dst)) ((l.take k).map subj) fs outs w0 0 ps (l.take k))
    (hf : ∀ w, w0.grownBy w none → finalIn (fun _ a w => wpListIn (wideAt r) n P l.toArray Q (l.drop k) a w) fs w 0 (l.take k) a0) :
    ∀ (fuel : Nat) (L : Array Bool) (a : Act) (w : World), RInv (l.take k) fs a0 w0 L a w → unlisted L k + (l.length - k) ≤ fuel →
      wpAnyIn (wideAt r) n P .any l.toArray Q fuel (L ++ Array.replicate (l.length - k) false) a w := by
  unfold headB at hh
  simp only [Bool.and_eq_true, decide_eq_true_eq] at hh
  obtain ⟨⟨⟨⟨hk, hg⟩, hwait⟩, hlate⟩, hseq⟩ := hh
  have hlen : (l.take k).length = k := by simp; omega
  intro fuel
  induction fuel with
  | zero => intro L a w hI hn; omega
  | succ fuel ih =>
    intro L a w hI hn
    have hL : L.size = k := hI.size.trans hlen
    by_cases h0 : unlisted L k = 0
    · have hLk := unlisted_zero h0 hL
      have hr : Region.ready .any (l.take k).toArray L = [] := by
        rw [List.eq_nil_iff_forall_not_mem]
        intro i hi
        obtain ⟨h1, h2, _⟩ := mem_ready.1 hi
        have : i < k := by simpa [hlen] using h1
        rw [hLk] at h2
        simp [this] at h2
      have := inv_final (Q := fun _ a w => wpListIn (wideAt r) n P l.toArray Q (l.drop k) a w) hs hf hI hr
      subst hLk
      refine seq_more (l.drop k) k _ a w (fuel + 1) (fun j => by simp [List.getElem?_drop]) ?_ this (by simp; omega)
      simpa using hseq
    · obtain ⟨j0, hj0, hLj⟩ := unlisted_pos h0 hL
      have hcl : ∀ (i : Nat) (o : Oper), l[i]? = some o → (L ++ Array.replicate (l.length - k) false).getD i false = true → ∀ j ∈ predsOf o, (L ++ Array.replicate (l.length - k) false).getD j false = true := by
        intro i o ho hi j hj
        by_cases hik : i < k
        · have ho' : (l.take k)[i]? = some o := by rw [List.getElem?_take, if_pos hik]; exact ho
          have hLi : L[i]? = some true := by
            have hiL : i < L.size := by omega
            rw [Array.getD_eq_getD_getElem?, Array.getElem?_append_left hiL] at hi
            simp [hiL] at hi
            simp [hiL, hi]
          have h1 := hI.closed i o ho' hLi j hj
          have hjL : j < L.size := (Array.getElem?_eq_some_iff.1 h1).1
          rw [Array.getD_eq_getD_getElem?, Array.getElem?_append_left hjL, h1]
          rfl
        · exfalso
          rw [Array.getD_eq_getD_getElem?, Array.getElem?_append_right (by omega), Array.getElem?_replicate] at hi
          split at hi <;> simp at hi
      have hsmall : ∀ i, i ∈ Region.ready .any l.toArray (L ++ Array.replicate (l.length - k) false) → i < k := by
        intro i hi
        obtain ⟨h1, _, o, ho, hp⟩ := mem_ready.1 hi
        have ho' : l[i]? = some o := by simpa using ho
        have h1' : i < l.length := by simpa using h1
        by_cases hik : i < k
        · exact hik
        exfalso
        by_cases hek : i = k
        · subst hek
          have hw := List.all_eq_true.1 hwait j0 (List.mem_range.2 hj0)
          have := waits_listed (L := fun j => (L ++ Array.replicate (l.length - i) false).getD j false) hcl _ _ _ o ho' hp hw
          have hjL : j0 < L.size := by omega
          rw [Array.getD_eq_getD_getElem?, Array.getElem?_append_left hjL, hLj] at this
          cases this
        · have := List.all_eq_true.1 hlate i (List.mem_range.2 h1')
          simp only [ho', Bool.or_eq_true, decide_eq_true_eq, List.any_eq_true] at this
          obtain h | ⟨p, hpm, hp1, hp2⟩ := this
          · omega
          · have := hp p hpm
            rw [Array.getD_eq_getD_getElem?, Array.getElem?_append_right (by omega), Array.getElem?_replicate] at this
            split at this <;> simp at this
      have hready : ∀ i, i < k → (i ∈ Region.ready .any l.toArray (L ++ Array.replicate (l.length - k) false) ↔ i ∈ Region.ready .any (l.take k).toArray L) := by
        intro i hik
        have hiL : i < L.size := by omega
        rw [mem_ready, mem_ready]
        have e1 : (l.take k).toArray[i]? = l.toArray[i]? := by simp [List.getElem?_take, hik]
        have e2 : (L ++ Array.replicate (l.length - k) false).getD i true = L.getD i true := by simp [Array.getD_eq_getD_getElem?, Array.getElem?_append_left hiL]
        rw [e1, e2]
        have e3 : ∀ o, l.toArray[i]? = some o → ∀ j ∈ predsOf o, (L ++ Array.replicate (l.length - k) false).getD j false = L.getD j false := by
          intro o ho j hj
          have := shape_preds hs (i := i) (o := o) (by rw [List.getElem?_take, if_pos hik]; simpa using ho) hj
          have hjL : j < L.size := by omega
          simp [Array.getD_eq_getD_getElem?, Array.getElem?_append_left hjL]
        constructor
        · rintro ⟨h1, h2, o, ho, hp⟩
          exact ⟨by simp; omega, h2, o, ho, fun j hj => by rw [← e3 o ho j hj]; exact hp j hj⟩
        · rintro ⟨h1, h2, o, ho, hp⟩
          exact ⟨by simp; omega, h2, o, ho, fun j hj => by rw [e3 o ho j hj]; exact hp j hj⟩
      refine ⟨fun hr => ?_, fun i hi => ?_⟩
      · exfalso
        have hr' : Region.ready .any (l.take k).toArray L = [] := by
          rw [List.eq_nil_iff_forall_not_mem]
          intro i hi
          have hik : i < k := by have := (mem_ready.1 hi).1; simpa [hlen] using this
          have := (hready i hik).2 hi
          rw [hr] at this
          cases this
        have := all_listed hs hI hr' j0 (by omega)
        rw [hLj] at this
        cases this
      · have hik := hsmall i hi
        have hi' := (hready i hik).1 hi
        obtain ⟨_, hgf, _⟩ := mem_ready.1 hi'
        obtain ⟨o, ho, H⟩ := inv_op (Q := Q) hs hout hst hsub hob hI hi'
        have ho' : l[i]? = some o := by rw [List.getElem?_take, if_pos hik] at ho; exact ho
        have hgo := List.all_eq_true.1 hg o (List.mem_of_getElem? ho)
        simp only [Bool.and_eq_true] at hgo
        have hgn : o.guard = none := by simpa using hgo.1
        have hset : (L ++ Array.replicate (l.length - k) false).setIfInBounds i true = L.setIfInBounds i true ++ Array.replicate (l.length - k) false := by
          rw [Array.setIfInBounds_append_left (by omega)]
        have hlt := unlisted_set hik hL hgf
        have hw1 : ∀ ys, Region.wanted o ys = true := fun ys => by simp [Region.wanted, hgn]
        unfold wpOpIn
        simp only [List.getElem?_toArray, ho', hw1, if_true]
        rw [if_pos (hw1 _)] at H
        refine wpIn_of_wp hgo.2 (Oper.wp_mono (fun a' w' h' => ?_) H)
        rw [hset]
        exact ih _ a' w' h' (by omega)

/-- **A region that draws its order in its first k operations, op by op; the others come in their order.** -/
theorem wpIn_region_head {id : Nat} {a : Act} {w : World} (k : Nat) (fs : List Fact) (m : Nat) (ds ss : List (Option Tmp)) (ps : List (List Nat)) (outs : List (Tmp × Value)) (hm : P.follows .mixedOrders = true) (hsz : a.tmps.size = m)
    (hh : headB k l = true) (hs : shapeB m (l.take k) = true) (hds : (l.take k).map (·.dst) = ds) (hss : (l.take k).map subj = ss) (hps : subB ps (l.take k) = true) (hout : OutsOk ds a outs) (hst : AllStable fs)
    (hob : Obs P Q ds ss fs outs w.drew 0 ps (l.take k)) (hf : ∀ w', w.drew.grownBy w' none → finalIn (fun _ a w => wpListIn (wideAt r) n P l.toArray Q (l.drop k) a w) fs w' 0 (l.take k) a) :
    (Code.region id l.toArray true).wpIn (wideAt r) n P Q a w := by
  subst hsz hds hss
  refine wpIn_region_any hm ?_
  have hk : k < l.length := by unfold headB at hh; simp only [Bool.and_eq_true, decide_eq_true_eq] at hh; exact hh.1.1.1.1
  have e : Array.replicate l.toArray.size false = Array.replicate k false ++ Array.replicate (l.length - k) false := by
    rw [Array.replicate_append_replicate]
    congr 1
    simp
    omega
  rw [e]
  refine anyIn_of_inv (w0 := w.drew) k hh hs hout hst hps hob hf _ _ a w.drew ⟨by simp; omega, ⟨rfl, rfl, rfl, Nat.le_refl _, fun _ _ _ => rfl⟩, rfl, rfl, fun _ _ => rfl, ?_, ?_⟩ ?_
  · intro i o _ hL
    exfalso
    rw [Array.getElem?_replicate] at hL
    split at hL <;> simp at hL
  · intro i o _ hL
    exfalso
    rw [Array.getElem?_replicate] at hL
    split at hL <;> simp at hL
  · have : unlisted (Array.replicate k false) k ≤ k := by
      unfold unlisted
      refine Nat.le_trans (List.length_filter_le _ _) (by simp)
    simp
    omega

theorem head_round {id d : Nat} {a : Act} {w : World} (k : Nat) (fs : List Fact) (m : Nat) (ds ss : List (Option Tmp)) (ps : List (List Nat)) (outs : List (Tmp × Value)) (hm : P.follows .mixedOrders = true) (hsz : a.tmps.size = m)
    (hh : headB k l = true) (hs : shapeB m (l.take k) = true) (hds : (l.take k).map (·.dst) = ds) (hss : (l.take k).map subj = ss) (hps : subB ps (l.take k) = true) (hout : OutsOk ds a outs) (hst : AllStable fs)
    (hob : Obs P Q ds ss fs outs w.drew 0 ps (l.take k)) (hf : ∀ w', w.drew.grownBy w' none → finalIn (fun _ a w => wpListIn (Fence.wide.inRound d) n P l.toArray Q (l.drop k) a w) fs w' 0 (l.take k) a) :
    (Code.region id l.toArray true).wpIn (Fence.wide.inRound d) n P Q a w :=
  wpIn_region_head (r := some d) k fs m ds ss ps outs hm hsz hh hs hds hss hps hout hst hob hf

/-- The same of no fence: the others by the wide fence's walk. -/
theorem head_plain {id : Nat} {a : Act} {w : World} (k : Nat) (fs : List Fact) (m : Nat) (ds ss : List (Option Tmp)) (ps : List (List Nat)) (outs : List (Tmp × Value)) (hm : P.follows .mixedOrders = true) (hsz : a.tmps.size = m)
    (hh : headB k l = true) (hs : shapeB m (l.take k) = true) (hds : (l.take k).map (·.dst) = ds) (hss : (l.take k).map subj = ss) (hps : subB ps (l.take k) = true) (hout : OutsOk ds a outs) (hst : AllStable fs)
    (hob : Obs P Q ds ss fs outs w.drew 0 ps (l.take k)) (hf : ∀ w', w.drew.grownBy w' none → finalIn (fun _ a w => wpListIn Fence.wide 0 P l.toArray Q (l.drop k) a w) fs w' 0 (l.take k) a) :
    (Code.region id l.toArray true).wp P Q a w :=
  wpIn_wide.1 (wpIn_region_head (r := none) (n := 0) k fs m ds ss ps outs hm hsz hh hs hds hss hps hout hst hob hf)

/-- The same at the wide fence, in no round. -/
theorem head_wide {id : Nat} {a : Act} {w : World} (k : Nat) (fs : List Fact) (m : Nat) (ds ss : List (Option Tmp)) (ps : List (List Nat)) (outs : List (Tmp × Value)) (hm : P.follows .mixedOrders = true) (hsz : a.tmps.size = m)
    (hh : headB k l = true) (hs : shapeB m (l.take k) = true) (hds : (l.take k).map (·.dst) = ds) (hss : (l.take k).map subj = ss) (hps : subB ps (l.take k) = true) (hout : OutsOk ds a outs) (hst : AllStable fs)
    (hob : Obs P Q ds ss fs outs w.drew 0 ps (l.take k)) (hf : ∀ w', w.drew.grownBy w' none → finalIn (fun _ a w => wpListIn Fence.wide n P l.toArray Q (l.drop k) a w) fs w' 0 (l.take k) a) :
    (Code.region id l.toArray true).wpIn Fence.wide n P Q a w :=
  wpIn_region_head (r := none) k fs m ds ss ps outs hm hsz hh hs hds hss hps hout hst hob hf

end Go.Proofs.Ytmahiodejhakpaa

namespace Go.Proofs.Ytmahiodejhakpaa
open Go.RowKit

/-- All of a slice that reads as integers, in a fence. -/
theorem wpListIn_append_arr {F : Fence} {m0 : Nat} {P : Program} {ops : Array Oper} {rest : List Oper} {o : Oper} {a : Act} {Q : Exit → Act → World → Prop} (hgd : o.guard = none) (s x : Operand) (t : TypeId)
    (ho : o.op = .call { callee := .builtin .append, args := #[s, x], argTypes := #[t, t] })
    (base : Nat) (e : TypeId) (i : TypeInfo) (k : IntKind) (bytes : Nat) (ht : P.underlying t = some (.slice e)) (hi : P.info? e = some i) (hz : i.zero = some (.int k 0)) (hsize : i.size = 1) (hby : i.bytes = bytes)
    (v : Value) (xs zs : List Int) (ad : Addr) (m c : Nat) (w : World) (hown : w.ownsRow base e 1 v xs.length (xs.map (Value.int k))) (hA : Arr w k (some ad) zs) (hs : a.eval s = v)
    (hx : a.eval x = .slice (some ad) m c) (hm : zs.length = m) (hb8 : bytes ≤ 8) (hlen : xs.length + zs.length ≤ 1099511627776) (hbase : base ≤ w.heap.size)
    (h : ∀ v' w', w'.ownsRow base e 1 v' (xs ++ zs).length ((xs ++ zs).map (Value.int k)) → w.grownBy w' v.ownBlock → wpListIn F m0 P ops Q rest (a.put o.dst v') w') :
    wpListIn F m0 P ops Q (o :: rest) a w := by
  subst hm
  have hnews : ∀ (j : Nat) (u : Value), (zs.map (Value.int k))[j]? = some u → w.cell? (ad.add j) = some u := by
    intro j u hj
    have hjl : j < zs.length := by
      have := (List.getElem?_eq_some_iff.1 hj).1
      simpa using this
    obtain ⟨b, off, h0, _, hc⟩ := hA.at_ hjl
    injection h0 with h0
    subst h0
    rw [add_lit, hc j hjl]
    simp [hjl] at hj
    simp [List.getD, hjl, hj]
  refine wpListIn_append_own w hgd s x t ho base e i (.int k 0) 1 bytes ht hi hz hsize hby rfl (by decide) v xs.length (xs.map (Value.int k)) hs hown ad zs.length c (zs.map (Value.int k)) hx (by simp) hnews
    (by simp [Value.oneCell']) (by unfold maxLen; omega) ?_ hbase ?_
  · have : (xs.length + zs.length) * bytes ≤ (xs.length + zs.length) * 8 := Nat.mul_le_mul_left _ hb8
    omega
  · intro v' w' h1 h2 _
    exact h v' w' (by simpa using h1) h2

theorem Below.of_grown {w w' : World} (h : w.grownBy w' none) : Below w.heap.size w w' := below_of_grown h (Nat.le_refl _) (by simp)

/-- A block of cells of another type is not a row of bytes. -/
theorem not_row {w : World} {g : Nat} {t : TypeId} {cs : Array Value} (h : Holds w g t cs) (ht : t ≠ 5) {base n : Nat} {v : Value} {xs : List Value} (hr : w.ownsRow base 5 1 v n xs) : v.ownBlock ≠ some g := by
  rcases hr.2 with ⟨rfl, _⟩ | ⟨b, cap, cur, rfl, _, hb, _⟩
  · simp [Value.ownBlock]
  · intro e
    obtain rfl : b = g := by simpa [Value.ownBlock] using e
    unfold Holds at h
    rw [h] at hb
    injection hb with hb
    injection hb with _ hb
    exact ht hb
theorem not_row_mark {w : World} {g : Nat} {o : Obj} (h : w.heap[g]? = some o) (ho : o.isCells = false) {base n : Nat} {v : Value} {xs : List Value} (hr : w.ownsRow base 5 1 v n xs) : v.ownBlock ≠ some g := by
  rcases hr.2 with ⟨rfl, _⟩ | ⟨b, cap, cur, rfl, _, hb, _⟩
  · simp [Value.ownBlock]
  · intro e
    obtain rfl : b = g := by simpa [Value.ownBlock] using e
    rw [h] at hb
    injection hb with hb
    subst hb
    cases ho

theorem ne_of_mark {w : World} {g l : Nat} {t : TypeId} {cs : Array Value} (h : Holds w g t cs) {o : Obj} (hl : w.heap[l]? = some o) (ho : o.isCells = false) : g ≠ l := by
  rintro rfl
  unfold Holds at h
  rw [h] at hl
  injection hl with hl
  subst hl
  cases ho

/-- Blocks that are only read. -/
def AllHeld (ks : List (Nat × TypeId × Array Value)) (W : World) : Prop := ∀ x ∈ ks, Holds W x.1 x.2.1 x.2.2

/-- Between two rounds: block fb is the variable, its slice owns zs; ks: blocks that are only read; dl, rl: the loop's marks. -/
structure CollAt (w : World) (fb dl rl : Nat) (ks : List (Nat × TypeId × Array Value)) (rc : LoopState → Option Code → Loop) (zs : List Int) (W : World) : Prop where
  var : ∃ A cp, Holds W fb 25 #[.slice A zs.length cp] ∧ W.ownsRow w.heap.size 5 1 (.slice A zs.length cp) zs.length (zs.map (Value.int .u8))
  held : AllHeld ks W
  dfr : W.heap[dl]? = some (.deferred (some []))
  record : W.heap[rl]? = some (.loop (rc .ready none))
  gr : w.grownBy W none

/-- Bytes more. -/
theorem CollAt.step {w W wx w1 : World} {fb dl rl : Nat} {ks : List (Nat × TypeId × Array Value)} {rc : LoopState → Option Code → Loop} {zs : List Int} {ys : List Int} {A A' : Option Addr} {cp n cp' : Nat}
    (s : CollAt w fb dl rl ks rc zs W) (hfb : w.heap.size ≤ fb) (hrl : w.heap.size ≤ rl) (hdr : dl ≠ rl) (hks : ∀ x ∈ ks, x.1 ≠ fb ∧ x.2.1 ≠ 5)
    (hH : Holds W fb 25 #[.slice A zs.length cp]) (hown : W.ownsRow w.heap.size 5 1 (.slice A zs.length cp) zs.length (zs.map (Value.int .u8)))
    (hx : (W.putObj rl (.loop (rc .busy none))).grownBy wx none) (h1 : wx.grownBy w1 (Value.slice A zs.length cp).ownBlock)
    (hown1 : w1.ownsRow w.heap.size 5 1 (.slice A' n cp') (zs ++ ys).length ((zs ++ ys).map (Value.int .u8))) (hn : n = (zs ++ ys).length) :
    w1.cell? ⟨fb, 0, none⟩ = some (.slice A zs.length cp) ∧ w1.frozen? ⟨fb, 0, none⟩ = false ∧ fb < w1.heap.size ∧
    (w1.setCell ⟨fb, 0, none⟩ (.slice A' n cp')).heap[rl]? = some (.loop (rc .busy none)) ∧
      CollAt w fb dl rl ks rc (zs ++ ys) ((w1.setCell ⟨fb, 0, none⟩ (.slice A' n cp')).putObj rl (.loop (rc .ready none))) := by
  subst hn
  obtain ⟨Wb, hWb⟩ : ∃ Wb, W.putObj rl (.loop (rc .busy none)) = Wb := ⟨_, rfl⟩
  rw [hWb] at hx
  have rb : Wb.heap[rl]? = some (.loop (rc .busy none)) := hWb ▸ World.putObj_heap_same (Array.getElem?_eq_some_iff.1 s.record).1
  have nfr : fb ≠ rl := ne_of_mark hH s.record rfl
  have hHb : Holds Wb fb 25 #[.slice A zs.length cp] := hWb ▸ hH.put nfr _
  have hownb : Wb.ownsRow w.heap.size 5 1 (.slice A zs.length cp) zs.length (zs.map (Value.int .u8)) := hWb ▸ ownsRow_putObj hown _ s.record rfl
  have db : Wb.heap[dl]? = some (.deferred (some [])) := hWb ▸ (World.putObj_heap_other hdr).trans s.dfr
  have gb : w.grownBy Wb none := hWb ▸ grown_put s.gr hrl _
  have nfd : fb ≠ dl := ne_of_mark hH s.dfr rfl
  have kb : AllHeld ks Wb := fun x hx => hWb ▸ (s.held x hx).put (ne_of_mark (s.held x hx) s.record rfl) _
  clear hWb
  have hHx := hHb.kept0 hx
  have hownx := hownb.kept hx (by cases A <;> simp [Value.ownBlock])
  have rx : wx.heap[rl]? = some (.loop (rc .busy none)) := (hx.block rl (Array.getElem?_eq_some_iff.1 rb).1 (by simp)).trans rb
  have dx : wx.heap[dl]? = some (.deferred (some [])) := (hx.block dl (Array.getElem?_eq_some_iff.1 db).1 (by simp)).trans db
  have kx : AllHeld ks wx := fun x hx' => (kb x hx').kept0 hx
  have gx := grown_trans gb hx
  have hH1 : Holds w1 fb 25 #[.slice A zs.length cp] := hHx.kept h1 (not_row hHx (by decide) hownx)
  have r1 : w1.heap[rl]? = some (.loop (rc .busy none)) := (h1.block rl (Array.getElem?_eq_some_iff.1 rx).1 (fun e => not_row_mark rx rfl hownx e.symm)).trans rx
  have d1 : w1.heap[dl]? = some (.deferred (some [])) := (h1.block dl (Array.getElem?_eq_some_iff.1 dx).1 (fun e => not_row_mark dx rfl hownx e.symm)).trans dx
  have k1 : AllHeld ks w1 := fun x hx' => (kx x hx').kept h1 (not_row (kx x hx') (hks x hx').2 hownx)
  have g1 : w.grownBy w1 none := ⟨h1.os.trans gx.os, h1.tape.trans gx.tape, h1.output.trans gx.output, Nat.le_trans gx.size h1.size, fun j hj _ => (h1.block j (Nat.lt_of_lt_of_le hj gx.size) (fun e => by
    rcases hownx.2 with ⟨h0, _⟩ | ⟨b, cap, cur, h0, hb, _⟩
    · injection h0 with h0; subst h0; simp [Value.ownBlock] at e
    · injection h0 with h0; subst h0
      obtain rfl : b = j := by simpa [Value.ownBlock] using e.symm
      omega)).trans (gx.block j hj (by simp))⟩
  have c1 := hH1.cell 0
  simp at c1
  have hs2 : Holds (w1.setCell ⟨fb, 0, none⟩ (.slice A' (zs ++ ys).length cp')) fb 25 #[.slice A' (zs ++ ys).length cp'] := by simpa using hH1.set 0 (.slice A' (zs ++ ys).length cp')
  have r2 := other_set (p := ⟨fb, 0, none⟩) r1 (fun e => nfr e.symm) (.slice A' (zs ++ ys).length cp')
  have d2 := other_set (p := ⟨fb, 0, none⟩) d1 (fun e => nfd e.symm) (.slice A' (zs ++ ys).length cp')
  have o2 : (w1.setCell ⟨fb, 0, none⟩ (.slice A' (zs ++ ys).length cp')).ownsRow w.heap.size 5 1 (.slice A' (zs ++ ys).length cp') (zs ++ ys).length ((zs ++ ys).map (Value.int .u8)) :=
    hown1.kept (grownBy_setCell' w1 fb _) (.inr (not_row hH1 (by decide) hown1))
  have k2 : AllHeld ks (w1.setCell ⟨fb, 0, none⟩ (.slice A' (zs ++ ys).length cp')) := fun x hx' => (k1 x hx').far (hks x hx').1 _
  refine ⟨c1, hH1.free 0, hH1.lt, r2, ?_⟩
  exact {
    var := ⟨A', cp', hs2.put nfr _, ownsRow_putObj o2 _ r2 rfl⟩
    held := fun x hx' => (k2 x hx').put (ne_of_mark (k2 x hx') r2 rfl) _
    dfr := (World.putObj_heap_other hdr).trans d2
    record := World.putObj_heap_same (Array.getElem?_eq_some_iff.1 r2).1
    gr := grown_put (grown_set g1 (.inr hfb) _) hrl _ }

/-- New memory changes nothing of it. -/
theorem CollAt.grown {w W W' : World} {fb dl rl : Nat} {ks : List (Nat × TypeId × Array Value)} {rc : LoopState → Option Code → Loop} {zs : List Int} (s : CollAt w fb dl rl ks rc zs W) (hg : W.grownBy W' none) : CollAt w fb dl rl ks rc zs W' := by
  obtain ⟨A, cp, hH, hown⟩ := s.var
  exact {
    var := ⟨A, cp, hH.kept0 hg, hown.kept hg (by cases A <;> simp [Value.ownBlock])⟩
    held := fun x hx => (s.held x hx).kept0 hg
    dfr := (hg.block dl (Array.getElem?_eq_some_iff.1 s.dfr).1 (by simp)).trans s.dfr
    record := (hg.block rl (Array.getElem?_eq_some_iff.1 s.record).1 (by simp)).trans s.record
    gr := grown_trans s.gr hg }

/-- Nothing that is appended in a fence: a slice that is nil. -/
theorem wpListIn_append_all {F : Fence} {m0 : Nat} {P : Program} {ops : Array Oper} {rest : List Oper} {o : Oper} {a : Act} {Q : Exit → Act → World → Prop} (hgd : o.guard = none) (s x : Operand) (t : TypeId)
    (ho : o.op = .call { callee := .builtin .append, args := #[s, x], argTypes := #[t, t] })
    (base : Nat) (e : TypeId) (i : TypeInfo) (k : IntKind) (bytes : Nat) (ht : P.underlying t = some (.slice e)) (hi : P.info? e = some i) (hz : i.zero = some (.int k 0)) (hsize : i.size = 1) (hby : i.bytes = bytes)
    (v : Value) (xs zs : List Int) (A : Option Addr) (m c : Nat) (w : World) (hown : w.ownsRow base e 1 v xs.length (xs.map (Value.int k))) (hA : Arr w k A zs) (hs : a.eval s = v)
    (hx : a.eval x = .slice A m c) (hm : zs.length = m) (hb8 : bytes ≤ 8) (hlen : xs.length + zs.length ≤ 1099511627776) (hbase : base ≤ w.heap.size)
    (h : ∀ v' w', w'.ownsRow base e 1 v' (xs ++ zs).length ((xs ++ zs).map (Value.int k)) → w.grownBy w' v.ownBlock → wpListIn F m0 P ops Q rest (a.put o.dst v') w') :
    wpListIn F m0 P ops Q (o :: rest) a w := by
  subst hm
  cases A with
  | some ad => exact wpListIn_append_arr hgd s x t ho base e i k bytes ht hi hz hsize hby v xs zs ad zs.length c w hown hA hs hx rfl hb8 hlen hbase h
  | none =>
    have hzs : zs = [] := by
      by_cases hz : zs = []
      · exact hz
      · obtain ⟨_, _, h0, _⟩ := hA hz
        cases h0
    subst hzs
    refine wpListIn_plain hgd fun K hK => ?_
    have hrun := run_append_nothing (P := P) w base t o.type e i 1 ht hi v xs.length _ hown c
    unfold Oper.wpIn
    refine ⟨?_, ?_⟩
    · simp [Oper.about, ho, resolve, Target.leads, Sem.run_pure]
    · rw [Oper.semAt_plain F _ _ (by rw [ho]; intro c hc'; cases hc')]
      simp only [List.length_nil] at hx
      simp [execOp, ho, resolve, invoke, builtin, hs, hx, hrun, Result.andThen]
      exact hK _ _ (h v w (by simpa using hown) (grown_refl w _))

/-- Rows of bytes at known addresses. -/
def RowsAt (W : World) (P : Option Addr) (As : Nat → Option Addr) (Cs : Nat → Nat) (xss : List (List Int)) : Prop :=
  ∀ k, k < xss.length → ∃ b off, P = some ⟨b, off, none⟩ ∧ b < W.heap.size ∧ W.cell? ⟨b, off + k, none⟩ = some (.slice (As k) (xss.getD k []).length (Cs k)) ∧ Arr W .u8 (As k) (xss.getD k [])

theorem RowsAt.grown {w w' : World} {P : Option Addr} {As : Nat → Option Addr} {Cs : Nat → Nat} {xss : List (List Int)} (h : RowsAt w P As Cs xss) (hg : w.grownBy w' none) : RowsAt w' P As Cs xss := fun k hk => by
  obtain ⟨b, off, h1, h2, h3, h4⟩ := h k hk
  exact ⟨b, off, h1, Nat.lt_of_lt_of_le h2 hg.size, ((gcell hg).1 b _ h2).trans h3, h4.grown hg⟩

theorem RowsAt.of_arrs {w : World} {P : Option Addr} {xss : List (List Int)} (h : Arrs w P xss) : ∃ As Cs, RowsAt w P As Cs xss := by
  have : ∀ k, ∃ x : Option Addr × Nat, k < xss.length → ∃ b off, P = some ⟨b, off, none⟩ ∧ b < w.heap.size ∧ w.cell? ⟨b, off + k, none⟩ = some (.slice x.1 (xss.getD k []).length x.2) ∧ Arr w .u8 x.1 (xss.getD k []) := fun k => by
    by_cases hk : k < xss.length
    · obtain ⟨b, off, Ai, ci, h1, h2, h3, h4⟩ := h.at_ hk
      exact ⟨(Ai, ci), fun _ => ⟨b, off, h1, h2, h3, h4⟩⟩
    · exact ⟨(none, 0), fun h => absurd h hk⟩
  exact ⟨fun k => (Classical.choose (this k)).1, fun k => (Classical.choose (this k)).2, fun k hk => Classical.choose_spec (this k) hk⟩

end Go.Proofs.Ytmahiodejhakpaa

namespace Go.Proofs.Ytmahiodejhakpaa
open Go.RowKit PlainLetter

theorem refFold_is (c : Int) (w : World) (h0 : 0 ≤ c) (h1 : c ≤ 255) : Calls Try.prog 57 #[.int .u8 c] w fun e w' => e = .returned (.int .u8 (fold c)) ∧ w = w' := by
  by_cases h : 65 ≤ c ∧ c ≤ 90
  · have hf := hid (fold_in c h)
    obtain ⟨h2, h3⟩ := h
    have hw : IntKind.u8.wrap (c + 32) = c + 32 := by simp [IntKind.wrap, IntKind.bits, IntKind.signed]; omega
    go_enter Try.func57, Try.ntmps57
    go_wp2
    go_ret
    exact ⟨by rw [hf.out]; rfl, rfl⟩
  · have hf := hid (fold_out c h)
    by_cases h2 : 65 ≤ c
    · have h3 : ¬ c ≤ 90 := by omega
      clear h
      go_enter Try.func57, Try.ntmps57
      go_wp2
      go_ret
      exact ⟨by rw [hf.out]; rfl, rfl⟩
    · clear h
      go_enter Try.func57, Try.ntmps57
      go_wp2
      go_ret
      exact ⟨by rw [hf.out]; rfl, rfl⟩

theorem map_take_succ (f : Int → Int) (xs : List Int) (k : Nat) (h : k < xs.length) : (xs.take (k + 1)).map f = (xs.take k).map f ++ [f (xs.getD k 0)] := by rw [take_getD xs k 0 h, List.map_append]; rfl

set_option maxHeartbeats 800000 in
theorem refFolded_is (A : Option Addr) (c : Nat) (xs : List Int) (w : World) (hl : xs.length ≤ 100000) (hb : Bytes xs) (hA : Arr w .u8 A xs) :
    Calls Try.prog 41 #[.slice A xs.length c] w (Owns (xs.map fold) w) := by
  obtain ⟨i0, hi0, hz0, hz1, hz2⟩ := info_parts Try.info5
  replace hb := hid hb
  replace hA := hid hA
  go_enter Try.func41, Try.ntmps41
  go_wp2
  go_loopw [3, 4] (fun v i wr => ∃ k : Nat, k ≤ xs.length ∧ i = .int .i64 k ∧ wr.ownsRow w.heap.size 5 1 v ((xs.take k).map fold).length (((xs.take k).map fold).map (Value.int .u8)) ∧ Below w.heap.size w wr) (fun _ i _ => xs.length - (intOf i).toNat)
  case atStart => exact ⟨0, Nat.zero_le _, rfl, by simpa using World.ownsRow_nil _ _ _ _, Below.refl _ _⟩
  case round =>
    obtain ⟨k, hk, rfl, hown, hB⟩ := hrel
    by_cases hlt : k < xs.length
    · obtain ⟨b, off, rfl, hb0, hc⟩ := (hA.out.grown (below_grown hB)).at_ hlt
      have hck := hc k hlt
      obtain ⟨hy0, hy1⟩ := hb.out k
      have hT := hid (map_take_succ fold xs k hlt)
      have hlen : ((xs.take k).map fold).length = k := by simp; omega
      clear hc
      generalize xs.getD k 0 = y at hck hy0 hy1 hT
      generalize (xs.take k).map fold = zs at hown hT hlen
      have hlen' := hid hlen
      replace hT := hid hT.out
      replace hown := hid hown
      have hz : zs.length ≤ 1099511627776 := by omega
      have hsz := hB.size
      replace hB := hid hB
      clear hlen
      go_wp2_with (first
        | (go_at_call 57; refine (refFold_is y _ hy0 hy1).mono ?_; rintro e w' ⟨rfl, rfl⟩)
        | (at_builtin; refine wpList_push rfl _ _ 25 rfl w.heap.size 5 i0 .u8 1 Try.underlying25 hi0 hz0 hz1 hz2 _ zs (fold y) _ hown.out rfl rfl (by decide) hz hsz ?_; intro v' w1 hrow1 hB1))
      go_roundw
      case rel => exact ⟨k + 1, by omega, by go_num, by rw [hT.out]; exact hrow1, hB.out.trans hB1⟩
      case measure => simp [intOf]; omega
    · obtain rfl : k = xs.length := by omega
      rw [List.take_length] at hown
      go_wp2
      go_ret
      exact ⟨_, rfl, hown, hB⟩

end Go.Proofs.Ytmahiodejhakpaa
