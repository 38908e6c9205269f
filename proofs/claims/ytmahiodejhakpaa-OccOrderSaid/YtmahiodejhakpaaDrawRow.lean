/- A region that draws its order, op by op, in which one older block may turn; else as Order and Draw have it. -/
import Derived.Test.YtmahiodejhakpaaK7
set_option linter.unusedSimpArgs false
set_option linter.unusedVariables false
namespace Go.Proofs.Ytmahiodejhakpaa.RowDraw
open Go.RowKit Go.Proofs.Ytmahiodejhakpaa

section
variable (P : Program) (Q : Exit → Act → World → Prop) (ds ss : List (Option Tmp)) (fs : List Fact) (outs : List (Tmp × Value)) (w0 : World) (row : Option Nat) (i0 : Nat) (I : World → Prop)

/-- What is asked of an operation. -/
def ObAny (i : Nat) (js : List Nat) (o : Oper) : Prop := ∀ a w, w0.grownBy w row → (i = i0 → I w) → outThen a outs (preThen ss fs a w js
  (∀ K : Act → World → Prop, (∀ u v w', (match o.dst with | some _ => v = u | none => slotIs a (subj o) v) → factAt fs i v w' → w0.grownBy w' row → (i ≠ i0 → I w → I w') → (∀ j v, j ≠ i → factAt fs j v w → factAt fs j v w') → K (a.put o.dst u) w') →
    if wantedAt ds o a.tmps = true then o.wp P a w K Q else K (a.put o.dst undef) w))

/-- What is asked of an operation that makes new memory alone. -/
def Ob (i : Nat) (js : List Nat) (o : Oper) : Prop := ∀ a w, w0.grownBy w row → outThen a outs (preThen ss fs a w js
  (∀ K : Act → World → Prop, (∀ v w', factAt fs i v w' → w.grownBy w' none → K (a.put o.dst v) w') →
    if wantedAt ds o a.tmps = true then o.wp P a w K Q else K (a.put o.dst undef) w))

def Obs : Nat → List (List Nat) → List Oper → Prop
  | k, js :: ps, o :: l => ((o.dst.isSome = true ∧ Ob P Q ds ss fs outs w0 row k js o) ∨ ObAny P Q ds ss fs outs w0 row i0 I k js o) ∧ Obs (k + 1) ps l
  | _, _, _ => True
end

structure RInv (l : List Oper) (fs : List Fact) (a0 : Act) (w0 : World) (row : Option Nat) (i0 : Nat) (I : World → Prop) (L : Array Bool) (a : Act) (w : World) : Prop where
  size : L.size = l.length
  gr : w0.grownBy w row
  df : a.defers = a0.defers
  ts : a.tmps.size = a0.tmps.size
  keep : ∀ t, (l.map (·.dst)).contains (some t) = false → a.tmps[t]? = a0.tmps[t]?
  closed : ∀ (i : Nat) (o : Oper), l[i]? = some o → L[i]? = some true → ∀ j ∈ predsOf o, L[j]? = some true
  fact : ∀ (i : Nat) (o : Oper), l[i]? = some o → L[i]? = some true → ∃ v, slotIs a (subj o) v ∧ factAt fs i v w

  stays : ∀ w w', w.grownBy w' none → I w → I w'
  held : L[i0]? = some false → I w

variable {P : Program} {Q : Exit → Act → World → Prop} {l : List Oper} {fs : List Fact} {a0 : Act} {w0 : World} {row : Option Nat} {i0 : Nat} {I : World → Prop} {n : Nat} {r : Option Nat} {outs : List (Tmp × Value)}

theorem obs_at {ds ss : List (Option Tmp)} {ps : List (List Nat)} (hsub : subB ps l = true) (h : Obs P Q ds ss fs outs w0 row i0 I 0 ps l) {i : Nat} {o : Oper} (hi : l[i]? = some o) :
    ∃ js : List Nat, (∀ j ∈ js, j ∈ predsOf o) ∧ ((o.dst.isSome = true ∧ Ob P Q ds ss fs outs w0 row i js o) ∨ ObAny P Q ds ss fs outs w0 row i0 I i js o) := by
  have gen : ∀ (m : List Oper) (ps : List (List Nat)) (k i : Nat), subB ps m = true → Obs P Q ds ss fs outs w0 row i0 I k ps m → m[i]? = some o →
      ∃ js : List Nat, (∀ j ∈ js, j ∈ predsOf o) ∧ ((o.dst.isSome = true ∧ Ob P Q ds ss fs outs w0 row (k + i) js o) ∨ ObAny P Q ds ss fs outs w0 row i0 I (k + i) js o) := by
    intro m
    induction m with
    | nil => intro ps k i _ _ h2; simp at h2
    | cons x m ih =>
      intro ps k i hs h1 h2
      cases ps with
      | nil => cases hs
      | cons js ps =>
        simp only [subB, Bool.and_eq_true, List.all_eq_true] at hs
        cases i with
        | zero => simp at h2; subst h2; exact ⟨js, fun j hj => by simpa using hs.1 j hj, h1.1⟩
        | succ i =>
          have := ih ps (k + 1) i hs.2 h1.2 (by simpa using h2)
          rwa [show k + 1 + i = k + (i + 1) by omega] at this
  have := gen l ps 0 i hsub h hi
  rwa [Nat.zero_add] at this

theorem Ob.any {ds ss : List (Option Tmp)} {i : Nat} {o : Oper} {js : List Nat} (hst : AllStable fs) (hIs : ∀ w w', w.grownBy w' none → I w → I w') (hd : o.dst.isSome = true) (h : Ob P Q ds ss fs outs w0 row i js o) : ObAny P Q ds ss fs outs w0 row i0 I i js o := by
  intro a w hg _
  have h := h a w hg
  have kmono : ∀ (xs : List (Tmp × Value)) (G G' : Prop), (G → G') → outThen a xs G → outThen a xs G' := by
    intro xs
    induction xs with
    | nil => intro G G' hG h; exact hG h
    | cons x xs ih => intro G G' hG h he; exact ih _ _ hG (h he)
  have pmono : ∀ (js : List Nat) (G G' : Prop), (G → G') → preThen ss fs a w js G → preThen ss fs a w js G' := by
    intro js
    induction js with
    | nil => intro G G' hG h; exact hG h
    | cons j js ih => intro G G' hG h v h1 h2; exact ih _ _ hG (h v h1 h2)
  refine kmono _ _ _ (pmono _ _ _ ?_) h
  intro h K hK
  refine h K (fun v w' hF hgr => ?_)
  obtain ⟨d, hd'⟩ := Option.isSome_iff_exists.1 hd
  refine hK v v w' (by rw [hd']) hF ?_ (fun _ h9 => hIs _ _ hgr h9) (fun j u _ hj => hst.at_ j u w w' hj hgr)
  exact ⟨hgr.os.trans hg.os, hgr.tape.trans hg.tape, hgr.output.trans hg.output, Nat.le_trans hg.size hgr.size,
    fun j hj hne => (hgr.block j (Nat.lt_of_lt_of_le hj hg.size) (by simp)).trans (hg.block j hj hne)⟩

theorem inv_op (hs : shapeB a0.tmps.size l = true) (hout : OutsOk (l.map (·.dst)) a0 outs) (hst : AllStable fs) {ps : List (List Nat)} (hsub : subB ps l = true) (hob : Obs P Q (l.map (·.dst)) (l.map subj) fs outs w0 row i0 I 0 ps l) {L : Array Bool} {a : Act} {w : World} {i : Nat}
    (hI : RInv l fs a0 w0 row i0 I L a w) (hi : i ∈ Region.ready .any l.toArray L) : ∃ o, l[i]? = some o ∧
    if Region.wanted o (yielded l.toArray a.tmps) = true then o.wp P a w (fun a' w' => RInv l fs a0 w0 row i0 I (L.setIfInBounds i true) a' w') Q else RInv l fs a0 w0 row i0 I (L.setIfInBounds i true) (a.put o.dst undef) w := by
  unfold Region.ready at hi
  simp only [List.mem_filter, List.mem_range, Bool.and_eq_true, Bool.not_eq_true', List.size_toArray, List.getElem?_toArray] at hi
  obtain ⟨hlt, hfalse, hafter⟩ := hi
  obtain ⟨o, ho⟩ : ∃ o, l[i]? = some o := ⟨_, List.getElem?_eq_getElem hlt⟩
  rw [ho] at hafter
  simp only [Option.map_some, Option.getD_some] at hafter
  have hiL : i < L.size := by rw [hI.size]; exact hlt
  have hiF : L[i]? = some false := by
    rw [Array.getD_eq_getD_getElem?, Array.getElem?_eq_getElem hiL] at hfalse
    simp at hfalse
    rw [Array.getElem?_eq_getElem hiL, hfalse]
  have hpreds : ∀ j ∈ predsOf o, L[j]? = some true := by
    intro j hj
    unfold predsOf at hj
    obtain ⟨e, he, rfl⟩ := List.mem_map.1 hj
    obtain ⟨he1, he2⟩ := List.mem_filter.1 he
    have := (Array.all_eq_true_iff_forall_mem.1 hafter) e (by simpa using he1)
    rw [he2] at this
    exact getD_true (by simpa using this)
  obtain ⟨js, hjs, hobi⟩ : ∃ js : List Nat, (∀ j ∈ js, j ∈ predsOf o) ∧ ObAny P Q (l.map (·.dst)) (l.map subj) fs outs w0 row i0 I i js o := by
    obtain ⟨js, hjs, this⟩ := obs_at hsub hob ho
    refine ⟨js, hjs, ?_⟩
    rcases this with ⟨hd, this⟩ | this
    · exact this.any hst hI.stays hd
    · exact this
  have H := hobi a w hI.gr (fun e => hI.held (e ▸ hiF))
  have H := outThen_use (fun t ht => hI.keep t ht) _ _ hout H
  have H := preThen_use _ _ (fun j hj0 => by
    have hj := hjs j hj0
    have hjl : j < l.length := Nat.lt_trans (shape_preds hs ho hj) hlt
    obtain ⟨v, h1, h2⟩ := hI.fact j l[j] (List.getElem?_eq_getElem hjl) (hpreds j hj)
    refine ⟨v, ?_, h2⟩
    simpa [List.getElem?_map, List.getElem?_eq_getElem hjl] using h1) H
  have H := H (fun a' w' => RInv l fs a0 w0 row i0 I (L.setIfInBounds i true) a' w') (fun u v w' hu hF hgr hI9 hstab => by
    have hdi : (l.map (·.dst))[i]? = some o.dst := by simp [ho]
    refine ⟨by simpa using hI.size, hgr, ?_, ?_, ?_, ?_, ?_, hI.stays, ?_⟩
    · cases o.dst <;> exact hI.df
    · cases o.dst with
      | none => exact hI.ts
      | some d => simpa [Act.put] using hI.ts
    · intro t ht
      rw [← hI.keep t ht]
      cases hd : o.dst with
      | none => rfl
      | some d =>
        have hne : d ≠ t := by
          intro e
          subst e
          have : (l.map (·.dst)).contains (some d) = true := by
            rw [List.contains_iff_mem]
            exact List.mem_of_getElem? (hd ▸ hdi)
          rw [this] at ht; cases ht
        simp [Act.put, Array.getElem?_setIfInBounds_ne hne]
    · intro k ok hk hLk j hj
      by_cases hji : j = i
      · subst hji; simp [hiL]
      · rw [Array.getElem?_setIfInBounds_ne (Ne.symm hji)]
        by_cases hki : k = i
        · subst hki; rw [ho] at hk; injection hk with hk; subst hk; exact hpreds j hj
        · rw [Array.getElem?_setIfInBounds_ne (Ne.symm hki)] at hLk
          exact hI.closed k ok hk hLk j hj
    · intro k ok hk hLk
      by_cases hki : k = i
      · subst hki
        rw [ho] at hk; injection hk with hk; subst hk
        refine ⟨v, ?_, hF⟩
        cases hd : o.dst with
        | none =>
          rw [hd] at hu
          exact hu
        | some d =>
          rw [hd] at hu
          subst hu
          have hlt' : d < a.tmps.size := by rw [hI.ts]; exact shape_lt hs (i := k) (by rw [hdi, hd])
          simp only [subj, hd, slotIs, Act.put]
          simp [hlt']
      · rw [Array.getElem?_setIfInBounds_ne (Ne.symm hki)] at hLk
        obtain ⟨x, h1, h2⟩ := hI.fact k ok hk hLk
        refine ⟨x, ?_, hstab k x hki h2⟩
        cases hd : o.dst with
        | none => exact h1
        | some d =>
          cases hsk : subj ok with
          | none => trivial
          | some t =>
            rw [hsk] at h1
            have hne : d ≠ t := by
              intro e
              subst e
              cases hdk : ok.dst with
              | some dk =>
                simp only [subj, hdk] at hsk
                injection hsk with hsk
                subst hsk
                exact hki (shape_dst hs (i := k) (j := i) (d := dk) (by simp [hk, hdk]) (by rw [hdi, hd]))
              | none =>
                have := shape_subj hs hk hdk hsk (j := i) (by rw [hdi, hd])
                have := hI.closed k ok hk hLk i this
                rw [hiF] at this
                cases this
            simp only [slotIs, Act.put] at h1 ⊢
            rw [Array.getElem?_setIfInBounds_ne hne]
            exact h1
    · intro h0
      by_cases e : i0 = i
      · subst e
        simp [hiL] at h0
      · exact hI9 (Ne.symm e) (hI.held (by rwa [Array.getElem?_setIfInBounds_ne (Ne.symm e)] at h0)))
  refine ⟨o, ho, ?_⟩
  rw [wanted_at]
  exact H

theorem inv_step (hs : shapeB a0.tmps.size l = true) (hout : OutsOk (l.map (·.dst)) a0 outs) (hst : AllStable fs) {ps : List (List Nat)} (hsub : subB ps l = true) (hob : Obs P Q (l.map (·.dst)) (l.map subj) fs outs w0 row i0 I 0 ps l) {L : Array Bool} {a : Act} {w : World} {i : Nat}
    (hI : RInv l fs a0 w0 row i0 I L a w) (hi : i ∈ Region.ready .any l.toArray L) : wpOp P l.toArray Q i (fun a' w' => RInv l fs a0 w0 row i0 I (L.setIfInBounds i true) a' w') a w := by
  obtain ⟨o, ho, H⟩ := inv_op (Q := Q) hs hout hst hsub hob hI hi
  unfold wpOp
  simp only [List.getElem?_toArray, ho]
  split
  · rename_i hw; rw [if_pos hw] at H; exact .inl H
  · rename_i hw; rw [if_neg hw] at H; exact H

theorem all_listed (hs : shapeB a0.tmps.size l = true) {L : Array Bool} {a : Act} {w : World} (hI : RInv l fs a0 w0 row i0 I L a w) (hr : Region.ready .any l.toArray L = []) : ∀ i, i < l.length → L[i]? = some true := by
  intro i
  induction i using Nat.strongRecOn with
  | ind i ih =>
    intro hi
    have hiL : i < L.size := by rw [hI.size]; exact hi
    cases hb : L[i] with
    | true => rw [Array.getElem?_eq_getElem hiL, hb]
    | false =>
      exfalso
      have : i ∈ Region.ready .any l.toArray L := by
        unfold Region.ready
        simp only [List.mem_filter, List.mem_range, List.size_toArray, List.getElem?_toArray, List.getElem?_eq_getElem hi, Option.map_some, Option.getD_some, Bool.and_eq_true, Bool.not_eq_true']
        refine ⟨hi, by simp [hiL, hb], ?_⟩
        rw [Array.all_eq_true_iff_forall_mem]
        intro e he
        cases hbe : Region.binds .any e with
        | false => rfl
        | true =>
          have hp : e.on ∈ predsOf l[i] := List.mem_map.2 ⟨e, List.mem_filter.2 ⟨by simpa using he, hbe⟩, rfl⟩
          have hlt := shape_preds hs (List.getElem?_eq_getElem hi) hp
          have := ih e.on hlt (by omega)
          simp [Array.getD_eq_getD_getElem?, this]
      rw [hr] at this
      cases this

theorem inv_final (hs : shapeB a0.tmps.size l = true) (hf : ∀ w, w0.grownBy w row → finalIn Q fs w 0 l a0) {L : Array Bool} {a : Act} {w : World}
    (hI : RInv l fs a0 w0 row i0 I L a w) (hr : Region.ready .any l.toArray L = []) : Q .normal a w := by
  have hall := all_listed hs hI hr
  have gen : ∀ (m : List Oper) (k : Nat) (b : Act), finalIn Q fs w k m b → b.defers = a.defers → b.tmps.size = a.tmps.size →
      (∀ i o, m[i]? = some o → l[k + i]? = some o) →
      (∀ t, (m.map (·.dst)).contains (some t) = false → b.tmps[t]? = a.tmps[t]?) → Q .normal a w := by
    intro m
    induction m with
    | nil =>
      intro k b h h1 h2 _ h3
      have : b = a := by
        cases b; cases a
        simp only at h1 h2 h3
        subst h1
        congr 1
        exact Array.ext_getElem? (fun i => by simpa using h3 i (by simp))
      rw [this] at h
      exact h
    | cons o m ih =>
      intro k b h h1 h2 h4 h3
      have hok : l[k]? = some o := by have := h4 0 o (by simp); simpa using this
      have hk : k < l.length := (List.getElem?_eq_some_iff.1 hok).1
      obtain ⟨v, hv, hF⟩ := hI.fact k o hok (hall k hk)
      unfold finalIn at h
      have h4' : ∀ i x, m[i]? = some x → l[k + 1 + i]? = some x := fun i x hx => by
        have := h4 (i + 1) x (by simpa using hx)
        rwa [show k + (i + 1) = k + 1 + i by omega] at this
      cases hd : o.dst with
      | some d =>
        rw [hd] at h
        have hs' : subj o = some d := by simp [subj, hd]
        rw [hs'] at hv
        refine ih (k + 1) (b.put (some d) v) (h v hF) (by simpa [Act.put] using h1) (by simpa [Act.put] using h2) h4' (fun t ht => ?_)
        by_cases htd : t = d
        · subst htd
          have : t < b.tmps.size := by rw [h2, hI.ts]; exact shape_lt hs (i := k) (by simp [hok, hd])
          simp only [slotIs] at hv
          simp [Act.put, this, hv]
        · have hne : d ≠ t := fun e => htd e.symm
          simp only [Act.put]
          rw [Array.getElem?_setIfInBounds_ne hne]
          refine h3 t ?_
          simp only [List.map_cons, List.contains_cons, hd]
          rw [ht]
          simp [htd]
      | none =>
        rw [hd] at h
        have hb : slotIs b (subj o) v := by
          cases hsj : subj o with
          | none => trivial
          | some t =>
            rw [hsj] at hv
            simp only [slotIs] at hv ⊢
            rw [← hv]
            refine h3 t ?_
            cases hc : (((o :: m).map (·.dst)).contains (some t)) with
            | false => rfl
            | true =>
              exfalso
              rw [List.contains_iff_mem] at hc
              obtain ⟨j, hj⟩ := List.mem_iff_getElem?.1 hc
              have hj' : (l.map (·.dst))[k + j]? = some (some t) := by
                rw [List.getElem?_map] at hj ⊢
                cases hx : (o :: m)[j]? with
                | none => rw [hx] at hj; cases hj
                | some x => rw [hx] at hj; rw [h4 j x hx]; exact hj
              have := shape_preds hs hok (shape_subj hs hok hd hsj hj')
              omega
        refine ih (k + 1) b (h v hb hF) h1 h2 h4' (fun t ht => h3 t ?_)
        simp only [List.map_cons, List.contains_cons, hd, ht]
        rfl
  exact gen l 0 a0 (hf w hI.gr) hI.df.symm hI.ts.symm (fun i o h => by simpa using h) (fun t ht => (hI.keep t ht).symm)

theorem any_of_inv (hs : shapeB a0.tmps.size l = true) (hout : OutsOk (l.map (·.dst)) a0 outs) (hst : AllStable fs) {ps : List (List Nat)} (hsub : subB ps l = true) (hob : Obs P Q (l.map (·.dst)) (l.map subj) fs outs w0 row i0 I 0 ps l) (hf : ∀ w, w0.grownBy w row → finalIn Q fs w 0 l a0) :
    ∀ (fuel : Nat) (L : Array Bool) (a : Act) (w : World), RInv l fs a0 w0 row i0 I L a w → unlisted L l.length ≤ fuel → wpAny P .any l.toArray Q fuel L a w
  | 0, L, a, w, hI, hn => by
    have hr : Region.ready .any l.toArray L = [] := by
      rw [List.eq_nil_iff_forall_not_mem]
      intro i hi
      unfold Region.ready at hi
      simp only [List.mem_filter, List.mem_range, Bool.and_eq_true, List.size_toArray] at hi
      have : i ∈ (List.range l.length).filter (fun j => !L.getD j true) := List.mem_filter.2 ⟨List.mem_range.2 hi.1, hi.2.1⟩
      unfold unlisted at hn
      have h0 := List.eq_nil_of_length_eq_zero (Nat.le_zero.1 hn)
      rw [h0] at this
      cases this
    exact ⟨hr, inv_final hs hf hI hr⟩
  | fuel + 1, L, a, w, hI, hn => by
    refine ⟨fun hr => inv_final hs hf hI hr, fun i hi => ?_⟩
    have hi' := hi
    unfold Region.ready at hi'
    simp only [List.mem_filter, List.mem_range, Bool.and_eq_true, List.size_toArray, Bool.not_eq_true'] at hi'
    have hlt := unlisted_set hi'.1 hI.size hi'.2.1
    exact wpOp_mono (fun a' w' h' => any_of_inv hs hout hst hsub hob hf fuel _ a' w' h' (by omega)) (inv_step hs hout hst hsub hob hI hi)

theorem Obs.nil {ds ss : List (Option Tmp)} {k : Nat} : Obs P Q ds ss fs outs w0 row i0 I k [] [] := trivial

theorem Obs.consv {ds ss : List (Option Tmp)} {k : Nat} {o : Oper} {m : List Oper} {js : List Nat} {ps : List (List Nat)} (hd : o.dst.isSome = true) (h : Ob P Q ds ss fs outs w0 row k js o) (h' : Obs P Q ds ss fs outs w0 row i0 I (k + 1) ps m) :
    Obs P Q ds ss fs outs w0 row i0 I k (js :: ps) (o :: m) := ⟨.inl ⟨hd, h⟩, h'⟩

theorem Obs.conss {ds ss : List (Option Tmp)} {k : Nat} {o : Oper} {m : List Oper} {js : List Nat} {ps : List (List Nat)} (hd : o.dst.isSome = false) (h : ObAny P Q ds ss fs outs w0 row i0 I k js o) (h' : Obs P Q ds ss fs outs w0 row i0 I (k + 1) ps m) :
    Obs P Q ds ss fs outs w0 row i0 I k (js :: ps) (o :: m) := ⟨.inr h, h'⟩

theorem Obs.consa {ds ss : List (Option Tmp)} {k : Nat} {o : Oper} {m : List Oper} {js : List Nat} {ps : List (List Nat)} (h : ObAny P Q ds ss fs outs w0 row i0 I k js o) (h' : Obs P Q ds ss fs outs w0 row i0 I (k + 1) ps m) :
    Obs P Q ds ss fs outs w0 row i0 I k (js :: ps) (o :: m) := ⟨.inr h, h'⟩

theorem anyIn_of_inv (k : Nat) (hh : headB k l = true) (hs : shapeB a0.tmps.size (l.take k) = true) (hout : OutsOk ((l.take k).map (·.dst)) a0 outs) (hst : AllStable fs) {ps : List (List Nat)} (hsub : subB ps (l.take k) = true)
    (hob : Obs P Q ((l.take k).map (·.dst)) ((l.take k).map subj) fs outs w0 row i0 I 0 ps (l.take k))
    (hf : ∀ w, w0.grownBy w row → finalIn (fun _ a w => wpListIn (wideAt r) n P l.toArray Q (l.drop k) a w) fs w 0 (l.take k) a0) :
    ∀ (fuel : Nat) (L : Array Bool) (a : Act) (w : World), RInv (l.take k) fs a0 w0 row i0 I L a w → unlisted L k + (l.length - k) ≤ fuel →
      wpAnyIn (wideAt r) n P .any l.toArray Q fuel (L ++ Array.replicate (l.length - k) false) a w := by
  unfold headB at hh
  simp only [Bool.and_eq_true, decide_eq_true_eq] at hh
  obtain ⟨⟨⟨⟨hk, hg⟩, hwait⟩, hlate⟩, hseq⟩ := hh
  have hlen : (l.take k).length = k := by simp; omega
  intro fuel
  induction fuel with
  | zero => intro L a w hI hn; omega
  | succ fuel ih =>
    intro L a w hI hn
    have hL : L.size = k := hI.size.trans hlen
    by_cases h0 : unlisted L k = 0
    · have hLk := unlisted_zero h0 hL
      have hr : Region.ready .any (l.take k).toArray L = [] := by
        rw [List.eq_nil_iff_forall_not_mem]
        intro i hi
        obtain ⟨h1, h2, _⟩ := mem_ready.1 hi
        have : i < k := by simpa [hlen] using h1
        rw [hLk] at h2
        simp [this] at h2
      have := inv_final (Q := fun _ a w => wpListIn (wideAt r) n P l.toArray Q (l.drop k) a w) hs hf hI hr
      subst hLk
      refine seq_more (l.drop k) k _ a w (fuel + 1) (fun j => by simp [List.getElem?_drop]) ?_ this (by simp; omega)
      simpa using hseq
    · obtain ⟨j0, hj0, hLj⟩ := unlisted_pos h0 hL
      have hcl : ∀ (i : Nat) (o : Oper), l[i]? = some o → (L ++ Array.replicate (l.length - k) false).getD i false = true → ∀ j ∈ predsOf o, (L ++ Array.replicate (l.length - k) false).getD j false = true := by
        intro i o ho hi j hj
        by_cases hik : i < k
        · have ho' : (l.take k)[i]? = some o := by rw [List.getElem?_take, if_pos hik]; exact ho
          have hLi : L[i]? = some true := by
            have hiL : i < L.size := by omega
            rw [Array.getD_eq_getD_getElem?, Array.getElem?_append_left hiL] at hi
            simp [hiL] at hi
            simp [hiL, hi]
          have h1 := hI.closed i o ho' hLi j hj
          have hjL : j < L.size := (Array.getElem?_eq_some_iff.1 h1).1
          rw [Array.getD_eq_getD_getElem?, Array.getElem?_append_left hjL, h1]
          rfl
        · exfalso
          rw [Array.getD_eq_getD_getElem?, Array.getElem?_append_right (by omega), Array.getElem?_replicate] at hi
          split at hi <;> simp at hi
      have hsmall : ∀ i, i ∈ Region.ready .any l.toArray (L ++ Array.replicate (l.length - k) false) → i < k := by
        intro i hi
        obtain ⟨h1, _, o, ho, hp⟩ := mem_ready.1 hi
        have ho' : l[i]? = some o := by simpa using ho
        have h1' : i < l.length := by simpa using h1
        by_cases hik : i < k
        · exact hik
        exfalso
        by_cases hek : i = k
        · subst hek
          have hw := List.all_eq_true.1 hwait j0 (List.mem_range.2 hj0)
          have := waits_listed (L := fun j => (L ++ Array.replicate (l.length - i) false).getD j false) hcl _ _ _ o ho' hp hw
          have hjL : j0 < L.size := by omega
          rw [Array.getD_eq_getD_getElem?, Array.getElem?_append_left hjL, hLj] at this
          cases this
        · have := List.all_eq_true.1 hlate i (List.mem_range.2 h1')
          simp only [ho', Bool.or_eq_true, decide_eq_true_eq, List.any_eq_true] at this
          obtain h | ⟨p, hpm, hp1, hp2⟩ := this
          · omega
          · have := hp p hpm
            rw [Array.getD_eq_getD_getElem?, Array.getElem?_append_right (by omega), Array.getElem?_replicate] at this
            split at this <;> simp at this
      have hready : ∀ i, i < k → (i ∈ Region.ready .any l.toArray (L ++ Array.replicate (l.length - k) false) ↔ i ∈ Region.ready .any (l.take k).toArray L) := by
        intro i hik
        have hiL : i < L.size := by omega
        rw [mem_ready, mem_ready]
        have e1 : (l.take k).toArray[i]? = l.toArray[i]? := by simp [List.getElem?_take, hik]
        have e2 : (L ++ Array.replicate (l.length - k) false).getD i true = L.getD i true := by simp [Array.getD_eq_getD_getElem?, Array.getElem?_append_left hiL]
        rw [e1, e2]
        have e3 : ∀ o, l.toArray[i]? = some o → ∀ j ∈ predsOf o, (L ++ Array.replicate (l.length - k) false).getD j false = L.getD j false := by
          intro o ho j hj
          have := shape_preds hs (i := i) (o := o) (by rw [List.getElem?_take, if_pos hik]; simpa using ho) hj
          have hjL : j < L.size := by omega
          simp [Array.getD_eq_getD_getElem?, Array.getElem?_append_left hjL]
        constructor
        · rintro ⟨h1, h2, o, ho, hp⟩
          exact ⟨by simp; omega, h2, o, ho, fun j hj => by rw [← e3 o ho j hj]; exact hp j hj⟩
        · rintro ⟨h1, h2, o, ho, hp⟩
          exact ⟨by simp; omega, h2, o, ho, fun j hj => by rw [e3 o ho j hj]; exact hp j hj⟩
      refine ⟨fun hr => ?_, fun i hi => ?_⟩
      · exfalso
        have hr' : Region.ready .any (l.take k).toArray L = [] := by
          rw [List.eq_nil_iff_forall_not_mem]
          intro i hi
          have hik : i < k := by have := (mem_ready.1 hi).1; simpa [hlen] using this
          have := (hready i hik).2 hi
          rw [hr] at this
          cases this
        have := all_listed hs hI hr' j0 (by omega)
        rw [hLj] at this
        cases this
      · have hik := hsmall i hi
        have hi' := (hready i hik).1 hi
        obtain ⟨_, hgf, _⟩ := mem_ready.1 hi'
        obtain ⟨o, ho, H⟩ := inv_op (Q := Q) hs hout hst hsub hob hI hi'
        have ho' : l[i]? = some o := by rw [List.getElem?_take, if_pos hik] at ho; exact ho
        have hgo := List.all_eq_true.1 hg o (List.mem_of_getElem? ho)
        simp only [Bool.and_eq_true] at hgo
        have hgn : o.guard = none := by simpa using hgo.1
        have hset : (L ++ Array.replicate (l.length - k) false).setIfInBounds i true = L.setIfInBounds i true ++ Array.replicate (l.length - k) false := by
          rw [Array.setIfInBounds_append_left (by omega)]
        have hlt := unlisted_set hik hL hgf
        have hw1 : ∀ ys, Region.wanted o ys = true := fun ys => by simp [Region.wanted, hgn]
        unfold wpOpIn
        simp only [List.getElem?_toArray, ho', hw1, if_true]
        rw [if_pos (hw1 _)] at H
        refine wpIn_of_wp hgo.2 (Oper.wp_mono (fun a' w' h' => ?_) H)
        rw [hset]
        exact ih _ a' w' h' (by omega)

/-- **A region that draws its order in its first k operations, op by op; the others come in their order.** -/
theorem wpIn_region_head {id : Nat} {a : Act} {w : World} (k : Nat) (fs : List Fact) (m : Nat) (ds ss : List (Option Tmp)) (ps : List (List Nat)) (outs : List (Tmp × Value)) (hm : P.follows .mixedOrders = true) (hsz : a.tmps.size = m)
    (hh : headB k l = true) (hs : shapeB m (l.take k) = true) (hds : (l.take k).map (·.dst) = ds) (hss : (l.take k).map subj = ss) (hps : subB ps (l.take k) = true) (hout : OutsOk ds a outs) (hst : AllStable fs)
    (hIs : ∀ w w', w.grownBy w' none → I w → I w') (hI0 : I w.drew) (hob : Obs P Q ds ss fs outs w.drew row i0 I 0 ps (l.take k)) (hf : ∀ w', w.drew.grownBy w' row → finalIn (fun _ a w => wpListIn (wideAt r) n P l.toArray Q (l.drop k) a w) fs w' 0 (l.take k) a) :
    (Code.region id l.toArray true).wpIn (wideAt r) n P Q a w := by
  subst hsz hds hss
  refine wpIn_region_any hm ?_
  have hk : k < l.length := by unfold headB at hh; simp only [Bool.and_eq_true, decide_eq_true_eq] at hh; exact hh.1.1.1.1
  have e : Array.replicate l.toArray.size false = Array.replicate k false ++ Array.replicate (l.length - k) false := by
    rw [Array.replicate_append_replicate]
    congr 1
    simp
    omega
  rw [e]
  refine anyIn_of_inv (w0 := w.drew) k hh hs hout hst hps hob hf _ _ a w.drew ⟨by simp; omega, ⟨rfl, rfl, rfl, Nat.le_refl _, fun _ _ _ => rfl⟩, rfl, rfl, fun _ _ => rfl, ?_, ?_, hIs, fun _ => hI0⟩ ?_
  · intro i o _ hL
    exfalso
    rw [Array.getElem?_replicate] at hL
    split at hL <;> simp at hL
  · intro i o _ hL
    exfalso
    rw [Array.getElem?_replicate] at hL
    split at hL <;> simp at hL
  · have : unlisted (Array.replicate k false) k ≤ k := by
      unfold unlisted
      refine Nat.le_trans (List.length_filter_le _ _) (by simp)
    simp
    omega

theorem head_round {id d : Nat} {a : Act} {w : World} (k : Nat) (fs : List Fact) (m : Nat) (ds ss : List (Option Tmp)) (ps : List (List Nat)) (outs : List (Tmp × Value)) (hm : P.follows .mixedOrders = true) (hsz : a.tmps.size = m)
    (hh : headB k l = true) (hs : shapeB m (l.take k) = true) (hds : (l.take k).map (·.dst) = ds) (hss : (l.take k).map subj = ss) (hps : subB ps (l.take k) = true) (hout : OutsOk ds a outs) (hst : AllStable fs)
    (hIs : ∀ w w', w.grownBy w' none → I w → I w') (hI0 : I w.drew) (hob : Obs P Q ds ss fs outs w.drew row i0 I 0 ps (l.take k)) (hf : ∀ w', w.drew.grownBy w' row → finalIn (fun _ a w => wpListIn (Fence.wide.inRound d) n P l.toArray Q (l.drop k) a w) fs w' 0 (l.take k) a) :
    (Code.region id l.toArray true).wpIn (Fence.wide.inRound d) n P Q a w :=
  wpIn_region_head (r := some d) k fs m ds ss ps outs hm hsz hh hs hds hss hps hout hst hIs hI0 hob hf

/-- The same of no fence: the others by the wide fence's walk. -/
theorem head_plain {id : Nat} {a : Act} {w : World} (k : Nat) (fs : List Fact) (m : Nat) (ds ss : List (Option Tmp)) (ps : List (List Nat)) (outs : List (Tmp × Value)) (hm : P.follows .mixedOrders = true) (hsz : a.tmps.size = m)
    (hh : headB k l = true) (hs : shapeB m (l.take k) = true) (hds : (l.take k).map (·.dst) = ds) (hss : (l.take k).map subj = ss) (hps : subB ps (l.take k) = true) (hout : OutsOk ds a outs) (hst : AllStable fs)
    (hIs : ∀ w w', w.grownBy w' none → I w → I w') (hI0 : I w.drew) (hob : Obs P Q ds ss fs outs w.drew row i0 I 0 ps (l.take k)) (hf : ∀ w', w.drew.grownBy w' row → finalIn (fun _ a w => wpListIn Fence.wide 0 P l.toArray Q (l.drop k) a w) fs w' 0 (l.take k) a) :
    (Code.region id l.toArray true).wp P Q a w :=
  wpIn_wide.1 (wpIn_region_head (r := none) (n := 0) k fs m ds ss ps outs hm hsz hh hs hds hss hps hout hst hIs hI0 hob hf)

/-- The same at the wide fence, in no round. -/
theorem head_wide {id : Nat} {a : Act} {w : World} (k : Nat) (fs : List Fact) (m : Nat) (ds ss : List (Option Tmp)) (ps : List (List Nat)) (outs : List (Tmp × Value)) (hm : P.follows .mixedOrders = true) (hsz : a.tmps.size = m)
    (hh : headB k l = true) (hs : shapeB m (l.take k) = true) (hds : (l.take k).map (·.dst) = ds) (hss : (l.take k).map subj = ss) (hps : subB ps (l.take k) = true) (hout : OutsOk ds a outs) (hst : AllStable fs)
    (hIs : ∀ w w', w.grownBy w' none → I w → I w') (hI0 : I w.drew) (hob : Obs P Q ds ss fs outs w.drew row i0 I 0 ps (l.take k)) (hf : ∀ w', w.drew.grownBy w' row → finalIn (fun _ a w => wpListIn Fence.wide n P l.toArray Q (l.drop k) a w) fs w' 0 (l.take k) a) :
    (Code.region id l.toArray true).wpIn Fence.wide n P Q a w :=
  wpIn_region_head (r := none) k fs m ds ss ps outs hm hsz hh hs hds hss hps hout hst hIs hI0 hob hf

end Go.Proofs.Ytmahiodejhakpaa.RowDraw
