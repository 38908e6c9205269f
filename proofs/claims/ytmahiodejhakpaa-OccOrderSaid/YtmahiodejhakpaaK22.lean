/- A region that draws its order, op by op (as in Order), where what is kept is also that no answer of the tape is asked for anew: worlds that are an older one with draws and blocks behind it. Of hits: a number below 0, if one comes ahead of the other. -/
import Derived.Test.YtmahiodejhakpaaOrder
import Derived.Test.YtmahiodejhakpaaK4
import Derived.Shelf.SlSortCmp.QuietGrown
import Derived.Test.YtmahiodejhakpaaPlainOcc
import Derived.Sort.Statements
import Derived.Shelf.SlSortCmp.Kit1
set_option linter.unusedSimpArgs false
set_option linter.unusedVariables false
namespace Go.Proofs.Ytmahiodejhakpaa.G
open Go.RowKit

/-- New memory alone, and draws. -/
structure Gr (w w' : World) : Prop where
  gr : w.grownBy w' none
  le : w.drawn ≤ w'.drawn

theorem gr_refl (w : World) : Gr w w := ⟨grown_refl w none, Nat.le_refl _⟩
theorem gr_trans {w w' w'' : World} (h : Gr w w') (h' : Gr w' w'') : Gr w w'' := ⟨grown_trans h.gr h'.gr, Nat.le_trans h.le h'.le⟩
theorem gr_drew {w w' : World} (h : Gr w w') : Gr w w'.drew := ⟨grown_drew h.gr, Nat.le_trans h.le (by show w'.drawn ≤ w'.drawn + 1; omega)⟩
theorem gr_alloc {w w' : World} (h : Gr w w') (o : Obj) : Gr w (w'.alloc o) := ⟨grown_alloc h.gr o, h.le⟩

/-- In so many words. -/
theorem Gr.grow {w w' : World} (h : Gr w w') : ∃ q os, w' = Go.Sort.grow (w.drewN q) os := by
  refine ⟨w'.drawn - w.drawn, w'.heap.extract w.heap.size w'.heap.size, ?_⟩
  obtain ⟨g, l⟩ := h
  obtain ⟨h1, h2, h3, h4, h5⟩ := g
  obtain ⟨H, T, D, O, U⟩ := w
  obtain ⟨H', T', D', O', U'⟩ := w'
  simp only at h1 h2 h3 h4 h5 l
  subst h1 h2 h3
  simp only [Go.Sort.grow, World.drewN]
  congr 1
  · refine Array.ext_getElem? fun i => ?_
    by_cases hi : i < H.size
    · rw [Array.getElem?_append_left hi]
      exact h5 i hi (by simp)
    · rw [Array.getElem?_append_right (by omega), Array.getElem?_extract]
      split
      · congr 1; omega
      · exact Array.getElem?_eq_none (by omega)
  · omega

section
variable (P : Program) (Q : Exit → Act → World → Prop) (ds ss : List (Option Tmp)) (fs : List Fact) (outs : List (Tmp × Value)) (w0 : World)

/-- What is asked of an operation. -/
def ObAny (i : Nat) (js : List Nat) (o : Oper) : Prop := ∀ a w, Gr w0 w → outThen a outs (preThen ss fs a w js
  (∀ K : Act → World → Prop, (∀ u v w', (match o.dst with | some _ => v = u | none => slotIs a (subj o) v) → factAt fs i v w' → Gr w0 w' → (∀ j v, j ≠ i → factAt fs j v w → factAt fs j v w') → K (a.put o.dst u) w') →
    if wantedAt ds o a.tmps = true then o.wp P a w K Q else K (a.put o.dst undef) w))

/-- What is asked of an operation that makes new memory alone. -/
def Ob (i : Nat) (js : List Nat) (o : Oper) : Prop := ∀ a w, Gr w0 w → outThen a outs (preThen ss fs a w js
  (∀ K : Act → World → Prop, (∀ v w', factAt fs i v w' → Gr w w' → K (a.put o.dst v) w') →
    if wantedAt ds o a.tmps = true then o.wp P a w K Q else K (a.put o.dst undef) w))

def Obs : Nat → List (List Nat) → List Oper → Prop
  | k, js :: ps, o :: l => ((o.dst.isSome = true ∧ Ob P Q ds ss fs outs w0 k js o) ∨ ObAny P Q ds ss fs outs w0 k js o) ∧ Obs (k + 1) ps l
  | _, _, _ => True

def finalIn (w : World) : Nat → List Oper → Act → Prop
  | _, [], a => Q .normal a w
  | k, o :: l, a => match o.dst with
    | some d => ∀ v, factAt fs k v w → finalIn w (k + 1) l (a.put (some d) v)
    | none => ∀ v, slotIs a (subj o) v → factAt fs k v w → finalIn w (k + 1) l a
end

structure RInv (l : List Oper) (fs : List Fact) (a0 : Act) (w0 : World) (L : Array Bool) (a : Act) (w : World) : Prop where
  size : L.size = l.length
  gr : Gr w0 w
  df : a.defers = a0.defers
  ts : a.tmps.size = a0.tmps.size
  keep : ∀ t, (l.map (·.dst)).contains (some t) = false → a.tmps[t]? = a0.tmps[t]?
  closed : ∀ (i : Nat) (o : Oper), l[i]? = some o → L[i]? = some true → ∀ j ∈ predsOf o, L[j]? = some true
  fact : ∀ (i : Nat) (o : Oper), l[i]? = some o → L[i]? = some true → ∃ v, slotIs a (subj o) v ∧ factAt fs i v w

variable {P : Program} {Q : Exit → Act → World → Prop} {l : List Oper} {fs : List Fact} {a0 : Act} {w0 : World} {n : Nat} {outs : List (Tmp × Value)}

theorem obs_at {ds ss : List (Option Tmp)} {ps : List (List Nat)} (hsub : subB ps l = true) (h : Obs P Q ds ss fs outs w0 0 ps l) {i : Nat} {o : Oper} (hi : l[i]? = some o) :
    ∃ js : List Nat, (∀ j ∈ js, j ∈ predsOf o) ∧ ((o.dst.isSome = true ∧ Ob P Q ds ss fs outs w0 i js o) ∨ ObAny P Q ds ss fs outs w0 i js o) := by
  have gen : ∀ (m : List Oper) (ps : List (List Nat)) (k i : Nat), subB ps m = true → Obs P Q ds ss fs outs w0 k ps m → m[i]? = some o →
      ∃ js : List Nat, (∀ j ∈ js, j ∈ predsOf o) ∧ ((o.dst.isSome = true ∧ Ob P Q ds ss fs outs w0 (k + i) js o) ∨ ObAny P Q ds ss fs outs w0 (k + i) js o) := by
    intro m
    induction m with
    | nil => intro ps k i _ _ h2; simp at h2
    | cons x m ih =>
      intro ps k i hs h1 h2
      cases ps with
      | nil => cases hs
      | cons js ps =>
        simp only [subB, Bool.and_eq_true, List.all_eq_true] at hs
        cases i with
        | zero => simp at h2; subst h2; exact ⟨js, fun j hj => by simpa using hs.1 j hj, h1.1⟩
        | succ i =>
          have := ih ps (k + 1) i hs.2 h1.2 (by simpa using h2)
          rwa [show k + 1 + i = k + (i + 1) by omega] at this
  have := gen l ps 0 i hsub h hi
  rwa [Nat.zero_add] at this

theorem Ob.any {ds ss : List (Option Tmp)} {i : Nat} {o : Oper} {js : List Nat} (hst : AllStable fs) (hd : o.dst.isSome = true) (h : Ob P Q ds ss fs outs w0 i js o) : ObAny P Q ds ss fs outs w0 i js o := by
  intro a w hg
  have h := h a w hg
  have kmono : ∀ (xs : List (Tmp × Value)) (G G' : Prop), (G → G') → outThen a xs G → outThen a xs G' := by
    intro xs
    induction xs with
    | nil => intro G G' hG h; exact hG h
    | cons x xs ih => intro G G' hG h he; exact ih _ _ hG (h he)
  have pmono : ∀ (js : List Nat) (G G' : Prop), (G → G') → preThen ss fs a w js G → preThen ss fs a w js G' := by
    intro js
    induction js with
    | nil => intro G G' hG h; exact hG h
    | cons j js ih => intro G G' hG h v h1 h2; exact ih _ _ hG (h v h1 h2)
  refine kmono _ _ _ (pmono _ _ _ ?_) h
  intro h K hK
  refine h K (fun v w' hF hgr => ?_)
  obtain ⟨d, hd'⟩ := Option.isSome_iff_exists.1 hd
  refine hK v v w' (by rw [hd']) hF ?_ (fun j u _ hj => hst.at_ j u w w' hj hgr.gr)
  exact gr_trans hg hgr

theorem inv_op (hs : shapeB a0.tmps.size l = true) (hout : OutsOk (l.map (·.dst)) a0 outs) (hst : AllStable fs) {ps : List (List Nat)} (hsub : subB ps l = true) (hob : Obs P Q (l.map (·.dst)) (l.map subj) fs outs w0 0 ps l) {L : Array Bool} {a : Act} {w : World} {i : Nat}
    (hI : RInv l fs a0 w0 L a w) (hi : i ∈ Region.ready .any l.toArray L) : ∃ o, l[i]? = some o ∧
    if Region.wanted o (yielded l.toArray a.tmps) = true then o.wp P a w (fun a' w' => RInv l fs a0 w0 (L.setIfInBounds i true) a' w') Q else RInv l fs a0 w0 (L.setIfInBounds i true) (a.put o.dst undef) w := by
  unfold Region.ready at hi
  simp only [List.mem_filter, List.mem_range, Bool.and_eq_true, Bool.not_eq_true', List.size_toArray, List.getElem?_toArray] at hi
  obtain ⟨hlt, hfalse, hafter⟩ := hi
  obtain ⟨o, ho⟩ : ∃ o, l[i]? = some o := ⟨_, List.getElem?_eq_getElem hlt⟩
  rw [ho] at hafter
  simp only [Option.map_some, Option.getD_some] at hafter
  have hiL : i < L.size := by rw [hI.size]; exact hlt
  have hiF : L[i]? = some false := by
    rw [Array.getD_eq_getD_getElem?, Array.getElem?_eq_getElem hiL] at hfalse
    simp at hfalse
    rw [Array.getElem?_eq_getElem hiL, hfalse]
  have hpreds : ∀ j ∈ predsOf o, L[j]? = some true := by
    intro j hj
    unfold predsOf at hj
    obtain ⟨e, he, rfl⟩ := List.mem_map.1 hj
    obtain ⟨he1, he2⟩ := List.mem_filter.1 he
    have := (Array.all_eq_true_iff_forall_mem.1 hafter) e (by simpa using he1)
    rw [he2] at this
    exact getD_true (by simpa using this)
  obtain ⟨js, hjs, hobi⟩ : ∃ js : List Nat, (∀ j ∈ js, j ∈ predsOf o) ∧ ObAny P Q (l.map (·.dst)) (l.map subj) fs outs w0 i js o := by
    obtain ⟨js, hjs, this⟩ := obs_at hsub hob ho
    refine ⟨js, hjs, ?_⟩
    rcases this with ⟨hd, this⟩ | this
    · exact this.any hst hd
    · exact this
  have H := hobi a w hI.gr
  have H := outThen_use (fun t ht => hI.keep t ht) _ _ hout H
  have H := preThen_use _ _ (fun j hj0 => by
    have hj := hjs j hj0
    have hjl : j < l.length := Nat.lt_trans (shape_preds hs ho hj) hlt
    obtain ⟨v, h1, h2⟩ := hI.fact j l[j] (List.getElem?_eq_getElem hjl) (hpreds j hj)
    refine ⟨v, ?_, h2⟩
    simpa [List.getElem?_map, List.getElem?_eq_getElem hjl] using h1) H
  have H := H (fun a' w' => RInv l fs a0 w0 (L.setIfInBounds i true) a' w') (fun u v w' hu hF hgr hstab => by
    have hdi : (l.map (·.dst))[i]? = some o.dst := by simp [ho]
    refine ⟨by simpa using hI.size, hgr, ?_, ?_, ?_, ?_, ?_⟩
    · cases o.dst <;> exact hI.df
    · cases o.dst with
      | none => exact hI.ts
      | some d => simpa [Act.put] using hI.ts
    · intro t ht
      rw [← hI.keep t ht]
      cases hd : o.dst with
      | none => rfl
      | some d =>
        have hne : d ≠ t := by
          intro e
          subst e
          have : (l.map (·.dst)).contains (some d) = true := by
            rw [List.contains_iff_mem]
            exact List.mem_of_getElem? (hd ▸ hdi)
          rw [this] at ht; cases ht
        simp [Act.put, Array.getElem?_setIfInBounds_ne hne]
    · intro k ok hk hLk j hj
      by_cases hji : j = i
      · subst hji; simp [hiL]
      · rw [Array.getElem?_setIfInBounds_ne (Ne.symm hji)]
        by_cases hki : k = i
        · subst hki; rw [ho] at hk; injection hk with hk; subst hk; exact hpreds j hj
        · rw [Array.getElem?_setIfInBounds_ne (Ne.symm hki)] at hLk
          exact hI.closed k ok hk hLk j hj
    · intro k ok hk hLk
      by_cases hki : k = i
      · subst hki
        rw [ho] at hk; injection hk with hk; subst hk
        refine ⟨v, ?_, hF⟩
        cases hd : o.dst with
        | none =>
          rw [hd] at hu
          exact hu
        | some d =>
          rw [hd] at hu
          subst hu
          have hlt' : d < a.tmps.size := by rw [hI.ts]; exact shape_lt hs (i := k) (by rw [hdi, hd])
          simp only [subj, hd, slotIs, Act.put]
          simp [hlt']
      · rw [Array.getElem?_setIfInBounds_ne (Ne.symm hki)] at hLk
        obtain ⟨x, h1, h2⟩ := hI.fact k ok hk hLk
        refine ⟨x, ?_, hstab k x hki h2⟩
        cases hd : o.dst with
        | none => exact h1
        | some d =>
          cases hsk : subj ok with
          | none => trivial
          | some t =>
            rw [hsk] at h1
            have hne : d ≠ t := by
              intro e
              subst e
              cases hdk : ok.dst with
              | some dk =>
                simp only [subj, hdk] at hsk
                injection hsk with hsk
                subst hsk
                exact hki (shape_dst hs (i := k) (j := i) (d := dk) (by simp [hk, hdk]) (by rw [hdi, hd]))
              | none =>
                have := shape_subj hs hk hdk hsk (j := i) (by rw [hdi, hd])
                have := hI.closed k ok hk hLk i this
                rw [hiF] at this
                cases this
            simp only [slotIs, Act.put] at h1 ⊢
            rw [Array.getElem?_setIfInBounds_ne hne]
            exact h1)
  refine ⟨o, ho, ?_⟩
  rw [wanted_at]
  exact H

theorem inv_step (hs : shapeB a0.tmps.size l = true) (hout : OutsOk (l.map (·.dst)) a0 outs) (hst : AllStable fs) {ps : List (List Nat)} (hsub : subB ps l = true) (hob : Obs P Q (l.map (·.dst)) (l.map subj) fs outs w0 0 ps l) {L : Array Bool} {a : Act} {w : World} {i : Nat}
    (hI : RInv l fs a0 w0 L a w) (hi : i ∈ Region.ready .any l.toArray L) : wpOp P l.toArray Q i (fun a' w' => RInv l fs a0 w0 (L.setIfInBounds i true) a' w') a w := by
  obtain ⟨o, ho, H⟩ := inv_op (Q := Q) hs hout hst hsub hob hI hi
  unfold wpOp
  simp only [List.getElem?_toArray, ho]
  split
  · rename_i hw; rw [if_pos hw] at H; exact .inl H
  · rename_i hw; rw [if_neg hw] at H; exact H

theorem all_listed (hs : shapeB a0.tmps.size l = true) {L : Array Bool} {a : Act} {w : World} (hI : RInv l fs a0 w0 L a w) (hr : Region.ready .any l.toArray L = []) : ∀ i, i < l.length → L[i]? = some true := by
  intro i
  induction i using Nat.strongRecOn with
  | ind i ih =>
    intro hi
    have hiL : i < L.size := by rw [hI.size]; exact hi
    cases hb : L[i] with
    | true => rw [Array.getElem?_eq_getElem hiL, hb]
    | false =>
      exfalso
      have : i ∈ Region.ready .any l.toArray L := by
        unfold Region.ready
        simp only [List.mem_filter, List.mem_range, List.size_toArray, List.getElem?_toArray, List.getElem?_eq_getElem hi, Option.map_some, Option.getD_some, Bool.and_eq_true, Bool.not_eq_true']
        refine ⟨hi, by simp [hiL, hb], ?_⟩
        rw [Array.all_eq_true_iff_forall_mem]
        intro e he
        cases hbe : Region.binds .any e with
        | false => rfl
        | true =>
          have hp : e.on ∈ predsOf l[i] := List.mem_map.2 ⟨e, List.mem_filter.2 ⟨by simpa using he, hbe⟩, rfl⟩
          have hlt := shape_preds hs (List.getElem?_eq_getElem hi) hp
          have := ih e.on hlt (by omega)
          simp [Array.getD_eq_getD_getElem?, this]
      rw [hr] at this
      cases this

theorem inv_final (hs : shapeB a0.tmps.size l = true) (hf : ∀ w, Gr w0 w → finalIn Q fs w 0 l a0) {L : Array Bool} {a : Act} {w : World}
    (hI : RInv l fs a0 w0 L a w) (hr : Region.ready .any l.toArray L = []) : Q .normal a w := by
  have hall := all_listed hs hI hr
  have gen : ∀ (m : List Oper) (k : Nat) (b : Act), finalIn Q fs w k m b → b.defers = a.defers → b.tmps.size = a.tmps.size →
      (∀ i o, m[i]? = some o → l[k + i]? = some o) →
      (∀ t, (m.map (·.dst)).contains (some t) = false → b.tmps[t]? = a.tmps[t]?) → Q .normal a w := by
    intro m
    induction m with
    | nil =>
      intro k b h h1 h2 _ h3
      have : b = a := by
        cases b; cases a
        simp only at h1 h2 h3
        subst h1
        congr 1
        exact Array.ext_getElem? (fun i => by simpa using h3 i (by simp))
      rw [this] at h
      exact h
    | cons o m ih =>
      intro k b h h1 h2 h4 h3
      have hok : l[k]? = some o := by have := h4 0 o (by simp); simpa using this
      have hk : k < l.length := (List.getElem?_eq_some_iff.1 hok).1
      obtain ⟨v, hv, hF⟩ := hI.fact k o hok (hall k hk)
      unfold finalIn at h
      have h4' : ∀ i x, m[i]? = some x → l[k + 1 + i]? = some x := fun i x hx => by
        have := h4 (i + 1) x (by simpa using hx)
        rwa [show k + (i + 1) = k + 1 + i by omega] at this
      cases hd : o.dst with
      | some d =>
        rw [hd] at h
        have hs' : subj o = some d := by simp [subj, hd]
        rw [hs'] at hv
        refine ih (k + 1) (b.put (some d) v) (h v hF) (by simpa [Act.put] using h1) (by simpa [Act.put] using h2) h4' (fun t ht => ?_)
        by_cases htd : t = d
        · subst htd
          have : t < b.tmps.size := by rw [h2, hI.ts]; exact shape_lt hs (i := k) (by simp [hok, hd])
          simp only [slotIs] at hv
          simp [Act.put, this, hv]
        · have hne : d ≠ t := fun e => htd e.symm
          simp only [Act.put]
          rw [Array.getElem?_setIfInBounds_ne hne]
          refine h3 t ?_
          simp only [List.map_cons, List.contains_cons, hd]
          rw [ht]
          simp [htd]
      | none =>
        rw [hd] at h
        have hb : slotIs b (subj o) v := by
          cases hsj : subj o with
          | none => trivial
          | some t =>
            rw [hsj] at hv
            simp only [slotIs] at hv ⊢
            rw [← hv]
            refine h3 t ?_
            cases hc : (((o :: m).map (·.dst)).contains (some t)) with
            | false => rfl
            | true =>
              exfalso
              rw [List.contains_iff_mem] at hc
              obtain ⟨j, hj⟩ := List.mem_iff_getElem?.1 hc
              have hj' : (l.map (·.dst))[k + j]? = some (some t) := by
                rw [List.getElem?_map] at hj ⊢
                cases hx : (o :: m)[j]? with
                | none => rw [hx] at hj; cases hj
                | some x => rw [hx] at hj; rw [h4 j x hx]; exact hj
              have := shape_preds hs hok (shape_subj hs hok hd hsj hj')
              omega
        refine ih (k + 1) b (h v hb hF) h1 h2 h4' (fun t ht => h3 t ?_)
        simp only [List.map_cons, List.contains_cons, hd, ht]
        rfl
  exact gen l 0 a0 (hf w hI.gr) hI.df.symm hI.ts.symm (fun i o h => by simpa using h) (fun t ht => (hI.keep t ht).symm)

theorem any_of_inv (hs : shapeB a0.tmps.size l = true) (hout : OutsOk (l.map (·.dst)) a0 outs) (hst : AllStable fs) {ps : List (List Nat)} (hsub : subB ps l = true) (hob : Obs P Q (l.map (·.dst)) (l.map subj) fs outs w0 0 ps l) (hf : ∀ w, Gr w0 w → finalIn Q fs w 0 l a0) :
    ∀ (fuel : Nat) (L : Array Bool) (a : Act) (w : World), RInv l fs a0 w0 L a w → unlisted L l.length ≤ fuel → wpAny P .any l.toArray Q fuel L a w
  | 0, L, a, w, hI, hn => by
    have hr : Region.ready .any l.toArray L = [] := by
      rw [List.eq_nil_iff_forall_not_mem]
      intro i hi
      unfold Region.ready at hi
      simp only [List.mem_filter, List.mem_range, Bool.and_eq_true, List.size_toArray] at hi
      have : i ∈ (List.range l.length).filter (fun j => !L.getD j true) := List.mem_filter.2 ⟨List.mem_range.2 hi.1, hi.2.1⟩
      unfold unlisted at hn
      have h0 := List.eq_nil_of_length_eq_zero (Nat.le_zero.1 hn)
      rw [h0] at this
      cases this
    exact ⟨hr, inv_final hs hf hI hr⟩
  | fuel + 1, L, a, w, hI, hn => by
    refine ⟨fun hr => inv_final hs hf hI hr, fun i hi => ?_⟩
    have hi' := hi
    unfold Region.ready at hi'
    simp only [List.mem_filter, List.mem_range, Bool.and_eq_true, List.size_toArray, Bool.not_eq_true'] at hi'
    have hlt := unlisted_set hi'.1 hI.size hi'.2.1
    exact wpOp_mono (fun a' w' h' => any_of_inv hs hout hst hsub hob hf fuel _ a' w' h' (by omega)) (inv_step hs hout hst hsub hob hI hi)

/-- **A region that draws its order, op by op.** -/
theorem wp_region_each {id : Nat} {a : Act} {w : World} (fs : List Fact) (m : Nat) (ds ss : List (Option Tmp)) (ps : List (List Nat)) (outs : List (Tmp × Value)) (hm : P.follows .mixedOrders = true) (hsz : a.tmps.size = m) (hs : shapeB m l = true)
    (hds : l.map (·.dst) = ds) (hss : l.map subj = ss) (hps : subB ps l = true) (hout : OutsOk ds a outs) (hst : AllStable fs)
    (hob : Obs P Q ds ss fs outs w.drew 0 ps l) (hf : ∀ w', Gr w.drew w' → finalIn Q fs w' 0 l a) : (Code.region id l.toArray true).wp P Q a w := by
  subst hsz hds hss
  refine wp_region_any hm ?_
  refine any_of_inv (w0 := w.drew) hs hout hst hps hob hf _ _ a w.drew ⟨by simp, gr_refl _, rfl, rfl, fun _ _ => rfl, ?_, ?_⟩ ?_
  · intro i o _ hL
    exfalso
    rw [Array.getElem?_replicate] at hL
    split at hL <;> simp at hL
  · intro i o _ hL
    exfalso
    rw [Array.getElem?_replicate] at hL
    split at hL <;> simp at hL
  · unfold unlisted
    refine Nat.le_trans (List.length_filter_le _ _) (by simp)

theorem Obs.nil {ds ss : List (Option Tmp)} {k : Nat} : Obs P Q ds ss fs outs w0 k [] [] := trivial
theorem Obs.consv {ds ss : List (Option Tmp)} {k : Nat} {o : Oper} {m : List Oper} {js : List Nat} {ps : List (List Nat)} (hd : o.dst.isSome = true) (h : Ob P Q ds ss fs outs w0 k js o) (h' : Obs P Q ds ss fs outs w0 (k + 1) ps m) :
    Obs P Q ds ss fs outs w0 k (js :: ps) (o :: m) := ⟨.inl ⟨hd, h⟩, h'⟩
theorem Obs.conss {ds ss : List (Option Tmp)} {k : Nat} {o : Oper} {m : List Oper} {js : List Nat} {ps : List (List Nat)} (hd : o.dst.isSome = false) (h : ObAny P Q ds ss fs outs w0 k js o) (h' : Obs P Q ds ss fs outs w0 (k + 1) ps m) :
    Obs P Q ds ss fs outs w0 k (js :: ps) (o :: m) := ⟨.inr h, h'⟩
theorem Obs.consa {ds ss : List (Option Tmp)} {k : Nat} {o : Oper} {m : List Oper} {js : List Nat} {ps : List (List Nat)} (h : ObAny P Q ds ss fs outs w0 k js o) (h' : Obs P Q ds ss fs outs w0 (k + 1) ps m) :
    Obs P Q ds ss fs outs w0 k (js :: ps) (o :: m) := ⟨.inr h, h'⟩

end Go.Proofs.Ytmahiodejhakpaa.G

namespace Go.Proofs.Ytmahiodejhakpaa
open PlainOcc

/-- The first that is not 0. -/
def orOf : List Int → Int
  | [] => 0
  | x :: l => if x = 0 then orOf l else x
theorem orOf_drop (zs : List Int) (k : Nat) (h : k < zs.length) : orOf (zs.drop k) = if zs.getD k 0 = 0 then orOf (zs.drop (k + 1)) else zs.getD k 0 := by
  rw [List.drop_eq_getElem_cons h, orOf]
  simp [List.getD, h]

def cmpHit (ws : List (List Int)) (a b : Hit) : Int := orOf [Go.Lib.compareInt a.1 b.1, Go.Lib.compareInt (lenOf ws b.2) (lenOf ws a.2), Go.Lib.compareInt a.2 b.2]

theorem compareInt_lt (x y : Int) : Go.Lib.compareInt x y < 0 ↔ x < y := by
  unfold Go.Lib.compareInt
  by_cases h1 : x < y
  · simp [h1]
  · by_cases h2 : y < x <;> simp [h1, h2]
theorem compareInt_zero (x y : Int) : Go.Lib.compareInt x y = 0 ↔ x = y := by
  unfold Go.Lib.compareInt
  by_cases h1 : x < y
  · simp [h1]; omega
  · by_cases h2 : y < x
    · simp [h1, h2]; omega
    · simp [h1, h2]; omega

theorem cmpHit_less (ws : List (List Int)) (a b : Hit) : decide (cmpHit ws a b < 0) = less ws a b := by
  rw [Bool.eq_iff_iff, decide_eq_true_eq, less_iff]
  unfold cmpHit
  simp only [orOf]
  have h1 := compareInt_lt a.1 b.1
  have h2 := compareInt_lt (lenOf ws b.2) (lenOf ws a.2)
  have h3 := compareInt_lt a.2 b.2
  have e1 := compareInt_zero a.1 b.1
  have e2 := compareInt_zero (lenOf ws b.2) (lenOf ws a.2)
  have e3 := compareInt_zero a.2 b.2
  generalize Go.Lib.compareInt a.1 b.1 = u at *
  generalize Go.Lib.compareInt (lenOf ws b.2) (lenOf ws a.2) = v at *
  generalize Go.Lib.compareInt a.2 b.2 = t at *
  split
  · rename_i hu
    rw [e1] at hu
    split
    · rename_i hv
      rw [e2] at hv
      split
      · rename_i ht
        rw [e3] at ht
        omega
      · omega
    · rename_i hv
      rw [e2] at hv
      omega
  · rename_i hu
    rw [e1] at hu
    omega

theorem cmpHit_swo (ws : List (List Int)) (g : Int → Hit) : Go.Sort.SWO (Go.Proofs.ltOf fun x y => cmpHit ws (g x) (g y)) where
  irrefl x := by show decide _ = false; rw [cmpHit_less]; exact less_irrefl _ _
  trans x y z h1 h2 := by
    show decide _ = true
    have h1' : decide (cmpHit ws (g x) (g y) < 0) = true := h1
    have h2' : decide (cmpHit ws (g y) (g z) < 0) = true := h2
    rw [cmpHit_less] at *
    exact less_trans ws h1' h2'
  ntrans x y z h1 h2 := by
    show decide _ = false
    have h1' : decide (cmpHit ws (g x) (g y) < 0) = false := h1
    have h2' : decide (cmpHit ws (g y) (g z) < 0) = false := h2
    rw [cmpHit_less] at *
    cases hxz : less ws (g x) (g z) with
    | false => rfl
    | true =>
      exfalso
      rcases less_total ws (g x) (g y) with h | h | h
      · rw [← h] at h2'; rw [hxz] at h2'; cases h2'
      · rw [h] at h1'; cases h1'
      · have := less_trans ws h hxz
        rw [this] at h2'; cases h2'
end Go.Proofs.Ytmahiodejhakpaa
