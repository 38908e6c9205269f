/- A region that draws its order, op by op: each operation by a fact of its own, in whatever order they come; of no program. Slices of bytes and of slices of bytes, in memory and as facts of a drawn region's operations. -/
import Derived.Test.YtojbkhheaondhaaK6
import Derived.Orders
import Derived.Test.YtojbkhheaondhaaProg
import Derived.Laws.BytesArg
set_option linter.unusedSimpArgs false
set_option linter.unusedVariables false
namespace Go.Proofs.Ytojbkhheaondhaa
open Go.RowKit

/-- What is known of the value that an operation leaves. -/
abbrev Fact := Value → World → Prop

/-- The slot that an operation's fact speaks of: what it writes; of a store, where to. -/
def subj (o : Oper) : Option Tmp := match o.dst with
  | some d => some d
  | none => match o.op with
    | .store _ (.tmp t) _ => some t
    | _ => none

def slotIs (a : Act) : Option Tmp → Value → Prop
  | some t, v => a.tmps[t]? = some v
  | none, _ => True

def predsOf (o : Oper) : List Nat := (o.after.toList.filter (Region.binds .any)).map (·.on)

def factAt (fs : List Fact) (i : Nat) : Fact := (fs[i]?).getD (fun _ _ => True)

/-- Is it wanted? -/
def wantedAt (ds : List (Option Tmp)) (o : Oper) (tmps : Array Value) : Bool := match o.guard with
  | none => true
  | some (j, want) => (match ((ds[j]?).bind id).bind (tmps[·]?) with
    | some (.bool b) => some b
    | _ => none) == some want

def preThen (ss : List (Option Tmp)) (fs : List Fact) (a : Act) (w : World) : List Nat → Prop → Prop
  | [], G => G
  | j :: js, G => ∀ v, factAt fs j v w → slotIs a ((ss[j]?).getD none) v → preThen ss fs a w js G

/-- What the region does not write, as it stood. -/
def outThen (a : Act) : List (Tmp × Value) → Prop → Prop
  | [], G => G
  | (t, v) :: xs, G => a.tmps[t]? = some v → outThen a xs G

def OutsOk (ds : List (Option Tmp)) (a0 : Act) : List (Tmp × Value) → Prop
  | [] => True
  | (t, v) :: xs => ds.contains (some t) = false ∧ a0.tmps[t]? = some v ∧ OutsOk ds a0 xs

theorem OutsOk.nil {ds : List (Option Tmp)} {a0 : Act} : OutsOk ds a0 [] := trivial
theorem OutsOk.cons {ds : List (Option Tmp)} {a0 : Act} {t : Tmp} {v : Value} {xs : List (Tmp × Value)} (h : ds.contains (some t) = false) (h1 : a0.tmps[t]? = some v) (h2 : OutsOk ds a0 xs) : OutsOk ds a0 ((t, v) :: xs) := ⟨h, h1, h2⟩

section
variable (P : Program) (Q : Exit → Act → World → Prop) (ds ss : List (Option Tmp)) (fs : List Fact) (outs : List (Tmp × Value)) (w0 : World)

/-- What is asked of an operation. -/
def ObAny (i : Nat) (js : List Nat) (o : Oper) : Prop := ∀ a w, w0.grownBy w none → outThen a outs (preThen ss fs a w js
  (∀ K : Act → World → Prop, (∀ u v w', (match o.dst with | some _ => v = u | none => slotIs a (subj o) v) → factAt fs i v w' → w0.grownBy w' none → (∀ j v, j ≠ i → factAt fs j v w → factAt fs j v w') → K (a.put o.dst u) w') →
    if wantedAt ds o a.tmps = true then o.wp P a w K Q else K (a.put o.dst undef) w))

/-- What is asked of an operation that makes new memory alone. -/
def Ob (i : Nat) (js : List Nat) (o : Oper) : Prop := ∀ a w, w0.grownBy w none → outThen a outs (preThen ss fs a w js
  (∀ K : Act → World → Prop, (∀ v w', factAt fs i v w' → w.grownBy w' none → K (a.put o.dst v) w') →
    if wantedAt ds o a.tmps = true then o.wp P a w K Q else K (a.put o.dst undef) w))

def Obs : Nat → List (List Nat) → List Oper → Prop
  | k, js :: ps, o :: l => ((o.dst.isSome = true ∧ Ob P Q ds ss fs outs w0 k js o) ∨ ObAny P Q ds ss fs outs w0 k js o) ∧ Obs (k + 1) ps l
  | _, _, _ => True

def finalIn (w : World) : Nat → List Oper → Act → Prop
  | _, [], a => Q .normal a w
  | k, o :: l, a => match o.dst with
    | some d => ∀ v, factAt fs k v w → finalIn w (k + 1) l (a.put (some d) v)
    | none => ∀ v, slotIs a (subj o) v → factAt fs k v w → finalIn w (k + 1) l a
end

def Stable (f : Fact) : Prop := ∀ v w w', f v w → w.grownBy w' none → f v w'
def AllStable : List Fact → Prop
  | [] => True
  | f :: l => Stable f ∧ AllStable l

theorem AllStable.at_ : ∀ {l : List Fact}, AllStable l → ∀ i, Stable (factAt l i)
  | [], _, i => by intro v w w' _ _; simp [factAt]
  | f :: l, h, 0 => by simpa [factAt] using h.1
  | f :: l, h, i + 1 => by have := AllStable.at_ h.2 i; simpa [factAt] using this

/-- The region's shape, asked of the kernel. -/
def shapeB (n : Nat) (l : List Oper) : Bool :=
  let k := l.length
  let ds := l.map (·.dst)
  (List.range k).all (fun i => match ds[i]? with
    | some (some d) => decide (d < n) && (List.range k).all (fun j => i == j || ds[j]? != some (some d))
    | _ => true) &&
  (List.range k).all (fun i => match l[i]? with
    | some o => (predsOf o).all (fun j => decide (j < i)) && (match o.dst, subj o with
      | none, some t => (List.range k).all (fun j => ds[j]? != some (some t) || (predsOf o).contains j)
      | _, _ => true)
    | none => true)

structure RInv (l : List Oper) (fs : List Fact) (a0 : Act) (w0 : World) (L : Array Bool) (a : Act) (w : World) : Prop where
  size : L.size = l.length
  gr : w0.grownBy w none
  df : a.defers = a0.defers
  ts : a.tmps.size = a0.tmps.size
  keep : ∀ t, (l.map (·.dst)).contains (some t) = false → a.tmps[t]? = a0.tmps[t]?
  closed : ∀ (i : Nat) (o : Oper), l[i]? = some o → L[i]? = some true → ∀ j ∈ predsOf o, L[j]? = some true
  fact : ∀ (i : Nat) (o : Oper), l[i]? = some o → L[i]? = some true → ∃ v, slotIs a (subj o) v ∧ factAt fs i v w

variable {P : Program} {Q : Exit → Act → World → Prop} {l : List Oper} {fs : List Fact} {a0 : Act} {w0 : World} {n : Nat} {outs : List (Tmp × Value)}

theorem shape_dst (h : shapeB n l = true) {i j : Nat} {d : Tmp} (hi : (l.map (·.dst))[i]? = some (some d)) (hj : (l.map (·.dst))[j]? = some (some d)) : i = j := by
  unfold shapeB at h
  simp only [Bool.and_eq_true, List.all_eq_true, List.mem_range] at h
  have hil : i < l.length := by simpa using (List.getElem?_eq_some_iff.1 hi).1
  have hjl : j < l.length := by simpa using (List.getElem?_eq_some_iff.1 hj).1
  have h1 := h.1 i hil
  rw [hi] at h1
  simp only [Bool.and_eq_true, List.all_eq_true, List.mem_range] at h1
  have h2 := h1.2 j hjl
  rw [hj] at h2
  simpa using h2

theorem shape_lt (h : shapeB n l = true) {i : Nat} {d : Tmp} (hi : (l.map (·.dst))[i]? = some (some d)) : d < n := by
  unfold shapeB at h
  simp only [Bool.and_eq_true, List.all_eq_true, List.mem_range] at h
  have hil : i < l.length := by simpa using (List.getElem?_eq_some_iff.1 hi).1
  have h1 := h.1 i hil
  rw [hi] at h1
  simp only [Bool.and_eq_true, decide_eq_true_eq] at h1
  exact h1.1

theorem shape_preds (h : shapeB n l = true) {i j : Nat} {o : Oper} (hi : l[i]? = some o) (hj : j ∈ predsOf o) : j < i := by
  unfold shapeB at h
  simp only [Bool.and_eq_true, List.all_eq_true, List.mem_range] at h
  have hil : i < l.length := (List.getElem?_eq_some_iff.1 hi).1
  have h1 := h.2 i hil
  rw [hi] at h1
  simp only [Bool.and_eq_true, List.all_eq_true, decide_eq_true_eq] at h1
  exact h1.1 j hj

theorem shape_subj (h : shapeB n l = true) {i j : Nat} {o : Oper} {t : Tmp} (hi : l[i]? = some o) (hd : o.dst = none) (hs : subj o = some t) (hj : (l.map (·.dst))[j]? = some (some t)) : j ∈ predsOf o := by
  unfold shapeB at h
  simp only [Bool.and_eq_true, List.all_eq_true, List.mem_range] at h
  have hil : i < l.length := (List.getElem?_eq_some_iff.1 hi).1
  have hjl : j < l.length := by simpa using (List.getElem?_eq_some_iff.1 hj).1
  have h1 := h.2 i hil
  rw [hi] at h1
  simp only [Bool.and_eq_true, hd, hs, List.all_eq_true, List.mem_range] at h1
  have h2 := h1.2 j hjl
  rw [hj] at h2
  simpa using h2

theorem wanted_at (o : Oper) (tmps : Array Value) : Region.wanted o (yielded l.toArray tmps) = wantedAt (l.map (·.dst)) o tmps := by
  unfold Region.wanted wantedAt yielded
  cases o.guard with
  | none => rfl
  | some p =>
    obtain ⟨j, want⟩ := p
    simp only [List.getElem?_toArray, List.getElem?_map]
    cases l[j]? <;> rfl

theorem outThen_use {ds : List (Option Tmp)} {a : Act} (hk : ∀ t, ds.contains (some t) = false → a.tmps[t]? = a0.tmps[t]?) : ∀ (xs : List (Tmp × Value)) (G : Prop), OutsOk ds a0 xs → outThen a xs G → G
  | [], G, _, h => h
  | (t, v) :: xs, G, ho, h => outThen_use hk xs G ho.2.2 (h ((hk t ho.1).trans ho.2.1))

theorem preThen_use {ss : List (Option Tmp)} {a : Act} {w : World} : ∀ (js : List Nat) (G : Prop), (∀ j ∈ js, ∃ v, slotIs a ((ss[j]?).getD none) v ∧ factAt fs j v w) → preThen ss fs a w js G → G
  | [], G, _, h => h
  | j :: js, G, hp, h => by
    obtain ⟨v, h1, h2⟩ := hp j (by simp)
    exact preThen_use js G (fun k hk => hp k (by simp [hk])) (h v h2 h1)

theorem getD_true {L : Array Bool} {i : Nat} (h : L.getD i false = true) : L[i]? = some true := by
  rw [Array.getD_eq_getD_getElem?] at h
  cases hL : L[i]? with
  | none => rw [hL] at h; cases h
  | some b => rw [hL] at h; simp at h; rw [h]

/-- What an operation is told of are operations that it waits for. -/
def subB : List (List Nat) → List Oper → Bool
  | js :: ps, o :: l => js.all (fun j => (predsOf o).contains j) && subB ps l
  | [], [] => true
  | _, _ => false

theorem obs_at {ds ss : List (Option Tmp)} {ps : List (List Nat)} (hsub : subB ps l = true) (h : Obs P Q ds ss fs outs w0 0 ps l) {i : Nat} {o : Oper} (hi : l[i]? = some o) :
    ∃ js : List Nat, (∀ j ∈ js, j ∈ predsOf o) ∧ ((o.dst.isSome = true ∧ Ob P Q ds ss fs outs w0 i js o) ∨ ObAny P Q ds ss fs outs w0 i js o) := by
  have gen : ∀ (m : List Oper) (ps : List (List Nat)) (k i : Nat), subB ps m = true → Obs P Q ds ss fs outs w0 k ps m → m[i]? = some o →
      ∃ js : List Nat, (∀ j ∈ js, j ∈ predsOf o) ∧ ((o.dst.isSome = true ∧ Ob P Q ds ss fs outs w0 (k + i) js o) ∨ ObAny P Q ds ss fs outs w0 (k + i) js o) := by
    intro m
    induction m with
    | nil => intro ps k i _ _ h2; simp at h2
    | cons x m ih =>
      intro ps k i hs h1 h2
      cases ps with
      | nil => cases hs
      | cons js ps =>
        simp only [subB, Bool.and_eq_true, List.all_eq_true] at hs
        cases i with
        | zero => simp at h2; subst h2; exact ⟨js, fun j hj => by simpa using hs.1 j hj, h1.1⟩
        | succ i =>
          have := ih ps (k + 1) i hs.2 h1.2 (by simpa using h2)
          rwa [show k + 1 + i = k + (i + 1) by omega] at this
  have := gen l ps 0 i hsub h hi
  rwa [Nat.zero_add] at this

theorem Ob.any {ds ss : List (Option Tmp)} {i : Nat} {o : Oper} {js : List Nat} (hst : AllStable fs) (hd : o.dst.isSome = true) (h : Ob P Q ds ss fs outs w0 i js o) : ObAny P Q ds ss fs outs w0 i js o := by
  intro a w hg
  have h := h a w hg
  have kmono : ∀ (xs : List (Tmp × Value)) (G G' : Prop), (G → G') → outThen a xs G → outThen a xs G' := by
    intro xs
    induction xs with
    | nil => intro G G' hG h; exact hG h
    | cons x xs ih => intro G G' hG h he; exact ih _ _ hG (h he)
  have pmono : ∀ (js : List Nat) (G G' : Prop), (G → G') → preThen ss fs a w js G → preThen ss fs a w js G' := by
    intro js
    induction js with
    | nil => intro G G' hG h; exact hG h
    | cons j js ih => intro G G' hG h v h1 h2; exact ih _ _ hG (h v h1 h2)
  refine kmono _ _ _ (pmono _ _ _ ?_) h
  intro h K hK
  refine h K (fun v w' hF hgr => ?_)
  obtain ⟨d, hd'⟩ := Option.isSome_iff_exists.1 hd
  refine hK v v w' (by rw [hd']) hF ?_ (fun j u _ hj => hst.at_ j u w w' hj hgr)
  exact ⟨hgr.os.trans hg.os, hgr.tape.trans hg.tape, hgr.output.trans hg.output, Nat.le_trans hg.size hgr.size,
    fun j hj _ => (hgr.block j (Nat.lt_of_lt_of_le hj hg.size) (by simp)).trans (hg.block j hj (by simp))⟩

theorem inv_op (hs : shapeB a0.tmps.size l = true) (hout : OutsOk (l.map (·.dst)) a0 outs) (hst : AllStable fs) {ps : List (List Nat)} (hsub : subB ps l = true) (hob : Obs P Q (l.map (·.dst)) (l.map subj) fs outs w0 0 ps l) {L : Array Bool} {a : Act} {w : World} {i : Nat}
    (hI : RInv l fs a0 w0 L a w) (hi : i ∈ Region.ready .any l.toArray L) : ∃ o, l[i]? = some o ∧
    if Region.wanted o (yielded l.toArray a.tmps) = true then o.wp P a w (fun a' w' => RInv l fs a0 w0 (L.setIfInBounds i true) a' w') Q else RInv l fs a0 w0 (L.setIfInBounds i true) (a.put o.dst undef) w := by
  unfold Region.ready at hi
  simp only [List.mem_filter, List.mem_range, Bool.and_eq_true, Bool.not_eq_true', List.size_toArray, List.getElem?_toArray] at hi
  obtain ⟨hlt, hfalse, hafter⟩ := hi
  obtain ⟨o, ho⟩ : ∃ o, l[i]? = some o := ⟨_, List.getElem?_eq_getElem hlt⟩
  rw [ho] at hafter
  simp only [Option.map_some, Option.getD_some] at hafter
  have hiL : i < L.size := by rw [hI.size]; exact hlt
  have hiF : L[i]? = some false := by
    rw [Array.getD_eq_getD_getElem?, Array.getElem?_eq_getElem hiL] at hfalse
    simp at hfalse
    rw [Array.getElem?_eq_getElem hiL, hfalse]
  have hpreds : ∀ j ∈ predsOf o, L[j]? = some true := by
    intro j hj
    unfold predsOf at hj
    obtain ⟨e, he, rfl⟩ := List.mem_map.1 hj
    obtain ⟨he1, he2⟩ := List.mem_filter.1 he
    have := (Array.all_eq_true_iff_forall_mem.1 hafter) e (by simpa using he1)
    rw [he2] at this
    exact getD_true (by simpa using this)
  obtain ⟨js, hjs, hobi⟩ : ∃ js : List Nat, (∀ j ∈ js, j ∈ predsOf o) ∧ ObAny P Q (l.map (·.dst)) (l.map subj) fs outs w0 i js o := by
    obtain ⟨js, hjs, this⟩ := obs_at hsub hob ho
    refine ⟨js, hjs, ?_⟩
    rcases this with ⟨hd, this⟩ | this
    · exact this.any hst hd
    · exact this
  have H := hobi a w hI.gr
  have H := outThen_use (fun t ht => hI.keep t ht) _ _ hout H
  have H := preThen_use _ _ (fun j hj0 => by
    have hj := hjs j hj0
    have hjl : j < l.length := Nat.lt_trans (shape_preds hs ho hj) hlt
    obtain ⟨v, h1, h2⟩ := hI.fact j l[j] (List.getElem?_eq_getElem hjl) (hpreds j hj)
    refine ⟨v, ?_, h2⟩
    simpa [List.getElem?_map, List.getElem?_eq_getElem hjl] using h1) H
  have H := H (fun a' w' => RInv l fs a0 w0 (L.setIfInBounds i true) a' w') (fun u v w' hu hF hgr hstab => by
    have hdi : (l.map (·.dst))[i]? = some o.dst := by simp [ho]
    refine ⟨by simpa using hI.size, hgr, ?_, ?_, ?_, ?_, ?_⟩
    · cases o.dst <;> exact hI.df
    · cases o.dst with
      | none => exact hI.ts
      | some d => simpa [Act.put] using hI.ts
    · intro t ht
      rw [← hI.keep t ht]
      cases hd : o.dst with
      | none => rfl
      | some d =>
        have hne : d ≠ t := by
          intro e
          subst e
          have : (l.map (·.dst)).contains (some d) = true := by
            rw [List.contains_iff_mem]
            exact List.mem_of_getElem? (hd ▸ hdi)
          rw [this] at ht; cases ht
        simp [Act.put, Array.getElem?_setIfInBounds_ne hne]
    · intro k ok hk hLk j hj
      by_cases hji : j = i
      · subst hji; simp [hiL]
      · rw [Array.getElem?_setIfInBounds_ne (Ne.symm hji)]
        by_cases hki : k = i
        · subst hki; rw [ho] at hk; injection hk with hk; subst hk; exact hpreds j hj
        · rw [Array.getElem?_setIfInBounds_ne (Ne.symm hki)] at hLk
          exact hI.closed k ok hk hLk j hj
    · intro k ok hk hLk
      by_cases hki : k = i
      · subst hki
        rw [ho] at hk; injection hk with hk; subst hk
        refine ⟨v, ?_, hF⟩
        cases hd : o.dst with
        | none =>
          rw [hd] at hu
          exact hu
        | some d =>
          rw [hd] at hu
          subst hu
          have hlt' : d < a.tmps.size := by rw [hI.ts]; exact shape_lt hs (i := k) (by rw [hdi, hd])
          simp only [subj, hd, slotIs, Act.put]
          simp [hlt']
      · rw [Array.getElem?_setIfInBounds_ne (Ne.symm hki)] at hLk
        obtain ⟨x, h1, h2⟩ := hI.fact k ok hk hLk
        refine ⟨x, ?_, hstab k x hki h2⟩
        cases hd : o.dst with
        | none => exact h1
        | some d =>
          cases hsk : subj ok with
          | none => trivial
          | some t =>
            rw [hsk] at h1
            have hne : d ≠ t := by
              intro e
              subst e
              cases hdk : ok.dst with
              | some dk =>
                simp only [subj, hdk] at hsk
                injection hsk with hsk
                subst hsk
                exact hki (shape_dst hs (i := k) (j := i) (d := dk) (by simp [hk, hdk]) (by rw [hdi, hd]))
              | none =>
                have := shape_subj hs hk hdk hsk (j := i) (by rw [hdi, hd])
                have := hI.closed k ok hk hLk i this
                rw [hiF] at this
                cases this
            simp only [slotIs, Act.put] at h1 ⊢
            rw [Array.getElem?_setIfInBounds_ne hne]
            exact h1)
  refine ⟨o, ho, ?_⟩
  rw [wanted_at]
  exact H

theorem inv_step (hs : shapeB a0.tmps.size l = true) (hout : OutsOk (l.map (·.dst)) a0 outs) (hst : AllStable fs) {ps : List (List Nat)} (hsub : subB ps l = true) (hob : Obs P Q (l.map (·.dst)) (l.map subj) fs outs w0 0 ps l) {L : Array Bool} {a : Act} {w : World} {i : Nat}
    (hI : RInv l fs a0 w0 L a w) (hi : i ∈ Region.ready .any l.toArray L) : wpOp P l.toArray Q i (fun a' w' => RInv l fs a0 w0 (L.setIfInBounds i true) a' w') a w := by
  obtain ⟨o, ho, H⟩ := inv_op (Q := Q) hs hout hst hsub hob hI hi
  unfold wpOp
  simp only [List.getElem?_toArray, ho]
  split
  · rename_i hw; rw [if_pos hw] at H; exact .inl H
  · rename_i hw; rw [if_neg hw] at H; exact H

theorem all_listed (hs : shapeB a0.tmps.size l = true) {L : Array Bool} {a : Act} {w : World} (hI : RInv l fs a0 w0 L a w) (hr : Region.ready .any l.toArray L = []) : ∀ i, i < l.length → L[i]? = some true := by
  intro i
  induction i using Nat.strongRecOn with
  | ind i ih =>
    intro hi
    have hiL : i < L.size := by rw [hI.size]; exact hi
    cases hb : L[i] with
    | true => rw [Array.getElem?_eq_getElem hiL, hb]
    | false =>
      exfalso
      have : i ∈ Region.ready .any l.toArray L := by
        unfold Region.ready
        simp only [List.mem_filter, List.mem_range, List.size_toArray, List.getElem?_toArray, List.getElem?_eq_getElem hi, Option.map_some, Option.getD_some, Bool.and_eq_true, Bool.not_eq_true']
        refine ⟨hi, by simp [hiL, hb], ?_⟩
        rw [Array.all_eq_true_iff_forall_mem]
        intro e he
        cases hbe : Region.binds .any e with
        | false => rfl
        | true =>
          have hp : e.on ∈ predsOf l[i] := List.mem_map.2 ⟨e, List.mem_filter.2 ⟨by simpa using he, hbe⟩, rfl⟩
          have hlt := shape_preds hs (List.getElem?_eq_getElem hi) hp
          have := ih e.on hlt (by omega)
          simp [Array.getD_eq_getD_getElem?, this]
      rw [hr] at this
      cases this

theorem inv_final (hs : shapeB a0.tmps.size l = true) (hf : ∀ w, w0.grownBy w none → finalIn Q fs w 0 l a0) {L : Array Bool} {a : Act} {w : World}
    (hI : RInv l fs a0 w0 L a w) (hr : Region.ready .any l.toArray L = []) : Q .normal a w := by
  have hall := all_listed hs hI hr
  have gen : ∀ (m : List Oper) (k : Nat) (b : Act), finalIn Q fs w k m b → b.defers = a.defers → b.tmps.size = a.tmps.size →
      (∀ i o, m[i]? = some o → l[k + i]? = some o) →
      (∀ t, (m.map (·.dst)).contains (some t) = false → b.tmps[t]? = a.tmps[t]?) → Q .normal a w := by
    intro m
    induction m with
    | nil =>
      intro k b h h1 h2 _ h3
      have : b = a := by
        cases b; cases a
        simp only at h1 h2 h3
        subst h1
        congr 1
        exact Array.ext_getElem? (fun i => by simpa using h3 i (by simp))
      rw [this] at h
      exact h
    | cons o m ih =>
      intro k b h h1 h2 h4 h3
      have hok : l[k]? = some o := by have := h4 0 o (by simp); simpa using this
      have hk : k < l.length := (List.getElem?_eq_some_iff.1 hok).1
      obtain ⟨v, hv, hF⟩ := hI.fact k o hok (hall k hk)
      unfold finalIn at h
      have h4' : ∀ i x, m[i]? = some x → l[k + 1 + i]? = some x := fun i x hx => by
        have := h4 (i + 1) x (by simpa using hx)
        rwa [show k + (i + 1) = k + 1 + i by omega] at this
      cases hd : o.dst with
      | some d =>
        rw [hd] at h
        have hs' : subj o = some d := by simp [subj, hd]
        rw [hs'] at hv
        refine ih (k + 1) (b.put (some d) v) (h v hF) (by simpa [Act.put] using h1) (by simpa [Act.put] using h2) h4' (fun t ht => ?_)
        by_cases htd : t = d
        · subst htd
          have : t < b.tmps.size := by rw [h2, hI.ts]; exact shape_lt hs (i := k) (by simp [hok, hd])
          simp only [slotIs] at hv
          simp [Act.put, this, hv]
        · have hne : d ≠ t := fun e => htd e.symm
          simp only [Act.put]
          rw [Array.getElem?_setIfInBounds_ne hne]
          refine h3 t ?_
          simp only [List.map_cons, List.contains_cons, hd]
          rw [ht]
          simp [htd]
      | none =>
        rw [hd] at h
        have hb : slotIs b (subj o) v := by
          cases hsj : subj o with
          | none => trivial
          | some t =>
            rw [hsj] at hv
            simp only [slotIs] at hv ⊢
            rw [← hv]
            refine h3 t ?_
            cases hc : (((o :: m).map (·.dst)).contains (some t)) with
            | false => rfl
            | true =>
              exfalso
              rw [List.contains_iff_mem] at hc
              obtain ⟨j, hj⟩ := List.mem_iff_getElem?.1 hc
              have hj' : (l.map (·.dst))[k + j]? = some (some t) := by
                rw [List.getElem?_map] at hj ⊢
                cases hx : (o :: m)[j]? with
                | none => rw [hx] at hj; cases hj
                | some x => rw [hx] at hj; rw [h4 j x hx]; exact hj
              have := shape_preds hs hok (shape_subj hs hok hd hsj hj')
              omega
        refine ih (k + 1) b (h v hb hF) h1 h2 h4' (fun t ht => h3 t ?_)
        simp only [List.map_cons, List.contains_cons, hd, ht]
        rfl
  exact gen l 0 a0 (hf w hI.gr) hI.df.symm hI.ts.symm (fun i o h => by simpa using h) (fun t ht => (hI.keep t ht).symm)

def unlisted (L : Array Bool) (k : Nat) : Nat := ((List.range k).filter fun i => !L.getD i true).length

theorem unlisted_set {L : Array Bool} {k i : Nat} (hi : i < k) (hk : L.size = k) (hf : L.getD i true = false) : unlisted (L.setIfInBounds i true) k < unlisted L k := by
  unfold unlisted
  have hiL : i < L.size := by omega
  have sub : ∀ j, (!(L.setIfInBounds i true).getD j true) = true → (!L.getD j true) = true := by
    intro j hj
    by_cases hji : j = i
    · subst hji; simp [hiL] at hj
    · simpa [Array.getD_eq_getD_getElem?, Array.getElem?_setIfInBounds_ne (Ne.symm hji)] using hj
  have e : (List.range k).filter (fun j => !(L.setIfInBounds i true).getD j true) = ((List.range k).filter (fun j => !L.getD j true)).filter (fun j => !(L.setIfInBounds i true).getD j true) := by
    rw [List.filter_filter]
    congr 1
    funext j
    cases h : (!(L.setIfInBounds i true).getD j true) with
    | false => simp
    | true => rw [sub j h]; rfl
  rw [e]
  have hmem : i ∈ (List.range k).filter (fun j => !L.getD j true) := List.mem_filter.2 ⟨List.mem_range.2 hi, by rw [hf]; rfl⟩
  refine List.length_filter_lt_length_iff_exists.2 ⟨i, hmem, ?_⟩
  simp [hiL]

theorem any_of_inv (hs : shapeB a0.tmps.size l = true) (hout : OutsOk (l.map (·.dst)) a0 outs) (hst : AllStable fs) {ps : List (List Nat)} (hsub : subB ps l = true) (hob : Obs P Q (l.map (·.dst)) (l.map subj) fs outs w0 0 ps l) (hf : ∀ w, w0.grownBy w none → finalIn Q fs w 0 l a0) :
    ∀ (fuel : Nat) (L : Array Bool) (a : Act) (w : World), RInv l fs a0 w0 L a w → unlisted L l.length ≤ fuel → wpAny P .any l.toArray Q fuel L a w
  | 0, L, a, w, hI, hn => by
    have hr : Region.ready .any l.toArray L = [] := by
      rw [List.eq_nil_iff_forall_not_mem]
      intro i hi
      unfold Region.ready at hi
      simp only [List.mem_filter, List.mem_range, Bool.and_eq_true, List.size_toArray] at hi
      have : i ∈ (List.range l.length).filter (fun j => !L.getD j true) := List.mem_filter.2 ⟨List.mem_range.2 hi.1, hi.2.1⟩
      unfold unlisted at hn
      have h0 := List.eq_nil_of_length_eq_zero (Nat.le_zero.1 hn)
      rw [h0] at this
      cases this
    exact ⟨hr, inv_final hs hf hI hr⟩
  | fuel + 1, L, a, w, hI, hn => by
    refine ⟨fun hr => inv_final hs hf hI hr, fun i hi => ?_⟩
    have hi' := hi
    unfold Region.ready at hi'
    simp only [List.mem_filter, List.mem_range, Bool.and_eq_true, List.size_toArray, Bool.not_eq_true'] at hi'
    have hlt := unlisted_set hi'.1 hI.size hi'.2.1
    exact wpOp_mono (fun a' w' h' => any_of_inv hs hout hst hsub hob hf fuel _ a' w' h' (by omega)) (inv_step hs hout hst hsub hob hI hi)

/-- **A region that draws its order, op by op.** -/
theorem wp_region_each {id : Nat} {a : Act} {w : World} (fs : List Fact) (m : Nat) (ds ss : List (Option Tmp)) (ps : List (List Nat)) (outs : List (Tmp × Value)) (hm : P.follows .mixedOrders = true) (hsz : a.tmps.size = m) (hs : shapeB m l = true)
    (hds : l.map (·.dst) = ds) (hss : l.map subj = ss) (hps : subB ps l = true) (hout : OutsOk ds a outs) (hst : AllStable fs)
    (hob : Obs P Q ds ss fs outs w.drew 0 ps l) (hf : ∀ w', w.drew.grownBy w' none → finalIn Q fs w' 0 l a) : (Code.region id l.toArray true).wp P Q a w := by
  subst hsz hds hss
  refine wp_region_any hm ?_
  refine any_of_inv (w0 := w.drew) hs hout hst hps hob hf _ _ a w.drew ⟨by simp, ⟨rfl, rfl, rfl, Nat.le_refl _, fun _ _ _ => rfl⟩, rfl, rfl, fun _ _ => rfl, ?_, ?_⟩ ?_
  · intro i o _ hL
    exfalso
    rw [Array.getElem?_replicate] at hL
    split at hL <;> simp at hL
  · intro i o _ hL
    exfalso
    rw [Array.getElem?_replicate] at hL
    split at hL <;> simp at hL
  · unfold unlisted
    refine Nat.le_trans (List.length_filter_le _ _) (by simp)

/-- Its value is known outright. -/
def isv (c : Value) : Fact := fun v _ => v = c
theorem stable_isv (c : Value) : Stable (isv c) := fun _ _ _ h _ => h
theorem AllStable.nil : AllStable [] := trivial
theorem AllStable.cons {f : Fact} {l : List Fact} (h : Stable f) (h' : AllStable l) : AllStable (f :: l) := ⟨h, h'⟩
theorem Obs.nil {ds ss : List (Option Tmp)} {k : Nat} : Obs P Q ds ss fs outs w0 k [] [] := trivial
theorem Obs.consv {ds ss : List (Option Tmp)} {k : Nat} {o : Oper} {m : List Oper} {js : List Nat} {ps : List (List Nat)} (hd : o.dst.isSome = true) (h : Ob P Q ds ss fs outs w0 k js o) (h' : Obs P Q ds ss fs outs w0 (k + 1) ps m) :
    Obs P Q ds ss fs outs w0 k (js :: ps) (o :: m) := ⟨.inl ⟨hd, h⟩, h'⟩
theorem Obs.conss {ds ss : List (Option Tmp)} {k : Nat} {o : Oper} {m : List Oper} {js : List Nat} {ps : List (List Nat)} (hd : o.dst.isSome = false) (h : ObAny P Q ds ss fs outs w0 k js o) (h' : Obs P Q ds ss fs outs w0 (k + 1) ps m) :
    Obs P Q ds ss fs outs w0 k (js :: ps) (o :: m) := ⟨.inr h, h'⟩
theorem Obs.consa {ds ss : List (Option Tmp)} {k : Nat} {o : Oper} {m : List Oper} {js : List Nat} {ps : List (List Nat)} (h : ObAny P Q ds ss fs outs w0 k js o) (h' : Obs P Q ds ss fs outs w0 (k + 1) ps m) :
    Obs P Q ds ss fs outs w0 k (js :: ps) (o :: m) := ⟨.inr h, h'⟩

end Go.Proofs.Ytojbkhheaondhaa

namespace Go.Proofs.Ytojbkhheaondhaa
open Go.RowKit

/-- A slice of slices of bytes reads as these lists. -/
def Arrs (w : World) (A : Option Addr) (xss : List (List Int)) : Prop :=
  xss ≠ [] → ∃ b off, A = some ⟨b, off, none⟩ ∧ b < w.heap.size ∧ ∀ i, i < xss.length → ∃ Ai ci, w.cell? ⟨b, off + i, none⟩ = some (.slice Ai (xss.getD i []).length ci) ∧ Arr w .u8 Ai (xss.getD i [])

theorem Arrs.nil (w : World) (A : Option Addr) : Arrs w A [] := fun h => absurd rfl h
theorem Arrs.at_ {w : World} {A : Option Addr} {xss : List (List Int)} (h : Arrs w A xss) {i : Nat} (hi : i < xss.length) :
    ∃ b off Ai ci, A = some ⟨b, off, none⟩ ∧ b < w.heap.size ∧ w.cell? ⟨b, off + i, none⟩ = some (.slice Ai (xss.getD i []).length ci) ∧ Arr w .u8 Ai (xss.getD i []) := by
  obtain ⟨b, off, rfl, hb, hc⟩ := h (by intro e; subst e; simp at hi)
  obtain ⟨Ai, ci, h1, h2⟩ := hc i hi
  exact ⟨b, off, Ai, ci, rfl, hb, h1, h2⟩
theorem Arrs.grown {w w' : World} {A : Option Addr} {xss : List (List Int)} (h : Arrs w A xss) (hg : w.grownBy w' none) : Arrs w' A xss := fun hz => by
  obtain ⟨b, off, rfl, hb, hc⟩ := h hz
  exact ⟨b, off, rfl, Nat.lt_of_lt_of_le hb hg.size, fun i hi => by
    obtain ⟨Ai, ci, h1, h2⟩ := hc i hi
    exact ⟨Ai, ci, ((gcell hg).1 b _ hb).trans h1, h2.grown hg⟩⟩

/-- All are bytes. -/
def Bytes (xs : List Int) : Prop := ∀ k, 0 ≤ xs.getD k 0 ∧ xs.getD k 0 ≤ 255
def Small (xss : List (List Int)) : Prop := xss.length ≤ 100000 ∧ ∀ i, (xss.getD i []).length ≤ 100000 ∧ Bytes (xss.getD i [])

theorem take_getD {α : Type} (l : List α) (k : Nat) (d : α) (h : k < l.length) : l.take (k + 1) = l.take k ++ [l.getD k d] := by
  rw [List.take_add_one]; simp [List.getD, h]

theorem getD_take (xs : List Int) (n i : Nat) : (xs.take n).getD i 0 = if i < n then xs.getD i 0 else 0 := by
  simp only [List.getD, List.getElem?_take]
  split <;> rfl
theorem getD_drop (xs : List Int) (n i : Nat) : (xs.drop n).getD i 0 = xs.getD (n + i) 0 := by simp [List.getD]
theorem Bytes.take {xs : List Int} (h : Bytes xs) (n : Nat) : Bytes (xs.take n) := fun i => by
  rw [getD_take]
  split
  · exact h i
  · decide
theorem Bytes.drop {xs : List Int} (h : Bytes xs) (n : Nat) : Bytes (xs.drop n) := fun i => by rw [getD_drop]; exact h _

theorem small_of {bs : List Int} (h : bs.length ≤ 3000) (hb : Bytes bs) : Small [bs] := ⟨by simp, fun i => by
  rcases i with _ | i
  · exact ⟨by simp; omega, hb⟩
  · exact ⟨by simp, fun k => by simp⟩⟩

theorem small_nil : Small [] := ⟨by simp, fun i => ⟨by simp, fun k => by simp⟩⟩
theorem small_two {x y : Int} (h0 : 0 ≤ x) (h1 : x ≤ 255) (h2 : 0 ≤ y) (h3 : y ≤ 255) : Small [[x], [y]] := ⟨by simp, fun i => by
  rcases i with _ | _ | i
  · refine ⟨by simp, fun k => ?_⟩
    rcases k with _ | k <;> simp; omega
  · refine ⟨by simp, fun k => ?_⟩
    rcases k with _ | k <;> simp; omega
  · refine ⟨by simp, fun k => by simp⟩⟩

theorem Arrs.of_holds {w : World} {g : Nat} {t : TypeId} (l : List (Option Addr × List Int × Nat)) (h : Holds w g t (l.map fun x => Value.slice x.1 x.2.1.length x.2.2).toArray)
    (hA : ∀ x ∈ l, Arr w .u8 x.1 x.2.1) : Arrs w (some ⟨g, 0, none⟩) (l.map (·.2.1)) := fun _ =>
  ⟨g, 0, rfl, h.lt, fun i hi => by
    simp only [List.length_map] at hi
    have e : (l.map (·.2.1)).getD i [] = l[i].2.1 := by simp [List.getD, hi]
    rw [e]
    exact ⟨l[i].1, l[i].2.2, by rw [h.cell]; simp [hi], hA _ (List.getElem_mem hi)⟩⟩

theorem Arrs.one {w : World} {g : Nat} {t : TypeId} {A : Option Addr} {xs : List Int} {c : Nat} (h : Holds w g t #[.slice A xs.length c]) (hA : Arr w .u8 A xs) : Arrs w (some ⟨g, 0, none⟩) [xs] :=
  Arrs.of_holds [(A, xs, c)] h (by simpa using hA)
theorem Arrs.two {w : World} {g : Nat} {t : TypeId} {A A2 : Option Addr} {xs ys : List Int} {c c2 : Nat} (h : Holds w g t #[.slice A xs.length c, .slice A2 ys.length c2]) (hA : Arr w .u8 A xs) (hA2 : Arr w .u8 A2 ys) : Arrs w (some ⟨g, 0, none⟩) [xs, ys] :=
  Arrs.of_holds [(A, xs, c), (A2, ys, c2)] h (by simp; exact ⟨hA, hA2⟩)
theorem Arrs.three {w : World} {g : Nat} {t : TypeId} {A A2 A3 : Option Addr} {xs ys zs : List Int} {c c2 c3 : Nat} (h : Holds w g t #[.slice A xs.length c, .slice A2 ys.length c2, .slice A3 zs.length c3]) (hA : Arr w .u8 A xs) (hA2 : Arr w .u8 A2 ys) (hA3 : Arr w .u8 A3 zs) : Arrs w (some ⟨g, 0, none⟩) [xs, ys, zs] :=
  Arrs.of_holds [(A, xs, c), (A2, ys, c2), (A3, zs, c3)] h (by simp; exact ⟨hA, hA2, hA3⟩)

/-- One slice of bytes in a new slice. -/
theorem one_new {w : World} {A : Option Addr} {xs : List Int} {c : Nat} (hA : Arr w .u8 A xs) : Arrs (w.alloc (.cells #[.slice A xs.length c] 28)) (some ⟨w.heap.size, 0, none⟩) [xs] :=
  Arrs.one (Holds.new w 28 _) (hA.grown (grown_alloc (grown_refl _ _) _))

theorem bytes_new (w : World) (xs : List Int) : Arr (w.alloc (.cells (xs.map (Value.int .u8)).toArray 5)) .u8 (some ⟨w.heap.size, 0, none⟩) xs := Arr.of_holds (Holds.new w 5 _)

/-- One part, of bytes that are told outright. -/
theorem lit_new (w : World) (xs : List Int) : Arrs ((w.alloc (.cells (xs.map (Value.int .u8)).toArray 5)).alloc (.cells #[.slice (some ⟨w.heap.size, 0, none⟩) xs.length xs.length] 28)) (some ⟨w.heap.size + 1, 0, none⟩) [xs] := by
  have := one_new (c := xs.length) (bytes_new w xs)
  simpa using this

theorem small_one {x : Int} (h0 : 0 ≤ x) (h1 : x ≤ 255) : Small [[x]] := ⟨by simp, fun i => by
  rcases i with _ | i
  · refine ⟨by simp, fun k => ?_⟩
    rcases k with _ | k <;> simp; omega
  · refine ⟨by simp, fun k => by simp⟩⟩

theorem arrs_lit {W : World} {g b : Nat} {xs : List Int} (h1 : Holds W g 28 #[.slice (some ⟨b, 0, none⟩) xs.length xs.length]) (h2 : Holds W b 5 (xs.map (Value.int .u8)).toArray) : Arrs W (some ⟨g, 0, none⟩) [xs] :=
  Arrs.one h1 (Arr.of_holds h2)

theorem Try.info5 : (Try.prog.info? 5).map (fun i => (i.zero, i.size, i.bytes)) = some (some (.int .u8 0), 1, 1) := by kernel_rfl

/-- A slice of bytes, as a string. -/
theorem conv_arr (w : World) (A : Option Addr) (c : Nat) (zs : List Int) (h : Arr w .u8 A zs) : (convert 28 9 (.slice A zs.length c)).run Try.prog w = .ok (.string (strOfNums zs)) w := by
  by_cases hz : zs = []
  · subst hz
    cases A with
    | none => exact run_convert_bytes_nil w 28 5 Try.underlying28 Try.underlying5 _ _ 9 Try.underlying9
    | some a =>
      rw [run_convert_bytes_string w 28 9 5 (some a) _ c Try.underlying28 Try.underlying5 Try.underlying9]
      have : (loadCells a 0).run Try.prog w = .ok (([] : List Int).map (Value.int .u8)).toArray w := by
        have := run_loadCells_list (P := Try.prog) w a [] (fun j v hj => by simp at hj)
        simpa using this
      rw [List.length_nil, run_bytesToString w a 0 c [] this]
      rfl
  · obtain ⟨b, off, rfl, _, hc⟩ := h hz
    exact run_convert_bytes_arg w 28 5 Try.underlying28 Try.underlying5 b off zs.length c zs rfl hc 9 Try.underlying9

/-- What the call owns lies whole in a block of its own. -/
theorem own_holds {w : World} {base n : Nat} {v : Value} {zs : List Int} (h : w.ownsRow base 5 1 v n (zs.map (Value.int .u8))) (hn : 0 < n) :
    ∃ g cap cur, v = .slice (some ⟨g, 0, none⟩) n cap ∧ base ≤ g ∧ n ≤ cap ∧ cap ≤ maxLen ∧ Holds w g 5 cur ∧ zs.length = n ∧ ∀ i, i < n → cur[i]? = some (.int .u8 (zs.getD i 0)) := by
  obtain ⟨hl, h⟩ := h
  have hnl : zs.length = n := by simpa using hl
  rcases h with ⟨hv, rfl⟩ | ⟨g, cap, cur, hv, hb, hg, hnc, hm, hs, ht⟩
  · omega
  · refine ⟨g, cap, cur, hv, hb, hnc, hm, hg, hnl, fun i hi => ?_⟩
    have : (cur.toList.take (n * 1))[i]? = some (Value.int .u8 (zs.getD i 0)) := by rw [ht]; simp [List.getD, hnl, hi]
    rw [List.getElem?_take] at this
    split at this
    · simpa using this
    · cases this

theorem xor_u8 (a b : Int) (ha : 0 ≤ a ∧ a ≤ 255) (hb : 0 ≤ b ∧ b ≤ 255) (h : b ≠ 0) : 0 ≤ bits BinOp.xor .u8 a b ∧ bits BinOp.xor .u8 a b ≤ 255 ∧ bits BinOp.xor .u8 a b ≠ a := by
  obtain ⟨m, rfl⟩ := Int.eq_ofNat_of_zero_le ha.1
  obtain ⟨n, rfl⟩ := Int.eq_ofNat_of_zero_le hb.1
  have hab : m ^^^ n < 256 := Nat.xor_lt_two_pow (n := 8) (by omega) (by omega)
  have e : bits BinOp.xor .u8 (m : Int) (n : Int) = ((m ^^^ n : Nat) : Int) := by
    unfold bits
    have ea : BitVec.ofInt IntKind.u8.bits (m : Int) = BitVec.ofNat 8 m := BitVec.ofInt_natCast 8 m
    have eb : BitVec.ofInt IntKind.u8.bits (n : Int) = BitVec.ofNat 8 n := BitVec.ofInt_natCast 8 n
    simp only [ea, eb]
    show IntKind.u8.wrap (((BitVec.ofNat 8 m ^^^ BitVec.ofNat 8 n).toNat : Nat) : Int) = _
    rw [BitVec.toNat_xor, BitVec.toNat_ofNat, BitVec.toNat_ofNat, Nat.mod_eq_of_lt (by omega), Nat.mod_eq_of_lt (by omega)]
    simp [IntKind.wrap, IntKind.bits, IntKind.signed]
    omega
  rw [e]
  refine ⟨by omega, by omega, fun hh => ?_⟩
  have hh' : m ^^^ n = m := by omega
  have : m ^^^ (m ^^^ n) = 0 := by rw [hh', Nat.xor_self]
  rw [← Nat.xor_assoc, Nat.xor_self, Nat.zero_xor] at this
  exact h (by omega)

/-- New bytes. -/
def isBytes (zs : List Int) : Fact := fun v w => ∃ g, v = .slice (some ⟨g, 0, none⟩) zs.length zs.length ∧ Holds w g 5 (zs.map (Value.int .u8)).toArray
/-- A new row of one slice of new bytes. -/
def isRow1 (zs : List Int) : Fact := fun v w => ∃ g g1, v = .slice (some ⟨g, 0, none⟩) 1 1 ∧ Holds w g 28 #[.slice (some ⟨g1, 0, none⟩) zs.length zs.length] ∧ Holds w g1 5 (zs.map (Value.int .u8)).toArray
/-- A new row of these slices. -/
def isRowOf (n : Nat) (xs : Array Value) : Fact := fun v w => ∃ g, v = .slice (some ⟨g, 0, none⟩) n n ∧ Holds w g 28 xs
/-- A slice that reads as these bytes. -/
def isArrOf (zs : List Int) : Fact := fun v w => ∃ A c, v = .slice A zs.length c ∧ Arr w .u8 A zs
theorem stable_isArrOf (zs : List Int) : Stable (isArrOf zs) := fun _ _ _ ⟨A, c, h1, h2⟩ hg => ⟨A, c, h1, h2.grown hg⟩

theorem stable_isBytes (zs : List Int) : Stable (isBytes zs) := fun _ _ _ ⟨g, h1, h2⟩ hg => ⟨g, h1, h2.kept0 hg⟩
theorem stable_isRow1 (zs : List Int) : Stable (isRow1 zs) := fun _ _ _ ⟨g, g1, h1, h2, h3⟩ hg => ⟨g, g1, h1, h2.kept0 hg, h3.kept0 hg⟩
theorem stable_isRowOf (n : Nat) (xs : Array Value) : Stable (isRowOf n xs) := fun _ _ _ ⟨g, h1, h2⟩ hg => ⟨g, h1, h2.kept0 hg⟩

theorem outThen_of {a : Act} {G : Prop} (h : G) : ∀ xs : List (Tmp × Value), outThen a xs G
  | [] => h
  | (t, v) :: xs => fun _ => outThen_of h xs

/-- Bytes of the call's own are told. -/
def Owns (zs : List Int) (w : World) : Ending → World → Prop := fun e w' =>
  ∃ v, e = .returned v ∧ w'.ownsRow w.heap.size 5 1 v zs.length (zs.map (Value.int .u8)) ∧ Below w.heap.size w w'

theorem Owns.arr {zs : List Int} {w : World} {e : Ending} {w' : World} (h : Owns zs w e w') : ∃ A c, e = .returned (.slice A zs.length c) ∧ zs.length ≤ c ∧ c ≤ maxLen ∧ Arr w' .u8 A zs ∧ w.grownBy w' none := by
  obtain ⟨v, rfl, h1, h2⟩ := h
  obtain ⟨A, c, rfl, hc, hm⟩ := own_form h1
  exact ⟨A, c, rfl, hc, hm, Arr.of_own (k := .u8) h1, below_grown h2⟩

end Go.Proofs.Ytojbkhheaondhaa
