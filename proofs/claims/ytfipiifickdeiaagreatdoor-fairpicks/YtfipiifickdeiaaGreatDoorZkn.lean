/- A region that draws its order: loads are taken first though some of its last operations write what they read, where these wait for them all. No program in it. -/
import Derived.Deep.RegionHeld
namespace Go.Proofs.YtfipiifickdeiaaGreatDoor.Zkn

section
variable {P : Program} {ops : Array Oper} {Q : Exit → Act → World → Prop} {md : Region.Mode} {S : World → Prop} {zs : List Nat}

/-- None of them has come up. -/
def Un (zs : List Nat) (l : Array Bool) : Prop := ∀ z ∈ zs, l.getD z false = false
def unB (zs : List Nat) (l : Array Bool) : Bool := zs.all fun z => !l.getD z false
theorem un_of {zs : List Nat} {l : Array Bool} (h : unB zs l = true) : Un zs l := fun z hz => by simpa using List.all_eq_true.1 h z hz
theorem un_not {zs : List Nat} {l : Array Bool} (h : unB zs l = false) : ¬ Un zs l := fun q => by
  have : unB zs l = true := List.all_eq_true.2 fun z hz => by simp [q z hz]
  rw [this] at h
  cases h
/-- Whatever order is picked; S holds behind every operation, till one of zs has come up. -/
def wpAnyK (P : Program) (md : Region.Mode) (ops : Array Oper) (Q : Exit → Act → World → Prop) (S : World → Prop) (zs : List Nat) : Nat → Array Bool → Act → World → Prop
  | 0, listed, a, w => Region.ready md ops listed = [] ∧ Q .normal a w
  | fuel + 1, listed, a, w =>
    (Region.ready md ops listed = [] → Q .normal a w) ∧
    ∀ i ∈ Region.ready md ops listed, wpOp P ops Q i (fun a' w' => (Un zs (listed.setIfInBounds i true) → S w') ∧ wpAnyK P md ops Q S zs fuel (listed.setIfInBounds i true) a' w') a w

theorem wpAny_of_K : ∀ (fuel : Nat) (listed : Array Bool) (a : Act) (w : World), wpAnyK P md ops Q S zs fuel listed a w → wpAny P md ops Q fuel listed a w
  | 0, _, _, _, h => h
  | fuel + 1, _, _, _, h => ⟨h.1, fun i hi => wpOp_mono (fun a' w' h' => wpAny_of_K fuel _ a' w' h'.2) (h.2 i hi)⟩

/-- What has come up waits for nothing that has not. -/
def Closed (md : Region.Mode) (ops : Array Oper) (listed : Array Bool) : Prop := ∀ j o, ops[j]? = some o → listed.getD j false = true → ∀ e ∈ o.after, Region.binds md e = true → listed.getD e.on false = true
def closedB (md : Region.Mode) (ops : Array Oper) (listed : Array Bool) : Bool := (List.range ops.size).all fun j => !listed.getD j false || (match ops[j]? with | none => true | some o => o.after.all fun e => !Region.binds md e || listed.getD e.on false)
theorem closed_of {listed : Array Bool} (h : closedB md ops listed = true) : Closed md ops listed := fun j o ho hl e he hb => by
  have hj : j < ops.size := (Array.getElem?_eq_some_iff.1 ho).1
  have := List.all_eq_true.1 h j (List.mem_range.2 hj)
  rw [hl, ho] at this
  simp only [Bool.not_true, Bool.false_or] at this
  have := Array.all_eq_true_iff_forall_mem.1 this e he
  rw [hb] at this
  simpa using this
theorem Closed.set {listed : Array Bool} (h : Closed md ops listed) {j : Nat} (hj : j ∈ Region.ready md ops listed) : Closed md ops (listed.setIfInBounds j true) := fun k o ho hl e he hb => by
  by_cases c : k = j
  · subst c
    obtain ⟨_, o', ho', hall⟩ := mem_ready.1 hj
    rw [ho] at ho'
    cases ho'
    exact getD_set_true (hall e he hb)
  · rw [getD_set_ne false (fun q => c q.symm)] at hl
    exact getD_set_true (h k o ho hl e he hb)
/-- z waits, by however many steps, for i. -/
def waits (md : Region.Mode) (ops : Array Oper) : Nat → Nat → Nat → Bool
  | 0, _, _ => false
  | n + 1, z, i => match ops[z]? with | none => false | some o => o.after.any fun e => Region.binds md e && (e.on == i || waits md ops n e.on i)
theorem waits_un {listed : Array Bool} (h : Closed md ops listed) : ∀ (n z i : Nat), waits md ops n z i = true → listed.getD i false = false → listed.getD z false = false
  | 0, _, _, hw, _ => by cases hw
  | n + 1, z, i, hw, hi => by
    unfold waits at hw
    cases ho : ops[z]? with
    | none => rw [ho] at hw; cases hw
    | some o =>
      rw [ho] at hw
      obtain ⟨k, hk, hk2⟩ := Array.any_eq_true.1 hw
      have he : o.after[k] ∈ o.after := Array.getElem_mem hk
      simp only [Bool.and_eq_true, Bool.or_eq_true] at hk2
      obtain ⟨hb, hr⟩ := hk2
      cases hz : listed.getD z false with
      | false => rfl
      | true =>
        have hd := h z o ho hz _ he hb
        rcases hr with hr | hr
        · rw [show o.after[k].on = i by simpa using hr] at hd
          rw [hd] at hi
          cases hi
        · have := waits_un h n _ _ hr hi
          rw [this] at hd
          cases hd

theorem getD_two {listed : Array Bool} {i : Nat} (h : listed.getD i true = false) : listed.getD i false = false := by
  by_cases c : i < listed.size
  · simp [c] at h ⊢
    exact h
  · simp [c] at h


theorem wpAnyK_first {i : Nat} {oi : Oper} {v : Value} (hi : ops[i]? = some oi) (hsel : ∀ (j : Nat) (o : Oper) cs b, ops[j]? = some o → o.op ≠ .select cs b)
    (hQ : ∀ c a w, Q (.panic c) (a.put oi.dst v) w → Q (.panic c) a w) (n : Nat) (hz : ∀ z ∈ zs, waits md ops n z i = true ∧ z ≠ i) :
    ∀ (fuel : Nat) (listed : Array Bool) (a : Act) (w : World), Closed md ops listed →
      (∀ j oj, ops[j]? = some oj → j ≠ i → listed.getD j true = false → (∀ e ∈ oj.after, Region.binds md e = true → e.on ≠ i) → oi.apart ops oj = true) →
      i ∈ Region.ready md ops listed → YieldsIf P ops S oi v a → S w →
      wpAnyK P md ops Q S zs fuel (listed.setIfInBounds i true) (a.put oi.dst v) w → wpAnyK P md ops Q S zs (fuel + 1) listed a w := by
  intro fuel
  induction fuel with
  | zero =>
    intro listed a w _ _ hr hy hS H
    refine ⟨fun h => (by rw [h] at hr; cases hr), fun j hj => ?_⟩
    by_cases hji : j = i
    · subst hji; exact hy.wpOp hi hS ⟨fun _ => hS, H⟩
    · have := ready_mono hj hji
      rw [H.1] at this
      cases this
  | succ fuel ih =>
    intro listed a w hcl hfree hr hy hS H
    refine ⟨fun h => (by rw [h] at hr; cases hr), fun j hj => ?_⟩
    by_cases hji : j = i
    · subst hji; exact hy.wpOp hi hS ⟨fun _ => hS, H⟩
    · have h1 := H.2 j (ready_mono hj hji)
      obtain ⟨hjun, oj, hoj, hall⟩ := mem_ready.1 hj
      have hnot : ∀ e ∈ oj.after, Region.binds md e = true → e.on ≠ i := fun e he hb heq => by
        have h1 := hall e he hb
        have h0 := (mem_ready.1 hr).1
        rw [heq] at h1
        rw [getD_two h0] at h1
        cases h1
      have h2 := wpOp_putIf hoj (hfree j oj hoj hji hjun hnot) (fun cs b => hsel i oi cs b hi) (fun cs b => hsel j oj cs b hoj) hQ hy h1
      have hfree' : ∀ k ok, ops[k]? = some ok → k ≠ i → (listed.setIfInBounds j true).getD k true = false →
          (∀ e ∈ ok.after, Region.binds md e = true → e.on ≠ i) → oi.apart ops ok = true := fun k ok hk hki hun hno => by
        refine hfree k ok hk hki ?_ hno
        by_cases hjk : j = k
        · subst hjk; exact hjun
        · rw [getD_set_ne true hjk] at hun; exact hun
      have hcl' := hcl.set hj
      have hir := ready_mono hr (Ne.symm hji)
      have hzu : Un zs (listed.setIfInBounds j true) := fun z hzm => waits_un hcl' n z i (hz z hzm).1 (getD_two (mem_ready.1 hir).1)
      have hzu2 : Un zs ((listed.setIfInBounds i true).setIfInBounds j true) := fun z hzm => by
        rw [← Array.setIfInBounds_comm _ _ hji, getD_set_ne false (fun q => (hz z hzm).2 q.symm)]
        exact hzu z hzm
      refine wpOp_mono (fun a' w' h3 => ⟨fun _ => h3.2.1 hzu2, ih (listed.setIfInBounds j true) a' w' hcl' hfree' hir h3.1 (h3.2.1 hzu2) ?_⟩) h2
      rw [Array.setIfInBounds_comm _ _ hji]
      exact h3.2.2

def waitsAll (md : Region.Mode) (ops : Array Oper) (zs : List Nat) (i : Nat) : Bool := zs.all fun z => waits md ops 12 z i && z != i
theorem wpAnyK_take {i : Nat} {oi : Oper} {v : Value} {fuel : Nat} {listed : Array Bool} {a : Act} {w : World} (hi : ops[i]? = some oi)
    (hs : Region.noSelect ops = true) (hc : closedB md ops listed = true) (hw : waitsAll md ops zs i = true) (hf : Region.free md ops listed i = true) (hr : (Region.ready md ops listed).contains i = true)
    (hQ : ∀ c a w, Q (.panic c) (a.put oi.dst v) w → Q (.panic c) a w) (hy : YieldsIf P ops S oi v a) (hS : S w)
    (h : wpAnyK P md ops Q S zs fuel (listed.setIfInBounds i true) (a.put oi.dst v) w) : wpAnyK P md ops Q S zs (fuel + 1) listed a w :=
  wpAnyK_first hi (Region.noSelect_spec hs) hQ 12 (fun z hz => by have := List.all_eq_true.1 hw z hz; simpa using this) fuel listed a w (closed_of hc) (Region.free_spec hi hf) (by simpa using hr) hy hS h

/-- One that reads no memory may be taken first at any time. -/
theorem wpAnyK_purely {i : Nat} {oi : Oper} {v : Value} (hi : ops[i]? = some oi) (hsel : ∀ (j : Nat) (o : Oper) cs b, ops[j]? = some o → o.op ≠ .select cs b)
    (hQ : ∀ c a w, Q (.panic c) (a.put oi.dst v) w → Q (.panic c) a w) (hz : ∀ z ∈ zs, z ≠ i) :
    ∀ (fuel : Nat) (listed : Array Bool) (a : Act) (w : World),
      (∀ j oj, ops[j]? = some oj → j ≠ i → listed.getD j true = false → (∀ e ∈ oj.after, Region.binds md e = true → e.on ≠ i) → oi.apart ops oj = true) →
      i ∈ Region.ready md ops listed → YieldsIf P ops (fun _ => True) oi v a → (Un zs listed → S w) →
      wpAnyK P md ops Q S zs fuel (listed.setIfInBounds i true) (a.put oi.dst v) w → wpAnyK P md ops Q S zs (fuel + 1) listed a w := by
  have down : ∀ l : Array Bool, Un zs (l.setIfInBounds i true) → Un zs l := fun l q z hzm => by
    have := q z hzm
    rwa [getD_set_ne false (fun e => hz z hzm e.symm)] at this
  intro fuel
  induction fuel with
  | zero =>
    intro listed a w _ hr hy hS H
    refine ⟨fun h => (by rw [h] at hr; cases hr), fun j hj => ?_⟩
    by_cases hji : j = i
    · subst hji; exact hy.wpOp hi trivial ⟨fun q => hS (down _ q), H⟩
    · have := ready_mono hj hji
      rw [H.1] at this
      cases this
  | succ fuel ih =>
    intro listed a w hfree hr hy hS H
    refine ⟨fun h => (by rw [h] at hr; cases hr), fun j hj => ?_⟩
    by_cases hji : j = i
    · subst hji; exact hy.wpOp hi trivial ⟨fun q => hS (down _ q), H⟩
    · have h1 := H.2 j (ready_mono hj hji)
      obtain ⟨hjun, oj, hoj, hall⟩ := mem_ready.1 hj
      have hnot : ∀ e ∈ oj.after, Region.binds md e = true → e.on ≠ i := fun e he hb heq => by
        have h1 := hall e he hb
        have h0 := (mem_ready.1 hr).1
        rw [heq] at h1
        rw [getD_two h0] at h1
        cases h1
      have h2 := wpOp_putIf hoj (hfree j oj hoj hji hjun hnot) (fun cs b => hsel i oi cs b hi) (fun cs b => hsel j oj cs b hoj) hQ hy h1
      have hfree' : ∀ k ok, ops[k]? = some ok → k ≠ i → (listed.setIfInBounds j true).getD k true = false →
          (∀ e ∈ ok.after, Region.binds md e = true → e.on ≠ i) → oi.apart ops ok = true := fun k ok hk hki hun hno => by
        refine hfree k ok hk hki ?_ hno
        by_cases hjk : j = k
        · subst hjk; exact hjun
        · rw [getD_set_ne true hjk] at hun; exact hun
      have hir := ready_mono hr (Ne.symm hji)
      have up : Un zs (listed.setIfInBounds j true) → Un zs ((listed.setIfInBounds i true).setIfInBounds j true) := fun q z hzm => by
        rw [← Array.setIfInBounds_comm _ _ hji, getD_set_ne false (fun e => hz z hzm e.symm)]
        exact q z hzm
      refine wpOp_mono (fun a' w' h3 => ⟨fun q => h3.2.1 (up q), ih (listed.setIfInBounds j true) a' w' hfree' hir h3.1 (fun q => h3.2.1 (up q)) ?_⟩) h2
      rw [Array.setIfInBounds_comm _ _ hji]
      exact h3.2.2
theorem wpAnyK_pure {i : Nat} {oi : Oper} {v : Value} {fuel : Nat} {listed : Array Bool} {a : Act} {w : World} (hi : ops[i]? = some oi)
    (hs : Region.noSelect ops = true) (hw : (zs.all fun z => z != i) = true) (hf : Region.free md ops listed i = true) (hr : (Region.ready md ops listed).contains i = true)
    (hQ : ∀ c a w, Q (.panic c) (a.put oi.dst v) w → Q (.panic c) a w) (hy : YieldsIf P ops (fun _ => True) oi v a) (hS : Un zs listed → S w)
    (h : wpAnyK P md ops Q S zs fuel (listed.setIfInBounds i true) (a.put oi.dst v) w) : wpAnyK P md ops Q S zs (fuel + 1) listed a w :=
  wpAnyK_purely hi (Region.noSelect_spec hs) hQ (fun z hz => by have := List.all_eq_true.1 hw z hz; simpa using this) fuel listed a w (Region.free_spec hi hf) (by simpa using hr) hy hS h
/-- One of the operations that may come up. -/
def OneK (P : Program) (md : Region.Mode) (ops : Array Oper) (Q : Exit → Act → World → Prop) (S : World → Prop) (zs : List Nat) (fuel : Nat) (listed : Array Bool) (a : Act) (w : World) (i : Nat) : Prop :=
  wpOp P ops Q i (fun a' w' => (Un zs (listed.setIfInBounds i true) → S w') ∧ wpAnyK P md ops Q S zs fuel (listed.setIfInBounds i true) a' w') a w
theorem oneK {i : Nat} {o : Oper} {fuel : Nat} {listed : Array Bool} {a : Act} {w : World} (ho : ops[i]? = some o)
    (h : ∀ K' : Act → World → Prop, Shut (∀ a w, (Un zs (listed.setIfInBounds i true) → S w) → ((Un zs (listed.setIfInBounds i true) → S w) → wpAnyK P md ops Q S zs fuel (listed.setIfInBounds i true) a w) → K' a w) → if Region.wanted o (yielded ops a.tmps) = true then Oper.wp P o a w K' Q else K' (a.put o.dst undef) w) : OneK P md ops Q S zs fuel listed a w i :=
  wpOp_step ho (fun K' hK => h K' (fun a w hS hW => hK a w ⟨hS, hW hS⟩))
theorem wpAnyK_ready {fuel : Nat} {listed : Array Bool} {a : Act} {w : World} (rs : List Nat) (hr : Region.ready md ops listed = rs) (hn : rs ≠ []) (h : ∀ i ∈ rs, OneK P md ops Q S zs fuel listed a w i) : wpAnyK P md ops Q S zs (fuel + 1) listed a w :=
  ⟨fun h0 => absurd (hr.symm.trans h0) hn, fun j hj => h j (hr ▸ hj)⟩
theorem wpAnyK_one {fuel : Nat} {listed : Array Bool} {a : Act} {w : World} {i : Nat} (hr : Region.ready md ops listed = [i]) (h : OneK P md ops Q S zs fuel listed a w i) : wpAnyK P md ops Q S zs (fuel + 1) listed a w :=
  wpAnyK_ready [i] hr (by simp) (fun j hj => by rw [List.mem_singleton.1 hj]; exact h)
theorem wpAnyK_two {fuel : Nat} {listed : Array Bool} {a : Act} {w : World} {i j : Nat} (hr : Region.ready md ops listed = [i, j]) (h : OneK P md ops Q S zs fuel listed a w i) (k : OneK P md ops Q S zs fuel listed a w j) : wpAnyK P md ops Q S zs (fuel + 1) listed a w :=
  wpAnyK_ready [i, j] hr (by simp) (fun l hl => by
    simp only [List.mem_cons, List.not_mem_nil, or_false] at hl
    rcases hl with e | e
    · rw [e]; exact h
    · rw [e]; exact k)
theorem wpAnyK_done {listed : Array Bool} {a : Act} {w : World} (hr : Region.ready md ops listed = []) (h : Q .normal a w) :
    ∀ fuel, wpAnyK P md ops Q S zs fuel listed a w
  | 0 => ⟨hr, h⟩
  | _ + 1 => ⟨fun _ => h, by rw [hr]; simp⟩
theorem wp_region_K {id : Nat} {a : Act} {w : World} (zs : List Nat) (S : World → Prop) (hm : P.follows .mixedOrders = true) (hS : S w.drew)
    (h : S w.drew → wpAnyK P .any ops Q S zs ops.size (Array.replicate ops.size false) a w.drew) : (Code.region id ops true).wp P Q a w :=
  wp_region_any hm (wpAny_of_K _ _ _ _ (h hS))
end
end Go.Proofs.YtfipiifickdeiaaGreatDoor.Zkn
