/- The texts Kt Kn Ku Kr Kra Zk Zp Kr3 Krb Krc Ks Kse Kth Kfl Kst of one layer, laid together. -/
import Derived.Test.YtfipiifickdeiaaGreatDoorRows
import Derived.Test.YtfipiifickdeiaaGreatDoorZka
import Derived.WalkKit
import Derived.ProofKit
import Derived.OpenShut
import Derived.BigQuiet
import Derived.Deep.RegionHeld3
import Derived.Deep.RegionHeld
namespace Go.Proofs.YtfipiifickdeiaaGreatDoor.Krn
open Go.ChangeShapes Go.WideShapes Go.ChangeAt Go.RowKit
open Mm
section
variable {B : Nat} {w0 : World} {A : List (Nat × List Value × TypeId)} {a : KA} {m m' : Nat} {S S' : KS} {w w' : World}
end
end Go.Proofs.YtfipiifickdeiaaGreatDoor.Krn
namespace Go.Proofs.YtfipiifickdeiaaGreatDoor.Krn
open Go.ChangeShapes Go.WideShapes Go.ChangeAt Go.RowKit
open Mm
section
variable {B : Nat} {w0 : World} {A : List (Nat × List Value × TypeId)} {a : KA} {m m' : Nat} {S S' : KS} {w w' : World}
theorem find_hit (L : List Int) (f : Int → Bool) : ∀ k, k < L.length → (∀ j, j < k → f (L.getD j 0) = false) → f (L.getD k 0) = true → L.find? f = some (L.getD k 0) := by
  induction L with
  | nil => intro k hk; simp at hk
  | cons x L ih =>
    intro k hk no q
    cases k with
    | zero =>
      simp only [List.getD_cons_zero] at q ⊢
      rw [List.find?_cons_of_pos q]
    | succ k =>
      have h0 := no 0 (by omega)
      simp only [List.getD_cons_zero] at h0
      simp only [List.getD_cons_succ] at q ⊢
      rw [List.find?_cons_of_neg (by simp [h0])]
      exact ih k (by simpa using hk) (fun j hj => by have := no (j + 1) (by omega); simpa using this) q
theorem find_miss (L : List Int) (f : Int → Bool) (h : ∀ j, j < L.length → f (L.getD j 0) = false) : L.find? f = none := by
  rw [List.find?_eq_none]
  intro x hx
  obtain ⟨j, hj, e⟩ := List.getElem_of_mem hx
  have := h j hj
  rw [List.getD_eq_getElem?_getD, List.getElem?_eq_getElem hj, Option.getD_some, e] at this
  simp [this]
end
end Go.Proofs.YtfipiifickdeiaaGreatDoor.Krn
namespace Go.Proofs.YtfipiifickdeiaaGreatDoor.Krn
open Go.ChangeShapes Go.WideShapes Go.ChangeAt Go.RowKit
open Mm
section
variable {B : Nat} {w0 : World} {A : List (Nat × List Value × TypeId)} {a : KA} {m m' : Nat} {S S' : KS} {w w' : World}
end
end Go.Proofs.YtfipiifickdeiaaGreatDoor.Krn
namespace Go.Proofs.YtfipiifickdeiaaGreatDoor.Krn
open Go.ChangeShapes Go.WideShapes Go.ChangeAt Go.RowKit
open Mm
section
variable {B : Nat} {w0 : World} {A : List (Nat × List Value × TypeId)} {a : KA} {m m' : Nat} {S S' : KS} {w w' : World}
end
end Go.Proofs.YtfipiifickdeiaaGreatDoor.Krn
namespace Go.Proofs.YtfipiifickdeiaaGreatDoor.Krn
open Go.ChangeShapes Go.WideShapes Go.ChangeAt Go.RowKit
open Mm
section
variable {B : Nat} {w0 : World} {A : List (Nat × List Value × TypeId)} {a : KA} {m m' : Nat} {S S' : KS} {w w' : World}
end
end Go.Proofs.YtfipiifickdeiaaGreatDoor.Krn
namespace Go.Proofs.YtfipiifickdeiaaGreatDoor
section
variable {P : Program} {ops : Array Oper} {Q : Exit → Act → World → Prop} {md : Region.Mode} {S : World → Prop} {zs : List Nat}
/-- None of them has come up. -/
def Un (zs : List Nat) (l : Array Bool) : Prop := ∀ z ∈ zs, l.getD z false = false
def unB (zs : List Nat) (l : Array Bool) : Bool := zs.all fun z => !l.getD z false
theorem un_of {zs : List Nat} {l : Array Bool} (h : unB zs l = true) : Un zs l := fun z hz => by simpa using List.all_eq_true.1 h z hz
theorem un_not {zs : List Nat} {l : Array Bool} (h : unB zs l = false) : ¬ Un zs l := fun q => by
  have : unB zs l = true := List.all_eq_true.2 fun z hz => by simp [q z hz]
  rw [this] at h
  cases h
/-- Whatever order is picked; S holds behind every operation, till one of zs has come up. -/
def wpAnyK (P : Program) (md : Region.Mode) (ops : Array Oper) (Q : Exit → Act → World → Prop) (S : World → Prop) (zs : List Nat) : Nat → Array Bool → Act → World → Prop
  | 0, listed, a, w => Region.ready md ops listed = [] ∧ Q .normal a w
  | fuel + 1, listed, a, w =>
    (Region.ready md ops listed = [] → Q .normal a w) ∧
    ∀ i ∈ Region.ready md ops listed, wpOp P ops Q i (fun a' w' => (Un zs (listed.setIfInBounds i true) → S w') ∧ wpAnyK P md ops Q S zs fuel (listed.setIfInBounds i true) a' w') a w
theorem wpAny_of_K : ∀ (fuel : Nat) (listed : Array Bool) (a : Act) (w : World), wpAnyK P md ops Q S zs fuel listed a w → wpAny P md ops Q fuel listed a w
  | 0, _, _, _, h => h
  | fuel + 1, _, _, _, h => ⟨h.1, fun i hi => wpOp_mono (fun a' w' h' => wpAny_of_K fuel _ a' w' h'.2) (h.2 i hi)⟩
/-- What has come up waits for nothing that has not. -/
def Closed (md : Region.Mode) (ops : Array Oper) (listed : Array Bool) : Prop := ∀ j o, ops[j]? = some o → listed.getD j false = true → ∀ e ∈ o.after, Region.binds md e = true → listed.getD e.on false = true
def closedB (md : Region.Mode) (ops : Array Oper) (listed : Array Bool) : Bool := (List.range ops.size).all fun j => !listed.getD j false || (match ops[j]? with | none => true | some o => o.after.all fun e => !Region.binds md e || listed.getD e.on false)
theorem closed_of {listed : Array Bool} (h : closedB md ops listed = true) : Closed md ops listed := fun j o ho hl e he hb => by
  have hj : j < ops.size := (Array.getElem?_eq_some_iff.1 ho).1
  have := List.all_eq_true.1 h j (List.mem_range.2 hj)
  rw [hl, ho] at this
  simp only [Bool.not_true, Bool.false_or] at this
  have := Array.all_eq_true_iff_forall_mem.1 this e he
  rw [hb] at this
  simpa using this
theorem Closed.set {listed : Array Bool} (h : Closed md ops listed) {j : Nat} (hj : j ∈ Region.ready md ops listed) : Closed md ops (listed.setIfInBounds j true) := fun k o ho hl e he hb => by
  by_cases c : k = j
  · subst c
    obtain ⟨_, o', ho', hall⟩ := mem_ready.1 hj
    rw [ho] at ho'
    cases ho'
    exact getD_set_true (hall e he hb)
  · rw [getD_set_ne false (fun q => c q.symm)] at hl
    exact getD_set_true (h k o ho hl e he hb)
/-- z waits, by however many steps, for i. -/
def waits (md : Region.Mode) (ops : Array Oper) : Nat → Nat → Nat → Bool
  | 0, _, _ => false
  | n + 1, z, i => match ops[z]? with | none => false | some o => o.after.any fun e => Region.binds md e && (e.on == i || waits md ops n e.on i)
theorem waits_un {listed : Array Bool} (h : Closed md ops listed) : ∀ (n z i : Nat), waits md ops n z i = true → listed.getD i false = false → listed.getD z false = false
  | 0, _, _, hw, _ => by cases hw
  | n + 1, z, i, hw, hi => by
    unfold waits at hw
    cases ho : ops[z]? with
    | none => rw [ho] at hw; cases hw
    | some o =>
      rw [ho] at hw
      obtain ⟨k, hk, hk2⟩ := Array.any_eq_true.1 hw
      have he : o.after[k] ∈ o.after := Array.getElem_mem hk
      simp only [Bool.and_eq_true, Bool.or_eq_true] at hk2
      obtain ⟨hb, hr⟩ := hk2
      cases hz : listed.getD z false with
      | false => rfl
      | true =>
        have hd := h z o ho hz _ he hb
        rcases hr with hr | hr
        · rw [show o.after[k].on = i by simpa using hr] at hd
          rw [hd] at hi
          cases hi
        · have := waits_un h n _ _ hr hi
          rw [this] at hd
          cases hd
theorem getD_two {listed : Array Bool} {i : Nat} (h : listed.getD i true = false) : listed.getD i false = false := by
  by_cases c : i < listed.size
  · simp [c] at h ⊢
    exact h
  · simp [c] at h
theorem wpAnyK_first {i : Nat} {oi : Oper} {v : Value} (hi : ops[i]? = some oi) (hsel : ∀ (j : Nat) (o : Oper) cs b, ops[j]? = some o → o.op ≠ .select cs b)
    (hQ : ∀ c a w, Q (.panic c) (a.put oi.dst v) w → Q (.panic c) a w) (n : Nat) (hz : ∀ z ∈ zs, waits md ops n z i = true ∧ z ≠ i) :
    ∀ (fuel : Nat) (listed : Array Bool) (a : Act) (w : World), Closed md ops listed →
      (∀ j oj, ops[j]? = some oj → j ≠ i → listed.getD j true = false → (∀ e ∈ oj.after, Region.binds md e = true → e.on ≠ i) → oi.apart ops oj = true) →
      i ∈ Region.ready md ops listed → YieldsIf P ops S oi v a → S w →
      wpAnyK P md ops Q S zs fuel (listed.setIfInBounds i true) (a.put oi.dst v) w → wpAnyK P md ops Q S zs (fuel + 1) listed a w := by
  intro fuel
  induction fuel with
  | zero =>
    intro listed a w _ _ hr hy hS H
    refine ⟨fun h => (by rw [h] at hr; cases hr), fun j hj => ?_⟩
    by_cases hji : j = i
    · subst hji; exact hy.wpOp hi hS ⟨fun _ => hS, H⟩
    · have := ready_mono hj hji
      rw [H.1] at this
      cases this
  | succ fuel ih =>
    intro listed a w hcl hfree hr hy hS H
    refine ⟨fun h => (by rw [h] at hr; cases hr), fun j hj => ?_⟩
    by_cases hji : j = i
    · subst hji; exact hy.wpOp hi hS ⟨fun _ => hS, H⟩
    · have h1 := H.2 j (ready_mono hj hji)
      obtain ⟨hjun, oj, hoj, hall⟩ := mem_ready.1 hj
      have hnot : ∀ e ∈ oj.after, Region.binds md e = true → e.on ≠ i := fun e he hb heq => by
        have h1 := hall e he hb
        have h0 := (mem_ready.1 hr).1
        rw [heq] at h1
        rw [getD_two h0] at h1
        cases h1
      have h2 := wpOp_putIf hoj (hfree j oj hoj hji hjun hnot) (fun cs b => hsel i oi cs b hi) (fun cs b => hsel j oj cs b hoj) hQ hy h1
      have hfree' : ∀ k ok, ops[k]? = some ok → k ≠ i → (listed.setIfInBounds j true).getD k true = false →
          (∀ e ∈ ok.after, Region.binds md e = true → e.on ≠ i) → oi.apart ops ok = true := fun k ok hk hki hun hno => by
        refine hfree k ok hk hki ?_ hno
        by_cases hjk : j = k
        · subst hjk; exact hjun
        · rw [getD_set_ne true hjk] at hun; exact hun
      have hcl' := hcl.set hj
      have hir := ready_mono hr (Ne.symm hji)
      have hzu : Un zs (listed.setIfInBounds j true) := fun z hzm => waits_un hcl' n z i (hz z hzm).1 (getD_two (mem_ready.1 hir).1)
      have hzu2 : Un zs ((listed.setIfInBounds i true).setIfInBounds j true) := fun z hzm => by
        rw [← Array.setIfInBounds_comm _ _ hji, getD_set_ne false (fun q => (hz z hzm).2 q.symm)]
        exact hzu z hzm
      refine wpOp_mono (fun a' w' h3 => ⟨fun _ => h3.2.1 hzu2, ih (listed.setIfInBounds j true) a' w' hcl' hfree' hir h3.1 (h3.2.1 hzu2) ?_⟩) h2
      rw [Array.setIfInBounds_comm _ _ hji]
      exact h3.2.2
def waitsAll (md : Region.Mode) (ops : Array Oper) (zs : List Nat) (i : Nat) : Bool := zs.all fun z => waits md ops 12 z i && z != i
theorem wpAnyK_take {i : Nat} {oi : Oper} {v : Value} {fuel : Nat} {listed : Array Bool} {a : Act} {w : World} (hi : ops[i]? = some oi)
    (hs : Region.noSelect ops = true) (hc : closedB md ops listed = true) (hw : waitsAll md ops zs i = true) (hf : Region.free md ops listed i = true) (hr : (Region.ready md ops listed).contains i = true)
    (hQ : ∀ c a w, Q (.panic c) (a.put oi.dst v) w → Q (.panic c) a w) (hy : YieldsIf P ops S oi v a) (hS : S w)
    (h : wpAnyK P md ops Q S zs fuel (listed.setIfInBounds i true) (a.put oi.dst v) w) : wpAnyK P md ops Q S zs (fuel + 1) listed a w :=
  wpAnyK_first hi (Region.noSelect_spec hs) hQ 12 (fun z hz => by have := List.all_eq_true.1 hw z hz; simpa using this) fuel listed a w (closed_of hc) (Region.free_spec hi hf) (by simpa using hr) hy hS h
/-- One that reads no memory may be taken first at any time. -/
theorem wpAnyK_purely {i : Nat} {oi : Oper} {v : Value} (hi : ops[i]? = some oi) (hsel : ∀ (j : Nat) (o : Oper) cs b, ops[j]? = some o → o.op ≠ .select cs b)
    (hQ : ∀ c a w, Q (.panic c) (a.put oi.dst v) w → Q (.panic c) a w) (hz : ∀ z ∈ zs, z ≠ i) :
    ∀ (fuel : Nat) (listed : Array Bool) (a : Act) (w : World),
      (∀ j oj, ops[j]? = some oj → j ≠ i → listed.getD j true = false → (∀ e ∈ oj.after, Region.binds md e = true → e.on ≠ i) → oi.apart ops oj = true) →
      i ∈ Region.ready md ops listed → YieldsIf P ops (fun _ => True) oi v a → (Un zs listed → S w) →
      wpAnyK P md ops Q S zs fuel (listed.setIfInBounds i true) (a.put oi.dst v) w → wpAnyK P md ops Q S zs (fuel + 1) listed a w := by
  have down : ∀ l : Array Bool, Un zs (l.setIfInBounds i true) → Un zs l := fun l q z hzm => by
    have := q z hzm
    rwa [getD_set_ne false (fun e => hz z hzm e.symm)] at this
  intro fuel
  induction fuel with
  | zero =>
    intro listed a w _ hr hy hS H
    refine ⟨fun h => (by rw [h] at hr; cases hr), fun j hj => ?_⟩
    by_cases hji : j = i
    · subst hji; exact hy.wpOp hi trivial ⟨fun q => hS (down _ q), H⟩
    · have := ready_mono hj hji
      rw [H.1] at this
      cases this
  | succ fuel ih =>
    intro listed a w hfree hr hy hS H
    refine ⟨fun h => (by rw [h] at hr; cases hr), fun j hj => ?_⟩
    by_cases hji : j = i
    · subst hji; exact hy.wpOp hi trivial ⟨fun q => hS (down _ q), H⟩
    · have h1 := H.2 j (ready_mono hj hji)
      obtain ⟨hjun, oj, hoj, hall⟩ := mem_ready.1 hj
      have hnot : ∀ e ∈ oj.after, Region.binds md e = true → e.on ≠ i := fun e he hb heq => by
        have h1 := hall e he hb
        have h0 := (mem_ready.1 hr).1
        rw [heq] at h1
        rw [getD_two h0] at h1
        cases h1
      have h2 := wpOp_putIf hoj (hfree j oj hoj hji hjun hnot) (fun cs b => hsel i oi cs b hi) (fun cs b => hsel j oj cs b hoj) hQ hy h1
      have hfree' : ∀ k ok, ops[k]? = some ok → k ≠ i → (listed.setIfInBounds j true).getD k true = false →
          (∀ e ∈ ok.after, Region.binds md e = true → e.on ≠ i) → oi.apart ops ok = true := fun k ok hk hki hun hno => by
        refine hfree k ok hk hki ?_ hno
        by_cases hjk : j = k
        · subst hjk; exact hjun
        · rw [getD_set_ne true hjk] at hun; exact hun
      have hir := ready_mono hr (Ne.symm hji)
      have up : Un zs (listed.setIfInBounds j true) → Un zs ((listed.setIfInBounds i true).setIfInBounds j true) := fun q z hzm => by
        rw [← Array.setIfInBounds_comm _ _ hji, getD_set_ne false (fun e => hz z hzm e.symm)]
        exact q z hzm
      refine wpOp_mono (fun a' w' h3 => ⟨fun q => h3.2.1 (up q), ih (listed.setIfInBounds j true) a' w' hfree' hir h3.1 (fun q => h3.2.1 (up q)) ?_⟩) h2
      rw [Array.setIfInBounds_comm _ _ hji]
      exact h3.2.2
theorem wpAnyK_pure {i : Nat} {oi : Oper} {v : Value} {fuel : Nat} {listed : Array Bool} {a : Act} {w : World} (hi : ops[i]? = some oi)
    (hs : Region.noSelect ops = true) (hw : (zs.all fun z => z != i) = true) (hf : Region.free md ops listed i = true) (hr : (Region.ready md ops listed).contains i = true)
    (hQ : ∀ c a w, Q (.panic c) (a.put oi.dst v) w → Q (.panic c) a w) (hy : YieldsIf P ops (fun _ => True) oi v a) (hS : Un zs listed → S w)
    (h : wpAnyK P md ops Q S zs fuel (listed.setIfInBounds i true) (a.put oi.dst v) w) : wpAnyK P md ops Q S zs (fuel + 1) listed a w :=
  wpAnyK_purely hi (Region.noSelect_spec hs) hQ (fun z hz => by have := List.all_eq_true.1 hw z hz; simpa using this) fuel listed a w (Region.free_spec hi hf) (by simpa using hr) hy hS h
/-- One of the operations that may come up. -/
def OneK (P : Program) (md : Region.Mode) (ops : Array Oper) (Q : Exit → Act → World → Prop) (S : World → Prop) (zs : List Nat) (fuel : Nat) (listed : Array Bool) (a : Act) (w : World) (i : Nat) : Prop :=
  wpOp P ops Q i (fun a' w' => (Un zs (listed.setIfInBounds i true) → S w') ∧ wpAnyK P md ops Q S zs fuel (listed.setIfInBounds i true) a' w') a w
theorem oneK {i : Nat} {o : Oper} {fuel : Nat} {listed : Array Bool} {a : Act} {w : World} (ho : ops[i]? = some o)
    (h : ∀ K' : Act → World → Prop, Shut (∀ a w, (Un zs (listed.setIfInBounds i true) → S w) → ((Un zs (listed.setIfInBounds i true) → S w) → wpAnyK P md ops Q S zs fuel (listed.setIfInBounds i true) a w) → K' a w) → if Region.wanted o (yielded ops a.tmps) = true then Oper.wp P o a w K' Q else K' (a.put o.dst undef) w) : OneK P md ops Q S zs fuel listed a w i :=
  wpOp_step ho (fun K' hK => h K' (fun a w hS hW => hK a w ⟨hS, hW hS⟩))
theorem wpAnyK_ready {fuel : Nat} {listed : Array Bool} {a : Act} {w : World} (rs : List Nat) (hr : Region.ready md ops listed = rs) (hn : rs ≠ []) (h : ∀ i ∈ rs, OneK P md ops Q S zs fuel listed a w i) : wpAnyK P md ops Q S zs (fuel + 1) listed a w :=
  ⟨fun h0 => absurd (hr.symm.trans h0) hn, fun j hj => h j (hr ▸ hj)⟩
theorem wpAnyK_one {fuel : Nat} {listed : Array Bool} {a : Act} {w : World} {i : Nat} (hr : Region.ready md ops listed = [i]) (h : OneK P md ops Q S zs fuel listed a w i) : wpAnyK P md ops Q S zs (fuel + 1) listed a w :=
  wpAnyK_ready [i] hr (by simp) (fun j hj => by rw [List.mem_singleton.1 hj]; exact h)
theorem wpAnyK_done {listed : Array Bool} {a : Act} {w : World} (hr : Region.ready md ops listed = []) (h : Q .normal a w) :
    ∀ fuel, wpAnyK P md ops Q S zs fuel listed a w
  | 0 => ⟨hr, h⟩
  | _ + 1 => ⟨fun _ => h, by rw [hr]; simp⟩
theorem wp_region_K {id : Nat} {a : Act} {w : World} (zs : List Nat) (S : World → Prop) (hm : P.follows .mixedOrders = true) (hS : S w.drew)
    (h : S w.drew → wpAnyK P .any ops Q S zs ops.size (Array.replicate ops.size false) a w.drew) : (Code.region id ops true).wp P Q a w :=
  wp_region_any hm (wpAny_of_K _ _ _ _ (h hS))
end
end Go.Proofs.YtfipiifickdeiaaGreatDoor
namespace Go.Proofs.YtfipiifickdeiaaGreatDoor
open Go.ChangeShapes Go.WideShapes Go.ChangeAt Go.RowKit
section
variable {P : Program} {ops : Array Oper} {Q : Exit → Act → World → Prop} {md : Region.Mode} {S : World → Prop} {zs : List Nat}
/-- An operation that reads no memory. -/
theorem pK (i : Nat) (oi : Oper) {v : Value} {fuel : Nat} {listed l' : Array Bool} {a a' : Act} {w : World} (hS : S w) (h : wpAnyK P md ops Q S zs fuel l' a' w)
    (hi : ops[i]? = some oi := by rfl) (hk : (Region.noSelect ops && (zs.all fun z => z != i) && Region.free md ops listed i && (Region.ready md ops listed).contains i) = true := by kernel_rfl)
    (hQ : ∀ c a w, Q (.panic c) (a.put oi.dst v) w → Q (.panic c) a w := by exact fun _ _ _ h => h)
    (hg : Region.wanted oi (yielded ops a.tmps) = true := by rfl) (hy : ∀ w, True → (execOp a.eval oi).run P w = .ok (.value v) w := by (intro wz _; go_simp <;> with_reducible rfl))
    (hp : a.put oi.dst v = a' := by (simp only [Act.put, List.setIfInBounds_toArray, List.set_cons_zero, List.set_cons_succ]; rfl))
    (hl : listed.setIfInBounds i true = l' := by rfl) : wpAnyK P md ops Q S zs (fuel + 1) listed a w := by
  subst hp hl
  simp only [Bool.and_eq_true] at hk
  exact wpAnyK_pure hi hk.1.1.1 hk.1.1.2 hk.1.2 hk.2 hQ (Or.inl ⟨hg, hy⟩) (fun _ => hS) h
/-- One that is barred. -/
theorem xK (i : Nat) (oi : Oper) {fuel : Nat} {listed l' : Array Bool} {a a' : Act} {w : World} (hS : S w) (h : wpAnyK P md ops Q S zs fuel l' a' w)
    (hi : ops[i]? = some oi := by rfl) (hk : (Region.noSelect ops && (zs.all fun z => z != i) && Region.free md ops listed i && (Region.ready md ops listed).contains i) = true := by kernel_rfl)
    (hQ : ∀ c a w, Q (.panic c) (a.put oi.dst undef) w → Q (.panic c) a w := by exact fun _ _ _ h => h)
    (hg : Region.wanted oi (yielded ops a.tmps) = false := by rfl)
    (hp : a.put oi.dst undef = a' := by (simp only [Act.put, List.setIfInBounds_toArray, List.set_cons_zero, List.set_cons_succ]; rfl))
    (hl : listed.setIfInBounds i true = l' := by rfl) : wpAnyK P md ops Q S zs (fuel + 1) listed a w := by
  subst hp hl
  simp only [Bool.and_eq_true] at hk
  exact wpAnyK_pure hi hk.1.1.1 hk.1.1.2 hk.1.2 hk.2 hQ (Or.inr ⟨hg, rfl⟩) (fun _ => hS) h
/-- A load that the condition tells. -/
theorem tK (i : Nat) (oi : Oper) {v : Value} {fuel : Nat} {listed l' : Array Bool} {a a' : Act} {w : World} (hS : S w) (h : wpAnyK P md ops Q S zs fuel l' a' w)
    (hi : ops[i]? = some oi := by rfl) (hk : (Region.noSelect ops && closedB md ops listed && waitsAll md ops zs i && Region.free md ops listed i && (Region.ready md ops listed).contains i) = true := by kernel_rfl)
    (hQ : ∀ c a w, Q (.panic c) (a.put oi.dst v) w → Q (.panic c) a w := by exact fun _ _ _ h => h)
    (hg : Region.wanted oi (yielded ops a.tmps) = true := by rfl) (hy : ∀ w, S w → (execOp a.eval oi).run P w = .ok (.value v) w := by (intro wz hSw; (try dsimp only at hSw); go_simp <;> with_reducible rfl))
    (hp : a.put oi.dst v = a' := by (simp only [Act.put, List.setIfInBounds_toArray, List.set_cons_zero, List.set_cons_succ]; rfl))
    (hl : listed.setIfInBounds i true = l' := by rfl) : wpAnyK P md ops Q S zs (fuel + 1) listed a w := by
  subst hp hl
  simp only [Bool.and_eq_true] at hk
  exact wpAnyK_take hi hk.1.1.1.1 hk.1.1.1.2 hk.1.1.2 hk.1.2 hk.2 hQ (Or.inl ⟨hg, hy⟩) hS h
end
end Go.Proofs.YtfipiifickdeiaaGreatDoor
namespace Go.Proofs.YtfipiifickdeiaaGreatDoor.Krn
open Go.ChangeShapes Go.WideShapes Go.ChangeAt Go.RowKit
open Mm
section
variable {B : Nat} {w0 : World} {A : List (Nat × List Value × TypeId)} {a : KA} {m m' : Nat} {S S' : KS} {w w' : World}
end
end Go.Proofs.YtfipiifickdeiaaGreatDoor.Krn
namespace Go.Proofs.YtfipiifickdeiaaGreatDoor.Krn
open Go.ChangeShapes Go.WideShapes Go.ChangeAt Go.RowKit
open Mm
section
variable {B : Nat} {w0 : World} {A : List (Nat × List Value × TypeId)} {a : KA} {m m' : Nat} {S S' : KS} {w w' : World}
end
end Go.Proofs.YtfipiifickdeiaaGreatDoor.Krn
namespace Go.Proofs.YtfipiifickdeiaaGreatDoor.Krn
open Go.ChangeShapes Go.WideShapes Go.ChangeAt Go.RowKit
open Mm
section
variable {B : Nat} {w0 : World} {A : List (Nat × List Value × TypeId)} {a : KA} {m m' : Nat} {S S' : KS} {w w' : World}
/-- The cells of a record; the records that a call hands back, in a block beside the kernel. -/
def rc (r : Rec) : List Value := [.int .i64 r.kind, .int .i64 r.cpu, .int .i64 r.id, .int .i64 r.n, .int .i64 r.why]
def Rr (X : List (Nat × List Value × TypeId)) (v : Value) (L : List Rec) : Prop :=
  (X = [] ∧ L = [] ∧ v = .slice none 0 0) ∨ ∃ b r, X = [(b, rc r, 105)] ∧ L = [r] ∧ v = .slice (some ⟨b, 0, none⟩) 1 1
theorem Rr.none : Rr [] (.slice none 0 0) [] := Or.inl ⟨rfl, rfl, rfl⟩
theorem KX.recd (h : KX B w0 A a m S w) (r : Rec) : KX B w0 ([(w.heap.size, rc r, 105)] ++ A) a m S (w.alloc (.cells (rc r).toArray 105)) ∧ Rr [(w.heap.size, rc r, 105)] (.slice (some ⟨w.heap.size, 0, none⟩) 1 1) [r] :=
  ⟨h.new (rc r) 105, Or.inr ⟨_, r, rfl, rfl, rfl⟩⟩
end
end Go.Proofs.YtfipiifickdeiaaGreatDoor.Krn
namespace Go.Proofs.YtfipiifickdeiaaGreatDoor.Krn
open Go.ChangeShapes Go.WideShapes Go.ChangeAt Go.RowKit
open Mm
section
variable {B : Nat} {w0 : World} {A : List (Nat × List Value × TypeId)} {a : KA} {m m' : Nat} {S S' : KS} {w w' : World}
theorem kb_lt (h : KX B w0 A a m S w) : a.k < w.heap.size := by
  obtain ⟨⟨l, b⟩, _⟩ := h.kb
  exact b.lt
theorem KX.smb {u : World} (h : KX B w0 A a m S w) (f : Below u.heap.size u w') (s : Sm u w) : KX B w0 A a m S w' := (h.sm s).below f
theorem lim_keep {u : World} (h : KX B w0 A a m S w) (f : Below u.heap.size u w') (s : Sm u w) {v : Value} (c2 : w.cell? ⟨a.k, 2, none⟩ = some v) : w'.cell? ⟨a.k, 2, none⟩ = some v := by
  have k := kb_lt h
  have e : u.heap = w.heap := s.1
  rw [f.cell (p := ⟨a.k, 2, none⟩) (by rw [e]; exact k), ← c2]
  unfold World.cell?
  rw [e]
theorem co_rest2 (h : KX B w0 A a m S w) (c y t : Int) (hc : isC a.n c = true) (hy : Cor.Co.isW y = true) (ht : Cor.Co.isT t = true) :
    Calls Tryz.prog 114 #[.pointer (some ⟨a.co, 0, none⟩), .int .i64 c, .int .i64 y, .int .i64 t] w fun e w' => (∃ x, e = .returned (.int .i64 x)) ∧ KX B w0 A a m (restS S c) w' ∧ ∀ i, w'.cell? ⟨a.k, i, none⟩ = w.cell? ⟨a.k, i, none⟩ := by
  obtain ⟨F, K, hB, hA⟩ := h.ex
  obtain ⟨g, Y, q, y0, l0, e0⟩ := K.p 13 (by omega)
  have ly : Y.length = a.n := by rw [← l0, ← y0, List.length_map]
  have k1 : Cor.Co.isk Y.length c = true := by rw [ly]; exact hc
  have kl : c.toNat < Y.length := by
    obtain ⟨k, rfl, hk⟩ := Cor.Co.isk_yes k1
    simpa using hk
  have z1 : zc S c = pi (Y.getD c.toNat Cor.Co.kz) := by unfold zc; rw [← y0]; exact pi_get Y _
  refine (Cor.crest_any w c y t q).mono ?_
  rintro e w' ⟨rfl, t2, f⟩
  refine ⟨⟨_, rfl⟩, ?_⟩
  have e1 : (Cor.Co.rsY Y c y t).map pi = (restS S c).z := by
    unfold Cor.Co.rsY Cor.Co.rsE restS
    rw [if_pos k1, hy, ht, gt_is k1, z1]
    generalize Y.getD c.toNat Cor.Co.kz = x0
    obtain ⟨p, i, x2, x3, x4, x5⟩ := x0
    cases p <;> cases i <;> simp [pi]
    · exact y0
    · exact y0
    · rw [← y0]
      rfl
    · exact y0
  have e2 : Eqx 13 S (restS S c) := by unfold restS; split <;> simp [Eqx]
  have kz : a.k ∉ [g] := by
    obtain ⟨_, _, ez⟩ := K.p 0 (by omega)
    have := K.dis 0 13 (by omega) (by omega) (by omega) a.k (by rw [ez]; simp)
    rw [e0] at this
    intro q
    exact this (List.mem_cons_of_mem _ q)
  refine ⟨?_, fun i => f.cell (p := ⟨a.k, i, none⟩) (kb_lt h) kz⟩
  exact h.turn0 K hB hA 13 (by omega) ⟨g, _, t2, e1, by rw [← e1, List.length_map]; show (Cor.Co.rsY Y c y t).length = _; unfold Cor.Co.rsY; split <;> simp [ly], e0⟩ f (by rw [e0]; simp) e2 (by omega)
theorem tx_rg (h : KX B w0 A a m S w) (c : Int) : 0 ≤ Tim.txN a.n S.t c ∧ Tim.txN a.n S.t c ≤ 1152921504606846976 := by
  obtain ⟨F, K, _⟩ := h.ex
  have t := K.p 3 (by omega)
  simp only [Part] at t
  obtain ⟨sb, sg, tb, mb, SS, G, W, O, b, _⟩ := t
  unfold Tim.txN
  split
  · rename_i e
    obtain ⟨mp, V, q, _⟩ := b.ws c.toNat (by have := e.1; have := e.2; omega)
    unfold Tim.nxN
    split
    · omega
    · rename_i x L hL
      exact q.tks x (by rw [hL]; simp)
  · omega
set_option maxRecDepth 100000 in
theorem k_NowW (h : KX B w0 A a m S w) :
    Calls Tryz.prog 70 #[.pointer (some ⟨a.k, 0, none⟩)] w fun e w' => e = .returned (.int .i64 S.now) ∧ w' = w := by
  have c5 := h.c5
  obtain ⟨F, K, hB, hA⟩ := h.ex
  have t := K.p 3 (by omega)
  simp only [Part] at t
  have C : Hid (∀ _ : Unit, _) := fun _ => Tim.tnow_any t
  have CA : Hid (∀ _ : Unit, _) := fun _ => k_all a w
  clear h K hB hA t
  generalize S.now = y at *
  go_enter Tryz.func70, Tryz.ntmps70
  go_wp2_with fail
  refine (CA.out ()).mono ?_
  rintro e w1 ⟨rfl, rfl⟩
  go_wp2_with fail
  refine (C.out ()).mono ?_
  rintro e w1 ⟨rfl, rfl⟩
  go_wp2
  go_ret
  exact ⟨rfl, rfl⟩
set_option maxRecDepth 100000 in
set_option maxHeartbeats 1000000 in
theorem k_ready (h : KX B w0 A a m S w) (c : Int) :
    Calls Tryz.prog 103 #[.pointer (some ⟨a.k, 0, none⟩), .int .i64 (c)] w fun e w' => e = .returned (.tuple #[.int .i64 ((rdyI S c).getD 0), .bool (rdyI S c).isSome]) ∧ KX B w0 A a m S w' := by
  unfold rdyI
  have c7 := h.c7
  have CL : Hid (∀ _ : Unit, _) := fun _ => rt_on h c
  have LN : ((onL S c).length : Int) ≤ 16 := by have := KK_le (Nm.on S.r c) 16; unfold onL; omega
  obtain ⟨f, hf⟩ : ∃ f : Int → Bool, Hid (∀ k, f k = Bm.rdB S.i k) := ⟨_, fun _ => rfl⟩
  rw [show (fun k => Bm.rdB S.i k) = f from (funext hf.out).symm]
  generalize onL S c = L at *
  obtain ⟨R, hR⟩ : ∃ R : Option Int, Hid (R = L.find? f) := ⟨_, rfl⟩
  rw [← show R = L.find? f from hR.out]
  go_enter Tryz.func103, Tryz.ntmps103
  go_wp2_with fail
  refine (CL.out ()).mono ?_
  rintro e w1 ⟨v, Z, rfl, h1, rw1⟩
  obtain ⟨p, cap, rfl⟩ := rw1.shape
  go_wp2
  go_loopw [16] (fun i wr => ∃ k : Nat, (k : Int) ≤ L.length ∧ i = .int .i64 (k : Int) ∧ KX B w0 (Z ++ A) a m S wr ∧ Hid (∀ j, j < k → f (L.getD j 0) = false)) (fun i _ => L.length - (intOf i).toNat)
  case atStart => exact ⟨0, by omega, rfl, h1, fun j hj => by omega⟩
  case round =>
    obtain ⟨k, hk, rfl, hr, no⟩ := hrel
    by_cases ck : (k : Int) < L.length
    · obtain ⟨b, rfl, cc⟩ := rw1.cell hr (i := k) (by omega)
      have c6 := hr.c6
      have G : Hid (∀ _ : Unit, _) := fun _ => iq_ready hr (L.getD k 0)
      rw [← hf.out (L.getD k 0)] at G
      have NX : Hid (f (L.getD k 0) = false → ∀ j, j < k + 1 → f (L.getD j 0) = false) := fun q j hj => by
        by_cases e : j = k
        · rw [e]; exact q
        · exact no.out j (by omega)
      have HT : Hid (f (L.getD k 0) = true → R = some (L.getD k 0)) := fun q => by
        rw [hR.out, find_hit L f k (by omega) no.out q]
      generalize L.getD k 0 = id at *
      generalize f id = fb at *
      cases fb
      · have NX2 : Hid _ := NX.out (by simp)
        clear NX HT
        go_wp2_with fail
        refine (G.out ()).mono ?_
        rintro e w2 ⟨rfl, h2⟩
        go_wp2
        go_roundw
        case rel => exact ⟨k + 1, by omega, by go_num, h2, NX2.out⟩
        case measure => simp [intOf]; omega
      · have HT2 := HT.out (by simp)
        clear HT NX
        subst HT2
        go_wp2_with fail
        refine (G.out ()).mono ?_
        rintro e w2 ⟨rfl, h2⟩
        go_wp2
        go_ret2
        exact ⟨rfl, h2.sub fun y hy => List.mem_append_right _ hy⟩
    · have e1 : k = L.length := by omega
      have R0 : R = none := by rw [hR.out, find_miss L f (fun j hj => no.out j (by omega))]
      clear hR
      subst R0
      subst e1
      go_wp2
      go_ret2
      exact ⟨rfl, hr.sub fun y hy => List.mem_append_right _ hy⟩
set_option maxRecDepth 100000 in
set_option maxHeartbeats 1000000 in
theorem k_rest (h : KX B w0 A a m S w) (c : Int) (hc : isC a.n c = true) :
    Calls Tryz.prog 72 #[.pointer (some ⟨a.k, 0, none⟩), .int .i64 (c)] w fun e w' => e = .returned (.tuple #[]) ∧ KX B w0 A a m (restS S c) w' := by
  have c5 := h.c5
  have T := h.isT
  have tT : Cor.Co.isT S.now = true := by simp [Cor.Co.isT]; omega
  have CN : Hid (∀ _ : Unit, _) := fun _ => tm_next h c
  have b1 := tx_rg h c
  have CP : Hid (∀ v b, _) := fun v b => Idl.ipredict_any S.now (Tim.txN a.n S.t c) b v (by omega)
  have CW : Hid (∀ v, KX B w0 A a m S v → _) := fun v k => k_NowW k
  have CT : Hid (∀ v, _) := fun v => Idl.itable_any v
  have CR : Hid (∀ v y, Cor.Co.isW y = true → KX B w0 A a m S v → _) := fun v y hy k => co_rest2 k c y S.now hc hy tT
  generalize Tim.txN a.n S.t c = due at *
  generalize Tim.txE a.n S.t c = ne at *
  generalize S.now = now at *
  generalize restS S c = E at *
  have CH : Hid (∀ v u l tk, LRow Idl.wy v u Idl.wt → Calls Tryz.prog 115 #[u, .int .i64 tk, .int .i64 l] v fun e w' => ∃ y : Int, e = .returned (.int .i64 y) ∧ Cor.Co.isW y = true ∧ w' = v) := fun v u l tk r => (Idl.ichoose_any Idl.wt u tk l v r (by decide)).mono fun e w' z => by
    obtain ⟨⟨y, e1, c1⟩, e2⟩ := z
    refine ⟨(y : Int), e1, ?_, e2⟩
    have : y < 4 := by
      rcases c1 with ⟨q, _⟩ | ⟨_, q, _⟩
      · omega
      · exact q
    simp [Cor.Co.isW]
    omega
  go_enter Tryz.func72, Tryz.ntmps72
  go_wp2_with fail
  refine (CN.out ()).mono ?_
  rintro e w1 ⟨rfl, h1⟩
  go_wp2_with fail
  refine (CW.out _ h1).mono ?_
  rintro e w2 ⟨rfl, rfl⟩
  obtain ⟨l, l2⟩ := h1.c2
  have c15 := h1.c15
  go_wp2_with fail
  refine (CP.out _ _).mono ?_
  rintro e w2 ⟨rfl, rfl⟩
  generalize Idl.prd now due (ne == 0) = tk at *
  go_wp2_with fail
  go_region_held3 (fun w' => w'.cell? ⟨a.k, 15, none⟩ = some (.pointer (some ⟨a.co, 0, none⟩)) ∧ w'.cell? ⟨a.k, 2, none⟩ = some (.int .i64 l)) (go_keep)
    (first | (go_at_call 116; refine (CT.out _).mono ?_; rintro e w3 ⟨v3, rfl, r3, f3⟩; have h3 := h1.smb f3 ⟨rfl, rfl, rfl, rfl⟩; have d15 := h3.c15; have d2 := lim_keep h1 f3 ⟨rfl, rfl, rfl, rfl⟩ l2; clear CT) | (go_at_call 115; refine (CH.out _ _ _ _ ?_).mono ?_; (exact r3); rintro e w4 ⟨y, rfl, wy, rfl⟩; clear CH) | (go_at_call 70; refine (CW.out _ ?_).mono ?_; (exact h3.sm ⟨rfl, rfl, rfl, rfl⟩); rintro e w4 ⟨rfl, rfl⟩) | (go_at_call 114; refine (CR.out _ y wy ?_).mono ?_; (exact h3.sm ⟨rfl, rfl, rfl, rfl⟩); rintro e w4 ⟨⟨x, rfl⟩, h4, k4⟩; have e15 := h4.c15; have e2 := (k4 2).trans d2))
  go_wp2
  go_end0
  exact ⟨rfl, h4⟩
end
end Go.Proofs.YtfipiifickdeiaaGreatDoor.Krn
namespace Go.Proofs.YtfipiifickdeiaaGreatDoor.Krn
open Go.ChangeShapes Go.WideShapes Go.ChangeAt Go.RowKit
open Mm
section
variable {B : Nat} {w0 : World} {A : List (Nat × List Value × TypeId)} {a : KA} {m m' : Nat} {S S' : KS} {w w' : World}
/-- A block beside the kernel is written. -/
theorem KX.setb {b : Nat} {cs : List Value} {t : TypeId} (h : KX B w0 ((b, cs, t) :: A) a m S w) (ne : ∀ x ∈ A, x.1 ≠ b) (hb : B ≤ b) (i : Nat) (v : Value) : KX B w0 ((b, cs.set i v, t) :: A) a m S (w.setCell ⟨b, i, none⟩ v) := by
  obtain ⟨F, K, hB, hA⟩ := h.ex
  have f : Fr w.heap.size [b] w (w.setCell ⟨b, i, none⟩ v) := (Fr.refl _ _ _).setCell (Or.inr (by simp)) _
  have hs := h.sz
  have h1 := h.b1
  have hz : ∀ i, i < 16 → ∀ g ∈ F i, g ∉ [b] := fun j hj g hg e => by
    rw [List.mem_singleton.1 e] at hg
    exact hA (b, cs, t) (by simp) j hj hg
  refine ⟨⟨F, ⟨fun j hj => (K.p j hj).keep f (hz j hj) (K.lt j hj), K.dis, fun j hj k hk => Nat.lt_of_lt_of_le (K.lt j hj k hk) f.size⟩, hB, fun x hx j hj => ?_⟩, fun x hx => ?_, ?_, Nat.le_trans hs f.size, h1, ?_, h.n1, h.n2⟩
  · rcases List.mem_cons.1 hx with rfl | hx
    · exact hA (b, cs, t) (by simp) j hj
    · exact hA x (List.mem_cons_of_mem _ hx) j hj
  · rcases List.mem_cons.1 hx with rfl | hx
    · exact h.blk.set i v
    · exact (h.bx x (List.mem_cons_of_mem _ hx)).keep f (h.bx x (List.mem_cons_of_mem _ hx)).lt (by simp; exact ne x hx)
  · exact h.bel.trans ((f.less hs).below fun k hk => by rw [List.mem_singleton.1 hk]; exact hb)
  · exact tab_keep h.tab (by omega) f (by simp; omega)
theorem results_one {fn : Func} {p : Tmp} {ty : TypeId} (h : fn.results = #[.cell p ty]) (tmps : Array Value) (P : Program) (w : World) :
    (results fn tmps).run P w = ((asAddr (tmps.getD p undef)).run P w).andThen fun a w₁ => (loadVar ty a).run P w₁ := by
  simp only [results, h]
  simp [Sem.run_bind, Result.andThen]
end
end Go.Proofs.YtfipiifickdeiaaGreatDoor.Krn
namespace Go.Proofs.YtfipiifickdeiaaGreatDoor.Krn
open Go.ChangeShapes Go.WideShapes Go.ChangeAt Go.RowKit
open Mm
section
variable {B : Nat} {w0 : World} {A : List (Nat × List Value × TypeId)} {a : KA} {m m' : Nat} {S S' : KS} {w w' : World}
theorem rec_ret {z : Nat} {x : Rec} {tmps : Array Value} (h : Blk w z [.int .i64 x.kind, .int .i64 x.cpu, .int .i64 x.id, .int .i64 x.n, .int .i64 x.why] 105) (h2 : tmps.getD 6 undef = .pointer (some ⟨z, 0, none⟩)) :
    (results Tryz.f74 tmps).run Tryz.prog w = .ok (.agg #[.int .i64 x.kind, .int .i64 x.cpu, .int .i64 x.id, .int .i64 x.n, .int .i64 x.why]) w := by
  have q0 : w.cell? ⟨z, 0, none⟩ = some (.int .i64 x.kind) := h.cell 0
  have q1 : w.cell? ⟨z, 1, none⟩ = some (.int .i64 x.cpu) := h.cell 1
  have q2 : w.cell? ⟨z, 2, none⟩ = some (.int .i64 x.id) := h.cell 2
  have q3 : w.cell? ⟨z, 3, none⟩ = some (.int .i64 x.n) := h.cell 3
  have q4 : w.cell? ⟨z, 4, none⟩ = some (.int .i64 x.why) := h.cell 4
  rw [results_one (p := 6) (ty := 105) rfl, h2]
  simp [go_sem, q0, q1, q2, q3, q4]
set_option maxRecDepth 100000 in
set_option maxHeartbeats 4000000 in
theorem k_thing7 (h : KX B w0 A a m S w) (c : Int) :
    Calls Tryz.prog 74 #[.pointer (some ⟨a.k, 0, none⟩), .int .i64 (7), .int .i64 (c)] w fun e w' => e = .returned (.agg #[.int .i64 5, .int .i64 c, .int .i64 (Cm.taN a.n S.wk c), .int .i64 0, .int .i64 0]) ∧ KX B w0 A a m { adS S c with wk := Cm.taK a.n S.wk c } w' := by
  have c11 : ∀ o, (w.alloc o).cell? ⟨a.k, 11, none⟩ = some (.pointer (some ⟨a.ct, 0, none⟩)) := fun o => (h.alloc o).c11
  have h0 := h.new [.int .i64 0, .int .i64 0, .int .i64 0, .int .i64 0, .int .i64 0] 105
  have ne0 : ∀ x ∈ A, x.1 ≠ w.heap.size := fun x hx => by have := (h.bx x hx).lt; omega
  have CA : Hid (∀ _ : Unit, _) := fun _ => ct_add h0 c
  have CT : Hid (∀ v A, KX B w0 A a m (adS S c) v → _) := fun v A k => wk_take k c
  simp only [show (adS S c).wk = S.wk from rfl] at CT
  generalize Cm.taN a.n S.wk c = id at *
  generalize Cm.taE a.n S.wk c = ee at *
  go_enter Tryz.func74, Tryz.ntmps74
  go_wp2_with fail
  refine (CA.out ()).mono ?_
  rintro e w1 ⟨rfl, h1⟩
  have h3 := h1.new [.int .i64 5, .int .i64 c, .int .i64 0, .int .i64 0, .int .i64 0] 105
  have lt1 : w.heap.size < w1.heap.size := h1.blk.lt
  have ne1 : ∀ x ∈ ((w.heap.size, [.int .i64 0, .int .i64 0, .int .i64 0, .int .i64 0, .int .i64 0], 105) :: A), x.1 ≠ w1.heap.size := fun x hx => by have := (h1.bx x hx).lt; omega
  have nb1 : w.heap.size ≠ w1.heap.size := by omega
  have nb2 : w1.heap.size ≠ w.heap.size := by omega
  have nb3 : (w.heap.size == w1.heap.size) = false := by simp; omega
  have nb4 : (w1.heap.size == w.heap.size) = false := by simp; omega
  have hb1 : B ≤ w1.heap.size := h1.sz
  have c8 := h3.c8
  go_wp2_with fail
  refine (CT.out _ _ h3).mono ?_
  rintro e w4 ⟨rfl, h4⟩
  have fr : ∀ j, w4.frozen? ⟨w1.heap.size, j, none⟩ = false := fun j => h4.blk.free j
  have fq : ∀ j, w4.frozen? ⟨w.heap.size, j, none⟩ = false := fun j => h4.drop.blk.free j
  have r0 : w4.cell? ⟨w1.heap.size, 0, none⟩ = some (.int .i64 5) := h4.blk.cell 0
  have r1 : w4.cell? ⟨w1.heap.size, 1, none⟩ = some (.int .i64 c) := h4.blk.cell 1
  have r2 : w4.cell? ⟨w1.heap.size, 2, none⟩ = some (.int .i64 0) := h4.blk.cell 2
  have r3 : w4.cell? ⟨w1.heap.size, 3, none⟩ = some (.int .i64 0) := h4.blk.cell 3
  have r4 : w4.cell? ⟨w1.heap.size, 4, none⟩ = some (.int .i64 0) := h4.blk.cell 4
  have z0 : w4.cell? ⟨w.heap.size, 0, none⟩ = some (.int .i64 0) := h4.drop.blk.cell 0
  have z1 : w4.cell? ⟨w.heap.size, 1, none⟩ = some (.int .i64 0) := h4.drop.blk.cell 1
  have z2 : w4.cell? ⟨w.heap.size, 2, none⟩ = some (.int .i64 0) := h4.drop.blk.cell 2
  have z3 : w4.cell? ⟨w.heap.size, 3, none⟩ = some (.int .i64 0) := h4.drop.blk.cell 3
  have z4 : w4.cell? ⟨w.heap.size, 4, none⟩ = some (.int .i64 0) := h4.drop.blk.cell 4
  go_wp2
  have h8 := h4.setb ne1 hb1 2 (.int .i64 (id))
  have h9 := h8.drop
  have h9 := h9.setb ne0 h.sz 0 (.int .i64 5)
  have h9 := h9.setb ne0 h.sz 1 (.int .i64 c)
  have h9 := h9.setb ne0 h.sz 2 (.int .i64 (id))
  have h9 := h9.setb ne0 h.sz 3 (.int .i64 (0))
  have h9 := h9.setb ne0 h.sz 4 (.int .i64 0)
  exact bodyPost_ret (rec_ret (x := ⟨5, c, id, 0, 0⟩) h9.blk rfl) rfl ⟨rfl, h9.drop⟩
end
end Go.Proofs.YtfipiifickdeiaaGreatDoor.Krn
namespace Go.Proofs.YtfipiifickdeiaaGreatDoor.Krn
open Go.ChangeShapes Go.WideShapes Go.ChangeAt Go.RowKit
open Mm
abbrev oF0 : Oper := { dst := some 13, op := Op.move (Operand.tmp 0), type := 29, pos := "step.go:38", after := #[], guard := none }
abbrev oF1 : Oper := { dst := some 14, op := Op.nilCheck (Operand.tmp 13), type := 0, pos := "step.go:38", after := #[{ on := 0, ground := Ground.data }], guard := none }
abbrev oF2 : Oper := { dst := some 15, op := Op.fieldAddr 66 (Operand.tmp 14) 0, type := 0, pos := "step.go:38", after := #[{ on := 1, ground := Ground.data }], guard := none }
abbrev oF3 : Oper := { dst := some 16, op := Op.fieldAddr 64 (Operand.tmp 15) 14, type := 0, pos := "step.go:38", after := #[{ on := 2, ground := Ground.data }], guard := none }
abbrev oF4 : Oper := { dst := some 17, op := Op.load 59 (Operand.tmp 16), type := 59, pos := "step.go:38", after := #[{ on := 3, ground := Ground.data }], guard := none }
abbrev oF5 : Oper := { dst := some 18, op := Op.move (Operand.tmp 1), type := 3, pos := "step.go:38", after := #[], guard := none }
abbrev oF6 : Oper := { dst := some 20, op := Op.move (Operand.tmp 0), type := 29, pos := "step.go:38", after := #[], guard := none }
abbrev oF7 : Oper := { dst := some 21, op := Op.nilCheck (Operand.tmp 20), type := 0, pos := "step.go:38", after := #[{ on := 7, ground := Ground.data }], guard := none }
abbrev oF8 : Oper := { dst := some 22, op := Op.fieldAddr 66 (Operand.tmp 21) 0, type := 0, pos := "step.go:38", after := #[{ on := 8, ground := Ground.data }], guard := none }
abbrev oF9 : Oper := { dst := some 23, op := Op.fieldAddr 64 (Operand.tmp 22) 14, type := 0, pos := "step.go:38", after := #[{ on := 9, ground := Ground.data }], guard := none }
abbrev oF10 : Oper := { dst := some 24, op := Op.load 59 (Operand.tmp 23), type := 59, pos := "step.go:38", after := #[{ on := 10, ground := Ground.data }], guard := none }
abbrev oF11 : Oper := { dst := some 25, op := Op.move (Operand.tmp 1), type := 3, pos := "step.go:38", after := #[], guard := none }
abbrev oF12 : Oper := { dst := some 27, op := Op.move (Operand.tmp 0), type := 29, pos := "step.go:38", after := #[], guard := none }
abbrev oF13 : Oper := { dst := some 28, op := Op.nilCheck (Operand.tmp 27), type := 0, pos := "step.go:38", after := #[{ on := 14, ground := Ground.data }], guard := none }
abbrev oF14 : Oper := { dst := some 29, op := Op.fieldAddr 66 (Operand.tmp 28) 0, type := 0, pos := "step.go:38", after := #[{ on := 15, ground := Ground.data }], guard := none }
abbrev oF15 : Oper := { dst := some 30, op := Op.fieldAddr 64 (Operand.tmp 29) 12, type := 0, pos := "step.go:38", after := #[{ on := 16, ground := Ground.data }], guard := none }
abbrev oF16 : Oper := { dst := some 31, op := Op.load 57 (Operand.tmp 30), type := 57, pos := "step.go:38", after := #[{ on := 17, ground := Ground.data }], guard := none }
abbrev oF17 : Oper := { dst := some 43, op := Op.move (Operand.tmp 0), type := 29, pos := "step.go:38", after := #[], guard := none }
abbrev oF18 : Oper := { dst := some 44, op := Op.nilCheck (Operand.tmp 43), type := 0, pos := "step.go:38", after := #[{ on := 30, ground := Ground.data }], guard := none }
abbrev oF19 : Oper := { dst := some 45, op := Op.fieldAddr 66 (Operand.tmp 44) 0, type := 0, pos := "step.go:38", after := #[{ on := 31, ground := Ground.data }], guard := none }
abbrev oF20 : Oper := { dst := some 46, op := Op.fieldAddr 64 (Operand.tmp 45) 1, type := 0, pos := "step.go:38", after := #[{ on := 32, ground := Ground.data }], guard := none }
abbrev oF21 : Oper := { dst := some 47, op := Op.load 26 (Operand.tmp 46), type := 26, pos := "step.go:38", after := #[{ on := 33, ground := Ground.data }], guard := none }
abbrev oF22 : Oper := { dst := some 48, op := Op.move (Operand.tmp 1), type := 3, pos := "step.go:38", after := #[], guard := none }
abbrev oF23 : Oper := { dst := some 50, op := Op.move (Operand.tmp 0), type := 29, pos := "step.go:38", after := #[], guard := none }
abbrev oF24 : Oper := { dst := some 51, op := Op.nilCheck (Operand.tmp 50), type := 0, pos := "step.go:38", after := #[{ on := 37, ground := Ground.data }], guard := none }
abbrev oF25 : Oper := { dst := some 52, op := Op.fieldAddr 66 (Operand.tmp 51) 0, type := 0, pos := "step.go:38", after := #[{ on := 38, ground := Ground.data }], guard := none }
abbrev oF26 : Oper := { dst := some 53, op := Op.fieldAddr 64 (Operand.tmp 52) 9, type := 0, pos := "step.go:38", after := #[{ on := 39, ground := Ground.data }], guard := none }
abbrev oF27 : Oper := { dst := some 54, op := Op.load 54 (Operand.tmp 53), type := 54, pos := "step.go:38", after := #[{ on := 40, ground := Ground.data }], guard := none }
abbrev oF28 : Oper := { dst := some 55, op := Op.move (Operand.tmp 1), type := 3, pos := "step.go:38", after := #[], guard := none }
abbrev oF29 : Oper := { dst := some 58, op := Op.move (Operand.tmp 6), type := 4, pos := "step.go:38", after := #[], guard := none }
abbrev oF30 : Oper := { dst := some 59, op := Op.move (Operand.tmp 0), type := 29, pos := "step.go:38", after := #[], guard := none }
abbrev oF31 : Oper := { dst := some 60, op := Op.nilCheck (Operand.tmp 59), type := 0, pos := "step.go:38", after := #[{ on := 46, ground := Ground.data }], guard := none }
abbrev oF32 : Oper := { dst := some 61, op := Op.fieldAddr 66 (Operand.tmp 60) 0, type := 0, pos := "step.go:38", after := #[{ on := 47, ground := Ground.data }], guard := none }
abbrev oF33 : Oper := { dst := some 62, op := Op.fieldAddr 64 (Operand.tmp 61) 5, type := 0, pos := "step.go:38", after := #[{ on := 48, ground := Ground.data }], guard := none }
abbrev oF34 : Oper := { dst := some 63, op := Op.load 50 (Operand.tmp 62), type := 50, pos := "step.go:38", after := #[{ on := 49, ground := Ground.data }], guard := none }
abbrev oF35 : Oper := { dst := some 64, op := Op.move (Operand.tmp 1), type := 3, pos := "step.go:38", after := #[], guard := none }
abbrev oF36 : Oper := { dst := some 66, op := Op.move (Operand.tmp 0), type := 29, pos := "step.go:38", after := #[], guard := none }
abbrev oF37 : Oper := { dst := some 67, op := Op.nilCheck (Operand.tmp 66), type := 0, pos := "step.go:38", after := #[{ on := 53, ground := Ground.data }], guard := none }
abbrev oF38 : Oper := { dst := some 68, op := Op.fieldAddr 66 (Operand.tmp 67) 0, type := 0, pos := "step.go:38", after := #[{ on := 54, ground := Ground.data }], guard := none }
abbrev oF39 : Oper := { dst := some 69, op := Op.fieldAddr 64 (Operand.tmp 68) 8, type := 0, pos := "step.go:38", after := #[{ on := 55, ground := Ground.data }], guard := none }
abbrev oF40 : Oper := { dst := some 70, op := Op.load 53 (Operand.tmp 69), type := 53, pos := "step.go:38", after := #[{ on := 56, ground := Ground.data }], guard := none }
abbrev oF41 : Oper := { dst := some 71, op := Op.move (Operand.tmp 1), type := 3, pos := "step.go:38", after := #[], guard := none }
abbrev oF42 : Oper := { dst := some 83, op := Op.move (Operand.tmp 0), type := 29, pos := "step.go:38", after := #[], guard := none }
abbrev oF43 : Oper := { dst := some 84, op := Op.nilCheck (Operand.tmp 83), type := 0, pos := "step.go:38", after := #[{ on := 70, ground := Ground.data }], guard := none }
abbrev oF44 : Oper := { dst := some 85, op := Op.fieldAddr 66 (Operand.tmp 84) 0, type := 0, pos := "step.go:38", after := #[{ on := 71, ground := Ground.data }], guard := none }
abbrev oF45 : Oper := { dst := some 86, op := Op.fieldAddr 64 (Operand.tmp 85) 4, type := 0, pos := "step.go:38", after := #[{ on := 72, ground := Ground.data }], guard := none }
abbrev oF46 : Oper := { dst := some 87, op := Op.load 49 (Operand.tmp 86), type := 49, pos := "step.go:38", after := #[{ on := 73, ground := Ground.data }], guard := none }
abbrev oF47 : Oper := { dst := some 88, op := Op.move (Operand.tmp 1), type := 3, pos := "step.go:38", after := #[], guard := none }
abbrev oF48 : Oper := { dst := some 19, op := Op.call { callee := Callee.value (Operand.func 104), args := #[Operand.tmp 17, Operand.tmp 18], argTypes := #[59, 3] }, type := 4, pos := "step.go:39", after := #[{ on := 4, ground := Ground.data }, { on := 5, ground := Ground.data }], guard := none }
abbrev oF49 : Oper := { dst := some 26, op := Op.call { callee := Callee.value (Operand.func 105), args := #[Operand.tmp 24, Operand.tmp 25], argTypes := #[59, 3] }, type := 4, pos := "step.go:40", after := #[{ on := 11, ground := Ground.data }, { on := 12, ground := Ground.data }, { on := 6, ground := Ground.chain }], guard := none }
abbrev oF50 : Oper := { dst := some 32, op := Op.call { callee := Callee.value (Operand.func 33), args := #[Operand.tmp 31], argTypes := #[57] }, type := 4, pos := "step.go:41", after := #[{ on := 18, ground := Ground.data }, { on := 13, ground := Ground.chain }], guard := none }
abbrev oF51 : Oper := { dst := some 33, op := Op.move (Operand.tmp 32), type := 4, pos := "step.go:38", after := #[{ on := 19, ground := Ground.data }, { on := 19, ground := Ground.chain }], guard := none }
abbrev oF52 : Oper := { dst := some 34, op := Op.move (Operand.tmp 0), type := 29, pos := "step.go:38", after := #[{ on := 20, ground := Ground.guard }], guard := some (20, true) }
abbrev oF53 : Oper := { dst := some 35, op := Op.nilCheck (Operand.tmp 34), type := 0, pos := "step.go:38", after := #[{ on := 21, ground := Ground.data }, { on := 20, ground := Ground.guard }], guard := some (20, true) }
abbrev oF54 : Oper := { dst := some 36, op := Op.fieldAddr 66 (Operand.tmp 35) 0, type := 0, pos := "step.go:38", after := #[{ on := 22, ground := Ground.data }, { on := 20, ground := Ground.guard }], guard := some (20, true) }
abbrev oF55 : Oper := { dst := some 37, op := Op.fieldAddr 64 (Operand.tmp 36) 12, type := 0, pos := "step.go:38", after := #[{ on := 23, ground := Ground.data }, { on := 20, ground := Ground.guard }], guard := some (20, true) }
abbrev oF56 : Oper := { dst := some 38, op := Op.load 57 (Operand.tmp 37), type := 57, pos := "step.go:38", after := #[{ on := 24, ground := Ground.data }, { on := 20, ground := Ground.guard }], guard := some (20, true) }
abbrev oF57 : Oper := { dst := some 39, op := Op.call { callee := Callee.value (Operand.func 106), args := #[Operand.tmp 38], argTypes := #[57] }, type := 3, pos := "step.go:41", after := #[{ on := 25, ground := Ground.data }, { on := 20, ground := Ground.chain }, { on := 20, ground := Ground.guard }], guard := some (20, true) }
abbrev oF58 : Oper := { dst := some 40, op := Op.move (Operand.tmp 1), type := 3, pos := "step.go:38", after := #[{ on := 20, ground := Ground.guard }], guard := some (20, true) }
abbrev oF59 : Oper := { dst := some 41, op := Op.binOp BinOp.eql 3 (Operand.tmp 39) (Operand.tmp 40) 3, type := 4, pos := "step.go:38", after := #[{ on := 26, ground := Ground.data }, { on := 27, ground := Ground.data }, { on := 20, ground := Ground.guard }], guard := some (20, true) }
abbrev oF60 : Oper := { dst := some 42, op := Op.pick (Operand.tmp 33) (Operand.tmp 41) (Operand.const (Value.bool false)), type := 4, pos := "step.go:38", after := #[{ on := 20, ground := Ground.data }, { on := 28, ground := Ground.data }], guard := none }
abbrev oF61 : Oper := { dst := some 49, op := Op.call { callee := Callee.value (Operand.func 107), args := #[Operand.tmp 47, Operand.tmp 48], argTypes := #[26, 3] }, type := 4, pos := "step.go:42", after := #[{ on := 34, ground := Ground.data }, { on := 35, ground := Ground.data }, { on := 26, ground := Ground.chain }], guard := none }
abbrev oF62 : Oper := { dst := some 56, op := Op.call { callee := Callee.value (Operand.func 60), args := #[Operand.tmp 54, Operand.tmp 55], argTypes := #[54, 3] }, type := 3, pos := "step.go:43", after := #[{ on := 41, ground := Ground.data }, { on := 42, ground := Ground.data }, { on := 36, ground := Ground.chain }], guard := none }
abbrev oF63 : Oper := { dst := some 57, op := Op.binOp BinOp.gtr 3 (Operand.tmp 56) (Operand.const (Value.int IntKind.i64 0)) 3, type := 4, pos := "step.go:38", after := #[{ on := 43, ground := Ground.data }], guard := none }
abbrev oF64 : Oper := { dst := some 65, op := Op.call { callee := Callee.value (Operand.func 64), args := #[Operand.tmp 63, Operand.tmp 64], argTypes := #[50, 3] }, type := 4, pos := "step.go:45", after := #[{ on := 50, ground := Ground.data }, { on := 51, ground := Ground.data }, { on := 43, ground := Ground.chain }], guard := none }
abbrev oF65 : Oper := { dst := some 72, op := Op.call { callee := Callee.value (Operand.func 62), args := #[Operand.tmp 70, Operand.tmp 71], argTypes := #[53, 3] }, type := 3, pos := "step.go:46", after := #[{ on := 57, ground := Ground.data }, { on := 58, ground := Ground.data }, { on := 52, ground := Ground.chain }], guard := none }
abbrev oF66 : Oper := { dst := some 73, op := Op.binOp BinOp.gtr 3 (Operand.tmp 72) (Operand.const (Value.int IntKind.i64 0)) 3, type := 4, pos := "step.go:38", after := #[{ on := 59, ground := Ground.data }], guard := none }
abbrev oF67 : Oper := { dst := some 74, op := Op.move (Operand.tmp 73), type := 4, pos := "step.go:38", after := #[{ on := 60, ground := Ground.data }, { on := 59, ground := Ground.chain }], guard := none }
abbrev oF68 : Oper := { dst := some 75, op := Op.move (Operand.tmp 0), type := 29, pos := "step.go:38", after := #[{ on := 61, ground := Ground.guard }], guard := some (61, false) }
abbrev oF69 : Oper := { dst := some 76, op := Op.nilCheck (Operand.tmp 75), type := 0, pos := "step.go:38", after := #[{ on := 62, ground := Ground.data }, { on := 61, ground := Ground.guard }], guard := some (61, false) }
abbrev oF70 : Oper := { dst := some 77, op := Op.fieldAddr 66 (Operand.tmp 76) 0, type := 0, pos := "step.go:38", after := #[{ on := 63, ground := Ground.data }, { on := 61, ground := Ground.guard }], guard := some (61, false) }
abbrev oF71 : Oper := { dst := some 78, op := Op.fieldAddr 64 (Operand.tmp 77) 8, type := 0, pos := "step.go:38", after := #[{ on := 64, ground := Ground.data }, { on := 61, ground := Ground.guard }], guard := some (61, false) }
abbrev oF72 : Oper := { dst := some 79, op := Op.load 53 (Operand.tmp 78), type := 53, pos := "step.go:38", after := #[{ on := 65, ground := Ground.data }, { on := 61, ground := Ground.guard }], guard := some (61, false) }
abbrev oF73 : Oper := { dst := some 80, op := Op.call { callee := Callee.value (Operand.func 62), args := #[Operand.tmp 79, Operand.const (Value.int IntKind.i64 (-1))], argTypes := #[53, 3] }, type := 3, pos := "step.go:46", after := #[{ on := 66, ground := Ground.data }, { on := 61, ground := Ground.chain }, { on := 61, ground := Ground.guard }], guard := some (61, false) }
abbrev oF74 : Oper := { dst := some 81, op := Op.binOp BinOp.gtr 3 (Operand.tmp 80) (Operand.const (Value.int IntKind.i64 0)) 3, type := 4, pos := "step.go:38", after := #[{ on := 67, ground := Ground.data }, { on := 61, ground := Ground.guard }], guard := some (61, false) }
abbrev oF75 : Oper := { dst := some 82, op := Op.pick (Operand.tmp 74) (Operand.const (Value.bool true)) (Operand.tmp 81), type := 4, pos := "step.go:38", after := #[{ on := 61, ground := Ground.data }, { on := 68, ground := Ground.data }], guard := none }
abbrev oF76 : Oper := { dst := some 89, op := Op.call { callee := Callee.value (Operand.func 108), args := #[Operand.tmp 87, Operand.tmp 88], argTypes := #[49, 3] }, type := 3, pos := "step.go:47", after := #[{ on := 74, ground := Ground.data }, { on := 75, ground := Ground.data }, { on := 67, ground := Ground.chain }], guard := none }
abbrev oF77 : Oper := { dst := some 90, op := Op.binOp BinOp.gtr 3 (Operand.tmp 89) (Operand.const (Value.int IntKind.i64 0)) 3, type := 4, pos := "step.go:38", after := #[{ on := 76, ground := Ground.data }], guard := none }
abbrev oF78 : Oper := { dst := some 91, op := Op.build 194 #[(0, Operand.tmp 19), (1, Operand.tmp 26), (2, Operand.tmp 42), (3, Operand.tmp 49), (4, Operand.tmp 57), (5, Operand.tmp 58), (6, Operand.tmp 65), (7, Operand.tmp 82), (8, Operand.tmp 90)], type := 194, pos := "step.go:38", after := #[{ on := 6, ground := Ground.data }, { on := 13, ground := Ground.data }, { on := 29, ground := Ground.data }, { on := 36, ground := Ground.data }, { on := 44, ground := Ground.data }, { on := 45, ground := Ground.data }, { on := 52, ground := Ground.data }, { on := 69, ground := Ground.data }, { on := 77, ground := Ground.data }], guard := none }
abbrev oF79 : Oper := { dst := none, op := Op.store 194 (Operand.tmp 4) (Operand.tmp 91), type := 0, pos := "step.go:38", after := #[{ on := 78, ground := Ground.data }, { on := 76, ground := Ground.chain }, { on := 0, ground := Ground.phase }, { on := 1, ground := Ground.phase }, { on := 2, ground := Ground.phase }, { on := 3, ground := Ground.phase }, { on := 4, ground := Ground.phase }, { on := 5, ground := Ground.phase }, { on := 6, ground := Ground.phase }, { on := 7, ground := Ground.phase }, { on := 8, ground := Ground.phase }, { on := 9, ground := Ground.phase }, { on := 10, ground := Ground.phase }, { on := 11, ground := Ground.phase }, { on := 12, ground := Ground.phase }, { on := 13, ground := Ground.phase }, { on := 14, ground := Ground.phase }, { on := 15, ground := Ground.phase }, { on := 16, ground := Ground.phase }, { on := 17, ground := Ground.phase }, { on := 18, ground := Ground.phase }, { on := 19, ground := Ground.phase }, { on := 20, ground := Ground.phase }, { on := 21, ground := Ground.phase }, { on := 22, ground := Ground.phase }, { on := 23, ground := Ground.phase }, { on := 24, ground := Ground.phase }, { on := 25, ground := Ground.phase }, { on := 26, ground := Ground.phase }, { on := 27, ground := Ground.phase }, { on := 28, ground := Ground.phase }, { on := 29, ground := Ground.phase }, { on := 30, ground := Ground.phase }, { on := 31, ground := Ground.phase }, { on := 32, ground := Ground.phase }, { on := 33, ground := Ground.phase }, { on := 34, ground := Ground.phase }, { on := 35, ground := Ground.phase }, { on := 36, ground := Ground.phase }, { on := 37, ground := Ground.phase }, { on := 38, ground := Ground.phase }, { on := 39, ground := Ground.phase }, { on := 40, ground := Ground.phase }, { on := 41, ground := Ground.phase }, { on := 42, ground := Ground.phase }, { on := 43, ground := Ground.phase }, { on := 44, ground := Ground.phase }, { on := 45, ground := Ground.phase }, { on := 46, ground := Ground.phase }, { on := 47, ground := Ground.phase }, { on := 48, ground := Ground.phase }, { on := 49, ground := Ground.phase }, { on := 50, ground := Ground.phase }, { on := 51, ground := Ground.phase }, { on := 52, ground := Ground.phase }, { on := 53, ground := Ground.phase }, { on := 54, ground := Ground.phase }, { on := 55, ground := Ground.phase }, { on := 56, ground := Ground.phase }, { on := 57, ground := Ground.phase }, { on := 58, ground := Ground.phase }, { on := 59, ground := Ground.phase }, { on := 60, ground := Ground.phase }, { on := 61, ground := Ground.phase }, { on := 62, ground := Ground.phase }, { on := 63, ground := Ground.phase }, { on := 64, ground := Ground.phase }, { on := 65, ground := Ground.phase }, { on := 66, ground := Ground.phase }, { on := 67, ground := Ground.phase }, { on := 68, ground := Ground.phase }, { on := 69, ground := Ground.phase }, { on := 70, ground := Ground.phase }, { on := 71, ground := Ground.phase }, { on := 72, ground := Ground.phase }, { on := 73, ground := Ground.phase }, { on := 74, ground := Ground.phase }, { on := 75, ground := Ground.phase }, { on := 76, ground := Ground.phase }, { on := 77, ground := Ground.phase }, { on := 78, ground := Ground.phase }], guard := none }
section
variable {B : Nat} {w0 : World} {A : List (Nat × List Value × TypeId)} {a : KA} {m m' : Nat} {S S' : KS} {w w' : World}
theorem flg_ret {z : Nat} {x : Cor.Co.Fl} {tmps : Array Value} (h : Blk w z [.bool x.stop, .bool x.held, .bool x.hot, .bool x.act, .bool x.call, .bool x.irq, .bool x.timer, .bool x.work, .bool x.thr] 194) (h2 : tmps.getD 4 undef = .pointer (some ⟨z, 0, none⟩)) :
    (results Tryz.f67 tmps).run Tryz.prog w = .ok (Cor.flv x) w := by
  have q0 : w.cell? ⟨z, 0, none⟩ = some (.bool x.stop) := h.cell 0
  have q1 : w.cell? ⟨z, 1, none⟩ = some (.bool x.held) := h.cell 1
  have q2 : w.cell? ⟨z, 2, none⟩ = some (.bool x.hot) := h.cell 2
  have q3 : w.cell? ⟨z, 3, none⟩ = some (.bool x.act) := h.cell 3
  have q4 : w.cell? ⟨z, 4, none⟩ = some (.bool x.call) := h.cell 4
  have q5 : w.cell? ⟨z, 5, none⟩ = some (.bool x.irq) := h.cell 5
  have q6 : w.cell? ⟨z, 6, none⟩ = some (.bool x.timer) := h.cell 6
  have q7 : w.cell? ⟨z, 7, none⟩ = some (.bool x.work) := h.cell 7
  have q8 : w.cell? ⟨z, 8, none⟩ = some (.bool x.thr) := h.cell 8
  rw [results_one (p := 4) (ty := 194) rfl, h2]
  simp [go_sem, q0, q1, q2, q3, q4, q5, q6, q7, q8, Cor.flv]
set_option maxRecDepth 100000 in
set_option maxHeartbeats 8000000 in
theorem k_flags01 (h : KX B w0 A a m S w) (c : Int) (hR : S.R.isSome = false) (q7 : (0 : Int) < ((Cm.wlL a.n S.wk c).length : Int)) :
    Calls Tryz.prog 67 #[.pointer (some ⟨a.k, 0, none⟩), .int .i64 (c)] w fun e w' => e = .returned (Cor.flv (flags a.n S c)) ∧ KX B w0 A a m S w' := by
  have ne : ∀ x ∈ A, x.1 ≠ w.heap.size := fun x hx => by have := (h.bx x hx).lt; omega
  have hac := h.kb.2.2
  have h0 := h.new [.bool false, .bool false, .bool false, .bool false, .bool false, .bool false, .bool false, .bool false, .bool false] 194
  have CR : Hid (∀ _ : Unit, _) := fun _ => k_ready h0 c
  have C6 : Hid (∀ v, KX B w0 ((w.heap.size, [.bool false, .bool false, .bool false, .bool false, .bool false, .bool false, .bool false, .bool false, .bool false], 194) :: A) a m S v → _) := fun v k => st_must k c
  have C13 : Hid (∀ v, KX B w0 ((w.heap.size, [.bool false, .bool false, .bool false, .bool false, .bool false, .bool false, .bool false, .bool false, .bool false], 194) :: A) a m S v → _) := fun v k => st_held k c
  have C19 : Hid (∀ v, KX B w0 ((w.heap.size, [.bool false, .bool false, .bool false, .bool false, .bool false, .bool false, .bool false, .bool false, .bool false], 194) :: A) a m S v → _) := fun v k => dk_busy k
  have C26 : Hid (∀ v, KX B w0 ((w.heap.size, [.bool false, .bool false, .bool false, .bool false, .bool false, .bool false, .bool false, .bool false, .bool false], 194) :: A) a m S v → _) := fun v k => dk_by k
  have C36 : Hid (∀ v, _) := fun v => khas_any S.ac c v hac
  have C43 : Hid (∀ v, KX B w0 ((w.heap.size, [.bool false, .bool false, .bool false, .bool false, .bool false, .bool false, .bool false, .bool false, .bool false], 194) :: A) a m S v → _) := fun v k => cl_load k c
  have C52 : Hid (∀ v, KX B w0 ((w.heap.size, [.bool false, .bool false, .bool false, .bool false, .bool false, .bool false, .bool false, .bool false, .bool false], 194) :: A) a m S v → _) := fun v k => tm_ready k c
  have C59 : Hid (∀ v, KX B w0 ((w.heap.size, [.bool false, .bool false, .bool false, .bool false, .bool false, .bool false, .bool false, .bool false, .bool false], 194) :: A) a m S v → _) := fun v k => wk_load k c
  have C67 : Hid (∀ v, KX B w0 ((w.heap.size, [.bool false, .bool false, .bool false, .bool false, .bool false, .bool false, .bool false, .bool false, .bool false], 194) :: A) a m S v → _) := fun v k => wk_load k (-1)
  have C76 : Hid (∀ v, KX B w0 ((w.heap.size, [.bool false, .bool false, .bool false, .bool false, .bool false, .bool false, .bool false, .bool false, .bool false], 194) :: A) a m S v → _) := fun v k => rq_load k c
  unfold flags
  generalize (rdyI S c).isSome = b5 at *
  generalize (rdyI S c).getD 0 = r0 at *
  generalize tb S.sl c = b0 at *
  generalize tb S.sh c = b1 at *
  generalize tb S.ac c = b3 at *
  generalize Tim.txR a.n S.now S.t c = b6 at *
  rw [show decide (0 < (Cm.clL S.cl c).length) = decide ((0 : Int) < ((Cm.clL S.cl c).length : Int)) from decide_eq_decide.2 (by omega), show decide (0 < (Cm.wlL a.n S.wk c).length) = decide ((0 : Int) < ((Cm.wlL a.n S.wk c).length : Int)) from decide_eq_decide.2 (by omega), show decide (0 < (Cm.wlL a.n S.wk (-1)).length) = decide ((0 : Int) < ((Cm.wlL a.n S.wk (-1)).length : Int)) from decide_eq_decide.2 (by omega)]
  generalize ((Cm.clL S.cl c).length : Int) = n4 at *
  generalize ((Cm.wlL a.n S.wk c).length : Int) = n7 at *
  generalize ((Cm.wlL a.n S.wk (-1)).length : Int) = n8 at *
  generalize Rqu.loN a.n S.q c = n9 at *
  generalize Hp.cos S.R = co at *
  generalize hb4 : decide ((0 : Int) < n4) = b4
  generalize hb8 : decide ((0 : Int) < n9) = b8
  rw [hR] at C19
  rw [hR]
  simp only [Bool.false_and]
  have d7 : decide ((0 : Int) < n7) = true := decide_eq_true q7
  rw [d7]
  simp only [Bool.true_or]
  go_enter Tryz.func67, Tryz.ntmps67
  go_wp2_with fail
  refine (CR.out ()).mono ?_
  rintro e w1 ⟨rfl, h1⟩
  go_wp2_with fail
  simp only [List.append]
  refine wp_region_K [79] (fun w' => w'.cell? ⟨a.k, 14, none⟩ = some (.pointer (some ⟨a.st, 0, none⟩)) ∧ w'.cell? ⟨a.k, 12, none⟩ = some (.pointer (some ⟨a.dk, 0, none⟩)) ∧ w'.cell? ⟨a.k, 1, none⟩ = some (.int .u64 (S.ac : Int)) ∧ w'.cell? ⟨a.k, 9, none⟩ = some (.pointer (some ⟨a.cl + 3, 0, none⟩)) ∧ w'.cell? ⟨a.k, 5, none⟩ = some (.pointer (some ⟨a.tm, 0, none⟩)) ∧ w'.cell? ⟨a.k, 8, none⟩ = some (.pointer (some ⟨a.wk + 6, 0, none⟩)) ∧ w'.cell? ⟨a.k, 4, none⟩ = some (.pointer (some ⟨a.rq + 2, 0, none⟩))) (by kernel_rfl) (by exact ⟨h1.drew.c14, h1.drew.c12, h1.drew.c1, h1.drew.c9, h1.drew.c5, h1.drew.c8, h1.drew.c4⟩) (fun hHeld => ?_)
  refine pK 0 oF0 hHeld ?_
  refine pK 1 oF1 hHeld ?_
  refine pK 2 oF2 hHeld ?_
  refine pK 3 oF3 hHeld ?_
  refine tK 4 oF4 hHeld ?_
  refine pK 5 oF5 hHeld ?_
  refine pK 7 oF6 hHeld ?_
  refine pK 8 oF7 hHeld ?_
  refine pK 9 oF8 hHeld ?_
  refine pK 10 oF9 hHeld ?_
  refine tK 11 oF10 hHeld ?_
  refine pK 12 oF11 hHeld ?_
  refine pK 14 oF12 hHeld ?_
  refine pK 15 oF13 hHeld ?_
  refine pK 16 oF14 hHeld ?_
  refine pK 17 oF15 hHeld ?_
  refine tK 18 oF16 hHeld ?_
  refine pK 30 oF17 hHeld ?_
  refine pK 31 oF18 hHeld ?_
  refine pK 32 oF19 hHeld ?_
  refine pK 33 oF20 hHeld ?_
  refine tK 34 oF21 hHeld ?_
  refine pK 35 oF22 hHeld ?_
  refine pK 37 oF23 hHeld ?_
  refine pK 38 oF24 hHeld ?_
  refine pK 39 oF25 hHeld ?_
  refine pK 40 oF26 hHeld ?_
  refine tK 41 oF27 hHeld ?_
  refine pK 42 oF28 hHeld ?_
  refine pK 45 oF29 hHeld ?_
  refine pK 46 oF30 hHeld ?_
  refine pK 47 oF31 hHeld ?_
  refine pK 48 oF32 hHeld ?_
  refine pK 49 oF33 hHeld ?_
  refine tK 50 oF34 hHeld ?_
  refine pK 51 oF35 hHeld ?_
  refine pK 53 oF36 hHeld ?_
  refine pK 54 oF37 hHeld ?_
  refine pK 55 oF38 hHeld ?_
  refine pK 56 oF39 hHeld ?_
  refine tK 57 oF40 hHeld ?_
  refine pK 58 oF41 hHeld ?_
  refine pK 70 oF42 hHeld ?_
  refine pK 71 oF43 hHeld ?_
  refine pK 72 oF44 hHeld ?_
  refine pK 73 oF45 hHeld ?_
  refine tK 74 oF46 hHeld ?_
  refine pK 75 oF47 hHeld ?_
  refine wpAnyK_one (i := 6) (by kernel_rfl) (oneK (o := oF48) rfl (fun K hK => ?_))
  go_simp
  refine (C6.out _ (h1.sm ?_)).mono ?_
  exact ⟨rfl, rfl, rfl, rfl⟩
  rintro e w2 ⟨rfl, h2⟩
  (try go_wp2_with fail)
  refine hK.out _ _ ?sb49 (fun hHeld => ?tb49)
  case sb49 => (intro _; exact ⟨h2.c14, h2.c12, h2.c1, h2.c9, h2.c5, h2.c8, h2.c4⟩)
  replace hHeld := hHeld (un_of (by kernel_rfl))
  clear hK K
  try simp only [Act.put, List.setIfInBounds_toArray, List.set_cons_zero, List.set_cons_succ]
  refine wpAnyK_one (i := 13) (by kernel_rfl) (oneK (o := oF49) rfl (fun K hK => ?_))
  go_simp
  refine (C13.out _ (h2.sm ?_)).mono ?_
  exact ⟨rfl, rfl, rfl, rfl⟩
  rintro e w3 ⟨rfl, h3⟩
  (try go_wp2_with fail)
  refine hK.out _ _ ?sb50 (fun hHeld => ?tb50)
  case sb50 => (intro _; exact ⟨h3.c14, h3.c12, h3.c1, h3.c9, h3.c5, h3.c8, h3.c4⟩)
  replace hHeld := hHeld (un_of (by kernel_rfl))
  clear hK K
  try simp only [Act.put, List.setIfInBounds_toArray, List.set_cons_zero, List.set_cons_succ]
  refine wpAnyK_one (i := 19) (by kernel_rfl) (oneK (o := oF50) rfl (fun K hK => ?_))
  go_simp
  refine (C19.out _ (h3.sm ?_)).mono ?_
  exact ⟨rfl, rfl, rfl, rfl⟩
  rintro e w4 ⟨rfl, h4⟩
  (try go_wp2_with fail)
  refine hK.out _ _ ?sb51 (fun hHeld => ?tb51)
  case sb51 => (intro _; exact ⟨h4.c14, h4.c12, h4.c1, h4.c9, h4.c5, h4.c8, h4.c4⟩)
  replace hHeld := hHeld (un_of (by kernel_rfl))
  clear hK K
  try simp only [Act.put, List.setIfInBounds_toArray, List.set_cons_zero, List.set_cons_succ]
  refine pK 20 oF51 hHeld ?_
  refine xK 21 oF52 hHeld ?_
  refine xK 22 oF53 hHeld ?_
  refine xK 23 oF54 hHeld ?_
  refine xK 24 oF55 hHeld ?_
  refine xK 25 oF56 hHeld ?_
  refine xK 26 oF57 hHeld ?_
  refine xK 27 oF58 hHeld ?_
  refine xK 28 oF59 hHeld ?_
  refine pK 29 oF60 hHeld ?_
  refine wpAnyK_one (i := 36) (by kernel_rfl) (oneK (o := oF61) rfl (fun K hK => ?_))
  go_simp
  refine (C36.out _).mono ?_
  rintro e w5 ⟨rfl, rfl⟩
  have h5 := h4
  (try go_wp2_with fail)
  refine hK.out _ _ ?sb62 (fun hHeld => ?tb62)
  case sb62 => (intro _; assumption)
  replace hHeld := hHeld (un_of (by kernel_rfl))
  clear hK K
  try simp only [Act.put, List.setIfInBounds_toArray, List.set_cons_zero, List.set_cons_succ]
  refine wpAnyK_one (i := 43) (by kernel_rfl) (oneK (o := oF62) rfl (fun K hK => ?_))
  go_simp
  refine (C43.out _ (h5.sm ?_)).mono ?_
  exact ⟨rfl, rfl, rfl, rfl⟩
  rintro e w6 ⟨rfl, h6⟩
  (try go_wp2_with fail)
  refine hK.out _ _ ?sb63 (fun hHeld => ?tb63)
  case sb63 => (intro _; exact ⟨h6.c14, h6.c12, h6.c1, h6.c9, h6.c5, h6.c8, h6.c4⟩)
  replace hHeld := hHeld (un_of (by kernel_rfl))
  clear hK K
  try simp only [Act.put, List.setIfInBounds_toArray, List.set_cons_zero, List.set_cons_succ]
  refine pK 44 oF63 hHeld ?_
  refine wpAnyK_one (i := 52) (by kernel_rfl) (oneK (o := oF64) rfl (fun K hK => ?_))
  go_simp
  refine (C52.out _ (h6.sm ?_)).mono ?_
  exact ⟨rfl, rfl, rfl, rfl⟩
  rintro e w7 ⟨rfl, h7⟩
  (try go_wp2_with fail)
  refine hK.out _ _ ?sb65 (fun hHeld => ?tb65)
  case sb65 => (intro _; exact ⟨h7.c14, h7.c12, h7.c1, h7.c9, h7.c5, h7.c8, h7.c4⟩)
  replace hHeld := hHeld (un_of (by kernel_rfl))
  clear hK K
  try simp only [Act.put, List.setIfInBounds_toArray, List.set_cons_zero, List.set_cons_succ]
  refine wpAnyK_one (i := 59) (by kernel_rfl) (oneK (o := oF65) rfl (fun K hK => ?_))
  go_simp
  refine (C59.out _ (h7.sm ?_)).mono ?_
  exact ⟨rfl, rfl, rfl, rfl⟩
  rintro e w8 ⟨rfl, h8⟩
  (try go_wp2_with fail)
  refine hK.out _ _ ?sb66 (fun hHeld => ?tb66)
  case sb66 => (intro _; exact ⟨h8.c14, h8.c12, h8.c1, h8.c9, h8.c5, h8.c8, h8.c4⟩)
  replace hHeld := hHeld (un_of (by kernel_rfl))
  clear hK K
  try simp only [Act.put, List.setIfInBounds_toArray, List.set_cons_zero, List.set_cons_succ]
  refine pK 60 oF66 hHeld ?_
  refine pK 61 oF67 hHeld ?_
  refine xK 62 oF68 hHeld ?_
  refine xK 63 oF69 hHeld ?_
  refine xK 64 oF70 hHeld ?_
  refine xK 65 oF71 hHeld ?_
  refine xK 66 oF72 hHeld ?_
  refine xK 67 oF73 hHeld ?_
  refine xK 68 oF74 hHeld ?_
  refine pK 69 oF75 hHeld ?_
  refine wpAnyK_one (i := 76) (by kernel_rfl) (oneK (o := oF76) rfl (fun K hK => ?_))
  go_simp
  refine (C76.out _ (h8.sm ?_)).mono ?_
  exact ⟨rfl, rfl, rfl, rfl⟩
  rintro e w9 ⟨rfl, h9⟩
  have fz : ∀ j, w9.frozen? ⟨w.heap.size, j, none⟩ = false := fun j => h9.blk.free j
  have x0 : w9.cell? ⟨w.heap.size, 0, none⟩ = some (.bool false) := h9.blk.cell 0
  have x1 : w9.cell? ⟨w.heap.size, 1, none⟩ = some (.bool false) := h9.blk.cell 1
  have x2 : w9.cell? ⟨w.heap.size, 2, none⟩ = some (.bool false) := h9.blk.cell 2
  have x3 : w9.cell? ⟨w.heap.size, 3, none⟩ = some (.bool false) := h9.blk.cell 3
  have x4 : w9.cell? ⟨w.heap.size, 4, none⟩ = some (.bool false) := h9.blk.cell 4
  have x5 : w9.cell? ⟨w.heap.size, 5, none⟩ = some (.bool false) := h9.blk.cell 5
  have x6 : w9.cell? ⟨w.heap.size, 6, none⟩ = some (.bool false) := h9.blk.cell 6
  have x7 : w9.cell? ⟨w.heap.size, 7, none⟩ = some (.bool false) := h9.blk.cell 7
  have x8 : w9.cell? ⟨w.heap.size, 8, none⟩ = some (.bool false) := h9.blk.cell 8
  (try go_wp2_with fail)
  refine hK.out _ _ ?sb77 (fun hHeld => ?tb77)
  case sb77 => (intro _; exact ⟨h9.c14, h9.c12, h9.c1, h9.c9, h9.c5, h9.c8, h9.c4⟩)
  replace hHeld := hHeld (un_of (by kernel_rfl))
  clear hK K
  try simp only [Act.put, List.setIfInBounds_toArray, List.set_cons_zero, List.set_cons_succ]
  refine pK 77 oF77 hHeld ?_
  refine pK 78 oF78 hHeld ?_
  refine wpAnyK_one (i := 79) (by kernel_rfl) (oneK (o := oF79) rfl (fun K hK => ?_))
  go_simp
  (try go_wp2_with fail)
  refine hK.out _ _ ?sb80 (fun hHeld => ?tb80)
  case sb80 => (intro hU; exact absurd hU (un_not (by kernel_rfl)))
  clear hHeld hK K
  try simp only [Act.put, List.setIfInBounds_toArray, List.set_cons_zero, List.set_cons_succ]
  refine wpAnyK_done (by kernel_rfl) ?_ _
  go_wp2
  have H := (((((((((h9.setb ne (Nat.le_trans h.sz (Nat.le_refl _)) 0 (.bool b0)).setb ne (Nat.le_trans h.sz (Nat.le_refl _)) 1 (.bool b1)).setb ne (Nat.le_trans h.sz (Nat.le_refl _)) 2 (.bool false)).setb ne (Nat.le_trans h.sz (Nat.le_refl _)) 3 (.bool b3)).setb ne (Nat.le_trans h.sz (Nat.le_refl _)) 4 (.bool b4)).setb ne (Nat.le_trans h.sz (Nat.le_refl _)) 5 (.bool b5)).setb ne (Nat.le_trans h.sz (Nat.le_refl _)) 6 (.bool b6)).setb ne (Nat.le_trans h.sz (Nat.le_refl _)) 7 (.bool true)).setb ne (Nat.le_trans h.sz (Nat.le_refl _)) 8 (.bool b8))
  exact bodyPost_ret (flg_ret (x := ⟨b0, b1, false, b3, b4, b5, b6, true, b8⟩) H.blk rfl) rfl ⟨rfl, H.drop⟩
set_option maxRecDepth 100000 in
set_option maxHeartbeats 8000000 in
theorem k_flags00 (h : KX B w0 A a m S w) (c : Int) (hR : S.R.isSome = false) (q7 : ¬ (0 : Int) < ((Cm.wlL a.n S.wk c).length : Int)) :
    Calls Tryz.prog 67 #[.pointer (some ⟨a.k, 0, none⟩), .int .i64 (c)] w fun e w' => e = .returned (Cor.flv (flags a.n S c)) ∧ KX B w0 A a m S w' := by
  have ne : ∀ x ∈ A, x.1 ≠ w.heap.size := fun x hx => by have := (h.bx x hx).lt; omega
  have hac := h.kb.2.2
  have h0 := h.new [.bool false, .bool false, .bool false, .bool false, .bool false, .bool false, .bool false, .bool false, .bool false] 194
  have CR : Hid (∀ _ : Unit, _) := fun _ => k_ready h0 c
  have C6 : Hid (∀ v, KX B w0 ((w.heap.size, [.bool false, .bool false, .bool false, .bool false, .bool false, .bool false, .bool false, .bool false, .bool false], 194) :: A) a m S v → _) := fun v k => st_must k c
  have C13 : Hid (∀ v, KX B w0 ((w.heap.size, [.bool false, .bool false, .bool false, .bool false, .bool false, .bool false, .bool false, .bool false, .bool false], 194) :: A) a m S v → _) := fun v k => st_held k c
  have C19 : Hid (∀ v, KX B w0 ((w.heap.size, [.bool false, .bool false, .bool false, .bool false, .bool false, .bool false, .bool false, .bool false, .bool false], 194) :: A) a m S v → _) := fun v k => dk_busy k
  have C26 : Hid (∀ v, KX B w0 ((w.heap.size, [.bool false, .bool false, .bool false, .bool false, .bool false, .bool false, .bool false, .bool false, .bool false], 194) :: A) a m S v → _) := fun v k => dk_by k
  have C36 : Hid (∀ v, _) := fun v => khas_any S.ac c v hac
  have C43 : Hid (∀ v, KX B w0 ((w.heap.size, [.bool false, .bool false, .bool false, .bool false, .bool false, .bool false, .bool false, .bool false, .bool false], 194) :: A) a m S v → _) := fun v k => cl_load k c
  have C52 : Hid (∀ v, KX B w0 ((w.heap.size, [.bool false, .bool false, .bool false, .bool false, .bool false, .bool false, .bool false, .bool false, .bool false], 194) :: A) a m S v → _) := fun v k => tm_ready k c
  have C59 : Hid (∀ v, KX B w0 ((w.heap.size, [.bool false, .bool false, .bool false, .bool false, .bool false, .bool false, .bool false, .bool false, .bool false], 194) :: A) a m S v → _) := fun v k => wk_load k c
  have C67 : Hid (∀ v, KX B w0 ((w.heap.size, [.bool false, .bool false, .bool false, .bool false, .bool false, .bool false, .bool false, .bool false, .bool false], 194) :: A) a m S v → _) := fun v k => wk_load k (-1)
  have C76 : Hid (∀ v, KX B w0 ((w.heap.size, [.bool false, .bool false, .bool false, .bool false, .bool false, .bool false, .bool false, .bool false, .bool false], 194) :: A) a m S v → _) := fun v k => rq_load k c
  unfold flags
  generalize (rdyI S c).isSome = b5 at *
  generalize (rdyI S c).getD 0 = r0 at *
  generalize tb S.sl c = b0 at *
  generalize tb S.sh c = b1 at *
  generalize tb S.ac c = b3 at *
  generalize Tim.txR a.n S.now S.t c = b6 at *
  rw [show decide (0 < (Cm.clL S.cl c).length) = decide ((0 : Int) < ((Cm.clL S.cl c).length : Int)) from decide_eq_decide.2 (by omega), show decide (0 < (Cm.wlL a.n S.wk c).length) = decide ((0 : Int) < ((Cm.wlL a.n S.wk c).length : Int)) from decide_eq_decide.2 (by omega), show decide (0 < (Cm.wlL a.n S.wk (-1)).length) = decide ((0 : Int) < ((Cm.wlL a.n S.wk (-1)).length : Int)) from decide_eq_decide.2 (by omega)]
  generalize ((Cm.clL S.cl c).length : Int) = n4 at *
  generalize ((Cm.wlL a.n S.wk c).length : Int) = n7 at *
  generalize ((Cm.wlL a.n S.wk (-1)).length : Int) = n8 at *
  generalize Rqu.loN a.n S.q c = n9 at *
  generalize Hp.cos S.R = co at *
  generalize hb4 : decide ((0 : Int) < n4) = b4
  generalize hb8 : decide ((0 : Int) < n9) = b8
  rw [hR] at C19
  rw [hR]
  simp only [Bool.false_and]
  have d7 : decide ((0 : Int) < n7) = false := decide_eq_false q7
  rw [d7]
  simp only [Bool.false_or]
  generalize hb7 : decide ((0 : Int) < n8) = b7
  go_enter Tryz.func67, Tryz.ntmps67
  go_wp2_with fail
  refine (CR.out ()).mono ?_
  rintro e w1 ⟨rfl, h1⟩
  go_wp2_with fail
  simp only [List.append]
  refine wp_region_K [79] (fun w' => w'.cell? ⟨a.k, 14, none⟩ = some (.pointer (some ⟨a.st, 0, none⟩)) ∧ w'.cell? ⟨a.k, 12, none⟩ = some (.pointer (some ⟨a.dk, 0, none⟩)) ∧ w'.cell? ⟨a.k, 1, none⟩ = some (.int .u64 (S.ac : Int)) ∧ w'.cell? ⟨a.k, 9, none⟩ = some (.pointer (some ⟨a.cl + 3, 0, none⟩)) ∧ w'.cell? ⟨a.k, 5, none⟩ = some (.pointer (some ⟨a.tm, 0, none⟩)) ∧ w'.cell? ⟨a.k, 8, none⟩ = some (.pointer (some ⟨a.wk + 6, 0, none⟩)) ∧ w'.cell? ⟨a.k, 4, none⟩ = some (.pointer (some ⟨a.rq + 2, 0, none⟩))) (by kernel_rfl) (by exact ⟨h1.drew.c14, h1.drew.c12, h1.drew.c1, h1.drew.c9, h1.drew.c5, h1.drew.c8, h1.drew.c4⟩) (fun hHeld => ?_)
  refine pK 0 oF0 hHeld ?_
  refine pK 1 oF1 hHeld ?_
  refine pK 2 oF2 hHeld ?_
  refine pK 3 oF3 hHeld ?_
  refine tK 4 oF4 hHeld ?_
  refine pK 5 oF5 hHeld ?_
  refine pK 7 oF6 hHeld ?_
  refine pK 8 oF7 hHeld ?_
  refine pK 9 oF8 hHeld ?_
  refine pK 10 oF9 hHeld ?_
  refine tK 11 oF10 hHeld ?_
  refine pK 12 oF11 hHeld ?_
  refine pK 14 oF12 hHeld ?_
  refine pK 15 oF13 hHeld ?_
  refine pK 16 oF14 hHeld ?_
  refine pK 17 oF15 hHeld ?_
  refine tK 18 oF16 hHeld ?_
  refine pK 30 oF17 hHeld ?_
  refine pK 31 oF18 hHeld ?_
  refine pK 32 oF19 hHeld ?_
  refine pK 33 oF20 hHeld ?_
  refine tK 34 oF21 hHeld ?_
  refine pK 35 oF22 hHeld ?_
  refine pK 37 oF23 hHeld ?_
  refine pK 38 oF24 hHeld ?_
  refine pK 39 oF25 hHeld ?_
  refine pK 40 oF26 hHeld ?_
  refine tK 41 oF27 hHeld ?_
  refine pK 42 oF28 hHeld ?_
  refine pK 45 oF29 hHeld ?_
  refine pK 46 oF30 hHeld ?_
  refine pK 47 oF31 hHeld ?_
  refine pK 48 oF32 hHeld ?_
  refine pK 49 oF33 hHeld ?_
  refine tK 50 oF34 hHeld ?_
  refine pK 51 oF35 hHeld ?_
  refine pK 53 oF36 hHeld ?_
  refine pK 54 oF37 hHeld ?_
  refine pK 55 oF38 hHeld ?_
  refine pK 56 oF39 hHeld ?_
  refine tK 57 oF40 hHeld ?_
  refine pK 58 oF41 hHeld ?_
  refine pK 70 oF42 hHeld ?_
  refine pK 71 oF43 hHeld ?_
  refine pK 72 oF44 hHeld ?_
  refine pK 73 oF45 hHeld ?_
  refine tK 74 oF46 hHeld ?_
  refine pK 75 oF47 hHeld ?_
  refine wpAnyK_one (i := 6) (by kernel_rfl) (oneK (o := oF48) rfl (fun K hK => ?_))
  go_simp
  refine (C6.out _ (h1.sm ?_)).mono ?_
  exact ⟨rfl, rfl, rfl, rfl⟩
  rintro e w2 ⟨rfl, h2⟩
  (try go_wp2_with fail)
  refine hK.out _ _ ?sa49 (fun hHeld => ?ta49)
  case sa49 => (intro _; exact ⟨h2.c14, h2.c12, h2.c1, h2.c9, h2.c5, h2.c8, h2.c4⟩)
  replace hHeld := hHeld (un_of (by kernel_rfl))
  clear hK K
  try simp only [Act.put, List.setIfInBounds_toArray, List.set_cons_zero, List.set_cons_succ]
  refine wpAnyK_one (i := 13) (by kernel_rfl) (oneK (o := oF49) rfl (fun K hK => ?_))
  go_simp
  refine (C13.out _ (h2.sm ?_)).mono ?_
  exact ⟨rfl, rfl, rfl, rfl⟩
  rintro e w3 ⟨rfl, h3⟩
  (try go_wp2_with fail)
  refine hK.out _ _ ?sa50 (fun hHeld => ?ta50)
  case sa50 => (intro _; exact ⟨h3.c14, h3.c12, h3.c1, h3.c9, h3.c5, h3.c8, h3.c4⟩)
  replace hHeld := hHeld (un_of (by kernel_rfl))
  clear hK K
  try simp only [Act.put, List.setIfInBounds_toArray, List.set_cons_zero, List.set_cons_succ]
  refine wpAnyK_one (i := 19) (by kernel_rfl) (oneK (o := oF50) rfl (fun K hK => ?_))
  go_simp
  refine (C19.out _ (h3.sm ?_)).mono ?_
  exact ⟨rfl, rfl, rfl, rfl⟩
  rintro e w4 ⟨rfl, h4⟩
  (try go_wp2_with fail)
  refine hK.out _ _ ?sa51 (fun hHeld => ?ta51)
  case sa51 => (intro _; exact ⟨h4.c14, h4.c12, h4.c1, h4.c9, h4.c5, h4.c8, h4.c4⟩)
  replace hHeld := hHeld (un_of (by kernel_rfl))
  clear hK K
  try simp only [Act.put, List.setIfInBounds_toArray, List.set_cons_zero, List.set_cons_succ]
  refine pK 20 oF51 hHeld ?_
  refine xK 21 oF52 hHeld ?_
  refine xK 22 oF53 hHeld ?_
  refine xK 23 oF54 hHeld ?_
  refine xK 24 oF55 hHeld ?_
  refine xK 25 oF56 hHeld ?_
  refine xK 26 oF57 hHeld ?_
  refine xK 27 oF58 hHeld ?_
  refine xK 28 oF59 hHeld ?_
  refine pK 29 oF60 hHeld ?_
  refine wpAnyK_one (i := 36) (by kernel_rfl) (oneK (o := oF61) rfl (fun K hK => ?_))
  go_simp
  refine (C36.out _).mono ?_
  rintro e w5 ⟨rfl, rfl⟩
  have h5 := h4
  (try go_wp2_with fail)
  refine hK.out _ _ ?sa62 (fun hHeld => ?ta62)
  case sa62 => (intro _; assumption)
  replace hHeld := hHeld (un_of (by kernel_rfl))
  clear hK K
  try simp only [Act.put, List.setIfInBounds_toArray, List.set_cons_zero, List.set_cons_succ]
  refine wpAnyK_one (i := 43) (by kernel_rfl) (oneK (o := oF62) rfl (fun K hK => ?_))
  go_simp
  refine (C43.out _ (h5.sm ?_)).mono ?_
  exact ⟨rfl, rfl, rfl, rfl⟩
  rintro e w6 ⟨rfl, h6⟩
  (try go_wp2_with fail)
  refine hK.out _ _ ?sa63 (fun hHeld => ?ta63)
  case sa63 => (intro _; exact ⟨h6.c14, h6.c12, h6.c1, h6.c9, h6.c5, h6.c8, h6.c4⟩)
  replace hHeld := hHeld (un_of (by kernel_rfl))
  clear hK K
  try simp only [Act.put, List.setIfInBounds_toArray, List.set_cons_zero, List.set_cons_succ]
  refine pK 44 oF63 hHeld ?_
  refine wpAnyK_one (i := 52) (by kernel_rfl) (oneK (o := oF64) rfl (fun K hK => ?_))
  go_simp
  refine (C52.out _ (h6.sm ?_)).mono ?_
  exact ⟨rfl, rfl, rfl, rfl⟩
  rintro e w7 ⟨rfl, h7⟩
  (try go_wp2_with fail)
  refine hK.out _ _ ?sa65 (fun hHeld => ?ta65)
  case sa65 => (intro _; exact ⟨h7.c14, h7.c12, h7.c1, h7.c9, h7.c5, h7.c8, h7.c4⟩)
  replace hHeld := hHeld (un_of (by kernel_rfl))
  clear hK K
  try simp only [Act.put, List.setIfInBounds_toArray, List.set_cons_zero, List.set_cons_succ]
  refine wpAnyK_one (i := 59) (by kernel_rfl) (oneK (o := oF65) rfl (fun K hK => ?_))
  go_simp
  refine (C59.out _ (h7.sm ?_)).mono ?_
  exact ⟨rfl, rfl, rfl, rfl⟩
  rintro e w8 ⟨rfl, h8⟩
  (try go_wp2_with fail)
  refine hK.out _ _ ?sa66 (fun hHeld => ?ta66)
  case sa66 => (intro _; exact ⟨h8.c14, h8.c12, h8.c1, h8.c9, h8.c5, h8.c8, h8.c4⟩)
  replace hHeld := hHeld (un_of (by kernel_rfl))
  clear hK K
  try simp only [Act.put, List.setIfInBounds_toArray, List.set_cons_zero, List.set_cons_succ]
  refine pK 60 oF66 hHeld ?_
  refine pK 61 oF67 hHeld ?_
  refine pK 62 oF68 hHeld ?_
  refine pK 63 oF69 hHeld ?_
  refine pK 64 oF70 hHeld ?_
  refine pK 65 oF71 hHeld ?_
  refine tK 66 oF72 hHeld ?_
  refine wpAnyK_one (i := 67) (by kernel_rfl) (oneK (o := oF73) rfl (fun K hK => ?_))
  go_simp
  refine (C67.out _ (h8.sm ?_)).mono ?_
  exact ⟨rfl, rfl, rfl, rfl⟩
  rintro e w9 ⟨rfl, h9⟩
  (try go_wp2_with fail)
  refine hK.out _ _ ?sa74 (fun hHeld => ?ta74)
  case sa74 => (intro _; exact ⟨h9.c14, h9.c12, h9.c1, h9.c9, h9.c5, h9.c8, h9.c4⟩)
  replace hHeld := hHeld (un_of (by kernel_rfl))
  clear hK K
  try simp only [Act.put, List.setIfInBounds_toArray, List.set_cons_zero, List.set_cons_succ]
  refine pK 68 oF74 hHeld ?_
  refine pK 69 oF75 hHeld ?_
  refine wpAnyK_one (i := 76) (by kernel_rfl) (oneK (o := oF76) rfl (fun K hK => ?_))
  go_simp
  refine (C76.out _ (h9.sm ?_)).mono ?_
  exact ⟨rfl, rfl, rfl, rfl⟩
  rintro e w10 ⟨rfl, h10⟩
  have fz : ∀ j, w10.frozen? ⟨w.heap.size, j, none⟩ = false := fun j => h10.blk.free j
  have x0 : w10.cell? ⟨w.heap.size, 0, none⟩ = some (.bool false) := h10.blk.cell 0
  have x1 : w10.cell? ⟨w.heap.size, 1, none⟩ = some (.bool false) := h10.blk.cell 1
  have x2 : w10.cell? ⟨w.heap.size, 2, none⟩ = some (.bool false) := h10.blk.cell 2
  have x3 : w10.cell? ⟨w.heap.size, 3, none⟩ = some (.bool false) := h10.blk.cell 3
  have x4 : w10.cell? ⟨w.heap.size, 4, none⟩ = some (.bool false) := h10.blk.cell 4
  have x5 : w10.cell? ⟨w.heap.size, 5, none⟩ = some (.bool false) := h10.blk.cell 5
  have x6 : w10.cell? ⟨w.heap.size, 6, none⟩ = some (.bool false) := h10.blk.cell 6
  have x7 : w10.cell? ⟨w.heap.size, 7, none⟩ = some (.bool false) := h10.blk.cell 7
  have x8 : w10.cell? ⟨w.heap.size, 8, none⟩ = some (.bool false) := h10.blk.cell 8
  (try go_wp2_with fail)
  refine hK.out _ _ ?sa77 (fun hHeld => ?ta77)
  case sa77 => (intro _; exact ⟨h10.c14, h10.c12, h10.c1, h10.c9, h10.c5, h10.c8, h10.c4⟩)
  replace hHeld := hHeld (un_of (by kernel_rfl))
  clear hK K
  try simp only [Act.put, List.setIfInBounds_toArray, List.set_cons_zero, List.set_cons_succ]
  refine pK 77 oF77 hHeld ?_
  refine pK 78 oF78 hHeld ?_
  refine wpAnyK_one (i := 79) (by kernel_rfl) (oneK (o := oF79) rfl (fun K hK => ?_))
  go_simp
  (try go_wp2_with fail)
  refine hK.out _ _ ?sa80 (fun hHeld => ?ta80)
  case sa80 => (intro hU; exact absurd hU (un_not (by kernel_rfl)))
  clear hHeld hK K
  try simp only [Act.put, List.setIfInBounds_toArray, List.set_cons_zero, List.set_cons_succ]
  refine wpAnyK_done (by kernel_rfl) ?_ _
  go_wp2
  have H := (((((((((h10.setb ne (Nat.le_trans h.sz (Nat.le_refl _)) 0 (.bool b0)).setb ne (Nat.le_trans h.sz (Nat.le_refl _)) 1 (.bool b1)).setb ne (Nat.le_trans h.sz (Nat.le_refl _)) 2 (.bool false)).setb ne (Nat.le_trans h.sz (Nat.le_refl _)) 3 (.bool b3)).setb ne (Nat.le_trans h.sz (Nat.le_refl _)) 4 (.bool b4)).setb ne (Nat.le_trans h.sz (Nat.le_refl _)) 5 (.bool b5)).setb ne (Nat.le_trans h.sz (Nat.le_refl _)) 6 (.bool b6)).setb ne (Nat.le_trans h.sz (Nat.le_refl _)) 7 (.bool b7)).setb ne (Nat.le_trans h.sz (Nat.le_refl _)) 8 (.bool b8))
  exact bodyPost_ret (flg_ret (x := ⟨b0, b1, false, b3, b4, b5, b6, b7, b8⟩) H.blk rfl) rfl ⟨rfl, H.drop⟩
end
end Go.Proofs.YtfipiifickdeiaaGreatDoor.Krn
namespace Go.Proofs.YtfipiifickdeiaaGreatDoor.Krn
open Go.ChangeShapes Go.WideShapes Go.ChangeAt Go.RowKit
open Mm
section
variable {B : Nat} {w0 : World} {A : List (Nat × List Value × TypeId)} {a : KA} {m m' : Nat} {S S' : KS} {w w' : World}
end
end Go.Proofs.YtfipiifickdeiaaGreatDoor.Krn
