/- What timer's Arm answers and leaves. -/
import Derived.Test.YtadaghhgmflfdaaDoorRows
import Derived.Test.YtadaghhgmflfdaaDoorZb
import Derived.Test.YtadaghhgmflfdaaDoorWj
import Derived.WalkKit
import Derived.ProofKit
import Derived.OpenShut
import Derived.BigQuiet
namespace Go.Proofs.YtadaghhgmflfdaaDoor
open Go.ChangeShapes Go.WideShapes Go.ChangeAt Go.RowKit
open Wm Zm Sl

theorem arm_range {w : World} {t n : Nat} {now : Int} {K : Ks} {F : List Nat} (c d : Int) (hc : ¬ isC n c) (h : TX w t n now K F) :
    Calls Tryd.prog 23 #[.pointer (some ⟨t, 0, none⟩), .int .i64 c, .int .i64 d] w fun e w' => e = .returned (.tuple #[.int .i64 0, .int .i64 3]) ∧ w' = w := by
  obtain ⟨sb, sg, tb, mb, S, G, W, O, b, a, o, rfl⟩ := h
  have ON : Hid (∀ _ : Unit, _) := fun _ => on_no c hc b.c1
  clear b a o hc
  go_enter Tryd.func23, Tryd.ntmps23
  go_wp2_with fail
  refine (ON.out ()).mono ?_
  rintro e w' ⟨rfl, rfl⟩
  go_wp2
  go_ret2
  exact ⟨rfl, rfl⟩

theorem arm_arg {w : World} {t n : Nat} {now : Int} {K : Ks} {F : List Nat} (c : Nat) (d : Int) (hc : c < n) (hd : ¬ isT d) (h : TX w t n now K F) :
    Calls Tryd.prog 23 #[.pointer (some ⟨t, 0, none⟩), .int .i64 (c : Int), .int .i64 d] w fun e w' => e = .returned (.tuple #[.int .i64 0, .int .i64 2]) ∧ w' = w := by
  obtain ⟨sb, sg, tb, mb, S, G, W, O, b, a, o, rfl⟩ := h
  have ON : Hid (∀ _ : Unit, _) := fun _ => on_yes (S := S) c (by omega) b.c1 (b.cw hc)
  generalize S c = s at *
  clear b a o hc
  unfold isT at hd
  by_cases q : d < 0
  · go_enter Tryd.func23, Tryd.ntmps23
    go_wp2_with fail
    refine (ON.out ()).mono ?_
    rintro e w' ⟨rfl, rfl⟩
    go_wp2
    go_ret2
    exact ⟨rfl, rfl⟩
  · have q2 : 1152921504606846976 < d := by omega
    go_enter Tryd.func23, Tryd.ntmps23
    go_wp2_with fail
    refine (ON.out ()).mono ?_
    rintro e w' ⟨rfl, rfl⟩
    go_wp2
    go_ret2
    exact ⟨rfl, rfl⟩

theorem arm_full {w : World} {t n : Nat} {now : Int} {K : Ks} {F : List Nat} (c : Nat) (d : Int) (hc : c < n) (hd : isT d) (h : TX w t n now K F) (ht : Tab w) (hf : ff 48 (oc n K) = none) :
    Calls Tryd.prog 23 #[.pointer (some ⟨t, 0, none⟩), .int .i64 (c : Int), .int .i64 d] w fun e w' => e = .returned (.tuple #[.int .i64 0, .int .i64 5]) ∧ ∃ F', TX w' t n now K F' ∧ Mv w w' F F' := by
  obtain ⟨sb, sg, tb, mb, S, G, W, O, b, a, o, rfl⟩ := h
  have ON : Hid (∀ _ : Unit, _) := fun _ => on_yes (S := S) c (by omega) b.c1 (b.cw hc)
  have TK : Hid (∀ _ : Unit, _) := fun _ => take_any w b.sl ht
  rw [ff_ext 48 o, hf] at TK
  unfold tN tE tO at TK
  dsimp only at TK
  have ST : Hid (∀ w', (∃ W', T w' sb sg 48 W' O) → Fr w.heap.size [sb, sg] w w' → ∃ F', TX w' t n now K F' ∧ Mv w w' (foot t sb sg tb mb n G) F') := fun w' ⟨W', q⟩ f => by
    obtain ⟨b2, v2⟩ := b.slot q f
    exact ⟨_, ⟨sb, sg, tb, mb, S, G, W', O, b2, a, o, rfl⟩, v2⟩
  have c0 := b.c0
  generalize S c = s at *
  obtain ⟨d0, d1⟩ := hd
  clear b a o hc hf ht
  go_enter Tryd.func23, Tryd.ntmps23
  go_wp2_with fail
  refine (ON.out ()).mono ?_
  rintro e w' ⟨rfl, rfl⟩
  go_wp2_with fail
  refine (TK.out ()).mono ?_
  rintro e w2 ⟨rfl, q, f⟩
  have FF : Hid _ := ST.out w2 q f
  clear q f
  go_wp2
  go_ret2
  exact ⟨rfl, FF.out⟩

theorem arm_end {w : World} {t sb sg tb mb n : Nat} {S : Nat → Nat} {K : Ks} {G : Nat → List Nat} {W : List Nat} {O : Nat → Bool} {now d : Int} {c i : Nat} (a : Al n K) (o : ∀ i, 1 ≤ i → i ≤ 48 → O i = oc n K i) (hc : c < n) (hf : ff 48 (oc n K) = some i)
    (b : TB w t sb sg tb mb n (upd (fun _ => now) c now) S (up K c (ins (d, ((i + 1 : Nat) : Int)) (K c))) G W (st O (i + 1) true) (if (cq n K ((i + 1 : Nat) : Int)).isSome = true then cnt (oc n K) else cnt (oc n K) + 1) (fun j => if j = ((i + 1 : Nat) : Int) then some (c : Int) else cq n K j)) :
    TX w t n now (up K c (ins (d, ((i + 1 : Nat) : Int)) (K c))) (foot t sb sg tb mb n G) := by
  rw [upd_id] at b
  obtain ⟨i1, i2⟩ := ff_spec hf
  have hn : onc n K ((i + 1 : Nat) : Int) = none := by
    unfold oc at i2
    cases e : onc n K ((i + 1 : Nat) : Int) with
    | none => rfl
    | some z => rw [e] at i2; cases i2
  obtain ⟨a2, e2⟩ := al_ins a hc d hn (by omega) (by omega)
  have h2 : oc n (up K c (ins (d, ((i + 1 : Nat) : Int)) (K c))) (i + 1) = true := by unfold oc; rw [e2, if_pos rfl]; rfl
  have h3 : ∀ j, j ≠ i + 1 → oc n (up K c (ins (d, ((i + 1 : Nat) : Int)) (K c))) j = oc n K j := fun j hj => by unfold oc; rw [e2, if_neg (by omega)]
  have e3 := cnt_in (by omega) (by omega) h3 h2 i2
  have e4 : (fun j => if j = ((i + 1 : Nat) : Int) then some (c : Int) else cq n K j) = cq n (up K c (ins (d, ((i + 1 : Nat) : Int)) (K c))) := funext fun j => by
    unfold cq
    rw [e2]
    split <;> rfl
  rw [cq_none.2 hn, e4] at b
  rw [if_neg (by simp), ← e3] at b
  refine ⟨sb, sg, tb, mb, S, G, W, _, b, a2, fun j j1 j2 => ?_, rfl⟩
  unfold st
  by_cases q : j = i + 1
  · rw [if_pos q, q, h2]
  · rw [if_neg q, o j j1 j2, h3 j q]

set_option maxRecDepth 100000 in
set_option maxHeartbeats 1000000 in
theorem arm_yes {w : World} {t n : Nat} {now : Int} {K : Ks} {F : List Nat} (c : Nat) (d : Int) (hc : c < n) (hd : isT d) (h : TX w t n now K F) (ht : Tab w) {i : Nat} (hf : ff 48 (oc n K) = some i) :
    Calls Tryd.prog 23 #[.pointer (some ⟨t, 0, none⟩), .int .i64 (c : Int), .int .i64 d] w fun e w' => e = .returned (.tuple #[.int .i64 ((i + 1 : Nat) : Int), .int .i64 0]) ∧ ∃ F', TX w' t n now (up K c (ins (d, ((i + 1 : Nat) : Int)) (K c))) F' ∧ Mv w w' F F' := by
  obtain ⟨sb, sg, tb, mb, S, G, W, O, b, a, o, rfl⟩ := h
  obtain ⟨i1, i2⟩ := ff_spec hf
  have ON : Hid (∀ _ : Unit, _) := fun _ => on_yes (S := S) c (by omega) b.c1 (b.cw hc)
  have TK : Hid (∀ _ : Unit, _) := fun _ => take_any w b.sl ht
  rw [ff_ext 48 o, hf] at TK
  unfold tN tE tO at TK
  dsimp only at TK
  have n2 := b.n2
  have hn : onc n K ((i + 1 : Nat) : Int) = none := by
    unfold oc at i2
    cases e : onc n K ((i + 1 : Nat) : Int) with
    | none => rfl
    | some z => rw [e] at i2; cases i2
  have hno := onc_none.1 hn c hc
  have ST : Hid (∀ w1, (∃ W', T w1 sb sg 48 W' (st O (i + 1) true)) → Fr w.heap.size [sb, sg] w w1 → w1.cell? ⟨t, 2, none⟩ = some (.map (some mb)) ∧ ∃ w2, (Instr.mapUpdate 68 (.map (some mb)) (.int .i64 ((i + 1 : Nat) : Int)) (.int .i64 (c : Int))).run Tryd.prog w1 = .ok () w2 ∧ Hid (Calls Tryd.prog 50 #[.pointer (some ⟨S c, 0, none⟩), .int .i64 ((i + 1 : Nat) : Int), .int .i64 d] w2 fun e w' => e = .returned (.int .i64 0) ∧ ∃ F', TX w' t n now (up K c (ins (d, ((i + 1 : Nat) : Int)) (K c))) F' ∧ Mv w w' (foot t sb sg tb mb n G) F')) := fun w1 ⟨W', q⟩ f => by
    obtain ⟨b1, v1⟩ := b.slot q f
    obtain ⟨w2, r2, M2, f2⟩ := mq_put (tm := 68) Tryd.underlying3 Tryd.underlying68 b1.mp (Nat.le_trans (cnt_le _) (by omega)) (id := ((i + 1 : Nat) : Int)) (wf_small _ (by omega) (by omega)) (c := (c : Int)) (wf_small _ (by omega) (by omega))
    obtain ⟨b2, v2⟩ := b1.map M2 f2
    refine ⟨b1.c2, w2, r2, (add_any ((i + 1 : Nat) : Int) d (wf_small _ (by omega) (by omega)) (b2.ws c hc) (Nat.le_trans (a.len hc) (by omega))).mono ?_⟩
    rintro e w3 ⟨rfl, F', q3, v3⟩
    have no : ¬ (wn (K c) ((i + 1 : Nat) : Int)).isSome = true := by rw [show (wn (K c) ((i + 1 : Nat) : Int)).isSome = false from hno]; decide
    unfold adL at q3
    rw [if_pos hd, if_neg no] at q3
    obtain ⟨b3, v4⟩ := b2.wheel hc q3 v3
    refine ⟨?_, _, arm_end a o hc hf b3, (v1.trans v2).trans v4⟩
    unfold adE
    rw [if_pos hd, if_neg no]
  have c0 := b.c0
  generalize S c = s at *
  obtain ⟨d0, d1⟩ := hd
  clear b a o hc hf ht hn hno n2 i1 i2
  generalize ((i + 1 : Nat) : Int) = id at *
  generalize st O (i + 1) true = O' at *
  go_enter Tryd.func23, Tryd.ntmps23
  go_wp2_with fail
  refine (ON.out ()).mono ?_
  rintro e w' ⟨rfl, rfl⟩
  go_wp2_with fail
  refine (TK.out ()).mono ?_
  rintro e w1 ⟨rfl, q, f⟩
  obtain ⟨e2, w2, r2, AD⟩ := ST.out w1 q f
  clear q f ST
  go_wp2_with fail
  refine AD.out.mono ?_
  rintro e w3 ⟨rfl, FF⟩
  have FH : Hid _ := FF
  clear FF
  go_wp2
  go_ret2
  exact ⟨rfl, FH.out⟩

/-- What Arm answers. -/
def arN (n : Nat) (K : Ks) (c d : Int) : Int := if isC n c then (if isT d then tN (ff 48 (oc n K)) else 0) else 0
def arE (n : Nat) (K : Ks) (c d : Int) : Int := if isC n c then (if isT d then tE (ff 48 (oc n K)) else 2) else 3
def arL (n : Nat) (K : Ks) (c d : Int) : Ks := if isC n c then (if isT d then arK n K c.toNat d else K) else K
theorem arm_any {w : World} {t n : Nat} {now : Int} {K : Ks} {F : List Nat} (c d : Int) (h : TX w t n now K F) (ht : Tab w) :
    Calls Tryd.prog 23 #[.pointer (some ⟨t, 0, none⟩), .int .i64 c, .int .i64 d] w fun e w' => e = .returned (.tuple #[.int .i64 (arN n K c d), .int .i64 (arE n K c d)]) ∧ ∃ F', TX w' t n now (arL n K c d) F' ∧ Mv w w' F F' := by
  unfold arN arE arL
  by_cases hc : isC n c
  · rw [if_pos hc, if_pos hc, if_pos hc]
    obtain ⟨k, rfl⟩ : ∃ k : Nat, c = k := ⟨c.toNat, by have := hc.1; omega⟩
    have hk : k < n := by have := hc.2; omega
    by_cases hd : isT d
    · rw [if_pos hd, if_pos hd, if_pos hd]
      unfold arK
      cases hf : ff 48 (oc n K) with
      | none => exact arm_full k d hk hd h ht hf
      | some i => exact arm_yes k d hk hd h ht hf
    · rw [if_neg hd, if_neg hd, if_neg hd]
      refine (arm_arg k d hk hd h).mono ?_
      rintro e w' ⟨rfl, rfl⟩
      exact ⟨rfl, F, h, Mv.refl _ _⟩
  · rw [if_neg hc, if_neg hc, if_neg hc]
    refine (arm_range c d hc h).mono ?_
    rintro e w' ⟨rfl, rfl⟩
    exact ⟨rfl, F, h, Mv.refl _ _⟩
end Go.Proofs.YtadaghhgmflfdaaDoor
