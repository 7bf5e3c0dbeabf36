/- What timer's Move answers and leaves. -/
import Derived.Test.YtadaghhgmflfdaaDoorRows
import Derived.Test.YtadaghhgmflfdaaDoorZf
import Derived.WalkKit
import Derived.ProofKit
import Derived.OpenShut
import Derived.BigQuiet
namespace Go.Proofs.YtadaghhgmflfdaaDoor
open Go.ChangeShapes Go.WideShapes Go.ChangeAt Go.RowKit
open Wm Zm Sl

theorem WW.tks {w : World} {s : Nat} {now : Int} {L : List It} {F : List Nat} (h : WW w s now L F) : Tks L := by
  obtain ⟨mp, V, h, rfl⟩ := h
  exact h.tks

/-- What is left when one moves. -/
def mvK (K : Ks) (f t : Nat) (x : It) : Ks := up (up K t (ins x (K t))) f (rid x.2 (K f))
theorem mv_swap (K : Ks) {f t : Nat} (hn : f ≠ t) (x : It) : up (up K f (rid x.2 (K f))) t (ins x (up K f (rid x.2 (K f)) t)) = mvK K f t x := by
  funext j
  unfold mvK
  rw [up_other _ (fun e => hn e.symm)]
  by_cases e1 : j = t
  · subst e1
    rw [up_same, up_other _ (fun e => hn e.symm), up_same]
  · rw [up_other _ e1]
    by_cases e2 : j = f
    · subst e2
      rw [up_same, up_same]
    · rw [up_other _ e2, up_other _ e2, up_other _ e1]
theorem al_mv {n : Nat} {K : Ks} (h : Al n K) {f t : Nat} (hf : f < n) (ht : t < n) (hn : f ≠ t) {x : It} (hx : x ∈ K f) :
    Al n (mvK K f t x) ∧ ∀ j, onc n (mvK K f t x) j = if j = x.2 then some t else onc n K j := by
  have ho : onc n K x.2 = some f := (onc_iff h).2 ⟨hf, has_of hx⟩
  obtain ⟨a1, e1⟩ := al_rid h hf ho
  have hr := h.rg f hf x.2 (has_of hx)
  obtain ⟨a2, e2⟩ := al_ins a1 ht x.1 (id := x.2) (by rw [e1, if_pos rfl]) hr.1 hr.2
  have e3 := mv_swap K hn x
  rw [show ((x.1, x.2) : It) = x from rfl, e3] at a2 e2
  refine ⟨a2, fun j => ?_⟩
  rw [e2, e1]
  by_cases q : j = x.2
  · rw [if_pos q, if_pos q]
  · rw [if_neg q, if_neg q, if_neg q]

theorem move_range {w : World} {t n : Nat} {now : Int} {K : Ks} {F : List Nat} (c d : Int) (hc : ¬ (isC n c ∧ isC n d)) (h : TX w t n now K F) :
    Calls Tryd.prog 24 #[.pointer (some ⟨t, 0, none⟩), .int .i64 c, .int .i64 d] w fun e w' => e = .returned (.tuple #[.int .i64 0, .int .i64 3]) ∧ w' = w := by
  obtain ⟨sb, sg, tb, mb, S, G, W, O, b, a, o, rfl⟩ := h
  by_cases h1 : isC n c
  · have h2 : ¬ isC n d := fun q => hc ⟨h1, q⟩
    obtain ⟨k, rfl, hk⟩ := core_of h1
    have ON : Hid (∀ _ : Unit, _) := fun _ => on_yes (S := S) k (by omega) b.c1 (b.cw hk)
    have O2 : Hid (∀ _ : Unit, _) := fun _ => on_no d h2 b.c1
    generalize S k = s at *
    clear b a o hc h1 h2 hk
    go_enter Tryd.func24, Tryd.ntmps24
    go_wp2_with fail
    refine (ON.out ()).mono ?_
    rintro e w' ⟨rfl, rfl⟩
    go_wp2_with fail
    refine (O2.out ()).mono ?_
    rintro e w' ⟨rfl, rfl⟩
    go_wp2
    go_ret2
    exact ⟨rfl, rfl⟩
  · have ON : Hid (∀ _ : Unit, _) := fun _ => on_no c h1 b.c1
    clear b a o hc h1
    go_enter Tryd.func24, Tryd.ntmps24
    go_wp2_with fail
    refine (ON.out ()).mono ?_
    rintro e w' ⟨rfl, rfl⟩
    go_wp2
    go_ret2
    exact ⟨rfl, rfl⟩

theorem move_arg {w : World} {t n : Nat} {now : Int} {K : Ks} {F : List Nat} (k : Nat) (hk : k < n) (h : TX w t n now K F) :
    Calls Tryd.prog 24 #[.pointer (some ⟨t, 0, none⟩), .int .i64 (k : Int), .int .i64 (k : Int)] w fun e w' => e = .returned (.tuple #[.int .i64 0, .int .i64 2]) ∧ w' = w := by
  obtain ⟨sb, sg, tb, mb, S, G, W, O, b, a, o, rfl⟩ := h
  have ON : Hid (∀ _ : Unit, _) := fun _ => on_yes (S := S) k (by omega) b.c1 (b.cw hk)
  generalize S k = s at *
  clear b a o hk
  go_enter Tryd.func24, Tryd.ntmps24
  go_wp2_with fail
  refine (ON.out ()).mono ?_
  rintro e w' ⟨rfl, rfl⟩
  go_wp2_with fail
  refine (ON.out ()).mono ?_
  rintro e w' ⟨rfl, rfl⟩
  go_wp2
  go_ret2
  exact ⟨rfl, rfl⟩

theorem move_none {w : World} {t n : Nat} {now : Int} {K : Ks} {F : List Nat} (k j : Nat) (hk : k < n) (hj : j < n) (hn : k ≠ j) (h : TX w t n now K F) (hd : K k = []) :
    Calls Tryd.prog 24 #[.pointer (some ⟨t, 0, none⟩), .int .i64 (k : Int), .int .i64 (j : Int)] w fun e w' => e = .returned (.tuple #[.int .i64 0, .int .i64 12]) ∧ ∃ F', TX w' t n now K F' ∧ Mv w w' F F' := by
  have hx := h
  obtain ⟨sb, sg, tb, mb, S, G, W, O, b, a, o, rfl⟩ := h
  have ON : Hid (∀ _ : Unit, _) := fun _ => on_yes (S := S) k (by omega) b.c1 (b.cw hk)
  have O2 : Hid (∀ _ : Unit, _) := fun _ => on_yes (S := S) j (by omega) b.c1 (b.cw hj)
  have LI : Hid (∀ _ : Unit, _) := fun _ => list_any (b.ws k hk) (Nat.le_trans (a.len hk) (by omega))
  rw [hd] at LI
  have ST : Hid (∀ w', Below w.heap.size w w' → ∃ F', TX w' t n now K F' ∧ Mv w w' (foot t sb sg tb mb n G) F') := fun w' k => ⟨_, hx.below k, Mv.below k _⟩
  have ne : ((k : Int) == (j : Int)) = false := by simp; omega
  generalize S k = s at *
  generalize S j = s2 at *
  clear b a o hk hj hd hx hn
  go_enter Tryd.func24, Tryd.ntmps24
  go_wp2_with fail
  refine (ON.out ()).mono ?_
  rintro e w' ⟨rfl, rfl⟩
  go_wp2_with fail
  refine (O2.out ()).mono ?_
  rintro e w' ⟨rfl, rfl⟩
  go_wp2_with fail
  refine (LI.out ()).mono ?_
  rintro e w1 ⟨v, rfl, g⟩
  have FF : Hid _ := ST.out w1 g.bel
  obtain ⟨p, c', rfl⟩ := own_shape g.own
  clear g
  go_wp2
  go_ret2
  exact ⟨rfl, FF.out⟩

theorem move_end {w : World} {t sb sg tb mb n : Nat} {S : Nat → Nat} {K : Ks} {G : Nat → List Nat} {W : List Nat} {O : Nat → Bool} {now : Int} {k j : Nat} {x : It} (a : Al n K) (o : ∀ i, 1 ≤ i → i ≤ 48 → O i = oc n K i) (hk : k < n) (hj : j < n) (hn : k ≠ j) (hx : x ∈ K k)
    (b : TB w t sb sg tb mb n (upd (upd (fun _ => now) j now) k now) S (mvK K k j x) G W O (if (cq n K x.2).isSome = true then cnt (oc n K) else cnt (oc n K) + 1) (fun i => if i = x.2 then some (j : Int) else cq n K i)) :
    TX w t n now (mvK K k j x) (foot t sb sg tb mb n G) := by
  rw [upd_id, upd_id] at b
  obtain ⟨a2, e2⟩ := al_mv a hk hj hn hx
  have ho : onc n K x.2 = some k := (onc_iff a).2 ⟨hk, has_of hx⟩
  have e3 : ∀ i, oc n K i = oc n (mvK K k j x) i := fun i => by
    unfold oc
    rw [e2]
    by_cases q : (i : Int) = x.2
    · rw [if_pos q, q, ho]; rfl
    · rw [if_neg q]
  have e4 : (fun i => if i = x.2 then some (j : Int) else cq n K i) = cq n (mvK K k j x) := funext fun i => by
    unfold cq
    rw [e2]
    split <;> rfl
  have e5 : (cq n K x.2).isSome = true := by unfold cq; rw [ho]; rfl
  rw [if_pos e5, e4, cnt_ext e3] at b
  exact ⟨sb, sg, tb, mb, S, G, W, O, b, a2, fun i i1 i2 => by rw [o i i1 i2, e3], rfl⟩

set_option maxRecDepth 100000 in
set_option maxHeartbeats 2000000 in
theorem move_yes {w : World} {t n : Nat} {now : Int} {K : Ks} {F : List Nat} (k j : Nat) (hk : k < n) (hj : j < n) (hn : k ≠ j) (h : TX w t n now K F) {x : It} {R : List It} (hd : K k = x :: R) :
    Calls Tryd.prog 24 #[.pointer (some ⟨t, 0, none⟩), .int .i64 (k : Int), .int .i64 (j : Int)] w fun e w' => e = .returned (.tuple #[.int .i64 x.2, .int .i64 0]) ∧ ∃ F', TX w' t n now (mvK K k j x) F' ∧ Mv w w' F F' := by
  obtain ⟨sb, sg, tb, mb, S, G, W, O, b, a, o, rfl⟩ := h
  have ON : Hid (∀ _ : Unit, _) := fun _ => on_yes (S := S) k (by omega) b.c1 (b.cw hk)
  have O2 : Hid (∀ _ : Unit, _) := fun _ => on_yes (S := S) j (by omega) b.c1 (b.cw hj)
  have LI : Hid (∀ _ : Unit, _) := fun _ => list_any (b.ws k hk) (Nat.le_trans (a.len hk) (by omega))
  have hx : x ∈ K k := by rw [hd]; simp
  have hr := a.rg k hk x.2 (has_of hx)
  have wfx : (Lit.int .i64 x.2).wf = true := wf_small _ (by omega) (by omega)
  have n2 := b.n2
  have hT : isT x.1 := (b.ws k hk).tks x hx
  have wx : wn (K k) x.2 = some x.1 := wn_some (a.uni k hk) hx
  have hno : has (K j) x.2 = false := by
    cases e : has (K j) x.2 with
    | false => rfl
    | true => exact absurd (a.one k j hk hj x.2 (has_of hx) e) hn
  have no : ¬ (wn (K j) x.2).isSome = true := by rw [show (wn (K j) x.2).isSome = false from hno]; decide
  have hpos : 1 ≤ (ids (K k)).length := by rw [hd]; simp [ids]
  have hlen : (ids (K k)).length ≤ 48 := by unfold ids; rw [List.length_map]; exact a.len hk
  have CC : Hid (∀ w1 v, Gt w w1 v (ids (K k)) → ∃ g cap, v = .slice (some ⟨g, 0, none⟩) (ids (K k)).length cap ∧ w1.cell? ⟨g, 0, none⟩ = some (.int .i64 x.2) ∧
      Hid (Calls Tryd.prog 42 #[.pointer (some ⟨S k, 0, none⟩), .int .i64 x.2] w1 fun e w' => e = .returned (.tuple #[.int .i64 x.1, .bool true]) ∧ w' = w1) ∧
      Hid (Calls Tryd.prog 50 #[.pointer (some ⟨S j, 0, none⟩), .int .i64 x.2, .int .i64 x.1] w1 fun e w2 => e = .returned (.int .i64 0) ∧ w2.cell? ⟨t, 2, none⟩ = some (.map (some mb)) ∧ ∃ w3, (Instr.mapUpdate 68 (.map (some mb)) (.int .i64 x.2) (.int .i64 (j : Int))).run Tryd.prog w2 = .ok () w3 ∧
        Hid (Calls Tryd.prog 51 #[.pointer (some ⟨S k, 0, none⟩), .int .i64 x.2] w3 fun e w4 => e = .returned (.int .i64 0) ∧ ∃ F', TX w4 t n now (mvK K k j x) F' ∧ Mv w w4 (foot t sb sg tb mb n G) F'))) := fun w1 v gt => by
    rcases gt.own.2 with ⟨_, hn⟩ | ⟨g, cap, cur, hv, hb, hh, _⟩
    · omega
    · have cy : w1.cell? ⟨g, 0, none⟩ = some (.int .i64 x.2) := by
        have := gt.own
        subst hv
        have := this.cellAt 0 (by omega)
        rw [this, hd]
        rfl
      have b1 := b.keep (Fr.of_below gt.bel) (Nat.le_refl _) (by simp)
      refine ⟨g, cap, hv, cy, ?_, ?_⟩
      · refine (when_any x.2 wfx (b1.ws k hk)).mono ?_
        rintro e w' ⟨rfl, rfl⟩
        refine ⟨?_, rfl⟩
        unfold whN whB
        rw [wx]
        rfl
      · refine (add_any x.2 x.1 wfx (b1.ws j hj) (Nat.le_trans (a.len hj) (by omega))).mono ?_
        rintro e w2 ⟨rfl, F2, q2, v2⟩
        unfold adL at q2
        rw [if_pos hT, if_neg no] at q2
        obtain ⟨b2, m2⟩ := b1.wheel hj q2 v2
        obtain ⟨w3, r3, M3, f3⟩ := mq_put (tm := 68) Tryd.underlying3 Tryd.underlying68 b2.mp (Nat.le_trans (cnt_le _) (by omega)) (id := x.2) wfx (c := (j : Int)) (wf_small _ (by omega) (by omega))
        obtain ⟨b3, m3⟩ := b2.map M3 f3
        have q3 := b3.ws k hk
        rw [up_other _ hn, upd_id] at q3
        refine ⟨?_, b2.c2, w3, r3, (drop_any x.2 wfx q3 (Nat.le_trans (a.len hk) (by omega))).mono ?_⟩
        · unfold adE
          rw [if_pos hT, if_neg no]
        · rintro e w4 ⟨rfl, F4, q4, v4⟩
          obtain ⟨b4, m4⟩ := b3.wheel hk q4 v4
          refine ⟨?_, _, move_end a o hk hj hn hx b4, (((Mv.below gt.bel _).trans m2).trans m3).trans m4⟩
          unfold dpE
          rw [wx]
          rfl
  have ne : ((k : Int) == (j : Int)) = false := by simp; omega
  generalize (ids (K k)) = D at *
  generalize D.length = ln at *
  generalize S k = s at *
  generalize S j = s2 at *
  generalize hy : x.2 = y at *
  generalize hy1 : x.1 = y1 at *
  have hl2 : (ln : Int) ≤ 48 := by omega
  have hp1 : 0 < ln := by omega
  have hp2 : ¬ ln = 0 := by omega
  have hp3 : ((ln : Int) == 0) = false := by simpa using hp2
  clear b a o hk hj hd hx hn wfx wx hno no hT hr n2 hpos hlen hy hy1
  go_enter Tryd.func24, Tryd.ntmps24
  go_wp2_with fail
  refine (ON.out ()).mono ?_
  rintro e w' ⟨rfl, rfl⟩
  go_wp2_with fail
  refine (O2.out ()).mono ?_
  rintro e w' ⟨rfl, rfl⟩
  go_wp2_with fail
  refine (LI.out ()).mono ?_
  rintro e w1 ⟨v, rfl, gt⟩
  obtain ⟨g, cap, rfl, cy, WN, AD⟩ := CC.out w1 v gt
  clear gt CC LI
  go_wp2_with fail
  refine WN.out.mono ?_
  rintro e w' ⟨rfl, rfl⟩
  go_wp2_with fail
  refine AD.out.mono ?_
  rintro e w2 ⟨rfl, d2, w3, r3, DR⟩
  go_wp2_with fail
  refine DR.out.mono ?_
  rintro e w4 ⟨rfl, FF⟩
  have FH : Hid _ := FF
  clear FF
  go_wp2
  go_ret2
  exact ⟨rfl, FH.out⟩

/-- What Move answers and leaves. -/
def moN (n : Nat) (K : Ks) (c d : Int) : Int := if isC n c ∧ isC n d then (if c = d then 0 else match K c.toNat with | [] => 0 | x :: _ => x.2) else 0
def moE (n : Nat) (K : Ks) (c d : Int) : Int := if isC n c ∧ isC n d then (if c = d then 2 else match K c.toNat with | [] => 12 | _ :: _ => 0) else 3
def moK (n : Nat) (K : Ks) (c d : Int) : Ks := if isC n c ∧ isC n d then (if c = d then K else match K c.toNat with | [] => K | x :: _ => mvK K c.toNat d.toNat x) else K
theorem move_any {w : World} {t n : Nat} {now : Int} {K : Ks} {F : List Nat} (c d : Int) (h : TX w t n now K F) :
    Calls Tryd.prog 24 #[.pointer (some ⟨t, 0, none⟩), .int .i64 c, .int .i64 d] w fun e w' => e = .returned (.tuple #[.int .i64 (moN n K c d), .int .i64 (moE n K c d)]) ∧ ∃ F', TX w' t n now (moK n K c d) F' ∧ Mv w w' F F' := by
  unfold moN moE moK
  by_cases hc : isC n c ∧ isC n d
  · rw [if_pos hc, if_pos hc, if_pos hc]
    obtain ⟨k, rfl, hk⟩ := core_of hc.1
    obtain ⟨j, rfl, hj⟩ := core_of hc.2
    by_cases e : (k : Int) = j
    · rw [if_pos e, if_pos e, if_pos e]
      obtain rfl : k = j := by omega
      refine (move_arg k hk h).mono ?_
      rintro e w' ⟨rfl, rfl⟩
      exact ⟨rfl, F, h, Mv.refl _ _⟩
    · rw [if_neg e, if_neg e, if_neg e, Int.toNat_natCast, Int.toNat_natCast]
      cases hd : K k with
      | nil => exact move_none k j hk hj (by omega) h hd
      | cons x R => exact move_yes k j hk hj (by omega) h hd
  · rw [if_neg hc, if_neg hc, if_neg hc]
    refine (move_range c d hc h).mono ?_
    rintro e w' ⟨rfl, rfl⟩
    exact ⟨rfl, F, h, Mv.refl _ _⟩

/-- What Fire answers and leaves. -/
def fxN (n : Nat) (now : Int) (K : Ks) (c : Int) : Int := if isC n c then fiN now (K c.toNat) else 0
def fxE (n : Nat) (now : Int) (K : Ks) (c : Int) : Int := if isC n c then fiE now (K c.toNat) else 3
def fxK (n : Nat) (now : Int) (K : Ks) (c : Int) : Ks := if isC n c then fiK now K c.toNat else K
theorem fire_any {w : World} {t n : Nat} {now : Int} {K : Ks} {F : List Nat} (c : Int) (h : TX w t n now K F) :
    Calls Tryd.prog 26 #[.pointer (some ⟨t, 0, none⟩), .int .i64 c] w fun e w' => e = .returned (.tuple #[.int .i64 (fxN n now K c), .int .i64 (fxE n now K c)]) ∧ ∃ F', TX w' t n now (fxK n now K c) F' ∧ Mv w w' F F' := by
  unfold fxN fxE fxK
  by_cases hc : isC n c
  · rw [if_pos hc, if_pos hc, if_pos hc]
    obtain ⟨k, rfl, hk⟩ := core_of hc
    rw [Int.toNat_natCast]
    unfold fiN fiE fiK
    cases hd : duL now (K k) with
    | nil => exact fire_none k hk h hd
    | cons x R => exact fire_yes k hk h hd
  · rw [if_neg hc, if_neg hc, if_neg hc]
    refine (fire_range c hc h).mono ?_
    rintro e w' ⟨rfl, rfl⟩
    exact ⟨rfl, F, h, Mv.refl _ _⟩
end Go.Proofs.YtadaghhgmflfdaaDoor
