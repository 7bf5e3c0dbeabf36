/- A desk of the program as it lies in memory; what its calls that look answer, for every one. -/
import Derived.Test.YtaaikbehdfkhlaaRa
import Derived.Test.YtaaikbehdfkhlaaHp
import Derived.Test.YtaaikbehdfkhlaaHq
namespace Go.Proofs.Ytaaikbehdfkhlaa
open Go.ChangeShapes Go.WideShapes Go.ChangeAt Go.RowKit
open Rm Hp

/-- A request at block q, its run at block b. -/
structure RQ (w : World) (q b : Nat) (r : Rq) (t : Bool) : Prop where
  sb : Blk w q [.pointer (some ⟨b, 0, none⟩), .bool r.up, .int .i64 r.cpu, .int .i64 r.co, .bool t] 72
  rn : RN w b (nn r.up) r.d r.bk
  tel : Tel r t
/-- The desk's request as it lies in memory, in blocks of Z. -/
def PN (w : World) (Z : List Nat) (nv : Value) : Option Rq → Prop
  | none => nv = .pointer none
  | some r => ∃ q b t, nv = .pointer (some ⟨q, 0, none⟩) ∧ RQ w q b r t ∧ q ∈ Z ∧ b ∈ Z
/-- What is planned. -/
def PM (w : World) (Z : List Nat) (mv : Value) (P : Int → Bool) (N : Nat) : Prop :=
  (mv = .map none ∧ ∀ j, P j = false) ∨ ∃ m, mv = .map (some m) ∧ MS w m N P ∧ m ∈ Z
structure PD1 (w : World) (s : Nat) (Z : List Nat) (nv mv : Value) (R : Option Rq) (P : Int → Bool) (N : Nat) : Prop where
  sb : Blk w s [nv, mv] 43
  pn : PN w Z nv R
  pm : PM w Z mv P N
  sz : s ∈ Z
  lt : ∀ k ∈ Z, k < w.heap.size
/-- A desk at block s: all that it has lies in blocks of Z. -/
def PD (w : World) (s : Nat) (Z : List Nat) (R : Option Rq) (P : Int → Bool) (N : Nat) : Prop := ∃ nv mv, PD1 w s Z nv mv R P N
/-- What a call leaves as it was, and where its blocks are from then on. -/
def Mz (w w' : World) (Z Z' : List Nat) : Prop := Fr w.heap.size Z w w' ∧ ∀ k ∈ Z', k ∈ Z ∨ w.heap.size ≤ k

section
variable {w w1 : World} {s : Nat} {Z : List Nat} {nv mv : Value} {R : Option Rq} {P : Int → Bool} {N : Nat}
theorem RQ.keep {q b : Nat} {r : Rq} {t : Bool} {B : Nat} {S : List Nat} (h : RQ w q b r t) (f : Fr B S w w1) (hq : q < B ∧ q ∉ S) (hb : b < B ∧ b ∉ S) : RQ w1 q b r t := ⟨h.sb.keep f hq.1 hq.2, h.rn.keep f hb.1 hb.2, h.tel⟩
theorem PN.keep {B : Nat} {S : List Nat} (h : PN w Z nv R) (f : Fr B S w w1) (hz : ∀ k ∈ Z, k < B ∧ k ∉ S) : PN w1 Z nv R := by
  cases R with
  | none => exact h
  | some r =>
    obtain ⟨q, b, t, e, k, h1, h2⟩ := h
    exact ⟨q, b, t, e, k.keep f (hz q h1) (hz b h2), h1, h2⟩
theorem PN.sub {Z2 : List Nat} (h : PN w Z nv R) (hz : ∀ k ∈ Z, k ∈ Z2) : PN w Z2 nv R := by
  cases R with
  | none => exact h
  | some r =>
    obtain ⟨q, b, t, e, k, h1, h2⟩ := h
    exact ⟨q, b, t, e, k, hz q h1, hz b h2⟩
theorem PM.keep {B : Nat} {S : List Nat} (h : PM w Z mv P N) (f : Fr B S w w1) (hz : ∀ k ∈ Z, k < B ∧ k ∉ S) : PM w1 Z mv P N := by
  rcases h with h | ⟨m, e, k, hm⟩
  · exact Or.inl h
  · exact Or.inr ⟨m, e, k.keep f (hz m hm).1 (hz m hm).2, hm⟩
theorem PM.sub {Z2 : List Nat} (h : PM w Z mv P N) (hz : ∀ k ∈ Z, k ∈ Z2) : PM w Z2 mv P N := by
  rcases h with h | ⟨m, e, k, hm⟩
  · exact Or.inl h
  · exact Or.inr ⟨m, e, k, hz m hm⟩
theorem PD1.keep {B : Nat} {S : List Nat} (h : PD1 w s Z nv mv R P N) (f : Fr B S w w1) (hz : ∀ k ∈ Z, k < B ∧ k ∉ S) : PD1 w1 s Z nv mv R P N :=
  ⟨h.sb.keep f (hz s h.sz).1 (hz s h.sz).2, h.pn.keep f hz, h.pm.keep f hz, h.sz, fun k hk => Nat.lt_of_lt_of_le (h.lt k hk) f.size⟩
theorem PD.keep {B : Nat} {S : List Nat} (h : PD w s Z R P N) (f : Fr B S w w1) (hz : ∀ k ∈ Z, k < B ∧ k ∉ S) : PD w1 s Z R P N := by
  obtain ⟨nv, mv, h⟩ := h
  exact ⟨nv, mv, h.keep f hz⟩
theorem PD.below (h : PD w s Z R P N) (f : Below w.heap.size w w1) : PD w1 s Z R P N := by
  refine h.keep (Fr.of_below f) fun k hk => ⟨?_, by simp⟩
  obtain ⟨_, _, h⟩ := h
  exact h.lt k hk
theorem PD1.c0 (h : PD1 w s Z nv mv R P N) : w.cell? ⟨s, 0, none⟩ = some nv := h.sb.cell 0
theorem PD1.c1 (h : PD1 w s Z nv mv R P N) : w.cell? ⟨s, 1, none⟩ = some mv := h.sb.cell 1
theorem PD1.f0 (h : PD1 w s Z nv mv R P N) : w.frozen? ⟨s, 0, none⟩ = false := h.sb.free 0
theorem PD1.f1 (h : PD1 w s Z nv mv R P N) : w.frozen? ⟨s, 1, none⟩ = false := h.sb.free 1
theorem Mz.refl (w : World) (Z : List Nat) : Mz w w Z Z := ⟨Fr.refl _ _ _, fun _ h => Or.inl h⟩
theorem Mz.of_below {Z2 : List Nat} (f : Below w.heap.size w w1) (h : ∀ k ∈ Z2, k ∈ Z) : Mz w w1 Z Z2 := ⟨(Fr.of_below f).mono (Nat.le_refl _) (by simp), fun k hk => Or.inl (h k hk)⟩
end

section
variable {w : World} {q b : Nat} {r : Rq} {t : Bool}
theorem RQ.c0 (h : RQ w q b r t) : w.cell? ⟨q, 0, none⟩ = some (.pointer (some ⟨b, 0, none⟩)) := h.sb.cell 0
theorem RQ.c1 (h : RQ w q b r t) : w.cell? ⟨q, 1, none⟩ = some (.bool r.up) := h.sb.cell 1
theorem RQ.c2 (h : RQ w q b r t) : w.cell? ⟨q, 2, none⟩ = some (.int .i64 r.cpu) := h.sb.cell 2
theorem RQ.c3 (h : RQ w q b r t) : w.cell? ⟨q, 3, none⟩ = some (.int .i64 r.co) := h.sb.cell 3
theorem RQ.c4 (h : RQ w q b r t) : w.cell? ⟨q, 4, none⟩ = some (.bool t) := h.sb.cell 4
theorem RQ.f4 (h : RQ w q b r t) : w.frozen? ⟨q, 4, none⟩ = false := h.sb.free 4
end

/-- An empty request: where there is none. -/
def er : List Value := [.pointer none, .bool false, .int .i64 0, .int .i64 0, .bool false]
theorem er_new (w : World) : Blk (w.alloc (.cells #[.pointer none, .bool false, .int .i64 0, .int .i64 0, .bool false] 72)) w.heap.size er 72 := Blk.new w er _
theorem hthere_nil (w : World) : Calls Try.prog 42 #[.pointer none] w fun e w' => ∃ z, e = .returned (.tuple #[.pointer (some ⟨z, 0, none⟩), .int .i64 1]) ∧ Blk w' z er 72 ∧ Below w.heap.size w w' := by
  have B : Hid (∀ o, Below w.heap.size w (w.alloc o)) := fun o => (Below.refl _ _).alloc (Nat.le_refl _) o
  have G : Hid _ := er_new w
  go_enter Try.func42, Try.ntmps42
  go_wp2
  go_ret2
  exact ⟨_, rfl, G.out, B.out _⟩
theorem hthere_none {s : Nat} (w : World) (c0 : w.cell? ⟨s, 0, none⟩ = some (.pointer none)) : Calls Try.prog 42 #[.pointer (some ⟨s, 0, none⟩)] w fun e w' => ∃ z, e = .returned (.tuple #[.pointer (some ⟨z, 0, none⟩), .int .i64 12]) ∧ Blk w' z er 72 ∧ Below w.heap.size w w' := by
  have B : Hid (∀ o, Below w.heap.size w (w.alloc o)) := fun o => (Below.refl _ _).alloc (Nat.le_refl _) o
  have G : Hid _ := er_new w
  go_enter Try.func42, Try.ntmps42
  go_wp2
  go_ret2
  exact ⟨_, rfl, G.out, B.out _⟩
theorem hthere_some {s q : Nat} (w : World) (c0 : w.cell? ⟨s, 0, none⟩ = some (.pointer (some ⟨q, 0, none⟩))) : Calls Try.prog 42 #[.pointer (some ⟨s, 0, none⟩)] w fun e w' => e = .returned (.tuple #[.pointer (some ⟨q, 0, none⟩), .int .i64 0]) ∧ w' = w := by
  go_enter Try.func42, Try.ntmps42
  go_wp2
  go_ret2
  exact ⟨rfl, rfl⟩
theorem hcore_any (c : Int) (w : World) : Calls Try.prog 40 #[.int .i64 c] w fun e w' => e = .returned (.bool (isC c)) ∧ w' = w := by
  unfold isC
  by_cases h : 0 ≤ c
  · rw [decide_eq_true h, Bool.true_and]
    by_cases h2 : c < 64
    · rw [decide_eq_true h2]
      go_enter Try.func40, Try.ntmps40
      go_wp2
      go_ret
      exact ⟨rfl, rfl⟩
    · rw [decide_eq_false h2]
      go_enter Try.func40, Try.ntmps40
      go_wp2
      go_ret
      exact ⟨rfl, rfl⟩
  · rw [decide_eq_false h, Bool.false_and]
    go_enter Try.func40, Try.ntmps40
    go_wp2
    go_ret
    exact ⟨rfl, rfl⟩
theorem hstages_any (up : Bool) (w : World) : Calls Try.prog 41 #[.bool up] w fun e w' => e = .returned (.int .i64 ((nn up : Nat) : Int)) ∧ w' = w := by
  cases up
  · rw [show ((nn false : Nat) : Int) = 10 from rfl]
    go_enter Try.func41, Try.ntmps41
    go_wp2
    go_ret
    exact ⟨rfl, rfl⟩
  · rw [show ((nn true : Nat) : Int) = 4 from rfl]
    go_enter Try.func41, Try.ntmps41
    go_wp2
    go_ret
    exact ⟨rfl, rfl⟩
set_option maxHeartbeats 400000 in
theorem hbusy_any {s : Nat} {Z : List Nat} {R : Option Rq} {P : Int → Bool} {N : Nat} (w : World) (h : PD w s Z R P N) :
    Calls Try.prog 32 #[.pointer (some ⟨s, 0, none⟩)] w fun e w' => e = .returned (.bool R.isSome) ∧ Below w.heap.size w w' := by
  obtain ⟨nv, mv, h⟩ := h
  have c0 := h.c0
  have pn := h.pn
  cases R with
  | none =>
    obtain rfl : nv = .pointer none := pn
    have C : Hid (∀ _ : Unit, _) := fun _ => hthere_none w c0
    show Calls _ _ _ _ fun e w' => e = .returned (.bool false) ∧ _
    clear h c0
    go_enter Try.func32, Try.ntmps32
    go_wp2_with fail
    refine (C.out ()).mono ?_
    rintro e w1 ⟨z, rfl, k1, b1⟩
    have B1 : Hid (Below w.heap.size w w1) := b1
    clear k1 b1
    go_wp2
    go_ret
    exact ⟨rfl, B1.out⟩
  | some r =>
    obtain ⟨q, b, t, rfl, k, _, _⟩ := pn
    have C : Hid (∀ _ : Unit, _) := fun _ => hthere_some w c0
    show Calls _ _ _ _ fun e w' => e = .returned (.bool true) ∧ _
    clear h c0 k
    go_enter Try.func32, Try.ntmps32
    go_wp2_with fail
    refine (C.out ()).mono ?_
    rintro e w1 ⟨rfl, rfl⟩
    go_wp2
    go_ret
    exact ⟨rfl, Below.refl _ _⟩
theorem hbusy_nil (w : World) : Calls Try.prog 32 #[.pointer none] w fun e w' => e = .returned (.bool false) ∧ Below w.heap.size w w' := by
  have C : Hid (∀ _ : Unit, _) := fun _ => hthere_nil w
  go_enter Try.func32, Try.ntmps32
  go_wp2_with fail
  refine (C.out ()).mono ?_
  rintro e w1 ⟨z, rfl, k1, b1⟩
  have B1 : Hid (Below w.heap.size w w1) := b1
  clear k1 b1
  go_wp2
  go_ret
  exact ⟨rfl, B1.out⟩
set_option maxHeartbeats 400000 in
theorem hup_any {s : Nat} {Z : List Nat} {R : Option Rq} {P : Int → Bool} {N : Nat} (w : World) (h : PD w s Z R P N) :
    Calls Try.prog 33 #[.pointer (some ⟨s, 0, none⟩)] w fun e w' => e = .returned (.bool (ups R)) ∧ Below w.heap.size w w' := by
  obtain ⟨nv, mv, h⟩ := h
  have c0 := h.c0
  have pn := h.pn
  cases R with
  | none =>
    obtain rfl : nv = .pointer none := pn
    have C : Hid (∀ _ : Unit, _) := fun _ => hthere_none w c0
    show Calls _ _ _ _ fun e w' => e = .returned (.bool false) ∧ _
    clear h c0
    go_enter Try.func33, Try.ntmps33
    go_wp2_with fail
    refine (C.out ()).mono ?_
    rintro e w1 ⟨z, rfl, k1, b1⟩
    have z1 : w1.cell? ⟨z, 1, none⟩ = some (.bool false) := k1.cell 1
    have B1 : Hid (Below w.heap.size w w1) := b1
    clear k1 b1
    go_wp2
    go_ret
    exact ⟨rfl, B1.out⟩
  | some r =>
    obtain ⟨q, b, t, rfl, k, _, _⟩ := pn
    have C : Hid (∀ _ : Unit, _) := fun _ => hthere_some w c0
    show Calls _ _ _ _ fun e w' => e = .returned (.bool r.up) ∧ _
    have d1 := k.c1
    clear h c0 k
    go_enter Try.func33, Try.ntmps33
    go_wp2_with fail
    refine (C.out ()).mono ?_
    rintro e w1 ⟨rfl, rfl⟩
    go_wp2
    go_ret
    exact ⟨rfl, Below.refl _ _⟩
theorem hup_nil (w : World) : Calls Try.prog 33 #[.pointer none] w fun e w' => e = .returned (.bool false) ∧ Below w.heap.size w w' := by
  have C : Hid (∀ _ : Unit, _) := fun _ => hthere_nil w
  go_enter Try.func33, Try.ntmps33
  go_wp2_with fail
  refine (C.out ()).mono ?_
  rintro e w1 ⟨z, rfl, k1, b1⟩
  have z1 : w1.cell? ⟨z, 1, none⟩ = some (.bool false) := k1.cell 1
  have B1 : Hid (Below w.heap.size w w1) := b1
  clear k1 b1
  go_wp2
  go_ret
  exact ⟨rfl, B1.out⟩
set_option maxHeartbeats 400000 in
theorem hcpu_any {s : Nat} {Z : List Nat} {R : Option Rq} {P : Int → Bool} {N : Nat} (w : World) (h : PD w s Z R P N) :
    Calls Try.prog 34 #[.pointer (some ⟨s, 0, none⟩)] w fun e w' => e = .returned (.int .i64 (cps R)) ∧ Below w.heap.size w w' := by
  obtain ⟨nv, mv, h⟩ := h
  have c0 := h.c0
  have pn := h.pn
  cases R with
  | none =>
    obtain rfl : nv = .pointer none := pn
    have C : Hid (∀ _ : Unit, _) := fun _ => hthere_none w c0
    show Calls _ _ _ _ fun e w' => e = .returned (.int .i64 0) ∧ _
    clear h c0
    go_enter Try.func34, Try.ntmps34
    go_wp2_with fail
    refine (C.out ()).mono ?_
    rintro e w1 ⟨z, rfl, k1, b1⟩
    have z2 : w1.cell? ⟨z, 2, none⟩ = some (.int .i64 0) := k1.cell 2
    have B1 : Hid (Below w.heap.size w w1) := b1
    clear k1 b1
    go_wp2
    go_ret
    exact ⟨rfl, B1.out⟩
  | some r =>
    obtain ⟨q, b, t, rfl, k, _, _⟩ := pn
    have C : Hid (∀ _ : Unit, _) := fun _ => hthere_some w c0
    show Calls _ _ _ _ fun e w' => e = .returned (.int .i64 r.cpu) ∧ _
    have d2 := k.c2
    clear h c0 k
    go_enter Try.func34, Try.ntmps34
    go_wp2_with fail
    refine (C.out ()).mono ?_
    rintro e w1 ⟨rfl, rfl⟩
    go_wp2
    go_ret
    exact ⟨rfl, Below.refl _ _⟩
theorem hcpu_nil (w : World) : Calls Try.prog 34 #[.pointer none] w fun e w' => e = .returned (.int .i64 0) ∧ Below w.heap.size w w' := by
  have C : Hid (∀ _ : Unit, _) := fun _ => hthere_nil w
  go_enter Try.func34, Try.ntmps34
  go_wp2_with fail
  refine (C.out ()).mono ?_
  rintro e w1 ⟨z, rfl, k1, b1⟩
  have z2 : w1.cell? ⟨z, 2, none⟩ = some (.int .i64 0) := k1.cell 2
  have B1 : Hid (Below w.heap.size w w1) := b1
  clear k1 b1
  go_wp2
  go_ret
  exact ⟨rfl, B1.out⟩
set_option maxHeartbeats 400000 in
theorem hby_any {s : Nat} {Z : List Nat} {R : Option Rq} {P : Int → Bool} {N : Nat} (w : World) (h : PD w s Z R P N) :
    Calls Try.prog 35 #[.pointer (some ⟨s, 0, none⟩)] w fun e w' => e = .returned (.int .i64 (cos R)) ∧ Below w.heap.size w w' := by
  obtain ⟨nv, mv, h⟩ := h
  have c0 := h.c0
  have pn := h.pn
  cases R with
  | none =>
    obtain rfl : nv = .pointer none := pn
    have C : Hid (∀ _ : Unit, _) := fun _ => hthere_none w c0
    show Calls _ _ _ _ fun e w' => e = .returned (.int .i64 0) ∧ _
    clear h c0
    go_enter Try.func35, Try.ntmps35
    go_wp2_with fail
    refine (C.out ()).mono ?_
    rintro e w1 ⟨z, rfl, k1, b1⟩
    have z3 : w1.cell? ⟨z, 3, none⟩ = some (.int .i64 0) := k1.cell 3
    have B1 : Hid (Below w.heap.size w w1) := b1
    clear k1 b1
    go_wp2
    go_ret
    exact ⟨rfl, B1.out⟩
  | some r =>
    obtain ⟨q, b, t, rfl, k, _, _⟩ := pn
    have C : Hid (∀ _ : Unit, _) := fun _ => hthere_some w c0
    show Calls _ _ _ _ fun e w' => e = .returned (.int .i64 r.co) ∧ _
    have d3 := k.c3
    clear h c0 k
    go_enter Try.func35, Try.ntmps35
    go_wp2_with fail
    refine (C.out ()).mono ?_
    rintro e w1 ⟨rfl, rfl⟩
    go_wp2
    go_ret
    exact ⟨rfl, Below.refl _ _⟩
theorem hby_nil (w : World) : Calls Try.prog 35 #[.pointer none] w fun e w' => e = .returned (.int .i64 0) ∧ Below w.heap.size w w' := by
  have C : Hid (∀ _ : Unit, _) := fun _ => hthere_nil w
  go_enter Try.func35, Try.ntmps35
  go_wp2_with fail
  refine (C.out ()).mono ?_
  rintro e w1 ⟨z, rfl, k1, b1⟩
  have z3 : w1.cell? ⟨z, 3, none⟩ = some (.int .i64 0) := k1.cell 3
  have B1 : Hid (Below w.heap.size w w1) := b1
  clear k1 b1
  go_wp2
  go_ret
  exact ⟨rfl, B1.out⟩
set_option maxHeartbeats 400000 in
theorem hover_any {s : Nat} {Z : List Nat} {R : Option Rq} {P : Int → Bool} {N : Nat} (w : World) (h : PD w s Z R P N) :
    Calls Try.prog 36 #[.pointer (some ⟨s, 0, none⟩)] w fun e w' => e = .returned (.bool (rov R)) ∧ Below w.heap.size w w' := by
  obtain ⟨nv, mv, h⟩ := h
  have c0 := h.c0
  have pn := h.pn
  cases R with
  | none =>
    obtain rfl : nv = .pointer none := pn
    have C : Hid (∀ _ : Unit, _) := fun _ => hthere_none w c0
    have A : Hid (∀ w, _) := fun w => gnil_at w
    show Calls _ _ _ _ fun e w' => e = .returned (.bool false) ∧ _
    clear h c0
    go_enter Try.func36, Try.ntmps36
    go_wp2_with fail
    refine (C.out ()).mono ?_
    rintro e w1 ⟨z, rfl, k1, b1⟩
    have z0 : w1.cell? ⟨z, 0, none⟩ = some (.pointer none) := k1.cell 0
    have B1 : Hid (Below w.heap.size w w1) := b1
    clear k1 b1
    go_wp2_with fail
    refine (A.out _).mono ?_
    rintro e w2 ⟨rfl, rfl⟩
    go_wp2
    go_ret
    exact ⟨rfl, B1.out⟩
  | some r =>
    obtain ⟨q, b, t, rfl, k, _, _⟩ := pn
    have C : Hid (∀ _ : Unit, _) := fun _ => hthere_some w c0
    have A : Hid (∀ _ : Unit, _) := fun _ => gat_any w k.rn
    show Calls _ _ _ _ fun e w' => e = .returned (.bool (ov (nn r.up) r.d r.bk)) ∧ _
    generalize ov (nn r.up) r.d r.bk = y at *
    generalize atK (nn r.up) r.d r.bk = x at *
    have d0 := k.c0
    clear h c0 k
    go_enter Try.func36, Try.ntmps36
    go_wp2_with fail
    refine (C.out ()).mono ?_
    rintro e w1 ⟨rfl, rfl⟩
    go_wp2_with fail
    refine (A.out ()).mono ?_
    rintro e w2 ⟨rfl, m2⟩
    have M2 : Hid (Below w1.heap.size w1 w2) := m2.below (Below.refl _ _)
    clear m2
    go_wp2
    go_ret
    exact ⟨rfl, M2.out⟩
theorem hover_nil (w : World) : Calls Try.prog 36 #[.pointer none] w fun e w' => e = .returned (.bool false) ∧ Below w.heap.size w w' := by
  have C : Hid (∀ _ : Unit, _) := fun _ => hthere_nil w
  have A : Hid (∀ w, _) := fun w => gnil_at w
  go_enter Try.func36, Try.ntmps36
  go_wp2_with fail
  refine (C.out ()).mono ?_
  rintro e w1 ⟨z, rfl, k1, b1⟩
  have z0 : w1.cell? ⟨z, 0, none⟩ = some (.pointer none) := k1.cell 0
  have B1 : Hid (Below w.heap.size w w1) := b1
  clear k1 b1
  go_wp2_with fail
  refine (A.out _).mono ?_
  rintro e w2 ⟨rfl, rfl⟩
  go_wp2
  go_ret
  exact ⟨rfl, B1.out⟩
end Go.Proofs.Ytaaikbehdfkhlaa
