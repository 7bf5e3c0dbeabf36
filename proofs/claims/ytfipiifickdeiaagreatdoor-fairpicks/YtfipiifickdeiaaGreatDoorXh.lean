/- The texts Rm Ra Hp Hq Hr Hs Ht of one layer, laid together. -/
import Derived.Test.YtfipiifickdeiaaGreatDoorRows
import Derived.Test.YtfipiifickdeiaaGreatDoorXa
import Derived.WalkKit
import Derived.ProofKit
import Derived.OpenShut
import Derived.BigQuiet
import Derived.Maps.OwnSet
import Derived.Carry
import Derived.WalkSpells
namespace Go.Proofs.YtfipiifickdeiaaGreatDoor.Rm
/-- Of n stages d are done; it goes back or not: is it over? -/
def ov (n d : Nat) (bk : Bool) : Bool := if bk then d == 0 else d == n
/-- The stage that is next. -/
def atK (n d : Nat) (bk : Bool) : Nat := if bk then d - 1 else if d == n then 0 else d
def dnD (n d : Nat) (bk : Bool) : Nat := if ov n d bk then d else if bk then d - 1 else d + 1
end Go.Proofs.YtfipiifickdeiaaGreatDoor.Rm
namespace Go.Proofs.YtfipiifickdeiaaGreatDoor.Hot
open Go.ChangeShapes Go.WideShapes Go.ChangeAt Go.RowKit
open Rm
/-- A run at block b: of n stages d are done; it goes back, or not. -/
structure RN (w : World) (b n d : Nat) (bk : Bool) : Prop where
  sb : Blk w b [.int .i64 (n : Int), .int .i64 (d : Int), .bool bk] 299
  n1 : 1 ≤ n
  n2 : n ≤ 64
  dn : d ≤ n
section
variable {w w1 : World} {b n d : Nat} {bk : Bool}
theorem RN.c0 (q : RN w b n d bk) : w.cell? ⟨b, 0, none⟩ = some (.int .i64 (n : Int)) := q.sb.cell 0
theorem RN.c1 (q : RN w b n d bk) : w.cell? ⟨b, 1, none⟩ = some (.int .i64 (d : Int)) := q.sb.cell 1
theorem RN.c2 (q : RN w b n d bk) : w.cell? ⟨b, 2, none⟩ = some (.bool bk) := q.sb.cell 2
theorem RN.f1 (q : RN w b n d bk) : w.frozen? ⟨b, 1, none⟩ = false := q.sb.free 1
theorem RN.f2 (q : RN w b n d bk) : w.frozen? ⟨b, 2, none⟩ = false := q.sb.free 2
theorem RN.heap (q : RN w b n d bk) (e : w1.heap = w.heap) : RN w1 b n d bk := ⟨q.sb.heap e, q.n1, q.n2, q.dn⟩
theorem RN.keep {B : Nat} {S : List Nat} (q : RN w b n d bk) (k : Fr B S w w1) (hb : b < B) (hs : b ∉ S) : RN w1 b n d bk := ⟨q.sb.keep k hb hs, q.n1, q.n2, q.dn⟩
end
theorem gnew_any (n : Nat) (w : World) (h1 : (1 : Int) ≤ n) (h2 : (n : Int) ≤ 64) :
    Calls Tryz.prog 352 #[.int .i64 (n : Int)] w fun e w' => e = .returned (.tuple #[.pointer (some ⟨w.heap.size, 0, none⟩), .int .i64 0]) ∧ RN w' w.heap.size n 0 false ∧ Below w.heap.size w w' := by
  have B : Hid (∀ o, Below w.heap.size w (w.alloc o)) := fun o => (Below.refl _ _).alloc (Nat.le_refl _) o
  have G : Hid (RN (w.alloc (.cells #[.int .i64 (n : Int), .int .i64 0, .bool false] 299)) w.heap.size n 0 false) := ⟨Blk.new w [.int .i64 (n : Int), .int .i64 0, .bool false] _, by omega, by omega, by omega⟩
  go_enter Tryz.func352, Tryz.ntmps352
  go_wp2
  go_ret2
  exact ⟨rfl, G.out, B.out _⟩
end Go.Proofs.YtfipiifickdeiaaGreatDoor.Hot
namespace Go.Proofs.YtfipiifickdeiaaGreatDoor.Hp
open Hot
open Rm
/-- A request: its kind, its core, by whose steps; how many of its stages are done, whether it goes back, whether the next one was told. -/
structure Rq where
  up : Bool
  cpu : Int
  co : Int
  d : Nat
  bk : Bool
  told : Bool
def nn (up : Bool) : Nat := if up then 4 else 10
def isC (c : Int) : Bool := decide (0 ≤ c) && decide (c < 64)
def plE (k : Int) : Int := if 0 ≤ k ∧ k < 10 then 0 else 3
def plP (P : Int → Bool) (k : Int) : Int → Bool := if 0 ≤ k ∧ k < 10 then fun j => decide (j = k) || P j else P
def beE (R : Option Rq) (c y : Int) : Int := match R with
  | some _ => 7
  | none => if isC c && isC y then (if c = y then 2 else 0) else 3
def beR (R : Option Rq) (up : Bool) (c y : Int) : Option Rq := if beE R c y = 0 then some ⟨up, c, y, 0, false, false⟩ else R
def ups : Option Rq → Bool | some r => r.up | none => false
def cps : Option Rq → Int | some r => r.cpu | none => 0
def cos : Option Rq → Int | some r => r.co | none => 0
def rov : Option Rq → Bool | some r => ov (nn r.up) r.d r.bk | none => false
/-- The stage that is next fails. -/
def fls (P : Int → Bool) (r : Rq) : Bool := !ov (nn r.up) r.d r.bk && !r.bk && P r.d && !r.told
def nxE : Option Rq → Int | some r => (if ov (nn r.up) r.d r.bk then 6 else 0) | none => 12
def nxK : Option Rq → Nat | some r => atK (nn r.up) r.d r.bk | none => 0
def nxU : Option Rq → Bool | some r => !ov (nn r.up) r.d r.bk && r.bk | none => false
def nxF (P : Int → Bool) : Option Rq → Bool | some r => fls P r | none => false
def nxr (P : Int → Bool) (r : Rq) : Rq := if ov (nn r.up) r.d r.bk || r.bk then r else ⟨r.up, r.cpu, r.co, r.d, fls P r, true⟩
def nxR (P : Int → Bool) : Option Rq → Option Rq | some r => some (nxr P r) | none => none
def nxP (P : Int → Bool) : Option Rq → Int → Bool | some r => (if fls P r then fun j => !decide (j = (r.d : Int)) && P j else P) | none => P
def doR : Option Rq → Option Rq | some r => some ⟨r.up, r.cpu, r.co, dnD (nn r.up) r.d r.bk, r.bk, false⟩ | none => none
def enE : Option Rq → Int | some r => (if ov (nn r.up) r.d r.bk then 0 else 6) | none => 12
def enW : Option Rq → Int | some r => (if ov (nn r.up) r.d r.bk then (if r.bk then 11 else 0) else 0) | none => 0
def enR : Option Rq → Option Rq | some r => (if ov (nn r.up) r.d r.bk then none else some r) | none => none
/-- What is kept of whether the next stage was told: it matters where it goes forward. -/
def Tel (r : Rq) (t : Bool) : Prop := r.bk = false → r.d < nn r.up → t = r.told
end Go.Proofs.YtfipiifickdeiaaGreatDoor.Hp
namespace Go.Proofs.YtfipiifickdeiaaGreatDoor.Hot
open Go.ChangeShapes Go.WideShapes Go.ChangeAt Go.RowKit
/-- The set at block b, of N entries at most, is f. -/
def MS (w : World) (b N : Nat) (f : Int → Bool) : Prop :=
  ∃ D : DataW Unit, w.ownsMap Tryz.prog 3 unitElem b N D ∧ ∀ id, (Lit.int .i64 id).wf = true → Maps.has D (.int .i64 id) = f id
section
variable {w w' : World} {b N : Nat} {f : Int → Bool}
theorem MS.lt (h : MS w b N f) : b < w.heap.size := by obtain ⟨D, o, _⟩ := h; exact o.lt
theorem MS.same (h : MS w b N f) (e : w'.heap[b]? = w.heap[b]?) : MS w' b N f := by
  obtain ⟨D, ⟨es, clock, hb, rest⟩, k⟩ := h
  exact ⟨D, ⟨es, clock, e.trans hb, rest⟩, k⟩
theorem MS.keep {B : Nat} {S : List Nat} (h : MS w b N f) (k : Fr B S w w') (hb : b < B) (hs : b ∉ S) : MS w' b N f := h.same (k.block b hb hs)
theorem MS.blk (h : MS w b N f) {g : Nat} {cs : List Value} {t : TypeId} (k : Blk w g cs t) : b ≠ g := by
  intro e
  subst e
  obtain ⟨D, ⟨es, clock, hb, _⟩, _⟩ := h
  have := (show w.heap[b]? = _ from k).symm.trans hb
  cases this
end
end Go.Proofs.YtfipiifickdeiaaGreatDoor.Hot
namespace Go.Proofs.YtfipiifickdeiaaGreatDoor.Hot
open Go.ChangeShapes Go.WideShapes Go.ChangeAt Go.RowKit
open Rm Hp
/-- A request at block q, its run at block b. -/
structure RQ (w : World) (q b : Nat) (r : Rq) (t : Bool) : Prop where
  sb : Blk w q [.pointer (some ⟨b, 0, none⟩), .bool r.up, .int .i64 r.cpu, .int .i64 r.co, .bool t] 231
  rn : RN w b (nn r.up) r.d r.bk
  tel : Tel r t
/-- The desk's request as it lies in memory, in blocks of Z. -/
def PN (w : World) (Z : List Nat) (nv : Value) : Option Rq → Prop
  | none => nv = .pointer none
  | some r => ∃ q b t, nv = .pointer (some ⟨q, 0, none⟩) ∧ RQ w q b r t ∧ q ∈ Z ∧ b ∈ Z
/-- What is planned. -/
def PM (w : World) (Z : List Nat) (mv : Value) (P : Int → Bool) (N : Nat) : Prop :=
  (mv = .map none ∧ ∀ j, P j = false) ∨ ∃ m, mv = .map (some m) ∧ MS w m N P ∧ m ∈ Z
structure PD1 (w : World) (s : Nat) (Z : List Nat) (nv mv : Value) (R : Option Rq) (P : Int → Bool) (N : Nat) : Prop where
  sb : Blk w s [nv, mv] 71
  pn : PN w Z nv R
  pm : PM w Z mv P N
  sz : s ∈ Z
  lt : ∀ k ∈ Z, k < w.heap.size
/-- A desk at block s: all that it has lies in blocks of Z. -/
def PD (w : World) (s : Nat) (Z : List Nat) (R : Option Rq) (P : Int → Bool) (N : Nat) : Prop := ∃ nv mv, PD1 w s Z nv mv R P N
/-- What a call leaves as it was, and where its blocks are from then on. -/
def Mz (w w' : World) (Z Z' : List Nat) : Prop := Fr w.heap.size Z w w' ∧ ∀ k ∈ Z', k ∈ Z ∨ w.heap.size ≤ k
section
variable {w w1 : World} {s : Nat} {Z : List Nat} {nv mv : Value} {R : Option Rq} {P : Int → Bool} {N : Nat}
theorem RQ.keep {q b : Nat} {r : Rq} {t : Bool} {B : Nat} {S : List Nat} (h : RQ w q b r t) (f : Fr B S w w1) (hq : q < B ∧ q ∉ S) (hb : b < B ∧ b ∉ S) : RQ w1 q b r t := ⟨h.sb.keep f hq.1 hq.2, h.rn.keep f hb.1 hb.2, h.tel⟩
theorem PN.keep {B : Nat} {S : List Nat} (h : PN w Z nv R) (f : Fr B S w w1) (hz : ∀ k ∈ Z, k < B ∧ k ∉ S) : PN w1 Z nv R := by
  cases R with
  | none => exact h
  | some r =>
    obtain ⟨q, b, t, e, k, h1, h2⟩ := h
    exact ⟨q, b, t, e, k.keep f (hz q h1) (hz b h2), h1, h2⟩
theorem PN.sub {Z2 : List Nat} (h : PN w Z nv R) (hz : ∀ k ∈ Z, k ∈ Z2) : PN w Z2 nv R := by
  cases R with
  | none => exact h
  | some r =>
    obtain ⟨q, b, t, e, k, h1, h2⟩ := h
    exact ⟨q, b, t, e, k, hz q h1, hz b h2⟩
theorem PM.keep {B : Nat} {S : List Nat} (h : PM w Z mv P N) (f : Fr B S w w1) (hz : ∀ k ∈ Z, k < B ∧ k ∉ S) : PM w1 Z mv P N := by
  rcases h with h | ⟨m, e, k, hm⟩
  · exact Or.inl h
  · exact Or.inr ⟨m, e, k.keep f (hz m hm).1 (hz m hm).2, hm⟩
theorem PM.sub {Z2 : List Nat} (h : PM w Z mv P N) (hz : ∀ k ∈ Z, k ∈ Z2) : PM w Z2 mv P N := by
  rcases h with h | ⟨m, e, k, hm⟩
  · exact Or.inl h
  · exact Or.inr ⟨m, e, k, hz m hm⟩
theorem PD1.keep {B : Nat} {S : List Nat} (h : PD1 w s Z nv mv R P N) (f : Fr B S w w1) (hz : ∀ k ∈ Z, k < B ∧ k ∉ S) : PD1 w1 s Z nv mv R P N :=
  ⟨h.sb.keep f (hz s h.sz).1 (hz s h.sz).2, h.pn.keep f hz, h.pm.keep f hz, h.sz, fun k hk => Nat.lt_of_lt_of_le (h.lt k hk) f.size⟩
theorem PD.keep {B : Nat} {S : List Nat} (h : PD w s Z R P N) (f : Fr B S w w1) (hz : ∀ k ∈ Z, k < B ∧ k ∉ S) : PD w1 s Z R P N := by
  obtain ⟨nv, mv, h⟩ := h
  exact ⟨nv, mv, h.keep f hz⟩
theorem PD.below (h : PD w s Z R P N) (f : Below w.heap.size w w1) : PD w1 s Z R P N := by
  refine h.keep (Fr.of_below f) fun k hk => ⟨?_, by simp⟩
  obtain ⟨_, _, h⟩ := h
  exact h.lt k hk
theorem PD1.c0 (h : PD1 w s Z nv mv R P N) : w.cell? ⟨s, 0, none⟩ = some nv := h.sb.cell 0
theorem PD1.c1 (h : PD1 w s Z nv mv R P N) : w.cell? ⟨s, 1, none⟩ = some mv := h.sb.cell 1
theorem PD1.f1 (h : PD1 w s Z nv mv R P N) : w.frozen? ⟨s, 1, none⟩ = false := h.sb.free 1
theorem Mz.refl (w : World) (Z : List Nat) : Mz w w Z Z := ⟨Fr.refl _ _ _, fun _ h => Or.inl h⟩
theorem Mz.of_below {Z2 : List Nat} (f : Below w.heap.size w w1) (h : ∀ k ∈ Z2, k ∈ Z) : Mz w w1 Z Z2 := ⟨(Fr.of_below f).mono (Nat.le_refl _) (by simp), fun k hk => Or.inl (h k hk)⟩
end
section
variable {w : World} {q b : Nat} {r : Rq} {t : Bool}
theorem RQ.c0 (h : RQ w q b r t) : w.cell? ⟨q, 0, none⟩ = some (.pointer (some ⟨b, 0, none⟩)) := h.sb.cell 0
theorem RQ.c1 (h : RQ w q b r t) : w.cell? ⟨q, 1, none⟩ = some (.bool r.up) := h.sb.cell 1
theorem RQ.c2 (h : RQ w q b r t) : w.cell? ⟨q, 2, none⟩ = some (.int .i64 r.cpu) := h.sb.cell 2
theorem RQ.c3 (h : RQ w q b r t) : w.cell? ⟨q, 3, none⟩ = some (.int .i64 r.co) := h.sb.cell 3
theorem RQ.c4 (h : RQ w q b r t) : w.cell? ⟨q, 4, none⟩ = some (.bool t) := h.sb.cell 4
theorem RQ.f4 (h : RQ w q b r t) : w.frozen? ⟨q, 4, none⟩ = false := h.sb.free 4
end
/-- An empty request: where there is none. -/
def er : List Value := [.pointer none, .bool false, .int .i64 0, .int .i64 0, .bool false]
theorem er_new (w : World) : Blk (w.alloc (.cells #[.pointer none, .bool false, .int .i64 0, .int .i64 0, .bool false] 231)) w.heap.size er 231 := Blk.new w er _
theorem hthere_none {s : Nat} (w : World) (c0 : w.cell? ⟨s, 0, none⟩ = some (.pointer none)) : Calls Tryz.prog 55 #[.pointer (some ⟨s, 0, none⟩)] w fun e w' => ∃ z, e = .returned (.tuple #[.pointer (some ⟨z, 0, none⟩), .int .i64 12]) ∧ Blk w' z er 231 ∧ Below w.heap.size w w' := by
  have B : Hid (∀ o, Below w.heap.size w (w.alloc o)) := fun o => (Below.refl _ _).alloc (Nat.le_refl _) o
  have G : Hid _ := er_new w
  go_enter Tryz.func55, Tryz.ntmps55
  go_wp2
  go_ret2
  exact ⟨_, rfl, G.out, B.out _⟩
theorem hthere_some {s q : Nat} (w : World) (c0 : w.cell? ⟨s, 0, none⟩ = some (.pointer (some ⟨q, 0, none⟩))) : Calls Tryz.prog 55 #[.pointer (some ⟨s, 0, none⟩)] w fun e w' => e = .returned (.tuple #[.pointer (some ⟨q, 0, none⟩), .int .i64 0]) ∧ w' = w := by
  go_enter Tryz.func55, Tryz.ntmps55
  go_wp2
  go_ret2
  exact ⟨rfl, rfl⟩
set_option maxHeartbeats 400000 in
theorem hbusy_any {s : Nat} {Z : List Nat} {R : Option Rq} {P : Int → Bool} {N : Nat} (w : World) (h : PD w s Z R P N) :
    Calls Tryz.prog 33 #[.pointer (some ⟨s, 0, none⟩)] w fun e w' => e = .returned (.bool R.isSome) ∧ Below w.heap.size w w' := by
  obtain ⟨nv, mv, h⟩ := h
  have c0 := h.c0
  have pn := h.pn
  cases R with
  | none =>
    obtain rfl : nv = .pointer none := pn
    have C : Hid (∀ _ : Unit, _) := fun _ => hthere_none w c0
    show Calls _ _ _ _ fun e w' => e = .returned (.bool false) ∧ _
    clear h c0
    go_enter Tryz.func33, Tryz.ntmps33
    go_wp2_with fail
    refine (C.out ()).mono ?_
    rintro e w1 ⟨z, rfl, k1, b1⟩
    have B1 : Hid (Below w.heap.size w w1) := b1
    clear k1 b1
    go_wp2
    go_ret
    exact ⟨rfl, B1.out⟩
  | some r =>
    obtain ⟨q, b, t, rfl, k, _, _⟩ := pn
    have C : Hid (∀ _ : Unit, _) := fun _ => hthere_some w c0
    show Calls _ _ _ _ fun e w' => e = .returned (.bool true) ∧ _
    clear h c0 k
    go_enter Tryz.func33, Tryz.ntmps33
    go_wp2_with fail
    refine (C.out ()).mono ?_
    rintro e w1 ⟨rfl, rfl⟩
    go_wp2
    go_ret
    exact ⟨rfl, Below.refl _ _⟩
set_option maxHeartbeats 400000 in
theorem hup_any {s : Nat} {Z : List Nat} {R : Option Rq} {P : Int → Bool} {N : Nat} (w : World) (h : PD w s Z R P N) :
    Calls Tryz.prog 175 #[.pointer (some ⟨s, 0, none⟩)] w fun e w' => e = .returned (.bool (ups R)) ∧ Below w.heap.size w w' := by
  obtain ⟨nv, mv, h⟩ := h
  have c0 := h.c0
  have pn := h.pn
  cases R with
  | none =>
    obtain rfl : nv = .pointer none := pn
    have C : Hid (∀ _ : Unit, _) := fun _ => hthere_none w c0
    show Calls _ _ _ _ fun e w' => e = .returned (.bool false) ∧ _
    clear h c0
    go_enter Tryz.func175, Tryz.ntmps175
    go_wp2_with fail
    refine (C.out ()).mono ?_
    rintro e w1 ⟨z, rfl, k1, b1⟩
    have z1 : w1.cell? ⟨z, 1, none⟩ = some (.bool false) := k1.cell 1
    have B1 : Hid (Below w.heap.size w w1) := b1
    clear k1 b1
    go_wp2
    go_ret
    exact ⟨rfl, B1.out⟩
  | some r =>
    obtain ⟨q, b, t, rfl, k, _, _⟩ := pn
    have C : Hid (∀ _ : Unit, _) := fun _ => hthere_some w c0
    show Calls _ _ _ _ fun e w' => e = .returned (.bool r.up) ∧ _
    have d1 := k.c1
    clear h c0 k
    go_enter Tryz.func175, Tryz.ntmps175
    go_wp2_with fail
    refine (C.out ()).mono ?_
    rintro e w1 ⟨rfl, rfl⟩
    go_wp2
    go_ret
    exact ⟨rfl, Below.refl _ _⟩
set_option maxHeartbeats 400000 in
theorem hcpu_any {s : Nat} {Z : List Nat} {R : Option Rq} {P : Int → Bool} {N : Nat} (w : World) (h : PD w s Z R P N) :
    Calls Tryz.prog 121 #[.pointer (some ⟨s, 0, none⟩)] w fun e w' => e = .returned (.int .i64 (cps R)) ∧ Below w.heap.size w w' := by
  obtain ⟨nv, mv, h⟩ := h
  have c0 := h.c0
  have pn := h.pn
  cases R with
  | none =>
    obtain rfl : nv = .pointer none := pn
    have C : Hid (∀ _ : Unit, _) := fun _ => hthere_none w c0
    show Calls _ _ _ _ fun e w' => e = .returned (.int .i64 0) ∧ _
    clear h c0
    go_enter Tryz.func121, Tryz.ntmps121
    go_wp2_with fail
    refine (C.out ()).mono ?_
    rintro e w1 ⟨z, rfl, k1, b1⟩
    have z2 : w1.cell? ⟨z, 2, none⟩ = some (.int .i64 0) := k1.cell 2
    have B1 : Hid (Below w.heap.size w w1) := b1
    clear k1 b1
    go_wp2
    go_ret
    exact ⟨rfl, B1.out⟩
  | some r =>
    obtain ⟨q, b, t, rfl, k, _, _⟩ := pn
    have C : Hid (∀ _ : Unit, _) := fun _ => hthere_some w c0
    show Calls _ _ _ _ fun e w' => e = .returned (.int .i64 r.cpu) ∧ _
    have d2 := k.c2
    clear h c0 k
    go_enter Tryz.func121, Tryz.ntmps121
    go_wp2_with fail
    refine (C.out ()).mono ?_
    rintro e w1 ⟨rfl, rfl⟩
    go_wp2
    go_ret
    exact ⟨rfl, Below.refl _ _⟩
set_option maxHeartbeats 400000 in
theorem hby_any {s : Nat} {Z : List Nat} {R : Option Rq} {P : Int → Bool} {N : Nat} (w : World) (h : PD w s Z R P N) :
    Calls Tryz.prog 106 #[.pointer (some ⟨s, 0, none⟩)] w fun e w' => e = .returned (.int .i64 (cos R)) ∧ Below w.heap.size w w' := by
  obtain ⟨nv, mv, h⟩ := h
  have c0 := h.c0
  have pn := h.pn
  cases R with
  | none =>
    obtain rfl : nv = .pointer none := pn
    have C : Hid (∀ _ : Unit, _) := fun _ => hthere_none w c0
    show Calls _ _ _ _ fun e w' => e = .returned (.int .i64 0) ∧ _
    clear h c0
    go_enter Tryz.func106, Tryz.ntmps106
    go_wp2_with fail
    refine (C.out ()).mono ?_
    rintro e w1 ⟨z, rfl, k1, b1⟩
    have z3 : w1.cell? ⟨z, 3, none⟩ = some (.int .i64 0) := k1.cell 3
    have B1 : Hid (Below w.heap.size w w1) := b1
    clear k1 b1
    go_wp2
    go_ret
    exact ⟨rfl, B1.out⟩
  | some r =>
    obtain ⟨q, b, t, rfl, k, _, _⟩ := pn
    have C : Hid (∀ _ : Unit, _) := fun _ => hthere_some w c0
    show Calls _ _ _ _ fun e w' => e = .returned (.int .i64 r.co) ∧ _
    have d3 := k.c3
    clear h c0 k
    go_enter Tryz.func106, Tryz.ntmps106
    go_wp2_with fail
    refine (C.out ()).mono ?_
    rintro e w1 ⟨rfl, rfl⟩
    go_wp2
    go_ret
    exact ⟨rfl, Below.refl _ _⟩
end Go.Proofs.YtfipiifickdeiaaGreatDoor.Hot
namespace Go.Proofs.YtfipiifickdeiaaGreatDoor.Hot
open Go.ChangeShapes Go.WideShapes Go.ChangeAt Go.RowKit
open Rm Hp
section
variable {w w1 w2 : World} {s : Nat} {Z : List Nat} {nv mv : Value} {R : Option Rq} {P : Int → Bool} {N : Nat}
theorem MS.up {b N2 : Nat} (h : MS w b N P) (hn : N ≤ N2) : MS w b N2 P := by
  obtain ⟨D, o, k⟩ := h
  exact ⟨D, o.mono hn, k⟩
theorem PD.up {N2 : Nat} (h : PD w s Z R P N) (hn : N ≤ N2) : PD w s Z R P N2 := by
  obtain ⟨nv, mv, h⟩ := h
  refine ⟨nv, mv, h.sb, h.pn, ?_, h.sz, h.lt⟩
  rcases h.pm with k | ⟨m, e, k, hm⟩
  · exact Or.inl k
  · exact Or.inr ⟨m, e, k.up hn, hm⟩
end
end Go.Proofs.YtfipiifickdeiaaGreatDoor.Hot
namespace Go.Proofs.YtfipiifickdeiaaGreatDoor.Hot
open Go.ChangeShapes Go.WideShapes Go.ChangeAt Go.RowKit
open Rm Hp
end Go.Proofs.YtfipiifickdeiaaGreatDoor.Hot
