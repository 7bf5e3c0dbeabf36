/- Cores as plain records, what a core does next, and what the calls of a table of cores answer and leave; how they lie in memory. No program in it. -/
import Derived.Test.YtddjkdcbbonjkaaLw
namespace Go.Proofs.Ytddjkdcbbonjkaa
open Go.ChangeShapes Go.WideShapes Go.ChangeAt Go.RowKit

section
variable {α : Type} {L : Lay α}
theorem lay_len (Y : List α) : (L.all Y).length = Y.length * L.n := by
  induction Y with
  | nil => simp [Lay.all]
  | cons x r ih => rw [lay_cons, List.length_append, ih, L.len, List.length_cons, Nat.succ_mul]; omega
/-- One cell of one record is turned. -/
theorem lay_set (Y : List α) (k j : Nat) (x : α) (v : Value) (h : k < Y.length) (hj : j < L.n) (e : L.f x = (L.f (Y.getD k L.z)).set j v) : (L.all Y).set (k * L.n + j) v = L.all (Y.set k x) := by
  induction Y generalizing k with
  | nil => simp at h
  | cons y r ih =>
    have hy := L.len y
    cases k with
    | zero =>
      rw [lay_cons, List.set_cons_zero, lay_cons, List.set_append_left _ _ (by omega), Nat.zero_mul, Nat.zero_add, e]
      rfl
    | succ k =>
      have e2 : (k + 1) * L.n = k * L.n + L.n := Nat.succ_mul k L.n
      rw [lay_cons, List.set_cons_succ, lay_cons, List.set_append_right _ _ (by omega), show (k + 1) * L.n + j - (L.f y).length = k * L.n + j by omega, ih k (by simpa using h) e]
theorem lay_one_all (Y : List α) : ∀ u ∈ L.all Y, u.oneCell' = true := by
  intro u h
  obtain ⟨x, _, hx⟩ := List.mem_flatMap.1 h
  exact L.one x u hx
end

namespace Co
/-- A core: has it power, does it rest, how, since when; its steps, and those that were busy. -/
structure Kc where
  p : Bool
  i : Bool
  way : Int
  since : Int
  steps : Int
  busy : Int
def kz : Kc := ⟨false, false, 0, 0, 0, 0⟩
def kn : Kc := ⟨true, false, 0, 0, 0, 0⟩
/-- What waits for a core. -/
structure Fl where
  stop : Bool
  held : Bool
  hot : Bool
  act : Bool
  call : Bool
  irq : Bool
  timer : Bool
  work : Bool
  thr : Bool
def wants (f : Fl) : Int := if f.stop then 2 else if f.hot then 3 else if f.held || !f.act then 0 else if f.call then 4 else if f.irq then 5 else if f.timer then 6 else if f.work then 7 else if f.thr then 8 else 9
def next (p i : Bool) (f : Fl) : Int := if p then (if i then (if wants f = 0 ∨ wants f = 9 then 0 else 1) else wants f) else 0

def isk (n : Nat) (c : Int) : Bool := decide (0 ≤ c) && decide (c < (n : Int))
def isT (t : Int) : Bool := decide (0 ≤ t) && decide (t ≤ 1152921504606846976)
def isW (y : Int) : Bool := decide (0 ≤ y) && decide (y < 8)
def inc (x : Int) : Int := wrap64 (x + 1)
def gt (Y : List Kc) (c : Int) : Kc := if isk Y.length c then Y.getD c.toNat kz else kz
def inE (Y : List Kc) (c : Int) : Int := if isk Y.length c then 0 else 3
def pwE (Y : List Kc) (c : Int) (on : Bool) : Int := if isk Y.length c then (if (gt Y c).p = on then 6 else 0) else 3
def pwY (Y : List Kc) (c : Int) (on : Bool) : List Kc := if pwE Y c on = 0 then Y.set c.toNat { gt Y c with p := on, i := false, way := 0, since := 0 } else Y
def rsE (Y : List Kc) (c way now : Int) : Int := if isk Y.length c then (if isW way && isT now then (if (gt Y c).p && !(gt Y c).i then 0 else 6) else 2) else 3
def rsY (Y : List Kc) (c way now : Int) : List Kc := if rsE Y c way now = 0 then Y.set c.toNat { gt Y c with i := true, way := way, since := now } else Y
def wkE (Y : List Kc) (c now : Int) : Int := if isk Y.length c then (if isT now then (if (gt Y c).i then 0 else 6) else 2) else 3
def wkN (Y : List Kc) (c now : Int) : Int := if wkE Y c now = 0 then (if now ≤ (gt Y c).since then 0 else now - (gt Y c).since) else 0
def wkY (Y : List Kc) (c now : Int) : List Kc := if wkE Y c now = 0 then Y.set c.toNat { gt Y c with i := false, way := 0, since := 0 } else Y
def ctY (Y : List Kc) (c : Int) (b : Bool) : List Kc := if isk Y.length c then Y.set c.toNat { gt Y c with steps := inc (gt Y c).steps, busy := if b then inc (gt Y c).busy else (gt Y c).busy } else Y
def tkY (Y : List Kc) (c : Int) : List Kc := if isk Y.length c then Y.set c.toNat { gt Y c with steps := 0, busy := 0 } else Y

/-- Cores that can be: since which tick they rest. -/
def okY (Y : List Kc) : Prop := ∀ k ∈ Y, 0 ≤ k.since ∧ k.since ≤ 1152921504606846976
theorem okY_set {Y : List Kc} (h : okY Y) (k : Nat) (x : Kc) (hx : 0 ≤ x.since ∧ x.since ≤ 1152921504606846976) : okY (Y.set k x) := fun y hy => by
  rcases List.mem_or_eq_of_mem_set hy with q | q
  · exact h y q
  · subst q; exact hx
theorem okY_get {Y : List Kc} (h : okY Y) (c : Int) : 0 ≤ (gt Y c).since ∧ (gt Y c).since ≤ 1152921504606846976 := by
  unfold gt
  split
  · rename_i e
    simp only [isk, Bool.and_eq_true, decide_eq_true_eq] at e
    have hl : c.toNat < Y.length := by omega
    exact h _ (by simp [List.getD, hl])
  · exact ⟨Int.le_refl 0, by show (0 : Int) ≤ _; omega⟩
theorem isk_yes {n : Nat} {c : Int} (h : isk n c = true) : ∃ k : Nat, c = (k : Int) ∧ k < n := by
  simp only [isk, Bool.and_eq_true, decide_eq_true_eq] at h
  exact ⟨c.toNat, by omega, by omega⟩
theorem isk_nat {n k : Nat} (h : k < n) : isk n (k : Int) = true := by simp [isk]; omega
theorem gt_nat {Y : List Kc} {k : Nat} (h : k < Y.length) : gt Y (k : Int) = Y.getD k kz := by unfold gt; rw [isk_nat h]; rfl
theorem okY_new (n : Nat) : okY (List.replicate n kn) := fun k hk => by
  rw [(List.mem_replicate.1 hk).2]
  exact ⟨Int.le_refl 0, by show (0 : Int) ≤ _; omega⟩
end Co
open Co

/-- Six cells each. -/
def ck : Lay Kc where
  n := 6
  f := fun x => [.bool x.p, .bool x.i, .int .i64 x.way, .int .i64 x.since, .int .i64 x.steps, .int .i64 x.busy]
  z := kz
  len := fun _ => rfl
  one := fun x u h => by
    simp only [List.mem_cons, List.not_mem_nil, or_false] at h
    rcases h with rfl | rfl | rfl | rfl | rfl | rfl <;> rfl
  pos := by decide
def ckv (x : Kc) : Value := .agg #[.bool x.p, .bool x.i, .int .i64 x.way, .int .i64 x.since, .int .i64 x.steps, .int .i64 x.busy]
end Go.Proofs.Ytddjkdcbbonjkaa
