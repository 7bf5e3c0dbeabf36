/- Contracts of the program's layers, as far as this claim needs them. -/
import Derived.Test.YtmkboahjkhkefaaGreatDoorQKz
import Derived.Test.YtmkboahjkhkefaaGreatDoorRows
import Derived.WalkKit
import Derived.ProofKit
import Derived.OpenShut
import Derived.BigQuiet
import Derived.Deep.RegionHeld3
set_option linter.unusedVariables false
set_option linter.unusedSimpArgs false
namespace Go.Proofs.YtmkboahjkhkefaaGreatDoor.Krn
open Go.ChangeShapes Go.WideShapes Go.ChangeAt Go.RowKit
open Mm
section
variable {B : Nat} {w0 : World} {A : List (Nat × List Value × TypeId)} {a : KA} {m m' : Nat} {S S' : KS} {w w' : World}
theorem ff_lt {k : Nat} {O : Nat → Bool} {i : Nat} (h : Sl.ff k O = some i) : i < k := by
  have := List.mem_of_find?_eq_some h
  simpa using this
theorem sp_rg {n : Nat} {O : Nat → Bool} (p : Int) (x : Nat) : 0 ≤ Tm.spN n O p x ∧ Tm.spN n O p x ≤ 32 := by
  unfold Tm.spN
  split
  · cases e : Sl.ff 32 O with
    | none => simp [Sl.tN]
    | some i => have := ff_lt e; simp only [Sl.tN]; omega
  · omega
theorem sp_no {n : Nat} {S : KS} {p : Int} {x : Nat} (q : ¬ Tm.spE n S.O p x = 0) : spS n S p x = S := by
  unfold spS Tm.spO Tm.spX
  unfold Tm.spE at q
  by_cases b : Tm.spB n p x = true
  · rw [if_pos b] at q
    rw [if_pos b, if_pos b]
    cases e : Sl.ff 32 S.O with
    | none => rfl
    | some i => rw [e] at q; exact absurd rfl q
  · rw [if_neg b, if_neg b]
set_option maxRecDepth 100000 in
theorem k_spawn (h : KX B w0 A a m S w) (p : Int) (x : Nat) (hx : x < 18446744073709551616) (hm : m ≤ 1000000) :
    Calls Tryz.prog 93 #[.pointer (some ⟨a.k, 0, none⟩), .int .i64 (p), .int .u64 (x : Int)] w fun e w' => e = .returned (.tuple #[.int .i64 (spawn a.n S p x).1, .int .i64 (spawn a.n S p x).2.1]) ∧ KX B w0 A a (m + 1) (spawn a.n S p x).2.2 w' := by
  unfold spawn
  have c3 := h.c3
  have C : Hid (∀ _ : Unit, _) := fun _ => th_spawn h p x hx
  have n1 : (1 : Int) ≤ a.n := by have := h.n1; omega
  by_cases q : Tm.spE a.n S.O p x = 0
  · simp only [if_pos q]
    rw [q] at C
    have r := sp_rg (n := a.n) (O := S.O) p x
    generalize Tm.spN a.n S.O p x = id at *
    have hw : wf id := wf_of (by omega) (by omega)
    have hn : -9223372036854775808 ≤ id.tmod a.n := by
      have := Int.tmod_nonneg (a.n : Int) r.1
      omega
    have nz : ((a.n : Int) == 0) = false := by simp; omega
    have wr : IntKind.i64.wrap (id.tmod a.n) = id.tmod a.n := by
      have h1 := Int.tmod_nonneg (a.n : Int) r.1
      have h2 : id.tmod a.n < a.n := Int.tmod_lt_of_pos id (by omega)
      have h3 := h.n2
      rw [IntKind.wrap_i64]
      omega
    generalize hz : id.tmod (a.n : Int) = z at *
    go_enter Tryz.func93, Tryz.ntmps93
    go_wp2_with fail
    refine (C.out ()).mono ?_
    rintro e w1 ⟨rfl, h1⟩
    go_wp2_with fail
    refine (k_Cpus h1).mono ?_
    rintro e w2 ⟨rfl, rfl⟩
    go_wp2_with fail
    refine (k_put h1 id z hw hn hm).mono ?_
    rintro e w3 ⟨rfl, h3⟩
    go_wp2
    go_ret2
    exact ⟨rfl, h3⟩
  · simp only [if_neg q]
    have e0 : spS a.n S p x = S := sp_no q
    rw [e0] at C
    generalize Tm.spE a.n S.O p x = y at *
    generalize Tm.spN a.n S.O p x = id at *
    have q2 : (y == 0) = false := by simpa using q
    go_enter Tryz.func93, Tryz.ntmps93
    go_wp2_with fail
    refine (C.out ()).mono ?_
    rintro e w1 ⟨rfl, h1⟩
    go_wp2
    go_ret2
    exact ⟨rfl, h1.more (by omega)⟩
end
end Go.Proofs.YtmkboahjkhkefaaGreatDoor.Krn
