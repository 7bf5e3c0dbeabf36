/- A route as it lies in memory; what route's New, at, Set, Off and Of answer and leave. -/
import Derived.Test.YthhgmnkgeombhaaRows
import Derived.Test.YthhgmnkgeombhaaFw
import Derived.Test.YthhgmnkgeombhaaFg
import Derived.Test.YthhgmnkgeombhaaNm
import Derived.Test.YthhgmnkgeombhaaKa
import Derived.WalkKit
import Derived.ProofKit
import Derived.OpenShut
import Derived.BigQuiet
namespace Go.Proofs.Ythhgmnkgeombhaa
open Go.ChangeShapes Go.WideShapes Go.ChangeAt Go.RowKit
open Mm Nm

/-- The cells of a route. -/
structure Rcs (cs : List Value) (c : Nat) (P : Nat → Int) : Prop where
  len : cs.length = 33
  m : cs[0]? = some (.int .u64 ((up (c : Int) : Nat) : Int))
  t : ∀ i, i < 16 → cs[1 + i * 2]? = some (.bool (th P i)) ∧ cs[1 + i * 2 + 1]? = some (.int .i64 (cp P i))

/-- The route whose block is s. -/
structure RT (w : World) (s c : Nat) (P : Nat → Int) : Prop where
  bk : ∃ cs, Blk w s cs 87 ∧ Rcs cs c P
  c1 : 1 ≤ c
  c2 : c ≤ 64
  ok : okP c P

theorem RT.lt {w : World} {s c : Nat} {P : Nat → Int} (h : RT w s c P) : s < w.heap.size := by
  obtain ⟨cs, hb, _⟩ := h.bk
  exact hb.lt
theorem RT.keep {B : Nat} {S : List Nat} {w w' : World} {s c : Nat} {P : Nat → Int} (h : RT w s c P) (f : Fr B S w w') (hB : s < B) (hS : s ∉ S) : RT w' s c P := by
  obtain ⟨cs, hb, hc⟩ := h.bk
  exact ⟨⟨cs, hb.keep f hB hS, hc⟩, h.c1, h.c2, h.ok⟩
theorem RT.below {w w' : World} {s c : Nat} {P : Nat → Int} (h : RT w s c P) (f : Below w.heap.size w w') : RT w' s c P := h.keep (Fr.of_below f) h.lt (by simp)
theorem RT.heap {w w1 : World} {s c : Nat} {P : Nat → Int} (h : RT w s c P) (e : w1.heap = w.heap) : RT w1 s c P := by
  obtain ⟨cs, hb, hc⟩ := h.bk
  exact ⟨⟨cs, hb.heap e, hc⟩, h.c1, h.c2, h.ok⟩
theorem RT.k0 {w : World} {s c : Nat} {P : Nat → Int} (h : RT w s c P) : w.cell? ⟨s, 0, none⟩ = some (.int .u64 ((up (c : Int) : Nat) : Int)) := by
  obtain ⟨cs, hb, hc⟩ := h.bk
  rw [hb.cell, hc.m]
theorem RT.free {w : World} {s c : Nat} {P : Nat → Int} (h : RT w s c P) (k : Nat) : w.frozen? ⟨s, k, none⟩ = false := by
  obtain ⟨cs, hb, hc⟩ := h.bk
  exact hb.free k
theorem RT.two {w : World} {s c i : Nat} {P : Nat → Int} (h : RT w s c P) (hi : i < 16) : w.cell? ⟨s, 1 + i * 2, none⟩ = some (.bool (th P i)) ∧ w.cell? ⟨s, 1 + i * 2 + 1, none⟩ = some (.int .i64 (cp P i)) := by
  obtain ⟨cs, hb, hc⟩ := h.bk
  obtain ⟨a0, a1⟩ := hc.t i hi
  exact ⟨(hb.cell _).trans a0, (hb.cell _).trans a1⟩

/-- Behind a store of a place. -/
theorem rt_set {w : World} {s c i : Nat} {P : Nat → Int} (h : RT w s c P) (hi : i < 16) (u : Int) (h1 : -1 ≤ u) (h2 : u < c) (b : Bool) (v : Int) (hb : b = decide (0 ≤ u)) (hv : v = if 0 ≤ u then u else 0) :
    RT ((w.setCell ⟨s, 1 + i * 2, none⟩ (.bool b)).setCell ⟨s, 1 + i * 2 + 1, none⟩ (.int .i64 v)) s c (sp P i u) := by
  obtain ⟨cs, hk, hc⟩ := h.bk
  have hl := hc.len
  refine ⟨⟨_, (hk.set (1 + i * 2) (.bool b)).set (1 + i * 2 + 1) (.int .i64 v), by simp [hl], ?_, fun j hj => ?_⟩, h.c1, h.c2, okP_sp h.ok i h1 h2⟩
  · rw [List.getElem?_set, if_neg (by omega), List.getElem?_set, if_neg (by omega)]
    exact hc.m
  · obtain ⟨a0, a1⟩ := hc.t j hj
    by_cases e : j = i
    · subst e
      refine ⟨?_, ?_⟩
      · rw [List.getElem?_set, if_neg (by omega), List.getElem?_set, if_pos rfl, if_pos (by omega), hb]
        unfold th
        rw [sp_same]
      · rw [List.getElem?_set, if_pos rfl, if_pos (by simp; omega), hv]
        unfold cp
        rw [sp_same]
    · refine ⟨?_, ?_⟩
      · rw [List.getElem?_set, if_neg (by omega), List.getElem?_set, if_neg (by omega), a0]
        unfold th
        rw [sp_other P e]
      · rw [List.getElem?_set, if_neg (by omega), List.getElem?_set, if_neg (by omega), a1]
        unfold cp
        rw [sp_other P e]
theorem fr_two {B : Nat} {S : List Nat} {a w : World} {g o : Nat} (h : Fr B S a w) (hp : B ≤ g ∨ g ∈ S) (v0 v1 : Value) : Fr B S a ((w.setCell ⟨g, o, none⟩ v0).setCell ⟨g, o + 1, none⟩ v1) :=
  (h.setCell (p := ⟨g, o, none⟩) hp v0).setCell (p := ⟨g, o + 1, none⟩) hp v1

theorem rrep_at (L : List Value) (hL : L.length = 2) : ∀ n i j, i < n → j < 2 → (List.replicate n L).flatten[i * 2 + j]? = L[j]?
  | 0, i, j, h, _ => by omega
  | n + 1, i, j, h, hj => by
    rw [List.replicate_succ, List.flatten_cons]
    cases i with
    | zero => rw [List.getElem?_append_left (by omega), Nat.zero_mul, Nat.zero_add]
    | succ i => rw [List.getElem?_append_right (by omega), show (i + 1) * 2 + j - L.length = i * 2 + j by omega]; exact rrep_at L hL n i j (by omega) hj

def z2 : List Value := [.bool false, .int .i64 0]
def rz (c : Nat) : List Value := .int .u64 ((up (c : Int) : Nat) : Int) :: (List.replicate 16 z2).flatten
theorem rcs_new (c : Nat) : Rcs (rz c) c fun _ => -1 := by
  refine ⟨by rfl, rfl, fun i hi => ?_⟩
  have g : ∀ j, j < 2 → (rz c)[1 + i * 2 + j]? = z2[j]? := fun j hj => by
    unfold rz
    rw [show 1 + i * 2 + j = i * 2 + j + 1 by omega, List.getElem?_cons_succ]
    exact rrep_at z2 rfl 16 i j hi hj
  exact ⟨g 0 (by omega), g 1 (by omega)⟩

set_option maxRecDepth 100000 in
set_option maxHeartbeats 400000 in
theorem rtnew_any (c : Nat) (w : World) (h1 : (1 : Int) ≤ c) (h2 : (c : Int) ≤ 64) :
    Calls Try.prog 28 #[.int .i64 (c : Int)] w fun e w' => e = .returned (.tuple #[.pointer (some ⟨w.heap.size, 0, none⟩), .int .i64 0]) ∧ RT w' w.heap.size c (fun _ => -1) ∧ Below w.heap.size w w' ∧ w'.heap.size = w.heap.size + 1 := by
  have C2 : Hid (∀ w, _) := fun w => kupto_any (c : Int) w
  go_enter Try.func28, Try.ntmps28
  go_wp2_with fail
  refine (C2.out _).mono ?_
  rintro e w2 ⟨rfl, rfl⟩
  go_wp2
  go_ret2
  exact ⟨rfl, ⟨⟨_, Blk.new w2 (rz c) _, rcs_new c⟩, by omega, by omega, okP_new c (by omega)⟩, (Below.refl _ _).alloc (Nat.le_refl _) _, by simp⟩

set_option maxRecDepth 100000 in
theorem rtnew_bad (c : Int) (w : World) (h : c < 1 ∨ 64 < c) :
    Calls Try.prog 28 #[.int .i64 c] w fun e w' => e = .returned (.tuple #[.pointer none, .int .i64 2]) ∧ w' = w := by
  rcases h with h | h
  · go_enter Try.func28, Try.ntmps28
    go_wp2
    go_ret2
    exact ⟨rfl, rfl⟩
  · have h2 : (1 : Int) ≤ c := by omega
    go_enter Try.func28, Try.ntmps28
    go_wp2
    go_ret2
    exact ⟨rfl, rfl⟩

set_option maxRecDepth 100000 in
theorem rtat_yes {s i : Nat} (w : World) (hi : (i : Int) < 16) :
    Calls Try.prog 54 #[.pointer (some ⟨s, 0, none⟩), .int .i64 (i : Int)] w fun e w' => e = .returned (.tuple #[.pointer (some ⟨s, 1 + i * 2, none⟩), .int .i64 0]) ∧ w' = w := by
  go_enter Try.func54, Try.ntmps54
  go_wp2
  go_ret2
  exact ⟨rfl, rfl⟩
set_option maxRecDepth 100000 in
theorem rtat_no {s : Nat} (n : Int) (w : World) (h : n < 0 ∨ 16 ≤ n) :
    Calls Try.prog 54 #[.pointer (some ⟨s, 0, none⟩), .int .i64 n] w fun e w' => e = .returned (.tuple #[.pointer none, .int .i64 3]) ∧ w' = w := by
  rcases h with h | h
  · go_enter Try.func54, Try.ntmps54
    go_wp2
    go_ret2
    exact ⟨rfl, rfl⟩
  · have h2 : (0 : Int) ≤ n := by omega
    go_enter Try.func54, Try.ntmps54
    go_wp2
    go_ret2
    exact ⟨rfl, rfl⟩

set_option maxRecDepth 100000 in
set_option maxHeartbeats 400000 in
theorem rtset_any {s c : Nat} {P : Nat → Int} (n u : Int) (w : World) (h : RT w s c P) :
    Calls Try.prog 33 #[.pointer (some ⟨s, 0, none⟩), .int .i64 n, .int .i64 u] w fun e w' => e = .returned (.int .i64 (stE c n u)) ∧ RT w' s c (stp (stE c n u) P n u) ∧ Fr w.heap.size [s] w w' := by
  have C2 : Hid (∀ _ : Unit, _) := fun _ => khas_any (up (c : Int)) u w (up_lt _)
  rw [up_has h.c2] at C2
  have HT : Hid (RT w s c P) := h
  have k0 := h.k0
  cases e : is n with
  | false =>
    have C1 : Hid (∀ w, _) := fun w => rtat_no (s := s) n w (is_none e)
    rw [show stE c n u = 3 by unfold stE; rw [e]; rfl, stp_no (by decide)]
    clear h e
    go_enter Try.func33, Try.ntmps33
    go_wp2_with fail
    refine (C1.out _).mono ?_
    rintro e w' ⟨rfl, rfl⟩
    go_wp2
    go_ret
    exact ⟨rfl, HT.out, Fr.refl _ _ _⟩
  | true =>
    obtain ⟨i, hi, rfl, e2⟩ := is_some e
    have hi2 : (i : Int) < 16 := by omega
    have C1 : Hid (∀ w, _) := fun w => rtat_yes (s := s) w hi2
    cases e3 : inC c u with
    | false =>
      rw [e3] at C2
      rw [show stE c (i : Int) u = 3 by unfold stE; rw [e, e3]; rfl, stp_no (by decide)]
      generalize up (c : Int) = U at *
      clear h e e2 e3
      go_enter Try.func33, Try.ntmps33
      go_wp2_with fail
      refine (C1.out _).mono ?_
      rintro e w' ⟨rfl, rfl⟩
      go_wp2_with fail
      refine (C2.out ()).mono ?_
      rintro e w' ⟨rfl, rfl⟩
      go_wp2
      go_ret
      exact ⟨rfl, HT.out, Fr.refl _ _ _⟩
    | true =>
      rw [e3] at C2
      rw [show stE c (i : Int) u = 0 by unfold stE; rw [e, e3]; rfl, stp_ok, e2]
      obtain ⟨u0, u1⟩ := of_decide_eq_true e3
      have HU : Hid (-1 ≤ u ∧ u < c ∧ true = decide (0 ≤ u) ∧ u = if 0 ≤ u then u else 0) := ⟨by omega, u1, (decide_eq_true u0).symm, (if_pos u0).symm⟩
      have HI : Hid (i < 16) := hi
      obtain ⟨a0, a1⟩ := h.two hi
      have f0 := h.free (1 + i * 2)
      have f1 := h.free (1 + i * 2 + 1)
      generalize up (c : Int) = U at *
      clear h e e2 e3 hi u0 u1
      go_enter Try.func33, Try.ntmps33
      go_wp2_with fail
      refine (C1.out _).mono ?_
      rintro e w' ⟨rfl, rfl⟩
      go_wp2_with fail
      refine (C2.out ()).mono ?_
      rintro e w' ⟨rfl, rfl⟩
      go_wp2
      go_ret
      exact ⟨rfl, rt_set HT.out HI.out u HU.out.1 HU.out.2.1 true u HU.out.2.2.1 HU.out.2.2.2, fr_two (Fr.refl _ _ _) (Or.inr (by simp)) _ _⟩

set_option maxRecDepth 100000 in
set_option maxHeartbeats 400000 in
theorem rtoff_any {s c : Nat} {P : Nat → Int} (n : Int) (w : World) (h : RT w s c P) :
    Calls Try.prog 31 #[.pointer (some ⟨s, 0, none⟩), .int .i64 n] w fun e w' => e = .returned (.int .i64 (ofE P n)) ∧ RT w' s c (stp (ofE P n) P n (-1)) ∧ Fr w.heap.size [s] w w' := by
  have HT : Hid (RT w s c P) := h
  cases e : is n with
  | false =>
    have C1 : Hid (∀ w, _) := fun w => rtat_no (s := s) n w (is_none e)
    rw [show ofE P n = 3 by unfold ofE; rw [e]; rfl, stp_no (by decide)]
    clear h e
    go_enter Try.func31, Try.ntmps31
    go_wp2_with fail
    refine (C1.out _).mono ?_
    rintro e w' ⟨rfl, rfl⟩
    go_wp2
    go_ret
    exact ⟨rfl, HT.out, Fr.refl _ _ _⟩
  | true =>
    obtain ⟨i, hi, rfl, e2⟩ := is_some e
    have hi2 : (i : Int) < 16 := by omega
    have C1 : Hid (∀ w, _) := fun w => rtat_yes (s := s) w hi2
    obtain ⟨a0, a1⟩ := h.two hi
    cases e3 : th P i with
    | false =>
      rw [e3] at a0
      rw [show ofE P (i : Int) = 4 by unfold ofE; rw [e, e2, e3]; rfl, stp_no (by decide)]
      clear h e e2 e3
      go_enter Try.func31, Try.ntmps31
      go_wp2_with fail
      refine (C1.out _).mono ?_
      rintro e w' ⟨rfl, rfl⟩
      go_wp2
      go_ret
      exact ⟨rfl, HT.out, Fr.refl _ _ _⟩
    | true =>
      rw [e3] at a0
      rw [show ofE P (i : Int) = 0 by unfold ofE; rw [e, e2, e3]; rfl, stp_ok, e2]
      have HI : Hid (i < 16) := hi
      have HC : Hid ((-1 : Int) < c) := by unfold Hid; omega
      have f0 := h.free (1 + i * 2)
      have f1 := h.free (1 + i * 2 + 1)
      clear h e e2 e3 hi
      go_enter Try.func31, Try.ntmps31
      go_wp2_with fail
      refine (C1.out _).mono ?_
      rintro e w' ⟨rfl, rfl⟩
      go_wp2
      go_ret
      exact ⟨rfl, rt_set HT.out HI.out (-1) (by omega) HC.out false 0 rfl rfl, fr_two (Fr.refl _ _ _) (Or.inr (by simp)) _ _⟩

set_option maxRecDepth 100000 in
set_option maxHeartbeats 400000 in
theorem rtof_any {s c : Nat} {P : Nat → Int} (n : Int) (w : World) (h : RT w s c P) :
    Calls Try.prog 35 #[.pointer (some ⟨s, 0, none⟩), .int .i64 n] w fun e w' => e = .returned (.tuple #[.int .i64 (ofN P n), .bool (ofB P n)]) ∧ Sm w' w := by
  cases e : is n with
  | false =>
    have C1 : Hid (∀ w, _) := fun w => rtat_no (s := s) n w (is_none e)
    rw [show ofN P n = 0 by unfold ofN; rw [e]; rfl, show ofB P n = false by unfold ofB; rw [e]; rfl]
    clear h e
    go_enter Try.func35, Try.ntmps35
    go_wp2_with fail
    refine (C1.out _).mono ?_
    rintro e w' ⟨rfl, rfl⟩
    go_wp2
    go_ret2
    exact ⟨rfl, rfl, rfl, rfl, rfl⟩
  | true =>
    obtain ⟨i, hi, rfl, e2⟩ := is_some e
    have hi2 : (i : Int) < 16 := by omega
    have C1 : Hid (∀ w, _) := fun w => rtat_yes (s := s) w hi2
    obtain ⟨a0, a1⟩ := h.two hi
    rw [show ofN P (i : Int) = cp P i by unfold ofN; rw [e, e2]; rfl, show ofB P (i : Int) = th P i by unfold ofB; rw [e, e2]; rfl]
    generalize cp P i = v at *
    generalize th P i = b at *
    clear h e e2
    go_enter Try.func35, Try.ntmps35
    go_wp2_with fail
    refine (C1.out _).mono ?_
    rintro e w' ⟨rfl, rfl⟩
    go_wp2
    go_quiet (fail)
    go_wp2
    go_ret2
    exact ⟨rfl, rfl, rfl, rfl, rfl⟩
end Go.Proofs.Ythhgmnkgeombhaa
