/- A lock as it lies in memory; what lock's isCore, wanted, Take, Leave, Owner and Waits answer and leave, for every lock. -/
import Derived.Test.YtaomcakgeiiclaaRows
import Derived.Test.YtaomcakgeiiclaaFj
import Derived.Test.YtaomcakgeiiclaaFx
import Derived.Test.YtaomcakgeiiclaaFg
import Derived.Test.YtaomcakgeiiclaaLl
import Derived.WalkKit
import Derived.ProofKit
import Derived.OpenShut
import Derived.BigQuiet
import Derived.Deep.RegionHeld3
namespace Go.Proofs.Ytaomcakgeiiclaa
open Go.ChangeShapes Go.WideShapes Go.ChangeAt Go.RowKit
open Fm Ll

/-- The lock at block b: its line is A, of which L stands in it. -/
structure SP (w : World) (b : Nat) (A L : List Int) : Prop where
  sb : Blk w b (A.map (Value.int .i64) ++ [.int .i64 (L.length : Int)]) 26
  len : A.length = 64
  is : A.take L.length = L
  ln : Ln L

theorem SP.c {w : World} {b : Nat} {A L : List Int} (h : SP w b A L) : w.cell? ⟨b, 64, none⟩ = some (.int .i64 (L.length : Int)) := by
  rw [h.sb.cell 64, List.getElem?_append_right (by simp [h.len])]
  simp [h.len]
theorem SP.f {w : World} {b : Nat} {A L : List Int} (h : SP w b A L) (i : Nat) : w.frozen? ⟨b, i, none⟩ = false := h.sb.free i
theorem SP.heap {w w1 : World} {b : Nat} {A L : List Int} (h : SP w b A L) (e : w1.heap = w.heap) : SP w1 b A L := ⟨h.sb.heap e, h.len, h.is, h.ln⟩
theorem SP.keep {B : Nat} {S : List Nat} {w w' : World} {b : Nat} {A L : List Int} (h : SP w b A L) (k : Fr B S w w') (hb : b < B) (hs : b ∉ S) : SP w' b A L := ⟨h.sb.keep k hb hs, h.len, h.is, h.ln⟩
theorem SP.at {w : World} {b : Nat} {A L : List Int} (h : SP w b A L) (i : Nat) (hi : i < 64) : w.cell? ⟨b, i, none⟩ = some (.int .i64 (A.getD i 0)) := by
  rw [h.sb.cell i, List.getElem?_append_left (by simp [h.len]; exact hi), getD_map_int A i (by rw [h.len]; exact hi)]
theorem SP.get {w : World} {b : Nat} {A L : List Int} (h : SP w b A L) (i : Nat) (hi : i < L.length) : A.getD i 0 = L.getD i 0 := by
  have hl := h.ln.len
  have e := h.is
  have : (A.take L.length).getD i 0 = L.getD i 0 := by rw [e]
  rw [List.getD_eq_getElem?_getD, List.getElem?_take, if_pos hi, ← List.getD_eq_getElem?_getD] at this
  exact this
theorem SP.row {w : World} {b : Nat} {A L : List Int} (h : SP w b A L) (cap : Nat) : Row w (.slice (some ⟨b, 0, none⟩) L.length cap) L := by
  refine Or.inr ⟨b, 0, cap, rfl, h.sb.lt, fun i hi => ?_⟩
  rw [Nat.zero_add, h.at i (by have := h.ln.len; omega), h.get i hi]

theorem isCore_any (c : Int) (w : World) : Calls Try.prog 41 #[.int .i64 c] w fun e w' => e = .returned (.bool (ic c)) ∧ w' = w := by
  by_cases h : 0 ≤ c
  · by_cases h2 : c < 64
    · rw [show ic c = true from decide_eq_true ⟨h, h2⟩]
      go_enter Try.func41, Try.ntmps41
      go_wp2
      go_ret
      exact ⟨rfl, rfl⟩
    · rw [show ic c = false from decide_eq_false (by omega)]
      go_enter Try.func41, Try.ntmps41
      go_wp2
      go_ret
      exact ⟨rfl, rfl⟩
  · rw [show ic c = false from decide_eq_false (by omega)]
    go_enter Try.func41, Try.ntmps41
    go_wp2
    go_ret
    exact ⟨rfl, rfl⟩

set_option maxHeartbeats 400000 in
theorem wanted_any {b : Nat} {A L : List Int} (w : World) (h : SP w b A L) :
    Calls Try.prog 42 #[.pointer (some ⟨b, 0, none⟩)] w fun e w' => e = .returned (.slice (some ⟨b, 0, none⟩) L.length 64) ∧ ∃ k, w' = w.drewN k := by
  have c := h.c
  have hl : (L.length : Int) ≤ 64 := by have := h.ln.len; omega
  clear h
  generalize L.length = l at *
  go_enter Try.func42, Try.ntmps42
  go_wp2
  go_quiet (fail)
  go_wp2
  go_ret
  exact ⟨rfl, _, rfl⟩

theorem contains_any (xs : List Int) (v : Value) (n : Int) (w : World) (hl : (xs.length : Int) ≤ 100000) (hr : Row w v xs) :
    Calls Try.prog 45 #[v, .int .i64 n] w fun e w' => e = .returned (.bool (decide (n ∈ xs))) ∧ w' = w := by
  have C : Hid (∀ _ : Unit, _) := fun _ => index_any xs v n w hl hr
  clear hr
  by_cases m : n ∈ xs
  · obtain ⟨k, e, _⟩ := ix_pos xs n m
    rw [e] at C
    rw [decide_eq_true m]
    clear m e hl
    go_enter Try.func45, Try.ntmps45
    go_wp2_with fail
    refine (C.out ()).mono ?_
    rintro e w' ⟨rfl, rfl⟩
    go_wp2
    go_ret
    exact ⟨rfl, rfl⟩
  · rw [ix_neg xs n m] at C
    rw [decide_eq_false m]
    clear m hl
    go_enter Try.func45, Try.ntmps45
    go_wp2_with fail
    refine (C.out ()).mono ?_
    rintro e w' ⟨rfl, rfl⟩
    go_wp2
    go_ret
    exact ⟨rfl, rfl⟩

theorem owner_any {b : Nat} {A L : List Int} (w : World) (h : SP w b A L) :
    Calls Try.prog 13 #[.pointer (some ⟨b, 0, none⟩)] w fun e w' => e = .returned (.tuple #[.int .i64 (L.headD 0), .bool (decide (L ≠ []))]) ∧ w' = w := by
  have c := h.c
  have c0 := h.at 0 (by omega)
  by_cases m : L = []
  · subst m
    rw [show List.headD ([] : List Int) 0 = 0 from rfl, show decide (([] : List Int) ≠ []) = false from rfl]
    clear h c0
    go_enter Try.func13, Try.ntmps13
    go_wp2
    go_ret2
    exact ⟨rfl, rfl⟩
  · have hp : 0 < L.length := List.length_pos_iff.2 m
    have e := h.get 0 hp
    rw [decide_eq_true m]
    rw [e, show L.getD 0 0 = L.headD 0 by cases L <;> rfl] at c0
    have n0 : (((L.length : Nat) : Int) == 0) = false := by simp; omega
    clear h e m hp
    generalize L.headD 0 = x at *
    generalize L.length = l at *
    go_enter Try.func13, Try.ntmps13
    go_wp2
    go_ret2
    exact ⟨rfl, rfl⟩
end Go.Proofs.Ytaomcakgeiiclaa
