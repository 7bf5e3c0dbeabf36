/- What fair's Drive does in davitlaw36's fixed calls; these hold. -/
import Derived.Test.YtfipiifickdeiaaGreatDoorRows
import Derived.Test.YtfipiifickdeiaaGreatDoorFp4
import Derived.Test.YtfipiifickdeiaaGreatDoorFp5
import Derived.WalkKit
import Derived.ProofKit
import Derived.OpenShut
import Derived.BigQuiet
import Derived.BigGuard
import Derived.Carry
namespace Go.Proofs.YtfipiifickdeiaaGreatDoor.Krn
open Go.ChangeShapes Go.WideShapes Go.ChangeAt Go.RowKit
open Mm
set_option linter.unusedVariables false
set_option linter.unusedSimpArgs false

theorem i0 : quietI (new 2) := by unfold quietI; decide +kernel
theorem i1 : quietI s1 := by unfold quietI; decide +kernel
theorem i2 : quietI s2 := by unfold quietI; decide +kernel
theorem i3 : quietI s3 := by unfold quietI; decide +kernel
theorem c0 : cwA (new 2) = false := by decide +kernel
theorem c1 : cwA s1 = true := by decide +kernel
theorem c2 : cwA s2 = true := by decide +kernel
theorem c3 : cwA s3 = false := by decide +kernel
theorem r0 : (new 2).R.isSome = false := rfl
section
variable {B : Nat} {w0 : World} {A : List (Nat × List Value × TypeId)} {a : KA} {m : Nat} {w : World}
theorem do_0 (h : KX B w0 A a 64 s1 w) (n2 : a.n = 2) : Calls Tryz.prog 11 #[.pointer (some ⟨a.k, 0, none⟩), .agg #[.int .i64 1, .int .i64 0, .int .i64 0, .int .u64 0, .int .i64 0]] w fun e w' => (∃ v, e = .returned v) ∧ KX B w0 A a 128 s2 w' := by
  have C := k_Do9 (S := s1) h (ec := 0) (ei := 0) (em := 0) (en := 0) ok0 (by rw [n2]; rfl) (by rw [n2]; exact w10) r1 (by rw [n2]; exact q10) (by omega)
  rw [n2] at C
  refine Calls.mono C ?_
  rintro e w' ⟨v, X, rfl, k, -⟩
  exact ⟨⟨v, rfl⟩, k.sub fun x hx => List.mem_append_right _ hx⟩
theorem do_1 (h : KX B w0 A a 128 s2 w) (n2 : a.n = 2) : Calls Tryz.prog 11 #[.pointer (some ⟨a.k, 0, none⟩), .agg #[.int .i64 1, .int .i64 1, .int .i64 0, .int .u64 0, .int .i64 0]] w fun e w' => (∃ v, e = .returned v) ∧ KX B w0 A a 192 s3 w' := by
  have C := k_Do7 (S := s2) h (ec := 1) (ei := 0) (em := 0) (en := 0) ok1 (by rw [n2]; rfl) (by rw [n2]; exact w21) r2 (by rw [n2]; exact q21) (by omega)
  rw [n2] at C
  refine Calls.mono C ?_
  rintro e w' ⟨v, X, rfl, k, -⟩
  exact ⟨⟨v, rfl⟩, k.sub fun x hx => List.mem_append_right _ hx⟩
theorem do_q1 (h : KX B w0 A a 0 (new 2) w) (n2 : a.n = 2) : Calls Tryz.prog 11 #[.pointer (some ⟨a.k, 0, none⟩), .agg #[.int .i64 18, .int .i64 1, .int .i64 0, .int .u64 0, .int .i64 0]] w fun e w' => (∃ v, e = .returned v) ∧ KX B w0 A a 64 s1 w' := by
  have C := k_DoQ (S := new 2) h (ec := 1) (ei := 0) (em := 0) (en := 0) okq (by omega) (by decide)
  rw [n2] at C
  refine Calls.mono C ?_
  rintro e w' ⟨v, X, rfl, k, -⟩
  exact ⟨⟨v, rfl⟩, k.sub fun x hx => List.mem_append_right _ hx⟩
set_option maxRecDepth 100000 in
set_option maxHeartbeats 4000000 in
theorem drive_two {p : Nat} (h : KX B w0 [(p, [.int .i64 0, .int .i64 1, .int .i64 0, .int .i64 1], 3)] a 64 s1 w) (n2 : a.n = 2) : Calls Tryz.prog 12 #[.pointer (some ⟨a.k, 0, none⟩), .slice (some ⟨p, 0, none⟩) 4 4] w fun e w' => e = .returned (.tuple #[.int .i64 2, .int .i64 0]) ∧ Below B w0 w' := by
  have H0 : Hid (KX B w0 [(p, [.int .i64 0, .int .i64 1, .int .i64 0, .int .i64 1], 3)] a 64 s1 w) := h
  clear h
  go_enter Tryz.func12, Tryz.ntmps12
  go_wp2
  go_loopw [12] (fun i wr => ∃ k : Nat, Hid ((k = 0 ∧ KX B w0 [(p, [.int .i64 0, .int .i64 1, .int .i64 0, .int .i64 1], 3)] a 64 s1 wr) ∨ (k = 1 ∧ KX B w0 [(p, [.int .i64 0, .int .i64 1, .int .i64 0, .int .i64 1], 3)] a 128 s2 wr) ∨ (k = 2 ∧ KX B w0 [(p, [.int .i64 0, .int .i64 1, .int .i64 0, .int .i64 1], 3)] a 192 s3 wr)) ∧ i = .int .i64 (k : Int)) (fun i _ => 5 - (intOf i).toNat)
  case atStart => exact ⟨0, Or.inl ⟨rfl, H0.out⟩, rfl⟩
  case round =>
    obtain ⟨k, hm, rfl⟩ := hrel
    rcases hm.out with ⟨rfl, k0⟩ | ⟨rfl, k0⟩ | ⟨rfl, k0⟩
    · have C1 : Hid (∀ _ : Unit, _) := fun _ => still_any k0 n2 i1 r1
      rw [c1] at C1
      have C2 : Hid (∀ v, KX B w0 [(p, [.int .i64 0, .int .i64 1, .int .i64 0, .int .i64 1], 3)] a 64 s1 v → _) := fun v q => do_0 q n2
      have p0 := k0.blk.cell 0
      simp only [List.getElem?_cons_zero, List.getElem?_cons_succ] at p0
      clear k0 hm
      go_wp2_with fail
      refine (C1.out ()).mono ?_
      rintro e w1 ⟨rfl, k1⟩
      have K1 : Hid (KX B w0 [(p, [.int .i64 0, .int .i64 1, .int .i64 0, .int .i64 1], 3)] a 64 s1 w1) := k1
      clear k1 p0 C1
      go_wp2_with fail
      refine (C2.out _ K1.out).mono ?_
      rintro e w2 ⟨⟨v2, rfl⟩, k2⟩
      have K2 : Hid (KX B w0 [(p, [.int .i64 0, .int .i64 1, .int .i64 0, .int .i64 1], 3)] a 128 s2 w2) := k2
      clear k2 C2
      go_wp2
      go_roundw
      case rel => exact ⟨1, Or.inr (Or.inl ⟨rfl, K2.out⟩), by go_num⟩
      case measure => simp [intOf]
    · have C1 : Hid (∀ _ : Unit, _) := fun _ => still_any k0 n2 i2 r2
      rw [c2] at C1
      have C2 : Hid (∀ v, KX B w0 [(p, [.int .i64 0, .int .i64 1, .int .i64 0, .int .i64 1], 3)] a 128 s2 v → _) := fun v q => do_1 q n2
      have p0 := k0.blk.cell 1
      simp only [List.getElem?_cons_zero, List.getElem?_cons_succ] at p0
      clear k0 hm
      go_wp2_with fail
      refine (C1.out ()).mono ?_
      rintro e w1 ⟨rfl, k1⟩
      have K1 : Hid (KX B w0 [(p, [.int .i64 0, .int .i64 1, .int .i64 0, .int .i64 1], 3)] a 128 s2 w1) := k1
      clear k1 p0 C1
      go_wp2_with fail
      refine (C2.out _ K1.out).mono ?_
      rintro e w2 ⟨⟨v2, rfl⟩, k2⟩
      have K2 : Hid (KX B w0 [(p, [.int .i64 0, .int .i64 1, .int .i64 0, .int .i64 1], 3)] a 192 s3 w2) := k2
      clear k2 C2
      go_wp2
      go_roundw
      case rel => exact ⟨2, Or.inr (Or.inr ⟨rfl, K2.out⟩), by go_num⟩
      case measure => simp [intOf]
    · have C1 : Hid (∀ _ : Unit, _) := fun _ => still_any k0 n2 i3 r3
      rw [c3] at C1
      have p0 := k0.blk.cell 2
      simp only [List.getElem?_cons_zero, List.getElem?_cons_succ] at p0
      clear k0 hm
      go_wp2_with fail
      refine (C1.out ()).mono ?_
      rintro e w1 ⟨rfl, k1⟩
      have K1 : Hid (Below B w0 w1) := k1.bel
      clear k1 p0 C1
      go_wp2
      go_ret2
      exact ⟨rfl, K1.out⟩
end
theorem fp1 : Fai.fairp [0, 1, 1, 0] 3 2 = false := by decide +kernel
theorem fp2 : Fai.fairp [0, 1, 0] 3 2 = true := by decide +kernel
theorem fair_1 (w : World) : Calls Tryz.prog 5 #[.slice (some ⟨w.heap.size, 0, none⟩) 4 4, .int .u64 3, .int .i64 2] (w.alloc (.cells #[.int .i64 0, .int .i64 1, .int .i64 1, .int .i64 0] 3)) fun e w' => e = .returned (.bool false) ∧ Below (w.alloc (.cells #[.int .i64 0, .int .i64 1, .int .i64 1, .int .i64 0] 3)).heap.size (w.alloc (.cells #[.int .i64 0, .int .i64 1, .int .i64 1, .int .i64 0] 3)) w' := by
  have C := Fai.fair_any [0, 1, 1, 0] 3 2 (some ⟨w.heap.size, 0, none⟩) 4 (w.alloc (.cells #[.int .i64 0, .int .i64 1, .int .i64 1, .int .i64 0] 3)) (row_of_blk (xs := [0, 1, 1, 0]) (t := 3) (Blk.new w _ _) 4) (by decide) (by decide) (by decide) (by kernel_rfl)
  rw [fp1] at C
  exact C
theorem fair_2 (w : World) : Calls Tryz.prog 5 #[.slice (some ⟨w.heap.size, 0, none⟩) 3 3, .int .u64 3, .int .i64 2] (w.alloc (.cells #[.int .i64 0, .int .i64 1, .int .i64 0] 3)) fun e w' => e = .returned (.bool true) ∧ Below (w.alloc (.cells #[.int .i64 0, .int .i64 1, .int .i64 0] 3)).heap.size (w.alloc (.cells #[.int .i64 0, .int .i64 1, .int .i64 0] 3)) w' := by
  have C := Fai.fair_any [0, 1, 0] 3 2 (some ⟨w.heap.size, 0, none⟩) 3 (w.alloc (.cells #[.int .i64 0, .int .i64 1, .int .i64 0] 3)) (row_of_blk (xs := [0, 1, 0]) (t := 3) (Blk.new w _ _) 3) (by decide) (by decide) (by decide) (by kernel_rfl)
  rw [fp2] at C
  exact C
set_option maxRecDepth 100000 in
set_option maxHeartbeats 4000000 in
theorem fknown_yes (w : World) (T : Tab w) (hs : 1 ≤ w.heap.size) :
    Calls Tryz.prog 4 #[] w fun e w' => e = .returned (.bool true) ∧ Below w.heap.size w w' := by
  have C0 : Hid (∀ _ : Unit, _) := fun _ => k_new 2 w T hs (by decide) (by decide)
  have CB : Hid (∀ v, Calls Tryz.prog 7 #[.int .i64 3] v fun e w' => e = .returned (.int .i64 1500) ∧ w' = v) := fun v => Fai.bound_any 3 v
  clear T hs
  go_enter Tryz.func4, Tryz.ntmps4
  go_wp2_with fail
  refine (C0.out ()).mono ?_
  rintro e w1 ⟨a, rfl, n2, h1⟩
  have C1 : Hid (∀ _ : Unit, _) := fun _ => still_any h1 n2 i0 r0
  rw [c0] at C1
  have C2 : Hid (∀ v, KX w.heap.size w [] a 0 (new 2) v → _) := fun v q => do_q1 q n2
  have HN : Hid (a.n = 2) := n2
  clear h1 n2 C0
  go_wp2_with fail
  refine (C1.out ()).mono ?_
  rintro e w2 ⟨rfl, k2⟩
  have K2 : Hid (KX w.heap.size w [] a 0 (new 2) w2) := k2
  clear k2 C1
  go_wp2_with fail
  refine (C2.out _ K2.out).mono ?_
  rintro e w3 ⟨⟨v3, rfl⟩, k3⟩
  have k4 := k3.new [.int .i64 0, .int .i64 1, .int .i64 0, .int .i64 1] 3
  have C3 : Hid (∀ _ : Unit, _) := fun _ => drive_two k4 HN.out
  clear k3 k4 C2 K2
  go_wp2_with fail
  refine (C3.out ()).mono ?_
  rintro e w5 ⟨rfl, b5⟩
  have B5 : Hid (Below w.heap.size w w5) := b5
  clear b5 C3
  go_wp2_with fail
  refine (fair_1 w5).mono ?_
  rintro e w6 ⟨rfl, b6⟩
  have B6 : Hid (Below w.heap.size w w6) := by
    have q : Below w.heap.size w (w5.alloc (.cells #[.int .i64 0, .int .i64 1, .int .i64 1, .int .i64 0] 3)) := B5.out.alloc B5.out.size _
    exact q.trans (b6.mono q.size)
  clear b6
  go_wp2_with fail
  refine (fair_2 w6).mono ?_
  rintro e w7 ⟨rfl, b7⟩
  have B7 : Hid (Below w.heap.size w w7) := by
    have q : Below w.heap.size w (w6.alloc (.cells #[.int .i64 0, .int .i64 1, .int .i64 0] 3)) := B6.out.alloc B6.out.size _
    exact q.trans (b7.mono q.size)
  clear b7
  go_wp2_with fail
  refine (CB.out _).mono ?_
  rintro e w8 ⟨rfl, rfl⟩
  go_wp2
  go_ret
  exact ⟨rfl, B7.out⟩
end Go.Proofs.YtfipiifickdeiaaGreatDoor.Krn
