/- A run of the program as it lies in memory; what its New, At, Done, Fail, Why and Many answer and leave, for every one. -/
import Derived.Test.YtaaikbehdfkhlaaRows
import Derived.Test.YtaaikbehdfkhlaaRm
import Derived.Test.YtaaikbehdfkhlaaFg
import Derived.WalkKit
import Derived.ProofKit
import Derived.OpenShut
import Derived.BigQuiet
namespace Go.Proofs.Ytaaikbehdfkhlaa
open Go.ChangeShapes Go.WideShapes Go.ChangeAt Go.RowKit
open Rm

/-- A run at block b: of n stages d are done; it goes back, or not. -/
structure RN (w : World) (b n d : Nat) (bk : Bool) : Prop where
  sb : Blk w b [.int .i64 (n : Int), .int .i64 (d : Int), .bool bk] 65
  n1 : 1 ≤ n
  n2 : n ≤ 64
  dn : d ≤ n

section
variable {w w1 : World} {b n d : Nat} {bk : Bool}
theorem RN.c0 (q : RN w b n d bk) : w.cell? ⟨b, 0, none⟩ = some (.int .i64 (n : Int)) := q.sb.cell 0
theorem RN.c1 (q : RN w b n d bk) : w.cell? ⟨b, 1, none⟩ = some (.int .i64 (d : Int)) := q.sb.cell 1
theorem RN.c2 (q : RN w b n d bk) : w.cell? ⟨b, 2, none⟩ = some (.bool bk) := q.sb.cell 2
theorem RN.f1 (q : RN w b n d bk) : w.frozen? ⟨b, 1, none⟩ = false := q.sb.free 1
theorem RN.f2 (q : RN w b n d bk) : w.frozen? ⟨b, 2, none⟩ = false := q.sb.free 2
theorem RN.heap (q : RN w b n d bk) (e : w1.heap = w.heap) : RN w1 b n d bk := ⟨q.sb.heap e, q.n1, q.n2, q.dn⟩
theorem RN.keep {B : Nat} {S : List Nat} (q : RN w b n d bk) (k : Fr B S w w1) (hb : b < B) (hs : b ∉ S) : RN w1 b n d bk := ⟨q.sb.keep k hb hs, q.n1, q.n2, q.dn⟩
theorem rn_d (q : RN w b n d bk) (x : Nat) (hx : x ≤ n) : RN (w.setCell ⟨b, 1, none⟩ (.int .i64 (x : Int))) b n x bk := ⟨q.sb.set 1 _, q.n1, q.n2, hx⟩
theorem rn_b (q : RN w b n d bk) (x : Bool) : RN (w.setCell ⟨b, 2, none⟩ (.bool x)) b n d x := ⟨q.sb.set 2 _, q.n1, q.n2, q.dn⟩
end

theorem gnew_bad (n : Int) (w : World) (h : n < 1 ∨ 64 < n) :
    Calls Try.prog 9 #[.int .i64 n] w fun e w' => e = .returned (.tuple #[.pointer none, .int .i64 2]) ∧ Sm w' w := by
  rcases h with h | h
  · go_enter Try.func9, Try.ntmps9
    go_wp2
    go_ret2
    exact ⟨rfl, rfl, rfl, rfl, rfl⟩
  · have h2 : ¬ n < 1 := by omega
    go_enter Try.func9, Try.ntmps9
    go_wp2
    go_ret2
    exact ⟨rfl, rfl, rfl, rfl, rfl⟩
theorem gnew_any (n : Nat) (w : World) (h1 : (1 : Int) ≤ n) (h2 : (n : Int) ≤ 64) :
    Calls Try.prog 9 #[.int .i64 (n : Int)] w fun e w' => e = .returned (.tuple #[.pointer (some ⟨w.heap.size, 0, none⟩), .int .i64 0]) ∧ RN w' w.heap.size n 0 false ∧ Below w.heap.size w w' := by
  have B : Hid (∀ o, Below w.heap.size w (w.alloc o)) := fun o => (Below.refl _ _).alloc (Nat.le_refl _) o
  have G : Hid (RN (w.alloc (.cells #[.int .i64 (n : Int), .int .i64 0, .bool false] 65)) w.heap.size n 0 false) := ⟨Blk.new w [.int .i64 (n : Int), .int .i64 0, .bool false] _, by omega, by omega, by omega⟩
  go_enter Try.func9, Try.ntmps9
  go_wp2
  go_ret2
  exact ⟨rfl, G.out, B.out _⟩
set_option maxHeartbeats 400000 in
theorem gat_any {b n d : Nat} {bk : Bool} (w : World) (q : RN w b n d bk) :
    Calls Try.prog 16 #[.pointer (some ⟨b, 0, none⟩)] w fun e w' => e = .returned (.tuple #[.int .i64 ((atK n d bk : Nat) : Int), .bool bk, .bool (ov n d bk)]) ∧ Sm w' w := by
  have c0 := q.c0
  have c1 := q.c1
  have c2 := q.c2
  have n1 := q.n1
  have n2 : (n : Int) ≤ 64 := by have := q.n2; omega
  rcases four bk q.dn with ⟨rfl, rfl⟩ | ⟨rfl, h⟩ | ⟨rfl, h⟩ | ⟨rfl, rfl⟩
  · rw [ov_b0, at_b0]
    clear q n1
    go_enter Try.func16, Try.ntmps16
    go_wp2
    go_quiet (fail)
    go_wp2
    go_quiet (fail)
    go_wp2
    go_ret3
    exact ⟨rfl, rfl, rfl, rfl, rfl⟩
  · rw [ov_b h, at_b]
    have hp : (d : Int) - 1 = ((d - 1 : Nat) : Int) := by omega
    have h0 : (0 : Int) < d := by omega
    have h1 : (d : Int) ≤ n := by have := q.dn; omega
    generalize d - 1 = p at *
    clear q n1 h
    go_enter Try.func16, Try.ntmps16
    go_wp2
    go_ret3
    exact ⟨rfl, rfl, rfl, rfl, rfl⟩
  · rw [ov_f h, at_f h]
    have h1 : (d : Int) < n := by omega
    clear q n1 h
    go_enter Try.func16, Try.ntmps16
    go_wp2
    go_quiet (fail)
    go_wp2
    go_ret3
    exact ⟨rfl, rfl, rfl, rfl, rfl⟩
  · rw [ov_n, at_n]
    have h1 : decide ((d : Int) < d) = false := by simp
    clear q n1
    go_enter Try.func16, Try.ntmps16
    go_wp2
    go_quiet (fail)
    go_wp2
    go_quiet (fail)
    go_wp2
    go_ret3
    exact ⟨rfl, rfl, rfl, rfl, rfl⟩
set_option maxHeartbeats 400000 in
theorem gdone_any {b n d : Nat} {bk : Bool} (w : World) (q : RN w b n d bk) :
    Calls Try.prog 12 #[.pointer (some ⟨b, 0, none⟩)] w fun e w' => e = .returned (.int .i64 (dnE n d bk)) ∧ RN w' b n (dnD n d bk) bk ∧ Fr w.heap.size [b] w w' := by
  have A : Hid (∀ _ : Unit, _) := fun _ => gat_any w q
  have Q : Hid (RN w b n d bk) := q
  have n2 : (n : Int) ≤ 64 := by have := q.n2; omega
  have h1 : (d : Int) ≤ n := by have := q.dn; omega
  rcases four bk q.dn with ⟨rfl, rfl⟩ | ⟨rfl, h⟩ | ⟨rfl, h⟩ | ⟨rfl, rfl⟩
  · rw [ov_b0, at_b0] at A
    rw [show dnE n 0 true = 6 from rfl, show dnD n 0 true = 0 from rfl]
    clear q
    go_enter Try.func12, Try.ntmps12
    go_wp2_with fail
    refine (A.out ()).mono ?_
    rintro e w1 ⟨rfl, m1⟩
    have M1 : Hid (Sm w1 w) := m1
    clear m1
    go_wp2
    go_ret
    exact ⟨rfl, Q.out.heap M1.out.1, M1.out.fr (Fr.refl _ _ _)⟩
  · rw [ov_b h] at A
    rw [show dnE n d true = 0 by simp [dnE, ov_b h], show dnD n d true = d - 1 by simp [dnD, ov_b h]]
    have HP : Hid (d - 1 ≤ n) := by show d - 1 ≤ n; omega
    have hp : (d : Int) - 1 = ((d - 1 : Nat) : Int) := by omega
    have h0 : (0 : Int) < d := by omega
    generalize atK n d true = k at *
    generalize d - 1 = p at *
    clear q h
    go_enter Try.func12, Try.ntmps12
    go_wp2_with fail
    refine (A.out ()).mono ?_
    rintro e w1 ⟨rfl, m1⟩
    have q1 := Q.out.heap m1.1
    have c1 := q1.c1
    have f1 := q1.f1
    have M1 : Hid (Sm w1 w ∧ RN w1 b n d true) := ⟨m1, q1⟩
    clear m1 q1
    go_wp2
    go_ret
    exact ⟨rfl, rn_d M1.out.2 _ HP.out, M1.out.1.fr ((Fr.refl _ _ _).setCell (Or.inr (by simp)) _)⟩
  · rw [ov_f h] at A
    rw [show dnE n d false = 0 by simp [dnE, ov_f h], show dnD n d false = d + 1 by simp [dnD, ov_f h]]
    have HP : Hid (d + 1 ≤ n) := by show d + 1 ≤ n; omega
    have hp : (d : Int) + 1 = ((d + 1 : Nat) : Int) := by omega
    generalize atK n d false = k at *
    generalize d + 1 = p at *
    clear q h
    go_enter Try.func12, Try.ntmps12
    go_wp2_with fail
    refine (A.out ()).mono ?_
    rintro e w1 ⟨rfl, m1⟩
    have q1 := Q.out.heap m1.1
    have c1 := q1.c1
    have f1 := q1.f1
    have M1 : Hid (Sm w1 w ∧ RN w1 b n d false) := ⟨m1, q1⟩
    clear m1 q1
    go_wp2
    go_ret
    exact ⟨rfl, rn_d M1.out.2 _ HP.out, M1.out.1.fr ((Fr.refl _ _ _).setCell (Or.inr (by simp)) _)⟩
  · rw [ov_n, at_n] at A
    rw [show dnE d d false = 6 by simp [dnE, ov_n], show dnD d d false = d by simp [dnD, ov_n]]
    clear q
    go_enter Try.func12, Try.ntmps12
    go_wp2_with fail
    refine (A.out ()).mono ?_
    rintro e w1 ⟨rfl, m1⟩
    have M1 : Hid (Sm w1 w) := m1
    clear m1
    go_wp2
    go_ret
    exact ⟨rfl, Q.out.heap M1.out.1, M1.out.fr (Fr.refl _ _ _)⟩
set_option maxHeartbeats 400000 in
theorem gfail_any {b n d : Nat} {bk : Bool} (w : World) (q : RN w b n d bk) :
    Calls Try.prog 14 #[.pointer (some ⟨b, 0, none⟩)] w fun e w' => e = .returned (.int .i64 (flE n d bk)) ∧ RN w' b n d (flB n d bk) ∧ Fr w.heap.size [b] w w' := by
  have A : Hid (∀ _ : Unit, _) := fun _ => gat_any w q
  have Q : Hid (RN w b n d bk) := q
  have n2 : (n : Int) ≤ 64 := by have := q.n2; omega
  rcases four bk q.dn with ⟨rfl, rfl⟩ | ⟨rfl, h⟩ | ⟨rfl, h⟩ | ⟨rfl, rfl⟩
  · rw [ov_b0, at_b0] at A
    rw [show flE n 0 true = 6 from rfl, show flB n 0 true = true from rfl]
    clear q
    go_enter Try.func14, Try.ntmps14
    go_wp2_with fail
    refine (A.out ()).mono ?_
    rintro e w1 ⟨rfl, m1⟩
    have M1 : Hid (Sm w1 w) := m1
    clear m1
    go_wp2
    go_ret
    exact ⟨rfl, Q.out.heap M1.out.1, M1.out.fr (Fr.refl _ _ _)⟩
  · rw [ov_b h] at A
    rw [show flE n d true = 6 by simp [flE], show flB n d true = true by simp [flB]]
    generalize atK n d true = k at *
    clear q h
    go_enter Try.func14, Try.ntmps14
    go_wp2_with fail
    refine (A.out ()).mono ?_
    rintro e w1 ⟨rfl, m1⟩
    have M1 : Hid (Sm w1 w) := m1
    clear m1
    go_wp2
    go_ret
    exact ⟨rfl, Q.out.heap M1.out.1, M1.out.fr (Fr.refl _ _ _)⟩
  · rw [ov_f h] at A
    rw [show flE n d false = 0 by simp [flE, ov_f h], show flB n d false = true by simp [flB, ov_f h]]
    generalize atK n d false = k at *
    clear q h
    go_enter Try.func14, Try.ntmps14
    go_wp2_with fail
    refine (A.out ()).mono ?_
    rintro e w1 ⟨rfl, m1⟩
    have q1 := Q.out.heap m1.1
    have f2 := q1.f2
    have c2 := q1.c2
    have M1 : Hid (Sm w1 w ∧ RN w1 b n d false) := ⟨m1, q1⟩
    clear m1 q1
    go_wp2
    go_ret
    exact ⟨rfl, rn_b M1.out.2 _, M1.out.1.fr ((Fr.refl _ _ _).setCell (Or.inr (by simp)) _)⟩
  · rw [ov_n, at_n] at A
    rw [show flE d d false = 6 by simp [flE, ov_n], show flB d d false = false by simp [flB, ov_n]]
    clear q
    go_enter Try.func14, Try.ntmps14
    go_wp2_with fail
    refine (A.out ()).mono ?_
    rintro e w1 ⟨rfl, m1⟩
    have M1 : Hid (Sm w1 w) := m1
    clear m1
    go_wp2
    go_ret
    exact ⟨rfl, Q.out.heap M1.out.1, M1.out.fr (Fr.refl _ _ _)⟩
set_option maxHeartbeats 400000 in
theorem gwhy_any {b n d : Nat} {bk : Bool} (w : World) (q : RN w b n d bk) :
    Calls Try.prog 18 #[.pointer (some ⟨b, 0, none⟩)] w fun e w' => e = .returned (.int .i64 (whE n d bk)) ∧ Sm w' w := by
  have A : Hid (∀ _ : Unit, _) := fun _ => gat_any w q
  rcases four bk q.dn with ⟨rfl, rfl⟩ | ⟨rfl, h⟩ | ⟨rfl, h⟩ | ⟨rfl, rfl⟩
  · rw [ov_b0, at_b0] at A
    rw [show whE n 0 true = 11 from rfl]
    clear q
    go_enter Try.func18, Try.ntmps18
    go_wp2_with fail
    refine (A.out ()).mono ?_
    rintro e w1 ⟨rfl, m1⟩
    have M1 : Hid (Sm w1 w) := m1
    clear m1
    go_wp2
    go_ret
    exact ⟨rfl, M1.out⟩
  · rw [ov_b h] at A
    rw [show whE n d true = 7 by simp [whE, ov_b h]]
    generalize atK n d true = k at *
    clear q h
    go_enter Try.func18, Try.ntmps18
    go_wp2_with fail
    refine (A.out ()).mono ?_
    rintro e w1 ⟨rfl, m1⟩
    have M1 : Hid (Sm w1 w) := m1
    clear m1
    go_wp2
    go_ret
    exact ⟨rfl, M1.out⟩
  · rw [ov_f h] at A
    rw [show whE n d false = 7 by simp [whE, ov_f h]]
    generalize atK n d false = k at *
    clear q h
    go_enter Try.func18, Try.ntmps18
    go_wp2_with fail
    refine (A.out ()).mono ?_
    rintro e w1 ⟨rfl, m1⟩
    have M1 : Hid (Sm w1 w) := m1
    clear m1
    go_wp2
    go_ret
    exact ⟨rfl, M1.out⟩
  · rw [ov_n, at_n] at A
    rw [show whE d d false = 0 by simp [whE, ov_n]]
    clear q
    go_enter Try.func18, Try.ntmps18
    go_wp2_with fail
    refine (A.out ()).mono ?_
    rintro e w1 ⟨rfl, m1⟩
    have M1 : Hid (Sm w1 w) := m1
    clear m1
    go_wp2
    go_ret
    exact ⟨rfl, M1.out⟩
set_option maxHeartbeats 400000 in
theorem gmany_any {b n d : Nat} {bk : Bool} (w : World) (q : RN w b n d bk) :
    Calls Try.prog 20 #[.pointer (some ⟨b, 0, none⟩)] w fun e w' => e = .returned (.int .i64 (d : Int)) ∧ w' = w := by
  have c1 := q.c1
  clear q
  go_enter Try.func20, Try.ntmps20
  go_wp2
  go_ret
  exact ⟨rfl, rfl⟩
theorem gnil_at (w : World) : Calls Try.prog 16 #[.pointer none] w fun e w' => e = .returned (.tuple #[.int .i64 0, .bool false, .bool true]) ∧ w' = w := by
  go_enter Try.func16, Try.ntmps16
  go_wp2
  go_ret3
  exact ⟨rfl, rfl⟩
theorem gnil_many (w : World) : Calls Try.prog 20 #[.pointer none] w fun e w' => e = .returned (.int .i64 0) ∧ w' = w := by
  go_enter Try.func20, Try.ntmps20
  go_wp2
  go_ret
  exact ⟨rfl, rfl⟩
theorem gnil_done (w : World) : Calls Try.prog 12 #[.pointer none] w fun e w' => e = .returned (.int .i64 1) ∧ w' = w := by
  have C0 : Hid (∀ w, _) := fun w => gnil_at w
  go_enter Try.func12, Try.ntmps12
  go_wp2_with fail
  refine (C0.out _).mono ?_
  rintro e w1 ⟨rfl, rfl⟩
  go_wp2
  go_ret
  exact ⟨rfl, rfl⟩
theorem gnil_fail (w : World) : Calls Try.prog 14 #[.pointer none] w fun e w' => e = .returned (.int .i64 1) ∧ w' = w := by
  have C0 : Hid (∀ w, _) := fun w => gnil_at w
  go_enter Try.func14, Try.ntmps14
  go_wp2_with fail
  refine (C0.out _).mono ?_
  rintro e w1 ⟨rfl, rfl⟩
  go_wp2
  go_ret
  exact ⟨rfl, rfl⟩
theorem gnil_why (w : World) : Calls Try.prog 18 #[.pointer none] w fun e w' => e = .returned (.int .i64 1) ∧ w' = w := by
  have C0 : Hid (∀ w, _) := fun w => gnil_at w
  go_enter Try.func18, Try.ntmps18
  go_wp2_with fail
  refine (C0.out _).mono ?_
  rintro e w1 ⟨rfl, rfl⟩
  go_wp2
  go_ret
  exact ⟨rfl, rfl⟩
end Go.Proofs.Ytaaikbehdfkhlaa
