/- Events as lines: the document's Line. -/
import Derived.Test.YtcifjdnmnmmhoaaDoorRows
import Derived.Test.YtcifjdnmnmmhoaaDoorWd17
import Derived.WalkKit
import Derived.ProofKit
import Derived.OpenShut
import Derived.BigQuiet
import Derived.WalkSmall
import Derived.WalkSpells
namespace Go.Proofs.YtcifjdnmnmmhoaaDoor
open Go.ChangeShapes Go.WideShapes Go.ChangeAt Go.RowKit
open Wd Mm
set_option linter.unusedVariables false
set_option linter.unusedSimpArgs false
set_option maxRecDepth 100000

theorem onl_k (e : V) (L : List UInt8) : (onl e L).k = e.k := by
  unfold onl
  suffices ∀ (L : List UInt8) (x : V), (L.foldl (cpf e) x).k = x.k from this L _
  intro L
  induction L with
  | nil => intro x; rfl
  | cons l L ih =>
    intro x
    rw [List.foldl_cons, ih]
    unfold cpf
    split
    · rfl
    · split
      · rfl
      · split <;> rfl
theorem nmI_nil (k : Int) (h : ¬ isK k) : nmI k = [] := by
  unfold nmI
  unfold isK at h
  by_cases h2 : 0 ≤ k ∧ k < 31
  · rw [if_pos h2, show k = 0 by omega]; rfl
  · exact if_neg h2
theorem nmI_ne (k : Int) (h : isK k) : nmI k ≠ [] := by
  unfold isK at h
  rw [show nmI k = nmk k.toNat from if_pos (by omega)]
  intro e
  have hk : k.toNat < 31 := by omega
  have := kOf_nm ⟨k.toNat, hk⟩
  simp only at this
  rw [e] at this
  have h2 : kOf [] = 0 := rfl
  omega
theorem lineR_is (e : V) (h : isK e.k) : (onl e (ltI e.k) = e → lineR e = .tuple #[.string (sb (nmI e.k ++ wrS e (ltI e.k))), .int .i64 0]) ∧ (onl e (ltI e.k) ≠ e → lineR e = .tuple #[.string (sb []), .int .i64 2]) := by
  have h2 := h
  unfold isK at h2
  have e1 : nmI e.k = nmk e.k.toNat := if_pos (by omega)
  have e2 : ltI e.k = ltk e.k.toNat := if_pos (by omega)
  rw [e1, e2]
  refine ⟨fun hx => ?_, fun hx => ?_⟩
  · unfold lineR lineOf
    rw [if_pos ⟨h, (onl_iff e (lt_all _)).1 hx⟩, lw_is e (lt_all _)]
    rfl
  · unfold lineR lineOf
    rw [if_neg (fun hh => hx ((onl_iff e (lt_all _)).2 hh.2))]
theorem lineR_no (e : V) (h : ¬ isK e.k) : lineR e = .tuple #[.string (sb []), .int .i64 2] := by
  unfold lineR lineOf
  rw [if_neg (fun hh => h hh.1)]
theorem v_ne {a b : V} (hk : a.k = b.k) (h : a ≠ b) : (a.c == b.c) = false ∨ ((a.c == b.c) = true ∧ (a.i == b.i) = false) ∨ ((a.c == b.c) = true ∧ (a.i == b.i) = true ∧ (((a.m : Nat) : Int) == ((b.m : Nat) : Int)) = false) ∨ ((a.c == b.c) = true ∧ (a.i == b.i) = true ∧ (((a.m : Nat) : Int) == ((b.m : Nat) : Int)) = true ∧ (a.n == b.n) = false) := by
  simp only [beq_iff_eq, beq_eq_false_iff_ne]
  by_cases h1 : a.c = b.c
  · by_cases h2 : a.i = b.i
    · by_cases h3 : a.m = b.m
      · by_cases h4 : a.n = b.n
        · exact absurd (by cases a; cases b; simp_all) h
        · exact Or.inr (Or.inr (Or.inr ⟨h1, h2, by omega, h4⟩))
      · exact Or.inr (Or.inr (Or.inl ⟨h1, h2, by omega⟩))
    · exact Or.inr (Or.inl ⟨h1, h2⟩)
  · exact Or.inl h1

set_option maxHeartbeats 4000000 in
theorem rline_any (e : V) (he : e.wf) (w : World) :
    Calls Tryd.prog 8 #[.agg (V.vals e).toArray] w fun r w' => r = .returned (lineR e) ∧ Below w.heap.size w w' := by
  have CW : Hid (∀ w, _) := fun w => write_any e he w
  have CN : Hid (∀ w, _) := fun w => rname_any e.k w
  have BA : Hid (Below w.heap.size w (w.alloc (.cells (V.vals e).toArray 24))) := (Below.refl _ _).alloc (Nat.le_refl _) _
  have KA : Blk (w.alloc (.cells (V.vals e).toArray 24)) w.heap.size (V.vals e) 24 := Blk.new w _ _
  have KE : Hid (∀ u, Below (w.alloc (.cells (V.vals e).toArray 24)).heap.size (w.alloc (.cells (V.vals e).toArray 24)) u → Blk u w.heap.size (V.vals e) 24) := fun u f => KA.keep (Fr.of_below f) KA.lt (by simp)
  have BB : Hid (∀ u, Below (w.alloc (.cells (V.vals e).toArray 24)).heap.size (w.alloc (.cells (V.vals e).toArray 24)) u → Below w.heap.size w u) := fun u f => BA.out.trans (f.mono BA.out.size)
  clear KA
  obtain ⟨R, hR⟩ : ∃ R, lineR e = R := ⟨_, rfl⟩
  by_cases hk : isK e.k
  · have LI := lineR_is e hk
    have nn : (nmI e.k == []) = false := by rw [beq_eq_false_iff_ne]; exact nmI_ne _ hk
    have nn2 : ¬ nmI e.k = [] := nmI_ne _ hk
    rw [hR] at LI ⊢
    have XK := onl_k e (ltI e.k)
    generalize nmI e.k ++ wrS e (ltI e.k) = S at *
    generalize onl e (ltI e.k) = X at *
    generalize nmI e.k = nm at *
    have CASE : (X = e ∧ R = .tuple #[.string (sb S), .int .i64 0]) ∨ (X ≠ e ∧ R = .tuple #[.string (sb []), .int .i64 2]) := by
      by_cases h : X = e
      · exact Or.inl ⟨h, LI.1 h⟩
      · exact Or.inr ⟨h, LI.2 h⟩
    clear LI hR hk he
    rcases CASE with ⟨rfl, rfl⟩ | ⟨hx, rfl⟩
    · dsimp only [V.vals] at CW BA KE BB ⊢
      clear XK
      go_enter Tryd.func8, Tryd.ntmps8
      go_wp2_with fail
      refine (CW.out _).mono ?_
      rintro r u ⟨rfl, bu⟩
      have K1 := KE.out u bu
      have B1 : Hid _ := BB.out u bu
      have K2 : Blk (u.alloc (.cells (V.vals X).toArray 24)) w.heap.size (V.vals X) 24 := K1.alloc _
      have k0 : (u.alloc (.cells #[.int .i64 X.k, .int .i64 X.c, .int .i64 X.i, .int .u64 ((X.m : Nat) : Int), .int .i64 X.n] 24)).cell? ⟨w.heap.size, 0, none⟩ = some (.int .i64 X.k) := K2.cell 0
      have K3 : Hid (Blk u w.heap.size (V.vals X) 24) := K1
      clear bu K1 K2 CW KE BB BA
      go_wp2_with fail
      refine (CN.out _).mono ?_
      rintro r u2 ⟨rfl, b2⟩
      have M1 : Blk u2 w.heap.size (V.vals X) 24 := (K3.out.alloc _).keep (Fr.of_below b2) (by have := K3.out.lt; simp; omega) (by simp)
      have M2 : Blk u2 u.heap.size (V.vals X) 24 := (Blk.new u (V.vals X) 24).keep (Fr.of_below b2) (by simp) (by simp)
      have B2 : Hid (Below w.heap.size w u2) := (B1.out.alloc (by have := B1.out.size; omega) _).trans (b2.mono (by have := B1.out.size; simp; omega))
      have a0 : u2.cell? ⟨w.heap.size, 0, none⟩ = some (.int .i64 X.k) := M1.cell 0
      have a1 : u2.cell? ⟨w.heap.size, 1, none⟩ = some (.int .i64 X.c) := M1.cell 1
      have a2 : u2.cell? ⟨w.heap.size, 2, none⟩ = some (.int .i64 X.i) := M1.cell 2
      have a3 : u2.cell? ⟨w.heap.size, 3, none⟩ = some (.int .u64 ((X.m : Nat) : Int)) := M1.cell 3
      have a4 : u2.cell? ⟨w.heap.size, 4, none⟩ = some (.int .i64 X.n) := M1.cell 4
      have c0 : u2.cell? ⟨u.heap.size, 0, none⟩ = some (.int .i64 X.k) := M2.cell 0
      have c1 : u2.cell? ⟨u.heap.size, 1, none⟩ = some (.int .i64 X.c) := M2.cell 1
      have c2 : u2.cell? ⟨u.heap.size, 2, none⟩ = some (.int .i64 X.i) := M2.cell 2
      have c3 : u2.cell? ⟨u.heap.size, 3, none⟩ = some (.int .u64 ((X.m : Nat) : Int)) := M2.cell 3
      have c4 : u2.cell? ⟨u.heap.size, 4, none⟩ = some (.int .i64 X.n) := M2.cell 4
      clear b2 M1 M2 K3 B1 k0
      go_wp2
      go_ret2
      exact ⟨rfl, B2.out⟩
    · have NE := v_ne XK hx
      have HXK : Hid (X.k = e.k) := XK
      dsimp only [V.vals] at CW BA KE BB ⊢
      clear hx XK
      go_enter Tryd.func8, Tryd.ntmps8
      go_wp2_with fail
      refine (CW.out _).mono ?_
      rintro r u ⟨rfl, bu⟩
      have K1 := KE.out u bu
      have B1 : Hid _ := BB.out u bu
      have K2 : Blk (u.alloc (.cells (V.vals X).toArray 24)) w.heap.size (V.vals e) 24 := K1.alloc _
      have k0 : (u.alloc (.cells #[.int .i64 X.k, .int .i64 X.c, .int .i64 X.i, .int .u64 ((X.m : Nat) : Int), .int .i64 X.n] 24)).cell? ⟨w.heap.size, 0, none⟩ = some (.int .i64 e.k) := K2.cell 0
      have K3 : Hid (Blk u w.heap.size (V.vals e) 24) := K1
      clear bu K1 K2 CW KE BB BA
      go_wp2_with fail
      refine (CN.out _).mono ?_
      rintro r u2 ⟨rfl, b2⟩
      have M1 : Blk u2 w.heap.size (V.vals e) 24 := (K3.out.alloc _).keep (Fr.of_below b2) (by have := K3.out.lt; simp; omega) (by simp)
      have M2 : Blk u2 u.heap.size (V.vals X) 24 := (Blk.new u (V.vals X) 24).keep (Fr.of_below b2) (by simp) (by simp)
      have B2 : Hid (Below w.heap.size w u2) := (B1.out.alloc (by have := B1.out.size; omega) _).trans (b2.mono (by have := B1.out.size; simp; omega))
      have a0 : u2.cell? ⟨w.heap.size, 0, none⟩ = some (.int .i64 e.k) := M1.cell 0
      have a1 : u2.cell? ⟨w.heap.size, 1, none⟩ = some (.int .i64 e.c) := M1.cell 1
      have a2 : u2.cell? ⟨w.heap.size, 2, none⟩ = some (.int .i64 e.i) := M1.cell 2
      have a3 : u2.cell? ⟨w.heap.size, 3, none⟩ = some (.int .u64 ((e.m : Nat) : Int)) := M1.cell 3
      have a4 : u2.cell? ⟨w.heap.size, 4, none⟩ = some (.int .i64 e.n) := M1.cell 4
      have c0 : u2.cell? ⟨u.heap.size, 0, none⟩ = some (.int .i64 X.k) := M2.cell 0
      have c1 : u2.cell? ⟨u.heap.size, 1, none⟩ = some (.int .i64 X.c) := M2.cell 1
      have c2 : u2.cell? ⟨u.heap.size, 2, none⟩ = some (.int .i64 X.i) := M2.cell 2
      have c3 : u2.cell? ⟨u.heap.size, 3, none⟩ = some (.int .u64 ((X.m : Nat) : Int)) := M2.cell 3
      have c4 : u2.cell? ⟨u.heap.size, 4, none⟩ = some (.int .i64 X.n) := M2.cell 4
      clear b2 M1 M2 K3 B1 k0
      rw [HXK.out] at c0
      generalize X.c = Xc at *
      generalize X.i = Xi at *
      generalize ((X.m : Nat) : Int) = Xm at *
      generalize X.n = Xn at *
      clear HXK
      rcases NE with q1 | ⟨q1, q2⟩ | ⟨q1, q2, q3⟩ | ⟨q1, q2, q3, q4⟩
      all_goals
        go_wp2
        go_ret2
        exact ⟨rfl, B2.out⟩
  · have nn : nmI e.k = [] := nmI_nil _ hk
    rw [lineR_no e hk]
    rw [nn] at CN
    have qq : (([] : List UInt8) == []) = true := rfl
    generalize nmI e.k ++ wrS e (ltI e.k) = S at *
    generalize onl e (ltI e.k) = X at *
    dsimp only [V.vals] at CW BA KE BB ⊢
    clear nn hR hk he
    go_enter Tryd.func8, Tryd.ntmps8
    go_wp2_with fail
    refine (CW.out _).mono ?_
    rintro r u ⟨rfl, bu⟩
    have K1 := KE.out u bu
    have B1 : Hid _ := BB.out u bu
    have K2 : Blk (u.alloc (.cells (V.vals X).toArray 24)) w.heap.size (V.vals e) 24 := K1.alloc _
    have k0 : (u.alloc (.cells #[.int .i64 X.k, .int .i64 X.c, .int .i64 X.i, .int .u64 ((X.m : Nat) : Int), .int .i64 X.n] 24)).cell? ⟨w.heap.size, 0, none⟩ = some (.int .i64 e.k) := K2.cell 0
    clear bu K1 K2 CW KE BB BA
    go_wp2_with fail
    refine (CN.out _).mono ?_
    rintro r u2 ⟨rfl, b2⟩
    have B2 : Hid (Below w.heap.size w u2) := (B1.out.alloc (by have := B1.out.size; omega) _).trans (b2.mono (by have := B1.out.size; simp; omega))
    clear b2 B1 k0
    go_wp2
    go_ret2
    exact ⟨rfl, B2.out⟩
end Go.Proofs.YtcifjdnmnmmhoaaDoor
