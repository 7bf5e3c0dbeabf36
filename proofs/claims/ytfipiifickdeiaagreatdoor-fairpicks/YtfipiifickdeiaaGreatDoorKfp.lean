/- The events that davitlaw36's fixed calls play: a work for a core; a step in which a core rests; one in which a work is done. -/
import Derived.Test.YtfipiifickdeiaaGreatDoorRows
import Derived.Test.YtfipiifickdeiaaGreatDoorZkb
import Derived.Test.YtfipiifickdeiaaGreatDoorZkc
import Derived.Test.YtfipiifickdeiaaGreatDoorZkd
import Derived.WalkKit
import Derived.ProofKit
import Derived.OpenShut
import Derived.BigQuiet
import Derived.Deep.RegionHeld3
namespace Go.Proofs.YtfipiifickdeiaaGreatDoor.Krn
open Go.ChangeShapes Go.WideShapes Go.ChangeAt Go.RowKit
open Mm
set_option linter.unusedVariables false
set_option linter.unusedSimpArgs false

section
variable {B : Nat} {w0 : World} {A : List (Nat × List Value × TypeId)} {a : KA} {m m' : Nat} {S S' : KS} {w w' : World}
set_option maxRecDepth 100000 in
set_option maxHeartbeats 4000000 in
theorem k_step7n (h : KX B w0 A a m S w) (c : Int) (hc : isC a.n c = true) (hwh : Cor.Co.next (zc S c).1 (zc S c).2 (flags a.n S c) = 7) (hR : Hid (S.R.isSome = false)) (q7 : Hid ((0 : Int) < ((Cm.wlL a.n S.wk c).length : Int))) :
    Calls Tryz.prog 37 #[.pointer (some ⟨a.k, 0, none⟩), .int .i64 (c)] w fun e w' => ∃ v X, e = .returned v ∧ KX B w0 (X ++ A) a (m + 33) (([(thing a.n S 7 c).1], (thing a.n S 7 c).2)).2 w' ∧ Rr X v (([(thing a.n S 7 c).1], (thing a.n S 7 c).2)).1 := by
  unfold thing
  simp only [Int.reduceEq, if_true, if_false]
  have c15 := h.c15
  have T := h.isT
  have tT : Cor.Co.isT S.now = true := by simp [Cor.Co.isT]; omega
  have CG : Hid (∀ _ : Unit, _) := fun _ => co_get h c hc
  obtain ⟨⟨p, i⟩, hz⟩ : ∃ q, q = zc S c := ⟨_, rfl⟩
  have HZ : Hid (zc S c = (p, i)) := hz.symm
  rw [← hz] at hwh
  simp only at hwh
  clear hz
  cases p
  · exact absurd hwh (by simp [Cor.Co.next])
  · go_enter Tryz.func37, Tryz.ntmps37
    go_wp2_with fail
    refine (CG.out ()).mono ?_
    rintro e w1 ⟨x, rfl, hx, h1⟩
    obtain ⟨x0, x1, x2, x3, x4, x5⟩ := x
    simp only [pi, HZ.out, Prod.mk.injEq] at hx
    obtain ⟨e0, e1⟩ := hx
    subst e0
    have HW : Cor.Co.next true x1 (flags a.n S c) = 7 := by rw [e1]; exact hwh
    clear e1
    have h2 := h1.new [.bool true, .bool x1, .int .i64 x2, .int .i64 x3, .int .i64 x4, .int .i64 x5] 171
    have KF : Hid (∀ v, KX B w0 ((w1.heap.size, [.bool true, .bool x1, .int .i64 x2, .int .i64 x3, .int .i64 x4, .int .i64 x5], 171) :: A) a m S v → _) := fun v k => k_flags01 k c hR.out q7.out
    have CN : Hid (∀ v, _) := fun v => Cor.knext_any ⟨true, x1, x2, x3, x4, x5⟩ (flags a.n S c) v
    simp only [HW] at CN
    have b0 : (w1.alloc (.cells #[.bool true, .bool x1, .int .i64 x2, .int .i64 x3, .int .i64 x4, .int .i64 x5] 171)).cell? ⟨w1.heap.size, 0, none⟩ = some (.bool true) := h2.blk.cell 0
    have b1 : (w1.alloc (.cells #[.bool true, .bool x1, .int .i64 x2, .int .i64 x3, .int .i64 x4, .int .i64 x5] 171)).cell? ⟨w1.heap.size, 1, none⟩ = some (.bool x1) := h2.blk.cell 1
    have b2 : (w1.alloc (.cells #[.bool true, .bool x1, .int .i64 x2, .int .i64 x3, .int .i64 x4, .int .i64 x5] 171)).cell? ⟨w1.heap.size, 2, none⟩ = some (.int .i64 x2) := h2.blk.cell 2
    have b3 : (w1.alloc (.cells #[.bool true, .bool x1, .int .i64 x2, .int .i64 x3, .int .i64 x4, .int .i64 x5] 171)).cell? ⟨w1.heap.size, 3, none⟩ = some (.int .i64 x3) := h2.blk.cell 3
    have b4 : (w1.alloc (.cells #[.bool true, .bool x1, .int .i64 x2, .int .i64 x3, .int .i64 x4, .int .i64 x5] 171)).cell? ⟨w1.heap.size, 4, none⟩ = some (.int .i64 x4) := h2.blk.cell 4
    have b5 : (w1.alloc (.cells #[.bool true, .bool x1, .int .i64 x2, .int .i64 x3, .int .i64 x4, .int .i64 x5] 171)).cell? ⟨w1.heap.size, 5, none⟩ = some (.int .i64 x5) := h2.blk.cell 5
    go_wp2_with fail
    go_region_held3 (fun w' => w'.cell? ⟨w1.heap.size, 0, none⟩ = some (.bool true) ∧ w'.cell? ⟨w1.heap.size, 1, none⟩ = some (.bool x1) ∧ w'.cell? ⟨w1.heap.size, 2, none⟩ = some (.int .i64 x2) ∧ w'.cell? ⟨w1.heap.size, 3, none⟩ = some (.int .i64 x3) ∧ w'.cell? ⟨w1.heap.size, 4, none⟩ = some (.int .i64 x4) ∧ w'.cell? ⟨w1.heap.size, 5, none⟩ = some (.int .i64 x5)) (go_keep)
      (first | (go_at_call 67; refine (KF.out _ (h2.sm ?_)).mono ?_; (exact ⟨rfl, rfl, rfl, rfl⟩); rintro e w3 ⟨rfl, h3⟩; have d0 : w3.cell? ⟨w1.heap.size, 0, none⟩ = some (.bool true) := h3.blk.cell 0; have d1 : w3.cell? ⟨w1.heap.size, 1, none⟩ = some (.bool x1) := h3.blk.cell 1; have d2 : w3.cell? ⟨w1.heap.size, 2, none⟩ = some (.int .i64 x2) := h3.blk.cell 2; have d3 : w3.cell? ⟨w1.heap.size, 3, none⟩ = some (.int .i64 x3) := h3.blk.cell 3; have d4 : w3.cell? ⟨w1.heap.size, 4, none⟩ = some (.int .i64 x4) := h3.blk.cell 4; have d5 : w3.cell? ⟨w1.heap.size, 5, none⟩ = some (.int .i64 x5) := h3.blk.cell 5) | (go_at_call 66; refine (CN.out _).mono ?_; rintro e w4 ⟨rfl, f4⟩; have h4 := h3.smb f4 ⟨rfl, rfl, rfl, rfl⟩; have f0 : w4.cell? ⟨w1.heap.size, 0, none⟩ = some (.bool true) := h4.blk.cell 0; have f1 : w4.cell? ⟨w1.heap.size, 1, none⟩ = some (.bool x1) := h4.blk.cell 1; have f2 : w4.cell? ⟨w1.heap.size, 2, none⟩ = some (.int .i64 x2) := h4.blk.cell 2; have f3 : w4.cell? ⟨w1.heap.size, 3, none⟩ = some (.int .i64 x3) := h4.blk.cell 3; have f4 : w4.cell? ⟨w1.heap.size, 4, none⟩ = some (.int .i64 x4) := h4.blk.cell 4; have f5 : w4.cell? ⟨w1.heap.size, 5, none⟩ = some (.int .i64 x5) := h4.blk.cell 5))
    have c15 := h4.c15
    go_wp2_with fail
    refine (co_count h4 c true hc).mono ?_
    rintro e w5 ⟨⟨y5, rfl⟩, h5⟩
    go_wp2_with fail
    refine (k_thing7 h5 c).mono ?_
    rintro e w6 ⟨rfl, h6⟩
    have h6 := h6.more (m' := m + 33) (by omega)
    go_wp2
    go_ret
    exact ⟨_, _, rfl, (h6.recd ⟨5, c, Cm.taN a.n S.wk c, 0, 0⟩).1.sub (fun y hy => by simp only [List.singleton_append, List.mem_cons] at hy ⊢; rcases hy with e | e; exact Or.inl e; exact Or.inr (Or.inr e)), (h6.recd ⟨5, c, Cm.taN a.n S.wk c, 0, 0⟩).2⟩
set_option maxRecDepth 100000 in
set_option maxHeartbeats 4000000 in
theorem do_step7 (h : KX B w0 A a m S w) {ec ei : Int} {em : Nat} {en : Int} (_ok : EvOk ⟨1, ec, ei, em, en⟩) (hc : isC a.n ec = true) (hwh : Cor.Co.next (zc S ec).1 (zc S ec).2 (flags a.n S ec) = 7) (hR : Hid (S.R.isSome = false)) (q7 : Hid ((0 : Int) < ((Cm.wlL a.n S.wk ec).length : Int))) (_hm : m + 64 ≤ 1000000) : Calls Tryz.prog 11 #[.pointer (some ⟨a.k, 0, none⟩), .agg #[.int .i64 1, .int .i64 ec, .int .i64 ei, .int .u64 (em : Int), .int .i64 en]] w fun x w' => ∃ v X, x = .returned v ∧ KX B w0 (X ++ A) a (m + 64) ([(thing a.n S 7 ec).1], (thing a.n S 7 ec).2).2 w' ∧ Rr X v ([(thing a.n S 7 ec).1], (thing a.n S 7 ec).2).1 := by
  have h1 := h.new [.int .i64 1, .int .i64 ec, .int .i64 ei, .int .u64 (em : Int), .int .i64 en] 37
  have b0 : (w.alloc (.cells #[.int .i64 1, .int .i64 ec, .int .i64 ei, .int .u64 (em : Int), .int .i64 en] 37)).cell? ⟨w.heap.size, 0, none⟩ = some (.int .i64 1) := h1.blk.cell 0
  have b1 : (w.alloc (.cells #[.int .i64 1, .int .i64 ec, .int .i64 ei, .int .u64 (em : Int), .int .i64 en] 37)).cell? ⟨w.heap.size, 1, none⟩ = some (.int .i64 ec) := h1.blk.cell 1
  have b2 : (w.alloc (.cells #[.int .i64 1, .int .i64 ec, .int .i64 ei, .int .u64 (em : Int), .int .i64 en] 37)).cell? ⟨w.heap.size, 2, none⟩ = some (.int .i64 ei) := h1.blk.cell 2
  have b3 : (w.alloc (.cells #[.int .i64 1, .int .i64 ec, .int .i64 ei, .int .u64 (em : Int), .int .i64 en] 37)).cell? ⟨w.heap.size, 3, none⟩ = some (.int .u64 (em : Int)) := h1.blk.cell 3
  have b4 : (w.alloc (.cells #[.int .i64 1, .int .i64 ec, .int .i64 ei, .int .u64 (em : Int), .int .i64 en] 37)).cell? ⟨w.heap.size, 4, none⟩ = some (.int .i64 en) := h1.blk.cell 4
  have CI : Hid (∀ _ : Unit, _) := fun _ => k_isCore h1 ec
  rw [hc] at CI
  have CS : Hid (∀ _ : Unit, _) := fun _ => k_step7n h1 ec hc hwh hR q7
  go_enter Tryz.func11, Tryz.ntmps11
  go_wp2_with fail
  refine (CI.out ()).mono ?_
  rintro e w2 ⟨rfl, rfl⟩
  go_wp2_with fail
  refine (CS.out ()).mono ?_
  rintro e w3 ⟨v3, X3, rfl, h3, r3⟩
  go_wp2
  go_ret
  exact ⟨_, X3, rfl, (h3.sub (fun y hy => by rcases List.mem_append.1 hy with e | e; exact List.mem_append_left _ e; exact List.mem_append_right _ (List.mem_cons_of_mem _ e))).more (by omega), r3⟩
theorem k_Do7 (h : KX B w0 A a m S w) {ec ei : Int} {em : Nat} {en : Int} (ok : EvOk ⟨1, ec, ei, em, en⟩) (hc : isC a.n ec = true) (hwh : what a.n S ec = 7) (hR : Hid (S.R.isSome = false)) (q7 : Hid ((0 : Int) < ((Cm.wlL a.n S.wk ec).length : Int))) (hm : m + 64 ≤ 1000000) : Calls Tryz.prog 11 #[.pointer (some ⟨a.k, 0, none⟩), .agg #[.int .i64 1, .int .i64 ec, .int .i64 ei, .int .u64 (em : Int), .int .i64 en]] w fun x w' => ∃ v X, x = .returned v ∧ KX B w0 (X ++ A) a (m + 64) (kdo a.n S ⟨1, ec, ei, em, en⟩).2 w' ∧ Rr X v (kdo a.n S ⟨1, ec, ei, em, en⟩).1 := by
  have C := do_step7 h ok hc hwh hR q7 hm
  unfold kdo step
  simp only [hc, and_self, if_true, hwh, Int.reduceEq, if_false]
  exact C
set_option maxRecDepth 100000 in
set_option maxHeartbeats 4000000 in
theorem k_step9n (h : KX B w0 A a m S w) (c : Int) (hc : isC a.n c = true) (hwh : Cor.Co.next (zc S c).1 (zc S c).2 (flags a.n S c) = 9) (hR : Hid (S.R.isSome = false)) (q7 : Hid (¬ (0 : Int) < ((Cm.wlL a.n S.wk c).length : Int))) :
    Calls Tryz.prog 37 #[.pointer (some ⟨a.k, 0, none⟩), .int .i64 (c)] w fun e w' => ∃ v X, e = .returned v ∧ KX B w0 (X ++ A) a (m + 33) ((([], restS S c) : List Rec × KS)).2 w' ∧ Rr X v ((([], restS S c) : List Rec × KS)).1 := by
  have c15 := h.c15
  have T := h.isT
  have tT : Cor.Co.isT S.now = true := by simp [Cor.Co.isT]; omega
  have CG : Hid (∀ _ : Unit, _) := fun _ => co_get h c hc
  obtain ⟨⟨p, i⟩, hz⟩ : ∃ q, q = zc S c := ⟨_, rfl⟩
  have HZ : Hid (zc S c = (p, i)) := hz.symm
  rw [← hz] at hwh
  simp only at hwh
  clear hz
  cases p
  · exact absurd hwh (by simp [Cor.Co.next])
  · go_enter Tryz.func37, Tryz.ntmps37
    go_wp2_with fail
    refine (CG.out ()).mono ?_
    rintro e w1 ⟨x, rfl, hx, h1⟩
    obtain ⟨x0, x1, x2, x3, x4, x5⟩ := x
    simp only [pi, HZ.out, Prod.mk.injEq] at hx
    obtain ⟨e0, e1⟩ := hx
    subst e0
    have HW : Cor.Co.next true x1 (flags a.n S c) = 9 := by rw [e1]; exact hwh
    clear e1
    have h2 := h1.new [.bool true, .bool x1, .int .i64 x2, .int .i64 x3, .int .i64 x4, .int .i64 x5] 171
    have KF : Hid (∀ v, KX B w0 ((w1.heap.size, [.bool true, .bool x1, .int .i64 x2, .int .i64 x3, .int .i64 x4, .int .i64 x5], 171) :: A) a m S v → _) := fun v k => k_flags00 k c hR.out (by have := q7.out; omega)
    have CN : Hid (∀ v, _) := fun v => Cor.knext_any ⟨true, x1, x2, x3, x4, x5⟩ (flags a.n S c) v
    simp only [HW] at CN
    have b0 : (w1.alloc (.cells #[.bool true, .bool x1, .int .i64 x2, .int .i64 x3, .int .i64 x4, .int .i64 x5] 171)).cell? ⟨w1.heap.size, 0, none⟩ = some (.bool true) := h2.blk.cell 0
    have b1 : (w1.alloc (.cells #[.bool true, .bool x1, .int .i64 x2, .int .i64 x3, .int .i64 x4, .int .i64 x5] 171)).cell? ⟨w1.heap.size, 1, none⟩ = some (.bool x1) := h2.blk.cell 1
    have b2 : (w1.alloc (.cells #[.bool true, .bool x1, .int .i64 x2, .int .i64 x3, .int .i64 x4, .int .i64 x5] 171)).cell? ⟨w1.heap.size, 2, none⟩ = some (.int .i64 x2) := h2.blk.cell 2
    have b3 : (w1.alloc (.cells #[.bool true, .bool x1, .int .i64 x2, .int .i64 x3, .int .i64 x4, .int .i64 x5] 171)).cell? ⟨w1.heap.size, 3, none⟩ = some (.int .i64 x3) := h2.blk.cell 3
    have b4 : (w1.alloc (.cells #[.bool true, .bool x1, .int .i64 x2, .int .i64 x3, .int .i64 x4, .int .i64 x5] 171)).cell? ⟨w1.heap.size, 4, none⟩ = some (.int .i64 x4) := h2.blk.cell 4
    have b5 : (w1.alloc (.cells #[.bool true, .bool x1, .int .i64 x2, .int .i64 x3, .int .i64 x4, .int .i64 x5] 171)).cell? ⟨w1.heap.size, 5, none⟩ = some (.int .i64 x5) := h2.blk.cell 5
    go_wp2_with fail
    go_region_held3 (fun w' => w'.cell? ⟨w1.heap.size, 0, none⟩ = some (.bool true) ∧ w'.cell? ⟨w1.heap.size, 1, none⟩ = some (.bool x1) ∧ w'.cell? ⟨w1.heap.size, 2, none⟩ = some (.int .i64 x2) ∧ w'.cell? ⟨w1.heap.size, 3, none⟩ = some (.int .i64 x3) ∧ w'.cell? ⟨w1.heap.size, 4, none⟩ = some (.int .i64 x4) ∧ w'.cell? ⟨w1.heap.size, 5, none⟩ = some (.int .i64 x5)) (go_keep)
      (first | (go_at_call 67; refine (KF.out _ (h2.sm ?_)).mono ?_; (exact ⟨rfl, rfl, rfl, rfl⟩); rintro e w3 ⟨rfl, h3⟩; have d0 : w3.cell? ⟨w1.heap.size, 0, none⟩ = some (.bool true) := h3.blk.cell 0; have d1 : w3.cell? ⟨w1.heap.size, 1, none⟩ = some (.bool x1) := h3.blk.cell 1; have d2 : w3.cell? ⟨w1.heap.size, 2, none⟩ = some (.int .i64 x2) := h3.blk.cell 2; have d3 : w3.cell? ⟨w1.heap.size, 3, none⟩ = some (.int .i64 x3) := h3.blk.cell 3; have d4 : w3.cell? ⟨w1.heap.size, 4, none⟩ = some (.int .i64 x4) := h3.blk.cell 4; have d5 : w3.cell? ⟨w1.heap.size, 5, none⟩ = some (.int .i64 x5) := h3.blk.cell 5) | (go_at_call 66; refine (CN.out _).mono ?_; rintro e w4 ⟨rfl, f4⟩; have h4 := h3.smb f4 ⟨rfl, rfl, rfl, rfl⟩; have f0 : w4.cell? ⟨w1.heap.size, 0, none⟩ = some (.bool true) := h4.blk.cell 0; have f1 : w4.cell? ⟨w1.heap.size, 1, none⟩ = some (.bool x1) := h4.blk.cell 1; have f2 : w4.cell? ⟨w1.heap.size, 2, none⟩ = some (.int .i64 x2) := h4.blk.cell 2; have f3 : w4.cell? ⟨w1.heap.size, 3, none⟩ = some (.int .i64 x3) := h4.blk.cell 3; have f4 : w4.cell? ⟨w1.heap.size, 4, none⟩ = some (.int .i64 x4) := h4.blk.cell 4; have f5 : w4.cell? ⟨w1.heap.size, 5, none⟩ = some (.int .i64 x5) := h4.blk.cell 5))
    have c15 := h4.c15
    go_wp2_with fail
    refine (co_count h4 c false hc).mono ?_
    rintro e w5 ⟨⟨y5, rfl⟩, h5⟩
    go_wp2_with fail
    refine (k_rest h5 c hc).mono ?_
    rintro e w6 ⟨rfl, h6⟩
    go_wp2
    go_ret
    exact ⟨_, [], rfl, (h6.drop).more (by omega), Rr.none⟩

set_option maxRecDepth 100000 in
set_option maxHeartbeats 4000000 in
theorem do_step9 (h : KX B w0 A a m S w) {ec ei : Int} {em : Nat} {en : Int} (_ok : EvOk ⟨1, ec, ei, em, en⟩) (hc : isC a.n ec = true) (hwh : Cor.Co.next (zc S ec).1 (zc S ec).2 (flags a.n S ec) = 9) (hR : Hid (S.R.isSome = false)) (q7 : Hid (¬ (0 : Int) < ((Cm.wlL a.n S.wk ec).length : Int))) (_hm : m + 64 ≤ 1000000) : Calls Tryz.prog 11 #[.pointer (some ⟨a.k, 0, none⟩), .agg #[.int .i64 1, .int .i64 ec, .int .i64 ei, .int .u64 (em : Int), .int .i64 en]] w fun x w' => ∃ v X, x = .returned v ∧ KX B w0 (X ++ A) a (m + 64) (([], restS S ec) : List Rec × KS).2 w' ∧ Rr X v (([], restS S ec) : List Rec × KS).1 := by
  have h1 := h.new [.int .i64 1, .int .i64 ec, .int .i64 ei, .int .u64 (em : Int), .int .i64 en] 37
  have b0 : (w.alloc (.cells #[.int .i64 1, .int .i64 ec, .int .i64 ei, .int .u64 (em : Int), .int .i64 en] 37)).cell? ⟨w.heap.size, 0, none⟩ = some (.int .i64 1) := h1.blk.cell 0
  have b1 : (w.alloc (.cells #[.int .i64 1, .int .i64 ec, .int .i64 ei, .int .u64 (em : Int), .int .i64 en] 37)).cell? ⟨w.heap.size, 1, none⟩ = some (.int .i64 ec) := h1.blk.cell 1
  have b2 : (w.alloc (.cells #[.int .i64 1, .int .i64 ec, .int .i64 ei, .int .u64 (em : Int), .int .i64 en] 37)).cell? ⟨w.heap.size, 2, none⟩ = some (.int .i64 ei) := h1.blk.cell 2
  have b3 : (w.alloc (.cells #[.int .i64 1, .int .i64 ec, .int .i64 ei, .int .u64 (em : Int), .int .i64 en] 37)).cell? ⟨w.heap.size, 3, none⟩ = some (.int .u64 (em : Int)) := h1.blk.cell 3
  have b4 : (w.alloc (.cells #[.int .i64 1, .int .i64 ec, .int .i64 ei, .int .u64 (em : Int), .int .i64 en] 37)).cell? ⟨w.heap.size, 4, none⟩ = some (.int .i64 en) := h1.blk.cell 4
  have CI : Hid (∀ _ : Unit, _) := fun _ => k_isCore h1 ec
  rw [hc] at CI
  have CS : Hid (∀ _ : Unit, _) := fun _ => k_step9n h1 ec hc hwh hR q7
  go_enter Tryz.func11, Tryz.ntmps11
  go_wp2_with fail
  refine (CI.out ()).mono ?_
  rintro e w2 ⟨rfl, rfl⟩
  go_wp2_with fail
  refine (CS.out ()).mono ?_
  rintro e w3 ⟨v3, X3, rfl, h3, r3⟩
  go_wp2
  go_ret
  exact ⟨_, X3, rfl, (h3.sub (fun y hy => by rcases List.mem_append.1 hy with e | e; exact List.mem_append_left _ e; exact List.mem_append_right _ (List.mem_cons_of_mem _ e))).more (by omega), r3⟩
theorem k_Do9 (h : KX B w0 A a m S w) {ec ei : Int} {em : Nat} {en : Int} (ok : EvOk ⟨1, ec, ei, em, en⟩) (hc : isC a.n ec = true) (hwh : what a.n S ec = 9) (hR : Hid (S.R.isSome = false)) (q7 : Hid (¬ (0 : Int) < ((Cm.wlL a.n S.wk ec).length : Int))) (hm : m + 64 ≤ 1000000) : Calls Tryz.prog 11 #[.pointer (some ⟨a.k, 0, none⟩), .agg #[.int .i64 1, .int .i64 ec, .int .i64 ei, .int .u64 (em : Int), .int .i64 en]] w fun x w' => ∃ v X, x = .returned v ∧ KX B w0 (X ++ A) a (m + 64) (kdo a.n S ⟨1, ec, ei, em, en⟩).2 w' ∧ Rr X v (kdo a.n S ⟨1, ec, ei, em, en⟩).1 := by
  have C := do_step9 h ok hc hwh hR q7 hm
  unfold kdo step
  simp only [hc, and_self, if_true, hwh, Int.reduceEq, if_false]
  exact C
set_option maxRecDepth 100000 in
set_option maxHeartbeats 4000000 in
theorem ofD_q (h : KX B w0 A a m S w) {ec ei : Int} {em : Nat} {en : Int} (ok : EvOk ⟨18, ec, ei, em, en⟩) (hm : m + 64 ≤ 1000000) (qc : ¬ ec = -1) : Calls Tryz.prog 91 #[.pointer (some ⟨a.k, 0, none⟩), .agg #[.int .i64 18, .int .i64 ec, .int .i64 ei, .int .u64 (em : Int), .int .i64 en]] w fun e w' => OfP B w0 a A m (m + 64) S (ofDevices a.n S ⟨18, ec, ei, em, en⟩) e w' := by
  have hr : ofDevices a.n S ⟨18, ec, ei, em, en⟩ = ofStores a.n S ⟨18, ec, ei, em, en⟩ := by
    unfold ofDevices
    simp only [Int.reduceEq, if_false]
  rw [hr]
  have h0 := h
  have h1 := h0.at (z := w.heap.size) (by simp) [.pointer (some ⟨a.k, 0, none⟩)] 29
  have h2 := h1.at (z := w.heap.size + 1) (by simp) [.int .i64 18, .int .i64 ec, .int .i64 ei, .int .u64 (em : Int), .int .i64 en] 37
  have h3 := h2.at (z := w.heap.size + 2) (by simp) [.int .u64 (em : Int)] 26
  have hmf : ∀ (fn : Fn) (first cap : Array Value) (w : World), (Instr.makeFunc fn first cap).run Tryz.prog w = .ok (.func fn first cap) w := fun _ _ _ _ => rfl
  go_enter Tryz.func91, Tryz.ntmps91
  go_wp2_with fail
  refine (ofStores_18x h3 ok hm qc).mono ?_
  rintro e w1 hw1
  obtain ⟨v, X, rfl, k, c⟩ := hw1
  go_wp2
  go_ret
  exact OfP.sub (Y := [_, _, _]) (OfP.mk k c)
set_option maxRecDepth 100000 in
set_option maxHeartbeats 4000000 in
theorem ofT_q (h : KX B w0 A a m S w) {ec ei : Int} {em : Nat} {en : Int} (ok : EvOk ⟨18, ec, ei, em, en⟩) (hm : m + 64 ≤ 1000000) (qc : ¬ ec = -1) : Calls Tryz.prog 38 #[.pointer (some ⟨a.k, 0, none⟩), .agg #[.int .i64 18, .int .i64 ec, .int .i64 ei, .int .u64 (em : Int), .int .i64 en]] w fun e w' => OfP B w0 a A m (m + 64) S (ofThreads a.n S ⟨18, ec, ei, em, en⟩) e w' := by
  have hr : ofThreads a.n S ⟨18, ec, ei, em, en⟩ = ofDevices a.n S ⟨18, ec, ei, em, en⟩ := by
    unfold ofThreads
    simp only [Int.reduceEq, if_false]
  rw [hr]
  have h0 := h
  have h1 := h0.at (z := w.heap.size) (by simp) [.pointer (some ⟨a.k, 0, none⟩)] 29
  have h2 := h1.at (z := w.heap.size + 1) (by simp) [.int .i64 18, .int .i64 ec, .int .i64 ei, .int .u64 (em : Int), .int .i64 en] 37
  have h3 := h2.at (z := w.heap.size + 2) (by simp) [.int .u64 (em : Int)] 26
  have hmf : ∀ (fn : Fn) (first cap : Array Value) (w : World), (Instr.makeFunc fn first cap).run Tryz.prog w = .ok (.func fn first cap) w := fun _ _ _ _ => rfl
  go_enter Tryz.func38, Tryz.ntmps38
  go_wp2_with fail
  refine (ofD_q h3 ok hm qc).mono ?_
  rintro e w1 hw1
  obtain ⟨v, X, rfl, k, c⟩ := hw1
  go_wp2
  go_ret
  exact OfP.sub (Y := [_, _, _]) (OfP.mk k c)
set_option maxRecDepth 100000 in
set_option maxHeartbeats 4000000 in
theorem do_q (h : KX B w0 A a m S w) {ec ei : Int} {em : Nat} {en : Int} (ok : EvOk ⟨18, ec, ei, em, en⟩) (hm : m + 64 ≤ 1000000) (qc : ¬ ec = -1) : Calls Tryz.prog 11 #[.pointer (some ⟨a.k, 0, none⟩), .agg #[.int .i64 18, .int .i64 ec, .int .i64 ei, .int .u64 (em : Int), .int .i64 en]] w fun x w' => ∃ v X, x = .returned v ∧ KX B w0 (X ++ A) a (m + 64) (([ret (ofThreads a.n S ⟨18, ec, ei, em, en⟩).1 (ofThreads a.n S ⟨18, ec, ei, em, en⟩).2.1], (ofThreads a.n S ⟨18, ec, ei, em, en⟩).2.2)).2 w' ∧ Rr X v (([ret (ofThreads a.n S ⟨18, ec, ei, em, en⟩).1 (ofThreads a.n S ⟨18, ec, ei, em, en⟩).2.1], (ofThreads a.n S ⟨18, ec, ei, em, en⟩).2.2)).1 := by
  have h1 := h.new [.int .i64 18, .int .i64 ec, .int .i64 ei, .int .u64 (em : Int), .int .i64 en] 37
  have b0 : (w.alloc (.cells #[.int .i64 18, .int .i64 ec, .int .i64 ei, .int .u64 (em : Int), .int .i64 en] 37)).cell? ⟨w.heap.size, 0, none⟩ = some (.int .i64 18) := h1.blk.cell 0
  have b1 : (w.alloc (.cells #[.int .i64 18, .int .i64 ec, .int .i64 ei, .int .u64 (em : Int), .int .i64 en] 37)).cell? ⟨w.heap.size, 1, none⟩ = some (.int .i64 ec) := h1.blk.cell 1
  have b2 : (w.alloc (.cells #[.int .i64 18, .int .i64 ec, .int .i64 ei, .int .u64 (em : Int), .int .i64 en] 37)).cell? ⟨w.heap.size, 2, none⟩ = some (.int .i64 ei) := h1.blk.cell 2
  have b3 : (w.alloc (.cells #[.int .i64 18, .int .i64 ec, .int .i64 ei, .int .u64 (em : Int), .int .i64 en] 37)).cell? ⟨w.heap.size, 3, none⟩ = some (.int .u64 (em : Int)) := h1.blk.cell 3
  have b4 : (w.alloc (.cells #[.int .i64 18, .int .i64 ec, .int .i64 ei, .int .u64 (em : Int), .int .i64 en] 37)).cell? ⟨w.heap.size, 4, none⟩ = some (.int .i64 en) := h1.blk.cell 4
  have CT : Hid (∀ _ : Unit, _) := fun _ => ofT_q h1 ok hm qc
  generalize ofThreads a.n S ⟨18, ec, ei, em, en⟩ = r at *
  obtain ⟨r1, r2, T⟩ := r
  simp only at *
  go_enter Tryz.func11, Tryz.ntmps11
  go_wp2_with fail
  refine (CT.out ()).mono ?_
  rintro e w2 ⟨v2, X2, rfl, h2, f, fs, cap, rfl, hf, hh⟩
  clear CT
  rcases hh with ⟨rfl, C⟩ | ⟨rfl, p, rfl, C⟩
  · go_wp2_with fail
    refine (record_c h2 f cap hf C).mono ?_
    rintro e w3 ⟨rfl, h3⟩
    have h4 := (h3.recd (ret r1 r2)).1
    have h5 := (h3.recd (ret r1 r2)).2
    go_wp2
    go_ret
    exact ⟨_, _, rfl, h4.sub (fun y hy => by rcases List.mem_append.1 hy with e | e; exact List.mem_append_left _ e; exact List.mem_append_right _ (List.mem_append_right _ (List.mem_cons_of_mem _ e))), h5⟩
  · go_wp2_with fail
    refine (record_b h2 f p hf C).mono ?_
    rintro e w3 ⟨rfl, h3⟩
    have h4 := (h3.recd (ret r1 r2)).1
    have h5 := (h3.recd (ret r1 r2)).2
    go_wp2
    go_ret
    exact ⟨_, _, rfl, h4.sub (fun y hy => by rcases List.mem_append.1 hy with e | e; exact List.mem_append_left _ e; exact List.mem_append_right _ (List.mem_append_right _ (List.mem_cons_of_mem _ e))), h5⟩
theorem k_DoQ (h : KX B w0 A a m S w) {ec ei : Int} {em : Nat} {en : Int} (ok : EvOk ⟨18, ec, ei, em, en⟩) (hm : m + 64 ≤ 1000000) (qc : ¬ ec = -1) : Calls Tryz.prog 11 #[.pointer (some ⟨a.k, 0, none⟩), .agg #[.int .i64 18, .int .i64 ec, .int .i64 ei, .int .u64 (em : Int), .int .i64 en]] w fun x w' => ∃ v X, x = .returned v ∧ KX B w0 (X ++ A) a (m + 64) (kdo a.n S ⟨18, ec, ei, em, en⟩).2 w' ∧ Rr X v (kdo a.n S ⟨18, ec, ei, em, en⟩).1 := by
  unfold kdo
  simp only [Int.reduceEq, false_and, if_false]
  exact do_q h ok hm qc
end
def eq : Ev := ⟨18, 1, 0, 0, 0⟩
def es (c : Int) : Ev := ⟨1, c, 0, 0, 0⟩
def s1 : KS := (kdo 2 (new 2) eq).2
def s2 : KS := (kdo 2 s1 (es 0)).2
def s3 : KS := (kdo 2 s2 (es 1)).2
theorem w10 : what 2 s1 0 = 9 := by decide +kernel
theorem w21 : what 2 s2 1 = 7 := by decide +kernel
theorem r1 : s1.R.isSome = false := by decide +kernel
theorem r2 : s2.R.isSome = false := by decide +kernel
theorem r3 : s3.R.isSome = false := by decide +kernel
theorem q10 : ¬ (0 : Int) < ((Cm.wlL 2 s1.wk 0).length : Int) := by decide +kernel
theorem q21 : (0 : Int) < ((Cm.wlL 2 s2.wk 1).length : Int) := by decide +kernel
theorem okq : EvOk eq := ⟨by unfold wf; kernel_rfl, by unfold wf; kernel_rfl, by unfold wf; kernel_rfl, by unfold wf; kernel_rfl, by decide⟩
theorem ok0 : EvOk (es 0) := ⟨by unfold wf; kernel_rfl, by unfold wf; kernel_rfl, by unfold wf; kernel_rfl, by unfold wf; kernel_rfl, by decide⟩
theorem ok1 : EvOk (es 1) := ⟨by unfold wf; kernel_rfl, by unfold wf; kernel_rfl, by unfold wf; kernel_rfl, by unfold wf; kernel_rfl, by decide⟩
end Go.Proofs.YtfipiifickdeiaaGreatDoor.Krn
