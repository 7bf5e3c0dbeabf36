/- What the words of law 27 (given, cores, known) answer. -/
import Derived.Test.YtddjkdcbbonjkaaRows
import Derived.Test.YtddjkdcbbonjkaaCoD
import Derived.WalkKit
import Derived.ProofKit
import Derived.OpenShut
import Derived.BigQuiet
import Derived.Laws.ResultCell
namespace Go.Proofs.Ytddjkdcbbonjkaa
open Go.ChangeShapes Go.WideShapes Go.ChangeAt Go.RowKit
open Co

def fl9 (f : Fl) : List Value := [.bool f.stop, .bool f.held, .bool f.hot, .bool f.act, .bool f.call, .bool f.irq, .bool f.timer, .bool f.work, .bool f.thr]
theorem results_cell1 {fn : Func} {p : Tmp} {ty : TypeId} (h : fn.results = #[.cell p ty]) (tmps : Array Value) (P : Program) (w : World) :
    (results fn tmps).run P w = ((asAddr (tmps.getD p undef)).run P w).andThen fun a w₁ => (loadVar ty a).run P w₁ := by
  simp only [results, h]
  simp [Sem.run_bind, Result.andThen]
theorem given_ret {w : World} {z : Nat} {x : Fl} {tmps : Array Value} (h : Blk w z (fl9 x) 29) (h2 : tmps.getD 2 undef = .pointer (some ⟨z, 0, none⟩)) :
    (results Try.f9 tmps).run Try.prog w = .ok (flv x) w := by
  have q0 : w.cell? ⟨z, 0, none⟩ = some (.bool x.stop) := h.cell 0
  have q1 : w.cell? ⟨z, 1, none⟩ = some (.bool x.held) := h.cell 1
  have q2 : w.cell? ⟨z, 2, none⟩ = some (.bool x.hot) := h.cell 2
  have q3 : w.cell? ⟨z, 3, none⟩ = some (.bool x.act) := h.cell 3
  have q4 : w.cell? ⟨z, 4, none⟩ = some (.bool x.call) := h.cell 4
  have q5 : w.cell? ⟨z, 5, none⟩ = some (.bool x.irq) := h.cell 5
  have q6 : w.cell? ⟨z, 6, none⟩ = some (.bool x.timer) := h.cell 6
  have q7 : w.cell? ⟨z, 7, none⟩ = some (.bool x.work) := h.cell 7
  have q8 : w.cell? ⟨z, 8, none⟩ = some (.bool x.thr) := h.cell 8
  rw [results_cell1 (p := 2) (ty := 29) rfl, h2]
  simp [go_sem, q0, q1, q2, q3, q4, q5, q6, q7, q8, flv]
theorem cores_ret {w : World} {z : Nat} {x : Kc} {tmps : Array Value} (h : Blk w z (ck.f x) 27) (h2 : tmps.getD 2 undef = .pointer (some ⟨z, 0, none⟩)) :
    (results Try.f8 tmps).run Try.prog w = .ok (ckv x) w := by
  have q0 : w.cell? ⟨z, 0, none⟩ = some (.bool x.p) := h.cell 0
  have q1 : w.cell? ⟨z, 1, none⟩ = some (.bool x.i) := h.cell 1
  have q2 : w.cell? ⟨z, 2, none⟩ = some (.int .i64 x.way) := h.cell 2
  have q3 : w.cell? ⟨z, 3, none⟩ = some (.int .i64 x.since) := h.cell 3
  have q4 : w.cell? ⟨z, 4, none⟩ = some (.int .i64 x.steps) := h.cell 4
  have q5 : w.cell? ⟨z, 5, none⟩ = some (.int .i64 x.busy) := h.cell 5
  rw [results_cell1 (p := 2) (ty := 27) rfl, h2]
  simp [go_sem, q0, q1, q2, q3, q4, q5, ckv]

set_option maxRecDepth 100000 in
set_option maxHeartbeats 1000000 in
theorem given_any (x : Fl) (w : World) : Calls Try.prog 9 #[flv x] w fun e w' => e = .returned (flv x) ∧ Below w.heap.size w w' := by
  have HB : Hid (∀ o1 o2, Below w.heap.size w ((w.alloc o1).alloc o2)) := fun o1 o2 => ((Below.refl w.heap.size w).alloc (Nat.le_refl _) o1).alloc (by simp) o2
  have HK : Hid (∀ o1, Blk ((w.alloc o1).alloc (.cells (fl9 x).toArray 29)) (w.heap.size + 1) (fl9 x) 29) := fun o1 => by
    have := Blk.new (w.alloc o1) (fl9 x) 29
    simpa using this
  go_enter Try.func9, Try.ntmps9
  simp only [flv]
  go_wp2
  exact bodyPost_ret (given_ret (x := x) (HK.out _) rfl) rfl ⟨rfl, HB.out _ _⟩
set_option maxRecDepth 100000 in
set_option maxHeartbeats 1000000 in
theorem cores_any (x : Kc) (w : World) : Calls Try.prog 8 #[ckv x] w fun e w' => e = .returned (ckv x) ∧ Below w.heap.size w w' := by
  have HB : Hid (∀ o1 o2, Below w.heap.size w ((w.alloc o1).alloc o2)) := fun o1 o2 => ((Below.refl w.heap.size w).alloc (Nat.le_refl _) o1).alloc (by simp) o2
  have HK : Hid (∀ o1, Blk ((w.alloc o1).alloc (.cells (ck.f x).toArray 27)) (w.heap.size + 1) (ck.f x) 27) := fun o1 => by
    have := Blk.new (w.alloc o1) (ck.f x) 27
    simpa using this
  go_enter Try.func8, Try.ntmps8
  simp only [ckv]
  go_wp2
  exact bodyPost_ret (cores_ret (x := x) (HK.out _) rfl) rfl ⟨rfl, HB.out _ _⟩

set_option maxRecDepth 100000 in
set_option maxHeartbeats 4000000 in
theorem cknown_yes (w : World) : Calls Try.prog 11 #[] w fun e w' => e = .returned (.bool true) ∧ Below w.heap.size w w' := by
  have N1 : Hid (∀ w, _) := fun w => ctnew_any 2 w (by decide) (by decide)
  have HW : Hid (Blk ((w.alloc (.cells #[.bool true, .bool true, .int .i64 0, .int .i64 0, .int .i64 0, .int .i64 0] 27)).alloc (.cells #[.bool false, .bool false, .bool false, .bool true, .bool true, .bool false, .bool false, .bool false, .bool false] 29)) w.heap.size (ck.f ⟨true, true, 0, 0, 0, 0⟩) 27
      ∧ Blk ((w.alloc (.cells #[.bool true, .bool true, .int .i64 0, .int .i64 0, .int .i64 0, .int .i64 0] 27)).alloc (.cells #[.bool false, .bool false, .bool false, .bool true, .bool true, .bool false, .bool false, .bool false, .bool false] 29)) (w.heap.size + 1) (fl9 ⟨false, false, false, true, true, false, false, false, false⟩) 29
      ∧ Below w.heap.size w ((w.alloc (.cells #[.bool true, .bool true, .int .i64 0, .int .i64 0, .int .i64 0, .int .i64 0] 27)).alloc (.cells #[.bool false, .bool false, .bool false, .bool true, .bool true, .bool false, .bool false, .bool false, .bool false] 29))) := by
    refine ⟨(Blk.new w (ck.f ⟨true, true, 0, 0, 0, 0⟩) _).alloc _, ?_, ((Below.refl w.heap.size w).alloc (Nat.le_refl _) _).alloc (by simp) _⟩
    have := Blk.new (w.alloc (.cells #[.bool true, .bool true, .int .i64 0, .int .i64 0, .int .i64 0, .int .i64 0] 27)) (fl9 ⟨false, false, false, true, true, false, false, false, false⟩) 29
    rw [show (w.alloc (.cells #[.bool true, .bool true, .int .i64 0, .int .i64 0, .int .i64 0, .int .i64 0] 27)).heap.size = w.heap.size + 1 by simp] at this
    exact this
  obtain ⟨z, hz⟩ : ∃ z, w.heap.size = z := ⟨_, rfl⟩
  rw [hz] at HW ⊢
  go_enter Try.func11, Try.ntmps11
  go_wp2_with fail
  refine (N1.out _).mono ?_
  rintro e u1 ⟨rfl, h1, b1⟩
  obtain ⟨k1, l1, e1⟩ := HW.out
  have k2 : Blk u1 z (ck.f ⟨true, true, 0, 0, 0, 0⟩) 27 := (b1.block _ k1.lt).trans k1
  have l2 : Blk u1 (z + 1) (fl9 ⟨false, false, false, true, true, false, false, false, false⟩) 29 := (b1.block _ l1.lt).trans l1
  have e2 : Below z w u1 := e1.trans (b1.mono (by have := k1.lt; omega))
  generalize ((w.alloc (.cells #[.bool true, .bool true, .int .i64 0, .int .i64 0, .int .i64 0, .int .i64 0] 27)).alloc (.cells #[.bool false, .bool false, .bool false, .bool true, .bool true, .bool false, .bool false, .bool false, .bool false] 29)) = w0 at *
  have zl : z + 1 < w0.heap.size := l1.lt
  generalize w0.heap.size = m at *
  have R1 : Hid (∀ _ : Unit, _) := fun _ => crest_any u1 1 2 5 h1
  rw [show rsE (List.replicate 2 kn) 1 2 5 = 0 by decide, show rsY (List.replicate 2 kn) 1 2 5 = [kn, ⟨true, true, 2, 5, 0, 0⟩] by rfl] at R1
  have K1 : Hid (Blk u1 z (ck.f ⟨true, true, 0, 0, 0, 0⟩) 27 ∧ Blk u1 (z + 1) (fl9 ⟨false, false, false, true, true, false, false, false, false⟩) 29 ∧ Below z w u1 ∧ z + 1 < m ∧ m < u1.heap.size) := ⟨k2, l2, e2, zl, h1.gb.lt⟩
  clear HW N1 k1 l1 e1 b1 k2 l2 e2 h1 zl
  go_wp2_with fail
  refine (R1.out ()).mono ?_
  rintro e u2 ⟨rfl, h2, f2⟩
  have R2 : Hid (∀ _ : Unit, _) := fun _ => cwake_any u2 1 9 h2
  rw [show wkE [kn, ⟨true, true, 2, 5, 0, 0⟩] 1 9 = 0 by decide, show wkN [kn, ⟨true, true, 2, 5, 0, 0⟩] 1 9 = 4 by decide, show wkY [kn, ⟨true, true, 2, 5, 0, 0⟩] 1 9 = [kn, kn] by rfl] at R2
  have K2 : Hid (Blk u2 z (ck.f ⟨true, true, 0, 0, 0, 0⟩) 27 ∧ Blk u2 (z + 1) (fl9 ⟨false, false, false, true, true, false, false, false, false⟩) 29 ∧ Below z w u2 ∧ z + 1 < m ∧ m < u2.heap.size) := by
    obtain ⟨k, l, b, q, r⟩ := K1.out
    exact ⟨k.keep f2 k.lt (by simp; omega), l.keep f2 l.lt (by simp; omega), b.trans ((f2.less (by omega)).below (fun k hk => by simp at hk; omega)), q, by have := f2.size; omega⟩
  clear K1 R1 h2 f2
  go_wp2_with fail
  refine (R2.out ()).mono ?_
  rintro e u3 ⟨rfl, h3, f3⟩
  have R3 : Hid (∀ _ : Unit, _) := fun _ => cget_any u3 1 h3
  rw [show inE [kn, kn] 1 = 0 by decide, show gt [kn, kn] 1 = kn by rfl] at R3
  have K3 : Hid (Blk u3 z (ck.f ⟨true, true, 0, 0, 0, 0⟩) 27 ∧ Blk u3 (z + 1) (fl9 ⟨false, false, false, true, true, false, false, false, false⟩) 29 ∧ Below z w u3 ∧ z + 1 < u3.heap.size) := by
    obtain ⟨k, l, b, q, r⟩ := K2.out
    exact ⟨k.keep f3 k.lt (by simp; omega), l.keep f3 l.lt (by simp; omega), b.trans ((f3.less (by omega)).below (fun k hk => by simp at hk; omega)), by have := f3.size; omega⟩
  clear K2 R2 h3 f3
  simp only [ckv, kn] at R3
  go_wp2_with fail
  refine (R3.out ()).mono ?_
  rintro e u4 ⟨rfl, b4⟩
  have K4 : Hid (Blk u4 z (ck.f ⟨true, true, 0, 0, 0, 0⟩) 27 ∧ Blk u4 (z + 1) (fl9 ⟨false, false, false, true, true, false, false, false, false⟩) 29 ∧ Below z w u4 ∧ z + 1 < u4.heap.size) := by
    obtain ⟨k, l, b, q⟩ := K3.out
    exact ⟨(b4.block _ k.lt).trans k, (b4.block _ l.lt).trans l, b.trans (b4.mono (by omega)), by have := b4.size; omega⟩
  have X1 : Hid (∀ w, _) := fun w => knext_any ⟨true, true, 0, 0, 0, 0⟩ ⟨false, false, false, true, true, false, false, false, false⟩ w
  have X2 : Hid (∀ w, _) := fun w => knext_any ⟨true, false, 0, 0, 0, 0⟩ ⟨false, false, false, true, true, false, false, false, false⟩ w
  simp only [ckv, flv] at X1 X2
  rw [show next true true ⟨false, false, false, true, true, false, false, false, false⟩ = 1 by decide] at X1
  rw [show next true false ⟨false, false, false, true, true, false, false, false, false⟩ = 4 by decide] at X2
  obtain ⟨k, l, b, q⟩ := K4.out
  have K5 : Hid (∀ u o, Below (u4.alloc o).heap.size (u4.alloc o) u → Blk u z (ck.f ⟨true, true, 0, 0, 0, 0⟩) 27 ∧ Blk u (z + 1) (fl9 ⟨false, false, false, true, true, false, false, false, false⟩) 29 ∧ Below z w u) := fun u o h => by
    obtain ⟨k, l, b, q⟩ := K4.out
    have s := Nat.le_succ u4.heap.size
    exact ⟨(h.block _ (by simp; omega)).trans (k.alloc o), (h.block _ (by simp; omega)).trans (l.alloc o), (b.alloc (by omega) o).trans (h.mono (by simp; omega))⟩
  have NB : Hid (Blk (u4.alloc (.cells #[.bool true, .bool false, .int .i64 0, .int .i64 0, .int .i64 0, .int .i64 0] 27)) u4.heap.size (ck.f kn) 27) := Blk.new u4 (ck.f kn) _
  have ka := k.alloc (.cells #[.bool true, .bool false, .int .i64 0, .int .i64 0, .int .i64 0, .int .i64 0] 27)
  have la := l.alloc (.cells #[.bool true, .bool false, .int .i64 0, .int .i64 0, .int .i64 0, .int .i64 0] 27)
  have a0 : (u4.alloc (.cells #[.bool true, .bool false, .int .i64 0, .int .i64 0, .int .i64 0, .int .i64 0] 27)).cell? ⟨z, 0, none⟩ = some (.bool true) := ka.cell 0
  have a1 : (u4.alloc (.cells #[.bool true, .bool false, .int .i64 0, .int .i64 0, .int .i64 0, .int .i64 0] 27)).cell? ⟨z, 1, none⟩ = some (.bool true) := ka.cell 1
  have a2 : (u4.alloc (.cells #[.bool true, .bool false, .int .i64 0, .int .i64 0, .int .i64 0, .int .i64 0] 27)).cell? ⟨z, 2, none⟩ = some (.int .i64 0) := ka.cell 2
  have a3 : (u4.alloc (.cells #[.bool true, .bool false, .int .i64 0, .int .i64 0, .int .i64 0, .int .i64 0] 27)).cell? ⟨z, 3, none⟩ = some (.int .i64 0) := ka.cell 3
  have a4 : (u4.alloc (.cells #[.bool true, .bool false, .int .i64 0, .int .i64 0, .int .i64 0, .int .i64 0] 27)).cell? ⟨z, 4, none⟩ = some (.int .i64 0) := ka.cell 4
  have a5 : (u4.alloc (.cells #[.bool true, .bool false, .int .i64 0, .int .i64 0, .int .i64 0, .int .i64 0] 27)).cell? ⟨z, 5, none⟩ = some (.int .i64 0) := ka.cell 5
  have d0 : (u4.alloc (.cells #[.bool true, .bool false, .int .i64 0, .int .i64 0, .int .i64 0, .int .i64 0] 27)).cell? ⟨z + 1, 0, none⟩ = some (.bool false) := la.cell 0
  have d1 : (u4.alloc (.cells #[.bool true, .bool false, .int .i64 0, .int .i64 0, .int .i64 0, .int .i64 0] 27)).cell? ⟨z + 1, 1, none⟩ = some (.bool false) := la.cell 1
  have d2 : (u4.alloc (.cells #[.bool true, .bool false, .int .i64 0, .int .i64 0, .int .i64 0, .int .i64 0] 27)).cell? ⟨z + 1, 2, none⟩ = some (.bool false) := la.cell 2
  have d3 : (u4.alloc (.cells #[.bool true, .bool false, .int .i64 0, .int .i64 0, .int .i64 0, .int .i64 0] 27)).cell? ⟨z + 1, 3, none⟩ = some (.bool true) := la.cell 3
  have d4 : (u4.alloc (.cells #[.bool true, .bool false, .int .i64 0, .int .i64 0, .int .i64 0, .int .i64 0] 27)).cell? ⟨z + 1, 4, none⟩ = some (.bool true) := la.cell 4
  have d5 : (u4.alloc (.cells #[.bool true, .bool false, .int .i64 0, .int .i64 0, .int .i64 0, .int .i64 0] 27)).cell? ⟨z + 1, 5, none⟩ = some (.bool false) := la.cell 5
  have d6 : (u4.alloc (.cells #[.bool true, .bool false, .int .i64 0, .int .i64 0, .int .i64 0, .int .i64 0] 27)).cell? ⟨z + 1, 6, none⟩ = some (.bool false) := la.cell 6
  have d7 : (u4.alloc (.cells #[.bool true, .bool false, .int .i64 0, .int .i64 0, .int .i64 0, .int .i64 0] 27)).cell? ⟨z + 1, 7, none⟩ = some (.bool false) := la.cell 7
  have d8 : (u4.alloc (.cells #[.bool true, .bool false, .int .i64 0, .int .i64 0, .int .i64 0, .int .i64 0] 27)).cell? ⟨z + 1, 8, none⟩ = some (.bool false) := la.cell 8
  clear K3 R3 b4 k l b q ka la K4
  go_wp2_with fail
  refine (X1.out _).mono ?_
  rintro e u5 ⟨rfl, b5⟩
  obtain ⟨k, l, b⟩ := K5.out _ _ b5
  have nb : Blk u5 u4.heap.size (ck.f kn) 27 := (b5.block _ NB.out.lt).trans NB.out
  have r0 : u5.cell? ⟨z + 1, 0, none⟩ = some (.bool false) := l.cell 0
  have r1 : u5.cell? ⟨z + 1, 1, none⟩ = some (.bool false) := l.cell 1
  have r2 : u5.cell? ⟨z + 1, 2, none⟩ = some (.bool false) := l.cell 2
  have r3 : u5.cell? ⟨z + 1, 3, none⟩ = some (.bool true) := l.cell 3
  have r4 : u5.cell? ⟨z + 1, 4, none⟩ = some (.bool true) := l.cell 4
  have r5 : u5.cell? ⟨z + 1, 5, none⟩ = some (.bool false) := l.cell 5
  have r6 : u5.cell? ⟨z + 1, 6, none⟩ = some (.bool false) := l.cell 6
  have r7 : u5.cell? ⟨z + 1, 7, none⟩ = some (.bool false) := l.cell 7
  have r8 : u5.cell? ⟨z + 1, 8, none⟩ = some (.bool false) := l.cell 8
  have K6 : Hid (Blk u5 u4.heap.size (ck.f kn) 27 ∧ Below z w u5 ∧ z ≤ u5.heap.size) := ⟨nb, b, by have := k.lt; omega⟩
  clear a0 a1 a2 a3 a4 a5 d0 d1 d2 d3 d4 d5 d6 d7 d8 k l b b5 nb NB K5
  go_wp2_with fail
  refine (X2.out _).mono ?_
  rintro e u6 ⟨rfl, b6⟩
  have nb : Blk u6 u4.heap.size (ck.f kn) 27 := (b6.block _ K6.out.1.lt).trans K6.out.1
  have s0 : u6.cell? ⟨u4.heap.size, 0, none⟩ = some (.bool true) := nb.cell 0
  have s1 : u6.cell? ⟨u4.heap.size, 1, none⟩ = some (.bool false) := nb.cell 1
  have s2 : u6.cell? ⟨u4.heap.size, 2, none⟩ = some (.int .i64 0) := nb.cell 2
  have s3 : u6.cell? ⟨u4.heap.size, 3, none⟩ = some (.int .i64 0) := nb.cell 3
  have s4 : u6.cell? ⟨u4.heap.size, 4, none⟩ = some (.int .i64 0) := nb.cell 4
  have s5 : u6.cell? ⟨u4.heap.size, 5, none⟩ = some (.int .i64 0) := nb.cell 5
  have K7 : Hid (Below z w u6) := K6.out.2.1.trans (b6.mono K6.out.2.2)
  generalize u4.heap.size = y at *
  clear nb b6 K6
  go_wp2
  go_ret
  exact ⟨rfl, K7.out⟩
end Go.Proofs.Ytddjkdcbbonjkaa
