/- What an event of the program's dice is. -/
import Derived.Test.YtijicghdmlfheaaRows
import Derived.Test.YtijicghdmlfheaaDr3
import Derived.WalkKit
import Derived.ProofKit
import Derived.OpenShut
import Derived.BigQuiet
import Derived.BigGuard
import Derived.Carry
import Derived.Laws.ResultCell
import Derived.Laws.Tables
namespace Go.Proofs.Ytijicghdmlfheaa.Dri
open Go.ChangeShapes Go.WideShapes Go.ChangeAt Go.RowKit
open Mm
set_option linter.unusedVariables false
set_option linter.unusedSimpArgs false

theorem infoEv : (Try.prog.info? 33).map (fun i => i.size) = some 5 := by kernel_rfl
theorem results_one {fn : Func} {p : Tmp} {ty : TypeId} (h : fn.results = #[.cell p ty]) (tmps : Array Value) (P : Program) (w : World) :
    (results fn tmps).run P w = ((asAddr (tmps.getD p undef)).run P w).andThen fun a w₁ => (loadVar ty a).run P w₁ := by
  simp only [results, h]
  simp [Sem.run_bind, Result.andThen]
/-- An answer that is an event in a block. -/
theorem ev_ret {fn : Func} {z : Nat} {x0 x1 x2 x3 x4 : Value} {w : World} {tmps : Array Value} (hf : fn.results = #[.cell 4 33]) (h : Blk w z [x0, x1, x2, x3, x4] 33) (h2 : tmps.getD 4 undef = .pointer (some ⟨z, 0, none⟩)) :
    (results fn tmps).run Try.prog w = .ok (.agg #[x0, x1, x2, x3, x4]) w := by
  rw [results_one (p := 4) (ty := 33) hf, h2]
  have q0 : w.cell? ⟨z, 0, none⟩ = some x0 := h.cell 0
  have q1 : w.cell? ⟨z, 1, none⟩ = some x1 := h.cell 1
  have q2 : w.cell? ⟨z, 2, none⟩ = some x2 := h.cell 2
  have q3 : w.cell? ⟨z, 3, none⟩ = some x3 := h.cell 3
  have q4 : w.cell? ⟨z, 4, none⟩ = some x4 := h.cell 4
  simp [go_sem, q0, q1, q2, q3, q4]
theorem fr_row {u : World} {z : Nat} {new : List Value} {B : Nat} : Fr B [z] u (u.setRow z new.toArray) :=
  ⟨rfl, rfl, rfl, by rw [setRow_size]; exact Nat.le_refl _, fun k _ hk => setRow_other u z k _ (by simpa using hk)⟩
theorem blk_row {u : World} {z : Nat} {old new : List Value} {t : TypeId} (k : Blk u z old t) : Blk (u.setRow z new.toArray) z new t := setRow_heap u z _ _ t _ k
/-- What is there while an event is rolled: the dice at z, the answer's place at r, the event so far at q. -/
structure EX (D : TypeId) (w : World) (z r q x : Nat) (cs : List Value) (u : World) : Prop where
  fr : Fr w.heap.size [z] w u
  hd : Blk u z [.int .u64 (x : Int)] D
  hr : Blk u r [.int .i64 0, .int .i64 0, .int .i64 0, .int .u64 0, .int .i64 0] 33
  he : Blk u q cs 33
  zr : z < w.heap.size
  rq : w.heap.size ≤ r
  qr : r < q
section
variable {w u v : World} {z r q x y : Nat} {cs : List Value} {D : TypeId}
theorem EX.roll (h : EX D w z r q x cs u) (k : Blk v z [.int .u64 (y : Int)] D) (f : Fr u.heap.size [z] u v) : EX D w z r q y cs v := by
  have rq := h.rq
  have zr := h.zr
  have qr := h.qr
  exact ⟨h.fr.trans (f.less h.fr.size), k, h.hr.keep f h.hr.lt (by simp; omega), h.he.keep f h.he.lt (by simp; omega), zr, rq, qr⟩
theorem EX.set (h : EX D w z r q x cs u) (i : Nat) (a : Value) : EX D w z r q x (cs.set i a) (u.setCell ⟨q, i, none⟩ a) := by
  have rq := h.rq
  have zr := h.zr
  have qr := h.qr
  have f : Fr u.heap.size [q] u (u.setCell ⟨q, i, none⟩ a) := (Fr.refl _ _ _).setCell (Or.inr (by simp)) _
  exact ⟨h.fr.setCell (Or.inl (by show w.heap.size ≤ q; omega)) _, h.hd.keep f h.hd.lt (by simp; omega), h.hr.keep f h.hr.lt (by simp; omega), h.he.set i a, zr, rq, qr⟩
theorem EX.c (h : EX D w z r q x cs u) (i : Nat) : u.cell? ⟨q, i, none⟩ = cs[i]? := h.he.cell i
/-- The event is in the answer's place. -/
theorem EX.fin (h : EX D w z r q x cs u) : Blk (u.setRow r cs.toArray) r cs 33 ∧ Blk (u.setRow r cs.toArray) z [.int .u64 (x : Int)] D ∧ Fr w.heap.size [z] w (u.setRow r cs.toArray) := by
  have rq := h.rq
  have zr := h.zr
  have f : Fr u.heap.size [r] u (u.setRow r cs.toArray) := fr_row
  exact ⟨blk_row h.hr, h.hd.keep f h.hd.lt (by simp; omega), h.fr.trans (f.mono h.fr.size (fun k hk _ => by simp; omega))⟩
end
def evV (e : Ev) : Value := .agg #[.int .i64 e.kind, .int .i64 e.cpu, .int .i64 e.id, .int .u64 (e.mask : Int), .int .i64 e.n]
abbrev z5 : List Value := [.int .i64 0, .int .i64 0, .int .i64 0, .int .u64 0, .int .i64 0]
theorem kd_st (x : Nat) : kdS x < 18446744073709551616 := by
  unfold kdS
  split <;> exact st_lt _
set_option maxRecDepth 100000 in
set_option maxHeartbeats 8000000 in
theorem ev_any (z x : Nat) (c : Int) (w : World) (h : Blk w z [.int .u64 (x : Int)] 44) (hx : x < 18446744073709551616) (h1 : 1 ≤ c) (h2 : c ≤ 64) :
    Calls Try.prog 11 #[.pointer (some ⟨z, 0, none⟩), .int .i64 c] w fun e w' => e = .returned (evV (evN x c)) ∧ Blk w' z [.int .u64 (evS x : Nat)] 44 ∧ Fr w.heap.size [z] w w' := by
  have CI : Hid (∀ v, _) := fun v => cpus_any c v
  rw [show okc c = true by unfold okc; rw [decide_eq_true h1, decide_eq_true h2]; rfl] at CI
  have hv : vd c = true := by unfold vd; rw [decide_eq_true h1, decide_eq_true (by omega)]; rfl
  have zl : z < w.heap.size := h.lt
  have fa := (Below.refl w.heap.size w).alloc (Nat.le_refl _) (.cells #[.int .i64 0, .int .i64 0, .int .i64 0, .int .u64 0, .int .i64 0] 33)
  have k0 := h.keep (Fr.of_below fa) zl (by simp)
  have CK : Hid (∀ _ : Unit, _) := fun _ => kind_any z x _ k0 hx
  have F0 : Hid (Fr w.heap.size [z] w (w.alloc (.cells #[.int .i64 0, .int .i64 0, .int .i64 0, .int .u64 0, .int .i64 0] 33))) := (Fr.refl _ _ _).alloc (Nat.le_refl _) _
  have R0 : Hid (Blk (w.alloc (.cells #[.int .i64 0, .int .i64 0, .int .i64 0, .int .u64 0, .int .i64 0] 33)) w.heap.size z5 33) := Blk.new w z5 33
  have Z0 : Hid (z < w.heap.size) := zl
  obtain ⟨y0, hy0⟩ : ∃ y, kdS x = y := ⟨_, rfl⟩
  obtain ⟨y1, hy1⟩ : ∃ y, st y0 = y := ⟨_, rfl⟩
  obtain ⟨y2, hy2⟩ : ∃ y, st y1 = y := ⟨_, rfl⟩
  obtain ⟨y3, hy3⟩ : ∃ y, st y2 = y := ⟨_, rfl⟩
  obtain ⟨y4, hy4⟩ : ∃ y, st y3 = y := ⟨_, rfl⟩
  obtain ⟨n0, hn0⟩ : ∃ y, kdN x = y := ⟨_, rfl⟩
  obtain ⟨n1, hn1⟩ : ∃ y, rlN y0 c = y := ⟨_, rfl⟩
  obtain ⟨n2, hn2⟩ : ∃ y, rlN y1 6 = y := ⟨_, rfl⟩
  obtain ⟨n3, hn3⟩ : ∃ y, rlN y2 20 = y := ⟨_, rfl⟩
  obtain ⟨m3, hm3⟩ : ∃ y, mkc y3 c = y := ⟨_, rfl⟩
  have EV : Hid (evN x c = ⟨n0, n1, n2, m3, n3⟩) := by show evN x c = _; unfold evN; rw [hy0, hn0, hn1, hy1, hn2, hy2, hn3, hy3, hm3]
  have ES : Hid (evS x = y4) := by show evS x = _; unfold evS; rw [hy0, hy1, hy2, hy3, hy4]
  have l0 : y0 < 18446744073709551616 := hy0 ▸ kd_st x
  have l1 : y1 < 18446744073709551616 := hy1 ▸ st_lt _
  have l2 : y2 < 18446744073709551616 := hy2 ▸ st_lt _
  have l3 : y3 < 18446744073709551616 := hy3 ▸ st_lt _
  rw [hy0, hn0] at CK
  have C1 : Hid (∀ v, Blk v z [.int .u64 (y0 : Int)] 44 → _) := fun v k => roll_of (w := v) hv k l0
  have C2 : Hid (∀ v, Blk v z [.int .u64 (y1 : Int)] 44 → _) := fun v k => roll_of (w := v) vd6 k l1
  have C3 : Hid (∀ v, Blk v z [.int .u64 (y2 : Int)] 44 → _) := fun v k => roll_of (w := v) vd20 k l2
  have C4 : Hid (∀ v, Blk v z [.int .u64 (y3 : Int)] 44 → _) := fun v k => cores_any z y3 c v k l3
  rw [hn1, hy1] at C1
  rw [hn2, hy2] at C2
  rw [hn3, hy3] at C3
  rw [hm3, hy4] at C4
  rw [EV.out, ES.out]
  clear EV ES hy0 hy1 hy2 hy3 hy4 hn0 hn1 hn2 hn3 hm3 l0 l1 l2 l3 h hv zl k0 fa hx h1 h2
  go_enter Try.func11, Try.ntmps11
  go_wp2_with fail
  refine (CI.out _).mono ?_
  rintro e w0 ⟨rfl, rfl⟩
  go_wp2_with fail
  refine (CK.out ()).mono ?_
  rintro e w1 ⟨rfl, b1, f1⟩
  have G : Hid (EX 44 w z w.heap.size w1.heap.size y0 [.int .i64 n0, .int .i64 0, .int .i64 0, .int .u64 0, .int .i64 0] (w1.alloc (.cells #[.int .i64 n0, .int .i64 0, .int .i64 0, .int .u64 0, .int .i64 0] 33))) := by
    have ff := Fr.of_below ((Below.refl w1.heap.size w1).alloc (Nat.le_refl _) (.cells #[.int .i64 n0, .int .i64 0, .int .i64 0, .int .u64 0, .int .i64 0] 33))
    have sz := f1.size
    have s0 : w.heap.size < (w.alloc (.cells #[.int .i64 0, .int .i64 0, .int .i64 0, .int .u64 0, .int .i64 0] 33)).heap.size := by simp
    have zz := Z0.out
    have r1 := R0.out.keep f1 R0.out.lt (by simp; omega)
    exact ⟨(F0.out.trans (f1.less F0.out.size)).trans (ff.mono (by omega) (fun _ _ _ => by simp)), b1.keep ff b1.lt (by simp), r1.keep ff r1.lt (by simp), Blk.new w1 _ _, zz, Nat.le_refl _, by omega⟩
  clear b1 f1
  go_wp2_with fail
  refine (C1.out _ G.out.hd).mono ?_
  rintro e w2 ⟨rfl, b2, f2⟩
  have g := G.out.roll b2 f2
  have p2 : w2.cell? ⟨w1.heap.size, 1, none⟩ = some (.int .i64 0) := g.c 1
  have z2 : w2.frozen? ⟨w1.heap.size, 1, none⟩ = false := g.he.free 1
  have G : Hid (EX 44 w z w.heap.size w1.heap.size y1 [.int .i64 n0, .int .i64 n1, .int .i64 0, .int .u64 0, .int .i64 0] (w2.setCell ⟨w1.heap.size, 1, none⟩ (.int .i64 n1))) := g.set 1 _
  clear g b2 f2
  go_wp2_with fail
  refine (C2.out _ G.out.hd).mono ?_
  rintro e w3 ⟨rfl, b2, f2⟩
  have g := G.out.roll b2 f2
  have p3 : w3.cell? ⟨w1.heap.size, 2, none⟩ = some (.int .i64 0) := g.c 2
  have z3 : w3.frozen? ⟨w1.heap.size, 2, none⟩ = false := g.he.free 2
  have G : Hid (EX 44 w z w.heap.size w1.heap.size y2 [.int .i64 n0, .int .i64 n1, .int .i64 n2, .int .u64 0, .int .i64 0] (w3.setCell ⟨w1.heap.size, 2, none⟩ (.int .i64 n2))) := g.set 2 _
  clear g b2 f2
  go_wp2_with fail
  refine (C3.out _ G.out.hd).mono ?_
  rintro e w4 ⟨rfl, b2, f2⟩
  have g := G.out.roll b2 f2
  have p4 : w4.cell? ⟨w1.heap.size, 4, none⟩ = some (.int .i64 0) := g.c 4
  have z4 : w4.frozen? ⟨w1.heap.size, 4, none⟩ = false := g.he.free 4
  have G : Hid (EX 44 w z w.heap.size w1.heap.size y3 [.int .i64 n0, .int .i64 n1, .int .i64 n2, .int .u64 0, .int .i64 n3] (w4.setCell ⟨w1.heap.size, 4, none⟩ (.int .i64 n3))) := g.set 4 _
  clear g b2 f2
  go_wp2_with fail
  refine (C4.out _ G.out.hd).mono ?_
  rintro e w5 ⟨rfl, b2, f2⟩
  have g := G.out.roll b2 f2
  have p5 : w5.cell? ⟨w1.heap.size, 3, none⟩ = some (.int .u64 0) := g.c 3
  have z5 : w5.frozen? ⟨w1.heap.size, 3, none⟩ = false := g.he.free 3
  have G : Hid (EX 44 w z w.heap.size w1.heap.size y4 [.int .i64 n0, .int .i64 n1, .int .i64 n2, .int .u64 (m3 : Nat), .int .i64 n3] (w5.setCell ⟨w1.heap.size, 3, none⟩ (.int .u64 (m3 : Nat)))) := g.set 3 _
  clear g b2 f2
  have q0 : (w5.setCell ⟨w1.heap.size, 3, none⟩ (.int .u64 (m3 : Nat))).cell? ⟨w1.heap.size, 0, none⟩ = some (.int .i64 n0) := G.out.c 0
  have q1 : (w5.setCell ⟨w1.heap.size, 3, none⟩ (.int .u64 (m3 : Nat))).cell? ⟨w1.heap.size, 1, none⟩ = some (.int .i64 n1) := G.out.c 1
  have q2 : (w5.setCell ⟨w1.heap.size, 3, none⟩ (.int .u64 (m3 : Nat))).cell? ⟨w1.heap.size, 2, none⟩ = some (.int .i64 n2) := G.out.c 2
  have q3 : (w5.setCell ⟨w1.heap.size, 3, none⟩ (.int .u64 (m3 : Nat))).cell? ⟨w1.heap.size, 3, none⟩ = some (.int .u64 (m3 : Nat)) := G.out.c 3
  have q4 : (w5.setCell ⟨w1.heap.size, 3, none⟩ (.int .u64 (m3 : Nat))).cell? ⟨w1.heap.size, 4, none⟩ = some (.int .i64 n3) := G.out.c 4
  have HR : Hid ((w5.setCell ⟨w1.heap.size, 3, none⟩ (.int .u64 (m3 : Nat))).heap[w.heap.size]? = some (.cells #[.int .i64 0, .int .i64 0, .int .i64 0, .int .u64 0, .int .i64 0] 33 (0, 0))) := G.out.hr
  have FIN := G.out.fin
  clear G
  go_wp2_with (guard_target =~ wpList _ _ _ (Oper.mk none (Op.store _ _ _) _ _ _ _ :: _) _ _; refine wpList_store_row rfl 33 (.tmp 4) (.tmp 31) rfl w.heap.size _ rfl rfl 33 _ HR.out (by rw [infoEv]; rfl) rfl (by kernel_rfl) ?_)
  exact bodyPost_ret (ev_ret rfl FIN.1 rfl) rfl ⟨rfl, FIN.2.1, FIN.2.2⟩
set_option maxRecDepth 100000 in
set_option maxHeartbeats 4000000 in
theorem ev_nil (c : Int) (w : World) :
    Calls Try.prog 11 #[.pointer none, .int .i64 c] w fun e w' => e = .returned (evV ez) ∧ Below w.heap.size w w' := by
  have KB : Hid (Blk (w.alloc (.cells #[.int .i64 0, .int .i64 0, .int .i64 0, .int .u64 0, .int .i64 0] 33)) w.heap.size z5 33) := Blk.new w _ _
  have KF : Hid (Blk ((w.alloc (.cells #[.int .i64 0, .int .i64 0, .int .i64 0, .int .u64 0, .int .i64 0] 33)).setRow w.heap.size z5.toArray) w.heap.size z5 33) := blk_row KB.out
  have BF : Hid (Below w.heap.size w ((w.alloc (.cells #[.int .i64 0, .int .i64 0, .int .i64 0, .int .u64 0, .int .i64 0] 33)).setRow w.heap.size z5.toArray)) := ((Below.refl _ _).alloc (Nat.le_refl _) _).trans ((fr_row (B := w.heap.size) (new := z5)).below fun k hk => by rw [List.mem_singleton.1 hk]; exact Nat.le_refl _)
  go_enter Try.func11, Try.ntmps11
  go_wp2_with (guard_target =~ wpList _ _ _ (Oper.mk none (Op.store _ _ _) _ _ _ _ :: _) _ _; refine wpList_store_row rfl 33 (.tmp 4) (.tmp 13) rfl w.heap.size _ rfl rfl 33 _ KB.out (by rw [infoEv]; rfl) rfl (by kernel_rfl) ?_)
  exact bodyPost_ret (ev_ret rfl KF.out rfl) rfl ⟨rfl, BF.out⟩
set_option maxRecDepth 100000 in
set_option maxHeartbeats 4000000 in
theorem ev_no (z : Nat) (c : Int) (w : World) (hc : okc c = false) :
    Calls Try.prog 11 #[.pointer (some ⟨z, 0, none⟩), .int .i64 c] w fun e w' => e = .returned (evV ez) ∧ Below w.heap.size w w' := by
  have CI : Hid (∀ v, _) := fun v => cpus_any c v
  rw [hc] at CI
  clear hc
  have KB : Hid (Blk (w.alloc (.cells #[.int .i64 0, .int .i64 0, .int .i64 0, .int .u64 0, .int .i64 0] 33)) w.heap.size z5 33) := Blk.new w _ _
  have KF : Hid (Blk ((w.alloc (.cells #[.int .i64 0, .int .i64 0, .int .i64 0, .int .u64 0, .int .i64 0] 33)).setRow w.heap.size z5.toArray) w.heap.size z5 33) := blk_row KB.out
  have BF : Hid (Below w.heap.size w ((w.alloc (.cells #[.int .i64 0, .int .i64 0, .int .i64 0, .int .u64 0, .int .i64 0] 33)).setRow w.heap.size z5.toArray)) := ((Below.refl _ _).alloc (Nat.le_refl _) _).trans ((fr_row (B := w.heap.size) (new := z5)).below fun k hk => by rw [List.mem_singleton.1 hk]; exact Nat.le_refl _)
  go_enter Try.func11, Try.ntmps11
  go_wp2_with fail
  refine (CI.out _).mono ?_
  rintro e w0 ⟨rfl, rfl⟩
  go_wp2_with (guard_target =~ wpList _ _ _ (Oper.mk none (Op.store _ _ _) _ _ _ _ :: _) _ _; refine wpList_store_row rfl 33 (.tmp 4) (.tmp 13) rfl w.heap.size _ rfl rfl 33 _ KB.out (by rw [infoEv]; rfl) rfl (by kernel_rfl) ?_)
  exact bodyPost_ret (ev_ret rfl KF.out rfl) rfl ⟨rfl, BF.out⟩
set_option maxRecDepth 100000 in
set_option maxHeartbeats 4000000 in
theorem roll_nil (b : Int) (w : World) :
    Calls Try.prog 8 #[.pointer none, .int .i64 b] w fun e w' => e = .returned (.int .i64 0) ∧ w' = w := by
  go_enter Try.func8, Try.ntmps8
  go_wp2
  go_ret
  exact ⟨rfl, rfl⟩
set_option maxRecDepth 100000 in
theorem new_any (s : Nat) (w : World) :
    Calls Try.prog 7 #[.int .u64 (s : Int)] w fun e w' => e = .returned (.pointer (some ⟨w.heap.size, 0, none⟩)) ∧ w' = w.alloc (.cells #[.int .u64 (s : Int)] 44) := by
  go_enter Try.func7, Try.ntmps7
  go_wp2
  go_ret
  exact ⟨rfl, rfl⟩
end Go.Proofs.Ytijicghdmlfheaa.Dri
