/- What the document's Event is (davitref37). -/
import Derived.Test.YtijicghdmlfheaaRows
import Derived.Test.YtijicghdmlfheaaDr4
import Derived.Test.YtijicghdmlfheaaKe
import Derived.Test.YtijicghdmlfheaaKfu
import Derived.WalkKit
import Derived.ProofKit
import Derived.OpenShut
import Derived.BigQuiet
import Derived.BigGuard
import Derived.Carry
import Derived.Laws.ResultCell
import Derived.Laws.Tables
namespace Go.Proofs.Ytijicghdmlfheaa.Dri
open Go.ChangeShapes Go.WideShapes Go.ChangeAt Go.RowKit
open Mm
set_option linter.unusedVariables false
set_option linter.unusedSimpArgs false

theorem mk_wu (x : Nat) : IntKind.u64.wrap (rlN x 255) = rlN x 255 ∧ IntKind.u64.wrap (rlN x 255 + 1) = ((mk x : Nat) : Int) := by
  have rg := rl_rg x 255
  have g2 := rg.2 vd255
  have g1 := rg.1
  rw [wu64, wu64]
  unfold mk
  generalize rlN x 255 = k at *
  omega
/-- A roll of the document's dice, below a number of which there is one. -/
theorem rroll_of {z x : Nat} {b : Int} {w : World} (hb : vd b = true) (h : Blk w z [.int .u64 (x : Int)] 28) (hx : x < 18446744073709551616) :
    Calls Try.prog 9 #[.pointer (some ⟨z, 0, none⟩), .int .i64 b] w fun e w' => e = .returned (.int .i64 (rlN x b)) ∧ Blk w' z [.int .u64 (st x : Nat)] 28 ∧ Fr w.heap.size [z] w w' := by
  have := rroll_any z x b w h hx
  rwa [rlS_of hb] at this
set_option maxRecDepth 100000 in
set_option maxHeartbeats 8000000 in
theorem rev_any (z x : Nat) (c : Int) (w : World) (h : Blk w z [.int .u64 (x : Int)] 28) (hx : x < 18446744073709551616) (h1 : 1 ≤ c) (h2 : c ≤ 64) :
    Calls Try.prog 12 #[.pointer (some ⟨z, 0, none⟩), .int .i64 c] w fun e w' => e = .returned (evV (evN x c)) ∧ Blk w' z [.int .u64 (evS x : Nat)] 28 ∧ Fr w.heap.size [z] w w' := by
  have e1 : decide (c < 1) = false := decide_eq_false (by omega)
  have e2 : decide (64 < c) = false := decide_eq_false (by omega)
  have hv : vd c = true := by unfold vd; rw [decide_eq_true h1, decide_eq_true (by omega)]; rfl
  have zl : z < w.heap.size := h.lt
  have fa := (Below.refl w.heap.size w).alloc (Nat.le_refl _) (.cells #[.int .i64 0, .int .i64 0, .int .i64 0, .int .u64 0, .int .i64 0] 33)
  have k0 := h.keep (Fr.of_below fa) zl (by simp)
  have C0 : Hid (∀ _ : Unit, _) := fun _ => rroll_of vd100 k0 hx
  have F0 : Hid (Fr w.heap.size [z] w (w.alloc (.cells #[.int .i64 0, .int .i64 0, .int .i64 0, .int .u64 0, .int .i64 0] 33))) := (Fr.refl _ _ _).alloc (Nat.le_refl _) _
  have R0 : Hid (Blk (w.alloc (.cells #[.int .i64 0, .int .i64 0, .int .i64 0, .int .u64 0, .int .i64 0] 33)) w.heap.size z5 33) := Blk.new w z5 33
  have Z0 : Hid (z < w.heap.size) := zl
  have k1 := rl_rg x 100
  have k2 := k1.2 vd100
  have k1 := k1.1
  have r1 := rl_rg (st x) 28
  have r2 := r1.2 vd28
  have r1 := r1.1
  have s1 := st_lt x
  have KN : Hid (kdN x = if rlN x 100 < 60 then 1 else if rlN x 100 < 66 then 2 else 3 + rlN (st x) 28) := rfl
  have KS : Hid (kdS x = if rlN x 100 < 66 then st x else st (st x)) := rfl
  obtain ⟨y0, hy0⟩ : ∃ y, kdS x = y := ⟨_, rfl⟩
  obtain ⟨y1, hy1⟩ : ∃ y, st y0 = y := ⟨_, rfl⟩
  obtain ⟨y2, hy2⟩ : ∃ y, st y1 = y := ⟨_, rfl⟩
  obtain ⟨y3, hy3⟩ : ∃ y, st y2 = y := ⟨_, rfl⟩
  obtain ⟨y4, hy4⟩ : ∃ y, st y3 = y := ⟨_, rfl⟩
  obtain ⟨n0, hn0⟩ : ∃ y, kdN x = y := ⟨_, rfl⟩
  obtain ⟨n1, hn1⟩ : ∃ y, rlN y0 c = y := ⟨_, rfl⟩
  obtain ⟨n2, hn2⟩ : ∃ y, rlN y1 6 = y := ⟨_, rfl⟩
  obtain ⟨n3, hn3⟩ : ∃ y, rlN y2 20 = y := ⟨_, rfl⟩
  obtain ⟨n4, hn4⟩ : ∃ y, rlN y3 255 = y := ⟨_, rfl⟩
  obtain ⟨m3, hm3⟩ : ∃ y, mkc y3 c = y := ⟨_, rfl⟩
  have EV : Hid (evN x c = ⟨n0, n1, n2, m3, n3⟩) := by show evN x c = _; unfold evN; rw [hy0, hn0, hn1, hy1, hn2, hy2, hn3, hy3, hm3]
  have ES : Hid (evS x = y4) := by show evS x = _; unfold evS; rw [hy0, hy1, hy2, hy3, hy4]
  have l0 : y0 < 18446744073709551616 := hy0 ▸ kd_st x
  have l1 : y1 < 18446744073709551616 := hy1 ▸ st_lt _
  have l2 : y2 < 18446744073709551616 := hy2 ▸ st_lt _
  have l3 : y3 < 18446744073709551616 := hy3 ▸ st_lt _
  rw [hn0] at KN
  rw [hy0] at KS
  have CR : Hid (∀ v, Blk v z [.int .u64 (st x : Nat)] 28 → _) := fun v k => rroll_of (w := v) vd28 k (st_lt x)
  have C1 : Hid (∀ v, Blk v z [.int .u64 (y0 : Int)] 28 → _) := fun v k => rroll_of (w := v) hv k l0
  have C2 : Hid (∀ v, Blk v z [.int .u64 (y1 : Int)] 28 → _) := fun v k => rroll_of (w := v) vd6 k l1
  have C3 : Hid (∀ v, Blk v z [.int .u64 (y2 : Int)] 28 → _) := fun v k => rroll_of (w := v) vd20 k l2
  have C4 : Hid (∀ v, Blk v z [.int .u64 (y3 : Int)] 28 → _) := fun v k => rroll_of (w := v) vd255 k l3
  have CU : Hid (∀ v, _) := fun v => krefupto_any c v
  have CA : Hid (∀ v, _) := fun v => krefand_any (mk y3) (up c) v (mk_lt y3) (up_lt c)
  have EQ : Hid (mkc y3 c = if mk y3 &&& up c = 0 then 1 else mk y3 &&& up c) := rfl
  have wu1 := (mk_wu y3).1
  have wu2 := (mk_wu y3).2
  rw [hn1, hy1] at C1
  rw [hn2, hy2] at C2
  rw [hn3, hy3] at C3
  rw [hn4, hy4] at C4
  rw [hn4] at wu1 wu2
  rw [hm3] at EQ
  rw [EV.out, ES.out]
  clear EV ES hy0 hy1 hy2 hy3 hy4 hn0 hn1 hn2 hn3 hn4 hm3 l0 l1 l2 l3 h hv zl k0 fa hx h1 h2
  generalize mk y3 &&& up c = m at *
  generalize mk y3 = m0 at *
  generalize up c = uu at *
  generalize rlN x 100 = k at *
  generalize rlN (st x) 28 = kk at *
  have aw : wrap64 (3 + kk) = 3 + kk := by unfold wrap64; omega
  generalize st (st x) = t2 at *
  generalize st x = t1 at *
  go_enter Try.func12, Try.ntmps12
  go_wp2_with fail
  refine (C0.out ()).mono ?_
  rintro e w1 ⟨rfl, b1, f1⟩
  have G0 : Hid (∀ K : Value, EX 28 w z w.heap.size w1.heap.size t1 [K, .int .i64 0, .int .i64 0, .int .u64 0, .int .i64 0] (w1.alloc (.cells #[K, .int .i64 0, .int .i64 0, .int .u64 0, .int .i64 0] 33))) := fun K => by
    have ff := Fr.of_below ((Below.refl w1.heap.size w1).alloc (Nat.le_refl _) (.cells #[K, .int .i64 0, .int .i64 0, .int .u64 0, .int .i64 0] 33))
    have sz := f1.size
    have s0 : w.heap.size < (w.alloc (.cells #[.int .i64 0, .int .i64 0, .int .i64 0, .int .u64 0, .int .i64 0] 33)).heap.size := by simp
    have zz := Z0.out
    have r1 := R0.out.keep f1 R0.out.lt (by simp; omega)
    exact ⟨(F0.out.trans (f1.less F0.out.size)).trans (ff.mono (by omega) (fun _ _ _ => by simp)), b1.keep ff b1.lt (by simp), r1.keep ff r1.lt (by simp), Blk.new w1 _ _, zz, Nat.le_refl _, by omega⟩
  have p9 : (w1.alloc (.cells #[.int .i64 0, .int .i64 0, .int .i64 0, .int .u64 0, .int .i64 0] 33)).cell? ⟨w1.heap.size, 0, none⟩ = some (.int .i64 0) := (G0.out (.int .i64 0)).c 0
  have z9 : (w1.alloc (.cells #[.int .i64 0, .int .i64 0, .int .i64 0, .int .u64 0, .int .i64 0] 33)).frozen? ⟨w1.heap.size, 0, none⟩ = false := (G0.out (.int .i64 0)).he.free 0
  clear b1 f1 C0
  by_cases q1 : k < 60
  · have d1 : decide (k < 60) = true := decide_eq_true q1
    rw [if_pos q1] at KN
    rw [if_pos (show k < 66 by omega)] at KS
    obtain rfl := KN.out
    obtain rfl := KS.out
    have G := G0.out (.int .i64 1)
    have G : Hid (EX 28 w z w.heap.size w1.heap.size y0 [.int .i64 1, .int .i64 0, .int .i64 0, .int .u64 0, .int .i64 0] (w1.alloc (.cells #[.int .i64 1, .int .i64 0, .int .i64 0, .int .u64 0, .int .i64 0] 33))) := G
    clear CR
    as_aux_lemma =>
      go_wp2_with fail
      refine (C1.out _ G.out.hd).mono ?_
      rintro e w2 ⟨rfl, b2, f2⟩
      have g := G.out.roll b2 f2
      have p2 : w2.cell? ⟨w1.heap.size, 1, none⟩ = some (.int .i64 0) := g.c 1
      have z2 : w2.frozen? ⟨w1.heap.size, 1, none⟩ = false := g.he.free 1
      have G : Hid (EX 28 w z w.heap.size w1.heap.size y1 [.int .i64 1, .int .i64 n1, .int .i64 0, .int .u64 0, .int .i64 0] (w2.setCell ⟨w1.heap.size, 1, none⟩ (.int .i64 n1))) := g.set 1 _
      clear g b2 f2
      go_wp2_with fail
      refine (C2.out _ G.out.hd).mono ?_
      rintro e w3 ⟨rfl, b2, f2⟩
      have g := G.out.roll b2 f2
      have p3 : w3.cell? ⟨w1.heap.size, 2, none⟩ = some (.int .i64 0) := g.c 2
      have z3 : w3.frozen? ⟨w1.heap.size, 2, none⟩ = false := g.he.free 2
      have G : Hid (EX 28 w z w.heap.size w1.heap.size y2 [.int .i64 1, .int .i64 n1, .int .i64 n2, .int .u64 0, .int .i64 0] (w3.setCell ⟨w1.heap.size, 2, none⟩ (.int .i64 n2))) := g.set 2 _
      clear g b2 f2
      go_wp2_with fail
      refine (C3.out _ G.out.hd).mono ?_
      rintro e w4 ⟨rfl, b2, f2⟩
      have g := G.out.roll b2 f2
      have p4 : w4.cell? ⟨w1.heap.size, 4, none⟩ = some (.int .i64 0) := g.c 4
      have z4 : w4.frozen? ⟨w1.heap.size, 4, none⟩ = false := g.he.free 4
      have G : Hid (EX 28 w z w.heap.size w1.heap.size y3 [.int .i64 1, .int .i64 n1, .int .i64 n2, .int .u64 0, .int .i64 n3] (w4.setCell ⟨w1.heap.size, 4, none⟩ (.int .i64 n3))) := g.set 4 _
      clear g b2 f2
      go_wp2_with fail
      refine (C4.out _ G.out.hd).mono ?_
      rintro e w5 ⟨rfl, b2, f2⟩
      have g := G.out.roll b2 f2
      have p5 : w5.cell? ⟨w1.heap.size, 3, none⟩ = some (.int .u64 0) := g.c 3
      have z5' : w5.frozen? ⟨w1.heap.size, 3, none⟩ = false := g.he.free 3
      go_wp2_with fail
      refine (CU.out _).mono ?_
      rintro e w6 ⟨rfl, rfl⟩
      go_wp2_with fail
      refine (CA.out _).mono ?_
      rintro e w7 ⟨rfl, bA⟩
      have g := g.roll (b2.keep (Fr.of_below bA) b2.lt (by simp)) ((Fr.of_below bA).mono (Nat.le_refl _) (fun _ _ _ => by simp))
      have p7 : w7.cell? ⟨w1.heap.size, 3, none⟩ = some (.int .u64 0) := g.c 3
      have z7 : w7.frozen? ⟨w1.heap.size, 3, none⟩ = false := g.he.free 3
      have G : Hid (EX 28 w z w.heap.size w1.heap.size y4 [.int .i64 1, .int .i64 n1, .int .i64 n2, .int .u64 (m : Nat), .int .i64 n3] (w7.setCell ⟨w1.heap.size, 3, none⟩ (.int .u64 (m : Nat)))) := g.set 3 _
      clear g b2 f2 bA
      by_cases hz : m = 0
      · subst hz
        rw [if_pos rfl] at EQ
        obtain rfl := EQ.out
        have G : Hid (EX 28 w z w.heap.size w1.heap.size y4 [.int .i64 1, .int .i64 n1, .int .i64 n2, .int .u64 0, .int .i64 n3] (w7.setCell ⟨w1.heap.size, 3, none⟩ (.int .u64 0))) := G
        have p8 : (w7.setCell ⟨w1.heap.size, 3, none⟩ (.int .u64 0)).cell? ⟨w1.heap.size, 3, none⟩ = some (.int .u64 0) := G.out.c 3
        have z8 : (w7.setCell ⟨w1.heap.size, 3, none⟩ (.int .u64 0)).frozen? ⟨w1.heap.size, 3, none⟩ = false := G.out.he.free 3
        have G : Hid (EX 28 w z w.heap.size w1.heap.size y4 [.int .i64 1, .int .i64 n1, .int .i64 n2, .int .u64 1, .int .i64 n3] ((w7.setCell ⟨w1.heap.size, 3, none⟩ (.int .u64 0)).setCell ⟨w1.heap.size, 3, none⟩ (.int .u64 1))) := G.out.set 3 _
        have q0 : ((w7.setCell ⟨w1.heap.size, 3, none⟩ (.int .u64 0)).setCell ⟨w1.heap.size, 3, none⟩ (.int .u64 1)).cell? ⟨w1.heap.size, 0, none⟩ = some (.int .i64 1) := G.out.c 0
        have q1 : ((w7.setCell ⟨w1.heap.size, 3, none⟩ (.int .u64 0)).setCell ⟨w1.heap.size, 3, none⟩ (.int .u64 1)).cell? ⟨w1.heap.size, 1, none⟩ = some (.int .i64 n1) := G.out.c 1
        have q2 : ((w7.setCell ⟨w1.heap.size, 3, none⟩ (.int .u64 0)).setCell ⟨w1.heap.size, 3, none⟩ (.int .u64 1)).cell? ⟨w1.heap.size, 2, none⟩ = some (.int .i64 n2) := G.out.c 2
        have q3 : ((w7.setCell ⟨w1.heap.size, 3, none⟩ (.int .u64 0)).setCell ⟨w1.heap.size, 3, none⟩ (.int .u64 1)).cell? ⟨w1.heap.size, 3, none⟩ = some (.int .u64 1) := G.out.c 3
        have q4 : ((w7.setCell ⟨w1.heap.size, 3, none⟩ (.int .u64 0)).setCell ⟨w1.heap.size, 3, none⟩ (.int .u64 1)).cell? ⟨w1.heap.size, 4, none⟩ = some (.int .i64 n3) := G.out.c 4
        have HR : Hid (((w7.setCell ⟨w1.heap.size, 3, none⟩ (.int .u64 0)).setCell ⟨w1.heap.size, 3, none⟩ (.int .u64 1)).heap[w.heap.size]? = some (.cells #[.int .i64 0, .int .i64 0, .int .i64 0, .int .u64 0, .int .i64 0] 33 (0, 0))) := G.out.hr
        have FIN := G.out.fin
        clear G
        go_wp2_with (guard_target =~ wpList _ _ _ (Oper.mk none (Op.store _ _ _) _ _ _ _ :: _) _ _; refine wpList_store_row rfl 33 (.tmp 4) (.tmp 49) rfl w.heap.size _ rfl rfl 33 _ HR.out (by rw [infoEv]; rfl) rfl (by kernel_rfl) ?_)
        exact bodyPost_ret (ev_ret rfl FIN.1 rfl) rfl ⟨rfl, FIN.2.1, FIN.2.2⟩
      · rw [if_neg hz] at EQ
        obtain rfl := EQ.out
        have e9 : (((m3 : Nat) : Int) == 0) = false := by rw [beq_eq_false_iff_ne]; omega
        have p8 : (w7.setCell ⟨w1.heap.size, 3, none⟩ (.int .u64 (m3 : Nat))).cell? ⟨w1.heap.size, 3, none⟩ = some (.int .u64 (m3 : Nat)) := G.out.c 3
        have q0 : (w7.setCell ⟨w1.heap.size, 3, none⟩ (.int .u64 (m3 : Nat))).cell? ⟨w1.heap.size, 0, none⟩ = some (.int .i64 1) := G.out.c 0
        have q1 : (w7.setCell ⟨w1.heap.size, 3, none⟩ (.int .u64 (m3 : Nat))).cell? ⟨w1.heap.size, 1, none⟩ = some (.int .i64 n1) := G.out.c 1
        have q2 : (w7.setCell ⟨w1.heap.size, 3, none⟩ (.int .u64 (m3 : Nat))).cell? ⟨w1.heap.size, 2, none⟩ = some (.int .i64 n2) := G.out.c 2
        have q3 : (w7.setCell ⟨w1.heap.size, 3, none⟩ (.int .u64 (m3 : Nat))).cell? ⟨w1.heap.size, 3, none⟩ = some (.int .u64 (m3 : Nat)) := G.out.c 3
        have q4 : (w7.setCell ⟨w1.heap.size, 3, none⟩ (.int .u64 (m3 : Nat))).cell? ⟨w1.heap.size, 4, none⟩ = some (.int .i64 n3) := G.out.c 4
        have HR : Hid ((w7.setCell ⟨w1.heap.size, 3, none⟩ (.int .u64 (m3 : Nat))).heap[w.heap.size]? = some (.cells #[.int .i64 0, .int .i64 0, .int .i64 0, .int .u64 0, .int .i64 0] 33 (0, 0))) := G.out.hr
        have FIN := G.out.fin
        clear G
        go_wp2_with (guard_target =~ wpList _ _ _ (Oper.mk none (Op.store _ _ _) _ _ _ _ :: _) _ _; refine wpList_store_row rfl 33 (.tmp 4) (.tmp 49) rfl w.heap.size _ rfl rfl 33 _ HR.out (by rw [infoEv]; rfl) rfl (by kernel_rfl) ?_)
        exact bodyPost_ret (ev_ret rfl FIN.1 rfl) rfl ⟨rfl, FIN.2.1, FIN.2.2⟩
  · have d1 : decide (k < 60) = false := decide_eq_false q1
    rw [if_neg q1] at KN
    by_cases q2 : k < 66
    · have d2 : decide (k < 66) = true := decide_eq_true q2
      rw [if_pos q2] at KN KS
      obtain rfl := KN.out
      obtain rfl := KS.out
      have G := G0.out (.int .i64 2)
      have G : Hid (EX 28 w z w.heap.size w1.heap.size y0 [.int .i64 2, .int .i64 0, .int .i64 0, .int .u64 0, .int .i64 0] (w1.alloc (.cells #[.int .i64 2, .int .i64 0, .int .i64 0, .int .u64 0, .int .i64 0] 33))) := G
      clear CR
      as_aux_lemma =>
        go_wp2_with fail
        refine (C1.out _ G.out.hd).mono ?_
        rintro e w2 ⟨rfl, b2, f2⟩
        have g := G.out.roll b2 f2
        have p2 : w2.cell? ⟨w1.heap.size, 1, none⟩ = some (.int .i64 0) := g.c 1
        have z2 : w2.frozen? ⟨w1.heap.size, 1, none⟩ = false := g.he.free 1
        have G : Hid (EX 28 w z w.heap.size w1.heap.size y1 [.int .i64 2, .int .i64 n1, .int .i64 0, .int .u64 0, .int .i64 0] (w2.setCell ⟨w1.heap.size, 1, none⟩ (.int .i64 n1))) := g.set 1 _
        clear g b2 f2
        go_wp2_with fail
        refine (C2.out _ G.out.hd).mono ?_
        rintro e w3 ⟨rfl, b2, f2⟩
        have g := G.out.roll b2 f2
        have p3 : w3.cell? ⟨w1.heap.size, 2, none⟩ = some (.int .i64 0) := g.c 2
        have z3 : w3.frozen? ⟨w1.heap.size, 2, none⟩ = false := g.he.free 2
        have G : Hid (EX 28 w z w.heap.size w1.heap.size y2 [.int .i64 2, .int .i64 n1, .int .i64 n2, .int .u64 0, .int .i64 0] (w3.setCell ⟨w1.heap.size, 2, none⟩ (.int .i64 n2))) := g.set 2 _
        clear g b2 f2
        go_wp2_with fail
        refine (C3.out _ G.out.hd).mono ?_
        rintro e w4 ⟨rfl, b2, f2⟩
        have g := G.out.roll b2 f2
        have p4 : w4.cell? ⟨w1.heap.size, 4, none⟩ = some (.int .i64 0) := g.c 4
        have z4 : w4.frozen? ⟨w1.heap.size, 4, none⟩ = false := g.he.free 4
        have G : Hid (EX 28 w z w.heap.size w1.heap.size y3 [.int .i64 2, .int .i64 n1, .int .i64 n2, .int .u64 0, .int .i64 n3] (w4.setCell ⟨w1.heap.size, 4, none⟩ (.int .i64 n3))) := g.set 4 _
        clear g b2 f2
        go_wp2_with fail
        refine (C4.out _ G.out.hd).mono ?_
        rintro e w5 ⟨rfl, b2, f2⟩
        have g := G.out.roll b2 f2
        have p5 : w5.cell? ⟨w1.heap.size, 3, none⟩ = some (.int .u64 0) := g.c 3
        have z5' : w5.frozen? ⟨w1.heap.size, 3, none⟩ = false := g.he.free 3
        go_wp2_with fail
        refine (CU.out _).mono ?_
        rintro e w6 ⟨rfl, rfl⟩
        go_wp2_with fail
        refine (CA.out _).mono ?_
        rintro e w7 ⟨rfl, bA⟩
        have g := g.roll (b2.keep (Fr.of_below bA) b2.lt (by simp)) ((Fr.of_below bA).mono (Nat.le_refl _) (fun _ _ _ => by simp))
        have p7 : w7.cell? ⟨w1.heap.size, 3, none⟩ = some (.int .u64 0) := g.c 3
        have z7 : w7.frozen? ⟨w1.heap.size, 3, none⟩ = false := g.he.free 3
        have G : Hid (EX 28 w z w.heap.size w1.heap.size y4 [.int .i64 2, .int .i64 n1, .int .i64 n2, .int .u64 (m : Nat), .int .i64 n3] (w7.setCell ⟨w1.heap.size, 3, none⟩ (.int .u64 (m : Nat)))) := g.set 3 _
        clear g b2 f2 bA
        by_cases hz : m = 0
        · subst hz
          rw [if_pos rfl] at EQ
          obtain rfl := EQ.out
          have G : Hid (EX 28 w z w.heap.size w1.heap.size y4 [.int .i64 2, .int .i64 n1, .int .i64 n2, .int .u64 0, .int .i64 n3] (w7.setCell ⟨w1.heap.size, 3, none⟩ (.int .u64 0))) := G
          have p8 : (w7.setCell ⟨w1.heap.size, 3, none⟩ (.int .u64 0)).cell? ⟨w1.heap.size, 3, none⟩ = some (.int .u64 0) := G.out.c 3
          have z8 : (w7.setCell ⟨w1.heap.size, 3, none⟩ (.int .u64 0)).frozen? ⟨w1.heap.size, 3, none⟩ = false := G.out.he.free 3
          have G : Hid (EX 28 w z w.heap.size w1.heap.size y4 [.int .i64 2, .int .i64 n1, .int .i64 n2, .int .u64 1, .int .i64 n3] ((w7.setCell ⟨w1.heap.size, 3, none⟩ (.int .u64 0)).setCell ⟨w1.heap.size, 3, none⟩ (.int .u64 1))) := G.out.set 3 _
          have q0 : ((w7.setCell ⟨w1.heap.size, 3, none⟩ (.int .u64 0)).setCell ⟨w1.heap.size, 3, none⟩ (.int .u64 1)).cell? ⟨w1.heap.size, 0, none⟩ = some (.int .i64 2) := G.out.c 0
          have q1 : ((w7.setCell ⟨w1.heap.size, 3, none⟩ (.int .u64 0)).setCell ⟨w1.heap.size, 3, none⟩ (.int .u64 1)).cell? ⟨w1.heap.size, 1, none⟩ = some (.int .i64 n1) := G.out.c 1
          have q2 : ((w7.setCell ⟨w1.heap.size, 3, none⟩ (.int .u64 0)).setCell ⟨w1.heap.size, 3, none⟩ (.int .u64 1)).cell? ⟨w1.heap.size, 2, none⟩ = some (.int .i64 n2) := G.out.c 2
          have q3 : ((w7.setCell ⟨w1.heap.size, 3, none⟩ (.int .u64 0)).setCell ⟨w1.heap.size, 3, none⟩ (.int .u64 1)).cell? ⟨w1.heap.size, 3, none⟩ = some (.int .u64 1) := G.out.c 3
          have q4 : ((w7.setCell ⟨w1.heap.size, 3, none⟩ (.int .u64 0)).setCell ⟨w1.heap.size, 3, none⟩ (.int .u64 1)).cell? ⟨w1.heap.size, 4, none⟩ = some (.int .i64 n3) := G.out.c 4
          have HR : Hid (((w7.setCell ⟨w1.heap.size, 3, none⟩ (.int .u64 0)).setCell ⟨w1.heap.size, 3, none⟩ (.int .u64 1)).heap[w.heap.size]? = some (.cells #[.int .i64 0, .int .i64 0, .int .i64 0, .int .u64 0, .int .i64 0] 33 (0, 0))) := G.out.hr
          have FIN := G.out.fin
          clear G
          go_wp2_with (guard_target =~ wpList _ _ _ (Oper.mk none (Op.store _ _ _) _ _ _ _ :: _) _ _; refine wpList_store_row rfl 33 (.tmp 4) (.tmp 49) rfl w.heap.size _ rfl rfl 33 _ HR.out (by rw [infoEv]; rfl) rfl (by kernel_rfl) ?_)
          exact bodyPost_ret (ev_ret rfl FIN.1 rfl) rfl ⟨rfl, FIN.2.1, FIN.2.2⟩
        · rw [if_neg hz] at EQ
          obtain rfl := EQ.out
          have e9 : (((m3 : Nat) : Int) == 0) = false := by rw [beq_eq_false_iff_ne]; omega
          have p8 : (w7.setCell ⟨w1.heap.size, 3, none⟩ (.int .u64 (m3 : Nat))).cell? ⟨w1.heap.size, 3, none⟩ = some (.int .u64 (m3 : Nat)) := G.out.c 3
          have q0 : (w7.setCell ⟨w1.heap.size, 3, none⟩ (.int .u64 (m3 : Nat))).cell? ⟨w1.heap.size, 0, none⟩ = some (.int .i64 2) := G.out.c 0
          have q1 : (w7.setCell ⟨w1.heap.size, 3, none⟩ (.int .u64 (m3 : Nat))).cell? ⟨w1.heap.size, 1, none⟩ = some (.int .i64 n1) := G.out.c 1
          have q2 : (w7.setCell ⟨w1.heap.size, 3, none⟩ (.int .u64 (m3 : Nat))).cell? ⟨w1.heap.size, 2, none⟩ = some (.int .i64 n2) := G.out.c 2
          have q3 : (w7.setCell ⟨w1.heap.size, 3, none⟩ (.int .u64 (m3 : Nat))).cell? ⟨w1.heap.size, 3, none⟩ = some (.int .u64 (m3 : Nat)) := G.out.c 3
          have q4 : (w7.setCell ⟨w1.heap.size, 3, none⟩ (.int .u64 (m3 : Nat))).cell? ⟨w1.heap.size, 4, none⟩ = some (.int .i64 n3) := G.out.c 4
          have HR : Hid ((w7.setCell ⟨w1.heap.size, 3, none⟩ (.int .u64 (m3 : Nat))).heap[w.heap.size]? = some (.cells #[.int .i64 0, .int .i64 0, .int .i64 0, .int .u64 0, .int .i64 0] 33 (0, 0))) := G.out.hr
          have FIN := G.out.fin
          clear G
          go_wp2_with (guard_target =~ wpList _ _ _ (Oper.mk none (Op.store _ _ _) _ _ _ _ :: _) _ _; refine wpList_store_row rfl 33 (.tmp 4) (.tmp 49) rfl w.heap.size _ rfl rfl 33 _ HR.out (by rw [infoEv]; rfl) rfl (by kernel_rfl) ?_)
          exact bodyPost_ret (ev_ret rfl FIN.1 rfl) rfl ⟨rfl, FIN.2.1, FIN.2.2⟩
    · have d2 : decide (k < 66) = false := decide_eq_false q2
      rw [if_neg q2] at KN KS
      obtain rfl := KN.out
      obtain rfl := KS.out
      have G := (G0.out (.int .i64 0)).hd
      go_wp2_with fail
      refine (CR.out _ G).mono ?_
      rintro e wr ⟨rfl, b2, f2⟩
      have g := (G0.out (.int .i64 0)).roll b2 f2
      have pr : wr.cell? ⟨w1.heap.size, 0, none⟩ = some (.int .i64 0) := g.c 0
      have zr : wr.frozen? ⟨w1.heap.size, 0, none⟩ = false := g.he.free 0
      have G : Hid (EX 28 w z w.heap.size w1.heap.size y0 [.int .i64 (3 + kk), .int .i64 0, .int .i64 0, .int .u64 0, .int .i64 0] (wr.setCell ⟨w1.heap.size, 0, none⟩ (.int .i64 (3 + kk)))) := g.set 0 _
      clear g b2 f2
      as_aux_lemma =>
        go_wp2_with fail
        refine (C1.out _ G.out.hd).mono ?_
        rintro e w2 ⟨rfl, b2, f2⟩
        have g := G.out.roll b2 f2
        have p2 : w2.cell? ⟨w1.heap.size, 1, none⟩ = some (.int .i64 0) := g.c 1
        have z2 : w2.frozen? ⟨w1.heap.size, 1, none⟩ = false := g.he.free 1
        have G : Hid (EX 28 w z w.heap.size w1.heap.size y1 [.int .i64 (3 + kk), .int .i64 n1, .int .i64 0, .int .u64 0, .int .i64 0] (w2.setCell ⟨w1.heap.size, 1, none⟩ (.int .i64 n1))) := g.set 1 _
        clear g b2 f2
        go_wp2_with fail
        refine (C2.out _ G.out.hd).mono ?_
        rintro e w3 ⟨rfl, b2, f2⟩
        have g := G.out.roll b2 f2
        have p3 : w3.cell? ⟨w1.heap.size, 2, none⟩ = some (.int .i64 0) := g.c 2
        have z3 : w3.frozen? ⟨w1.heap.size, 2, none⟩ = false := g.he.free 2
        have G : Hid (EX 28 w z w.heap.size w1.heap.size y2 [.int .i64 (3 + kk), .int .i64 n1, .int .i64 n2, .int .u64 0, .int .i64 0] (w3.setCell ⟨w1.heap.size, 2, none⟩ (.int .i64 n2))) := g.set 2 _
        clear g b2 f2
        go_wp2_with fail
        refine (C3.out _ G.out.hd).mono ?_
        rintro e w4 ⟨rfl, b2, f2⟩
        have g := G.out.roll b2 f2
        have p4 : w4.cell? ⟨w1.heap.size, 4, none⟩ = some (.int .i64 0) := g.c 4
        have z4 : w4.frozen? ⟨w1.heap.size, 4, none⟩ = false := g.he.free 4
        have G : Hid (EX 28 w z w.heap.size w1.heap.size y3 [.int .i64 (3 + kk), .int .i64 n1, .int .i64 n2, .int .u64 0, .int .i64 n3] (w4.setCell ⟨w1.heap.size, 4, none⟩ (.int .i64 n3))) := g.set 4 _
        clear g b2 f2
        go_wp2_with fail
        refine (C4.out _ G.out.hd).mono ?_
        rintro e w5 ⟨rfl, b2, f2⟩
        have g := G.out.roll b2 f2
        have p5 : w5.cell? ⟨w1.heap.size, 3, none⟩ = some (.int .u64 0) := g.c 3
        have z5' : w5.frozen? ⟨w1.heap.size, 3, none⟩ = false := g.he.free 3
        go_wp2_with fail
        refine (CU.out _).mono ?_
        rintro e w6 ⟨rfl, rfl⟩
        go_wp2_with fail
        refine (CA.out _).mono ?_
        rintro e w7 ⟨rfl, bA⟩
        have g := g.roll (b2.keep (Fr.of_below bA) b2.lt (by simp)) ((Fr.of_below bA).mono (Nat.le_refl _) (fun _ _ _ => by simp))
        have p7 : w7.cell? ⟨w1.heap.size, 3, none⟩ = some (.int .u64 0) := g.c 3
        have z7 : w7.frozen? ⟨w1.heap.size, 3, none⟩ = false := g.he.free 3
        have G : Hid (EX 28 w z w.heap.size w1.heap.size y4 [.int .i64 (3 + kk), .int .i64 n1, .int .i64 n2, .int .u64 (m : Nat), .int .i64 n3] (w7.setCell ⟨w1.heap.size, 3, none⟩ (.int .u64 (m : Nat)))) := g.set 3 _
        clear g b2 f2 bA
        by_cases hz : m = 0
        · subst hz
          rw [if_pos rfl] at EQ
          obtain rfl := EQ.out
          have G : Hid (EX 28 w z w.heap.size w1.heap.size y4 [.int .i64 (3 + kk), .int .i64 n1, .int .i64 n2, .int .u64 0, .int .i64 n3] (w7.setCell ⟨w1.heap.size, 3, none⟩ (.int .u64 0))) := G
          have p8 : (w7.setCell ⟨w1.heap.size, 3, none⟩ (.int .u64 0)).cell? ⟨w1.heap.size, 3, none⟩ = some (.int .u64 0) := G.out.c 3
          have z8 : (w7.setCell ⟨w1.heap.size, 3, none⟩ (.int .u64 0)).frozen? ⟨w1.heap.size, 3, none⟩ = false := G.out.he.free 3
          have G : Hid (EX 28 w z w.heap.size w1.heap.size y4 [.int .i64 (3 + kk), .int .i64 n1, .int .i64 n2, .int .u64 1, .int .i64 n3] ((w7.setCell ⟨w1.heap.size, 3, none⟩ (.int .u64 0)).setCell ⟨w1.heap.size, 3, none⟩ (.int .u64 1))) := G.out.set 3 _
          have q0 : ((w7.setCell ⟨w1.heap.size, 3, none⟩ (.int .u64 0)).setCell ⟨w1.heap.size, 3, none⟩ (.int .u64 1)).cell? ⟨w1.heap.size, 0, none⟩ = some (.int .i64 (3 + kk)) := G.out.c 0
          have q1 : ((w7.setCell ⟨w1.heap.size, 3, none⟩ (.int .u64 0)).setCell ⟨w1.heap.size, 3, none⟩ (.int .u64 1)).cell? ⟨w1.heap.size, 1, none⟩ = some (.int .i64 n1) := G.out.c 1
          have q2 : ((w7.setCell ⟨w1.heap.size, 3, none⟩ (.int .u64 0)).setCell ⟨w1.heap.size, 3, none⟩ (.int .u64 1)).cell? ⟨w1.heap.size, 2, none⟩ = some (.int .i64 n2) := G.out.c 2
          have q3 : ((w7.setCell ⟨w1.heap.size, 3, none⟩ (.int .u64 0)).setCell ⟨w1.heap.size, 3, none⟩ (.int .u64 1)).cell? ⟨w1.heap.size, 3, none⟩ = some (.int .u64 1) := G.out.c 3
          have q4 : ((w7.setCell ⟨w1.heap.size, 3, none⟩ (.int .u64 0)).setCell ⟨w1.heap.size, 3, none⟩ (.int .u64 1)).cell? ⟨w1.heap.size, 4, none⟩ = some (.int .i64 n3) := G.out.c 4
          have HR : Hid (((w7.setCell ⟨w1.heap.size, 3, none⟩ (.int .u64 0)).setCell ⟨w1.heap.size, 3, none⟩ (.int .u64 1)).heap[w.heap.size]? = some (.cells #[.int .i64 0, .int .i64 0, .int .i64 0, .int .u64 0, .int .i64 0] 33 (0, 0))) := G.out.hr
          have FIN := G.out.fin
          clear G
          go_wp2_with (guard_target =~ wpList _ _ _ (Oper.mk none (Op.store _ _ _) _ _ _ _ :: _) _ _; refine wpList_store_row rfl 33 (.tmp 4) (.tmp 49) rfl w.heap.size _ rfl rfl 33 _ HR.out (by rw [infoEv]; rfl) rfl (by kernel_rfl) ?_)
          exact bodyPost_ret (ev_ret rfl FIN.1 rfl) rfl ⟨rfl, FIN.2.1, FIN.2.2⟩
        · rw [if_neg hz] at EQ
          obtain rfl := EQ.out
          have e9 : (((m3 : Nat) : Int) == 0) = false := by rw [beq_eq_false_iff_ne]; omega
          have p8 : (w7.setCell ⟨w1.heap.size, 3, none⟩ (.int .u64 (m3 : Nat))).cell? ⟨w1.heap.size, 3, none⟩ = some (.int .u64 (m3 : Nat)) := G.out.c 3
          have q0 : (w7.setCell ⟨w1.heap.size, 3, none⟩ (.int .u64 (m3 : Nat))).cell? ⟨w1.heap.size, 0, none⟩ = some (.int .i64 (3 + kk)) := G.out.c 0
          have q1 : (w7.setCell ⟨w1.heap.size, 3, none⟩ (.int .u64 (m3 : Nat))).cell? ⟨w1.heap.size, 1, none⟩ = some (.int .i64 n1) := G.out.c 1
          have q2 : (w7.setCell ⟨w1.heap.size, 3, none⟩ (.int .u64 (m3 : Nat))).cell? ⟨w1.heap.size, 2, none⟩ = some (.int .i64 n2) := G.out.c 2
          have q3 : (w7.setCell ⟨w1.heap.size, 3, none⟩ (.int .u64 (m3 : Nat))).cell? ⟨w1.heap.size, 3, none⟩ = some (.int .u64 (m3 : Nat)) := G.out.c 3
          have q4 : (w7.setCell ⟨w1.heap.size, 3, none⟩ (.int .u64 (m3 : Nat))).cell? ⟨w1.heap.size, 4, none⟩ = some (.int .i64 n3) := G.out.c 4
          have HR : Hid ((w7.setCell ⟨w1.heap.size, 3, none⟩ (.int .u64 (m3 : Nat))).heap[w.heap.size]? = some (.cells #[.int .i64 0, .int .i64 0, .int .i64 0, .int .u64 0, .int .i64 0] 33 (0, 0))) := G.out.hr
          have FIN := G.out.fin
          clear G
          go_wp2_with (guard_target =~ wpList _ _ _ (Oper.mk none (Op.store _ _ _) _ _ _ _ :: _) _ _; refine wpList_store_row rfl 33 (.tmp 4) (.tmp 49) rfl w.heap.size _ rfl rfl 33 _ HR.out (by rw [infoEv]; rfl) rfl (by kernel_rfl) ?_)
          exact bodyPost_ret (ev_ret rfl FIN.1 rfl) rfl ⟨rfl, FIN.2.1, FIN.2.2⟩
set_option maxRecDepth 100000 in
set_option maxHeartbeats 8000000 in
theorem rev_no (z : Nat) (c : Int) (w : World) (hc : okc c = false) :
    Calls Try.prog 12 #[.pointer (some ⟨z, 0, none⟩), .int .i64 c] w fun e w' => e = .returned (evV ez) ∧ Below w.heap.size w w' := by
  have KB : Hid (Blk (w.alloc (.cells #[.int .i64 0, .int .i64 0, .int .i64 0, .int .u64 0, .int .i64 0] 33)) w.heap.size z5 33) := Blk.new w _ _
  have KF : Hid (Blk ((w.alloc (.cells #[.int .i64 0, .int .i64 0, .int .i64 0, .int .u64 0, .int .i64 0] 33)).setRow w.heap.size z5.toArray) w.heap.size z5 33) := blk_row KB.out
  have BF : Hid (Below w.heap.size w ((w.alloc (.cells #[.int .i64 0, .int .i64 0, .int .i64 0, .int .u64 0, .int .i64 0] 33)).setRow w.heap.size z5.toArray)) := ((Below.refl _ _).alloc (Nat.le_refl _) _).trans ((fr_row (B := w.heap.size) (new := z5)).below fun k hk => by rw [List.mem_singleton.1 hk]; exact Nat.le_refl _)
  by_cases h1 : c < 1
  · have e1 : decide (c < 1) = true := decide_eq_true h1
    clear hc
    go_enter Try.func12, Try.ntmps12
    go_wp2_with (guard_target =~ wpList _ _ _ (Oper.mk none (Op.store _ _ _) _ _ _ _ :: _) _ _; refine wpList_store_row rfl 33 (.tmp 4) (.tmp 13) rfl w.heap.size _ rfl rfl 33 _ KB.out (by rw [infoEv]; rfl) rfl (by kernel_rfl) ?_)
    exact bodyPost_ret (ev_ret rfl KF.out rfl) rfl ⟨rfl, BF.out⟩
  · have e1 : decide (c < 1) = false := decide_eq_false h1
    have h2 : 64 < c := by
      unfold okc at hc
      simp at hc
      omega
    have e2 : decide (64 < c) = true := decide_eq_true h2
    clear hc
    go_enter Try.func12, Try.ntmps12
    go_wp2_with (guard_target =~ wpList _ _ _ (Oper.mk none (Op.store _ _ _) _ _ _ _ :: _) _ _; refine wpList_store_row rfl 33 (.tmp 4) (.tmp 13) rfl w.heap.size _ rfl rfl 33 _ KB.out (by rw [infoEv]; rfl) rfl (by kernel_rfl) ?_)
    exact bodyPost_ret (ev_ret rfl KF.out rfl) rfl ⟨rfl, BF.out⟩
end Go.Proofs.Ytijicghdmlfheaa.Dri
