/- Proved: for all bytes b, davitlaw26.WireGets(b) returns true: the event that b begins with, and all events that b is, or why they are none, are what the document says (10000 bytes at most, as the law itself says), and b is left alone; no condition. -/
import Derived.Test.YtmelbbojanomiabRows
import Derived.Test.YtmelbbojanomiabFo
import Derived.Test.YtmelbbojanomiabWr6
import Derived.WalkKit
import Derived.ProofKit
import Derived.OpenShut
import Derived.Stop.Joined
import Derived.ShutString
import Derived.ChangeOld
import Derived.Below
import Derived.Carry
import Derived.Test.YtmelbbojanomiabOro
import Derived.Test.YtmelbbojanomiabObo
namespace Go.Proofs.Ytmelbbojanomiab.wireGets
open Go.ChangeShapes Go.WideShapes Go.ChangeAt Go.RowKit
open Wi0
set_option linter.unusedVariables false
set_option linter.unusedSimpArgs false

theorem own : ownKnob Try.prog.godebug = none := by kernel_rfl
theorem laidOut : laidOutB Try.prog = true := by kernel_rfl

set_option maxRecDepth 100000 in
set_option maxHeartbeats 4000000 in
theorem walk (a0 : Option Addr) (len0 cap0 : Nat) (xs0 : List Nat) (w : World) (w0 : ORow by8 w (.slice a0 len0 cap0) xs0) (l0 : xs0.length = len0) (z0 : ∀ n ∈ xs0, n < 256) (y0 : len0 ≤ cap0 ∧ (a0 = none → cap0 = 0)) :
    Calls Try.prog 3 #[.slice a0 len0 cap0] w fun e w' => e = .returned (.bool true) ∧ Below w.heap.size w w' := by
  have KN : Hid (∀ w, _) := fun w => wknown_yes w
  have CR : Hid (CRow w a0 len0 cap0 xs0) := ⟨w0, y0.1, z0⟩
  have HL : Hid (xs0.length = len0) := l0
  have HZ0 : Hid (∀ n ∈ xs0, n < 256) := z0
  clear w0 l0 z0 y0
  by_cases big : (10000 : Int) < len0
  · go_enter Try.func3, Try.ntmps3
    go_wp2_with fail
    refine (KN.out _).mono ?_
    rintro e u ⟨rfl, b⟩
    have B : Hid (Below w.heap.size w u) := b
    clear b
    go_wp2
    go_ret
    exact ⟨rfl, B.out⟩
  have G : Hid (∀ _ : Unit, _) := fun _ => get_any w a0 len0 cap0 xs0 CR.out (by omega)
  obtain ⟨ev, p, c0, hge⟩ : ∃ (ev : Ev) (p : Nat) (c0 : Int), geV (getE xs0) = .tuple #[.agg #[.int .i64 ev.kind, .int .i64 ev.cpu, .int .i64 ev.id, .int .u64 ev.mask, .int .i64 ev.n], .int .i64 (p : Nat), .int .i64 c0] := by
    cases getE xs0 with
    | error c => exact ⟨z5, 0, c, rfl⟩
    | ok ep => exact ⟨ep.1, ep.2, 0, rfl⟩
  rw [hge] at G
  have RG : Hid (∀ u, Below w.heap.size w u → _) := fun u b => rget_any u a0 len0 cap0 xs0 (CR.out.below b) (by omega)
  rw [hge] at RG
  clear hge
  go_enter Try.func3, Try.ntmps3
  go_wp2_with fail
  refine (G.out ()).mono ?_
  rintro e u ⟨rfl, b⟩
  obtain ⟨u1, hu1⟩ : ∃ u1, u.alloc (.cells #[.int .i64 ev.kind, .int .i64 ev.cpu, .int .i64 ev.id, .int .u64 ev.mask, .int .i64 ev.n] 26) = u1 := ⟨_, rfl⟩
  obtain ⟨z, hz⟩ : ∃ z, u.heap.size = z := ⟨_, rfl⟩
  have HWA : Hid (u.alloc (.cells #[.int .i64 ev.kind, .int .i64 ev.cpu, .int .i64 ev.id, .int .u64 ev.mask, .int .i64 ev.n] 26) = u1) := hu1
  have HZZ : Hid (u.heap.size = z) := hz
  have E1 : Hid (Blk u1 z (evL ev) 26 ∧ Below w.heap.size w u1) := by
    rw [← hu1, ← hz]
    exact ⟨Blk.new u (evL ev) 26, b.alloc b.size _⟩
  have R1 : Hid (∀ _ : Unit, _) := fun _ => RG.out u1 E1.out.2
  clear b hu1 hz G RG
  go_wp2_with fail
  rw [HWA.out, HZZ.out]
  refine (R1.out ()).mono ?_
  rintro e t ⟨rfl, b⟩
  obtain ⟨u2, hu2⟩ : ∃ u2, t.alloc (.cells #[.int .i64 ev.kind, .int .i64 ev.cpu, .int .i64 ev.id, .int .u64 ev.mask, .int .i64 ev.n] 26) = u2 := ⟨_, rfl⟩
  obtain ⟨y, hy⟩ : ∃ y, t.heap.size = y := ⟨_, rfl⟩
  have HWB : Hid (t.alloc (.cells #[.int .i64 ev.kind, .int .i64 ev.cpu, .int .i64 ev.id, .int .u64 ev.mask, .int .i64 ev.n] 26) = u2) := hu2
  have HYY : Hid (t.heap.size = y) := hy
  have E2 : Hid (Blk u2 z (evL ev) 26 ∧ Blk u2 y (evL ev) 26 ∧ Below w.heap.size w u2) := by
    have k1 := E1.out.1.keep (Fr.of_below b) E1.out.1.lt (by simp)
    have b1 := E1.out.2.trans (b.mono E1.out.2.size)
    rw [← hu2, ← hy]
    exact ⟨k1.alloc _, Blk.new t (evL ev) 26, b1.alloc b1.size _⟩
  have D1 : Hid (∀ _ : Unit, _) := fun _ => read_any u2 a0 len0 cap0 xs0 (CR.out.below E2.out.2.2) (by omega)
  have RD : Hid (∀ u, Below w.heap.size w u → _) := fun u b => rread_any u a0 len0 cap0 xs0 (CR.out.below b) (by omega)
  clear b hu2 hy R1 E1 HWA HZZ
  go_wp2_with fail
  rw [HWB.out, HYY.out]
  refine (D1.out ()).mono ?_
  rintro e u3 ⟨v, c, Y, rfl, eg, alt⟩
  have E3 : Hid (Blk u3 z (evL ev) 26 ∧ Blk u3 y (evL ev) 26 ∧ Below w.heap.size w u3) := ⟨E2.out.1.keep (Fr.of_below eg.bel) E2.out.1.lt (by simp), E2.out.2.1.keep (Fr.of_below eg.bel) E2.out.2.1.lt (by simp), E2.out.2.2.trans (eg.bel.mono E2.out.2.2.size)⟩
  have L3 : Hid (LRow evy u3 v Y) := eg.row
  have A3 : Hid ((c = 0 ∧ readE [] xs0 = .ok Y) ∨ (c ≠ 0 ∧ Y = [] ∧ readE [] xs0 = .error c)) := alt
  obtain ⟨la, lc, hv⟩ := L3.out.shape
  have D2 : Hid (∀ _ : Unit, _) := fun _ => RD.out u3 E3.out.2.2
  clear eg alt D1 RD HWB HYY E2
  subst hv
  go_wp2_with fail
  refine (D2.out ()).mono ?_
  rintro e u4 ⟨v', c', Y', rfl, eg, alt⟩
  obtain ⟨rfl, rfl⟩ : c' = c ∧ Y' = Y := by
    rcases A3.out with ⟨h1, h2⟩ | ⟨h1, h2, h3⟩ <;> rcases alt with ⟨g1, g2⟩ | ⟨g1, g2, g3⟩
    · rw [h2] at g2; exact ⟨g1.trans h1.symm, (Except.ok.inj g2).symm⟩
    · rw [h2] at g3; cases g3
    · rw [h3] at g2; cases g2
    · rw [h3] at g3; exact ⟨(Except.error.inj g3).symm, g2.trans h2.symm⟩
  have E4 : Hid (Blk u4 z (evL ev) 26 ∧ Blk u4 y (evL ev) 26 ∧ Below w.heap.size w u4) := ⟨E3.out.1.keep (Fr.of_below eg.bel) E3.out.1.lt (by simp), E3.out.2.1.keep (Fr.of_below eg.bel) E3.out.2.1.lt (by simp), E3.out.2.2.trans (eg.bel.mono E3.out.2.2.size)⟩
  have YL : (Y'.length : Int) ≤ 1000 := by
    rcases A3.out with ⟨_, h2⟩ | ⟨_, h2, _⟩
    · obtain ⟨_, f600, _⟩ := read_back xs0 HZ0.out Y' h2
      omega
    · rw [h2]; decide
  obtain ⟨la2, lc2, hv2⟩ := eg.row.shape
  subst hv2
  have SA : Hid (∀ _ : Unit, _) := fun _ => rsame_any Y' _ _ u4 YL (L3.out.below eg.bel) eg.row
  clear eg alt D2 E3 L3 A3 YL
  generalize Y'.length = M at *
  have p0 : u4.cell? ⟨z, 0, none⟩ = some (.int .i64 ev.kind) := E4.out.1.cell 0
  have p1 : u4.cell? ⟨z, 1, none⟩ = some (.int .i64 ev.cpu) := E4.out.1.cell 1
  have p2 : u4.cell? ⟨z, 2, none⟩ = some (.int .i64 ev.id) := E4.out.1.cell 2
  have p3 : u4.cell? ⟨z, 3, none⟩ = some (.int .u64 ev.mask) := E4.out.1.cell 3
  have p4 : u4.cell? ⟨z, 4, none⟩ = some (.int .i64 ev.n) := E4.out.1.cell 4
  have q0 : u4.cell? ⟨y, 0, none⟩ = some (.int .i64 ev.kind) := E4.out.2.1.cell 0
  have q1 : u4.cell? ⟨y, 1, none⟩ = some (.int .i64 ev.cpu) := E4.out.2.1.cell 1
  have q2 : u4.cell? ⟨y, 2, none⟩ = some (.int .i64 ev.id) := E4.out.2.1.cell 2
  have q3 : u4.cell? ⟨y, 3, none⟩ = some (.int .u64 ev.mask) := E4.out.2.1.cell 3
  have q4 : u4.cell? ⟨y, 4, none⟩ = some (.int .i64 ev.n) := E4.out.2.1.cell 4
  go_wp2_with fail
  refine (SA.out ()).mono ?_
  rintro e u5 ⟨rfl, s5⟩
  have B5 : Hid (Below w.heap.size w u5) := s5.below E4.out.2.2
  clear s5 SA p0 p1 p2 p3 p4 q0 q1 q2 q3 q4
  go_wp2_with fail
  refine (KN.out _).mono ?_
  rintro e u6 ⟨rfl, b6⟩
  have B6 : Hid (Below w.heap.size w u6) := B5.out.trans (b6.mono B5.out.size)
  clear b6
  go_wp2
  go_ret
  exact ⟨rfl, B6.out⟩

set_option maxRecDepth 100000 in
theorem lifted (os : Os) (started : os.Started) (H : Type) (enc : TypeId × Value → H) :
    ReturnsInHanded {} Try.checked os 3 .any (Rows.wireGetsSpec.pre6 enc Try.prog Try.f3 Rows.wireGetsRow.domain false) (Rows.wireGetsSpec.post enc Try.prog Try.f3 false true false false) := by
  refine returnsInHanded_of_change (C := Try.checked) own started (by kernel_rfl) Try.func3
    (ChangeSpec.witness6 (enc := enc) (C := Try.checked) false ⟨#[], #[.slice none 0 0], []⟩ 8 (by kernel_rfl) (by kernel_rfl) (by kernel_rfl) (by kernel_rfl)) ?_
  intro W base args ds gs before hval0 hW hcnd _
  have hval : ∀ (j : Nat) t v, Try.f3.params[j]? = some t → args[j]? = some v → Value.okWide Try.prog W .any base t v := hval0
  have hW' := hW
  obtain ⟨p, q, hA0, hV, rfl, hfz, hnd⟩ := hW
  have hA : DataW.TrodAll enc Try.prog W 0 (fun _ => true) true Try.f3.params.toList args.toList ds p := hA0
  rw [Try.params3] at hA hval
  obtain ⟨v0, vs0, d0, ds0, p0, q0, hargs, rfl, rfl, h0, r0⟩ := trodAll_cons hA
  obtain ⟨rfl, rfl, rfl⟩ := trodAll_nil r0
  obtain rfl : args = #[v0] := by cases args; simp_all
  obtain ⟨rfl, rfl⟩ := trodVars_none hV
  obtain ⟨a0, len0, cap0, rfl⟩ := okWide_slice Try.underlying22 (hval 0 22 v0 rfl rfl)
  have k0 := h0
  have lt0 : ∀ x ∈ p0, x.block < W.heap.size := by obtain ⟨m, hm⟩ := k0; exact DataW.trod_lt m _ _ _ hm
  obtain ⟨xs0, w0, l0, z0⟩ : ∃ xs, ORow by8 W (.slice a0 len0 cap0) xs ∧ xs.length = len0 ∧ ∀ n ∈ xs, n < 256 := by
    obtain ⟨fuel, hf⟩ := h0
    exact open_ones (fun n => n < 256) Try.underlying22 (by kernel_rfl) (trod_by8 Try.underlying5) hf
  have y0 : len0 ≤ cap0 ∧ (a0 = none → cap0 = 0) := by
    obtain ⟨fuel, hf⟩ := h0
    exact open_cap Try.underlying22 hf
  clear hA0 hval0
  refine (walk a0 len0 cap0 xs0 W w0 l0 z0 y0).mono fun e W' ⟨he, bel⟩ => ?_
  subst he
  exact ⟨_, rfl, _, _, _, [], _, [], hW', trodAll_mk1 (shut_bool Try.underlying4 _), (trodAll_cons_mk (Below.trod laidOut (by kernel_rfl) (of_decide_eq_true (by kernel_rfl)) k0 bel lt0) trodAll_mk0), rfl, bel.frame _, fun h => by cases h⟩

theorem over : Rows.WireGetsSaid :=
  OpenClaim.holds_of_wide 3 Try.f3 rfl rfl rfl rfl rfl rfl rfl ⟨rfl, rfl, rfl, rfl, rfl⟩ rfl rfl rfl rfl rfl (by kernel_rfl) Try.func3 (by kernel_rfl)
    (of_decide_eq_true (by kernel_rfl)) (by unfold Func.isWrapper; first | (rw [if_pos (by decide +kernel)]; kernel_rfl) | (rw [if_neg (by decide +kernel)]; exact ⟨rfl, rfl⟩))
    (fun os started H enc _ => lifted os started H enc)
end Go.Proofs.Ytmelbbojanomiab.wireGets

namespace Go.Proofs.Ytmelbbojanomiab
open Go
theorem wireGets_holds : Rows.WireGetsSaid := wireGets.over
#print axioms wireGets_holds
end Go.Proofs.Ytmelbbojanomiab
