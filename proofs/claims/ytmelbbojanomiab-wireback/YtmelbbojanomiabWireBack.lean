/- Proved: for every event e and all bytes more, davitlaw26.WireBack(e, more) returns true: what was put is got, whatever stands behind it (1000 bytes at most, as the law itself says), of a kind that is none there are no bytes, and more is left alone; no condition. -/
import Derived.Test.YtmelbbojanomiabRows
import Derived.Test.YtmelbbojanomiabFo
import Derived.Test.YtmelbbojanomiabWi7
import Derived.WalkKit
import Derived.ProofKit
import Derived.OpenShut
import Derived.Stop.Joined
import Derived.ShutString
import Derived.ChangeOld
import Derived.Below
import Derived.Carry
import Derived.Test.YtmelbbojanomiabFt
import Derived.Test.YtmelbbojanomiabOro
import Derived.Test.YtmelbbojanomiabObo
namespace Go.Proofs.Ytmelbbojanomiab.wireBack
open Go.ChangeShapes Go.WideShapes Go.ChangeAt Go.RowKit
open Wi0
set_option linter.unusedVariables false
set_option linter.unusedSimpArgs false

theorem own : ownKnob Try.prog.godebug = none := by kernel_rfl
theorem laidOut : laidOutB Try.prog = true := by kernel_rfl

set_option maxRecDepth 100000 in
set_option maxHeartbeats 4000000 in
theorem walk (X0 : Nat → Int) (a1 : Option Addr) (len1 cap1 : Nat) (xs1 : List Nat) (w : World) (z0 : ∀ j, j < [1, 1, 1, 2, 1].length → kwf ([1, 1, 1, 2, 1].getD j 1) (X0 j)) (w1 : ORow by8 w (.slice a1 len1 cap1) xs1) (l1 : xs1.length = len1) (z1 : ∀ n ∈ xs1, n < 256) (y1 : len1 ≤ cap1 ∧ (a1 = none → cap1 = 0)) :
    Calls Try.prog 4 #[.agg #[.int .i64 (X0 0), .int .i64 (X0 1), .int .i64 (X0 2), .int .u64 (X0 3), .int .i64 (X0 4)], .slice a1 len1 cap1] w fun e w' => e = .returned (.bool true) ∧ Below w.heap.size w w' := by
  have KN : Hid (∀ w, _) := fun w => wknown_yes w
  obtain ⟨ev, hev⟩ : ∃ ev : Ev, (⟨X0 0, X0 1, X0 2, X0 3, X0 4⟩ : Ev) = ev := ⟨_, rfl⟩
  have ok : Eok ev := by
    have k0 := z0 0 (by decide)
    have k1 := z0 1 (by decide)
    have k2 := z0 2 (by decide)
    have k3 := z0 3 (by decide)
    have k4 := z0 4 (by decide)
    simp [kwf, Lit.wf, IntKind.min, IntKind.max, IntKind.bits, IntKind.signed] at k0 k1 k2 k3 k4
    rw [← hev]
    exact ⟨⟨by show _ ≤ X0 0; omega, by show X0 0 < _; omega⟩, ⟨by show _ ≤ X0 1; omega, by show X0 1 < _; omega⟩, ⟨by show _ ≤ X0 2; omega, by show X0 2 < _; omega⟩, by show 0 ≤ X0 3; omega, by show X0 3 < _; omega, ⟨by show _ ≤ X0 4; omega, by show X0 4 < _; omega⟩⟩
  have e0 : X0 0 = ev.kind := by rw [← hev]
  have e1 : X0 1 = ev.cpu := by rw [← hev]
  have e2 : X0 2 = ev.id := by rw [← hev]
  have e3 : X0 3 = ev.mask := by rw [← hev]
  have e4 : X0 4 = ev.n := by rw [← hev]
  rw [e0, e1, e2, e3, e4]
  clear z0 hev e0 e1 e2 e3 e4
  have C1 : Hid (∀ u, _) := fun u => put_any u ev ok
  have PL := putE_len ev
  have PB : Hid (∀ x ∈ putE ev, x < 256) := putE_by ev
  have HM : Hid (ORow by8 w (.slice a1 len1 cap1) xs1) := w1
  have HL : Hid (xs1.length = len1) := l1
  have HZ1 : Hid (∀ n ∈ xs1, n < 256) := z1
  have HY : Hid (len1 ≤ cap1 ∧ (a1 = none → cap1 = 0)) := y1
  obtain ⟨wb, hwb⟩ : ∃ wb, w.alloc (.cells #[.int .i64 ev.kind, .int .i64 ev.cpu, .int .i64 ev.id, .int .u64 ev.mask, .int .i64 ev.n] 26) = wb := ⟨_, rfl⟩
  obtain ⟨z, hz⟩ : ∃ z, w.heap.size = z := ⟨_, rfl⟩
  have HWA : Hid (w.alloc (.cells #[.int .i64 ev.kind, .int .i64 ev.cpu, .int .i64 ev.id, .int .u64 ev.mask, .int .i64 ev.n] 26) = wb) := hwb
  have HZ : Hid (w.heap.size = z) := hz
  have EB : Hid (Blk wb z (evL ev) 26 ∧ Below w.heap.size w wb) := by
    rw [← hwb, ← hz]
    exact ⟨Blk.new w (evL ev) 26, (Below.refl _ _).alloc (Nat.le_refl _) _⟩
  have b0 : wb.cell? ⟨z, 0, none⟩ = some (.int .i64 ev.kind) := EB.out.1.cell 0
  have b1 : wb.cell? ⟨z, 1, none⟩ = some (.int .i64 ev.cpu) := EB.out.1.cell 1
  have b2 : wb.cell? ⟨z, 2, none⟩ = some (.int .i64 ev.id) := EB.out.1.cell 2
  have b3 : wb.cell? ⟨z, 3, none⟩ = some (.int .u64 ev.mask) := EB.out.1.cell 3
  have b4 : wb.cell? ⟨z, 4, none⟩ = some (.int .i64 ev.n) := EB.out.1.cell 4
  have KE : Hid (∀ u, Below wb.heap.size wb u → Blk u z (evL ev) 26) := fun u b => EB.out.1.keep (Fr.of_below b) EB.out.1.lt (by simp)
  cases hk : okk ev.kind with
  | false =>
    have hp : putE ev = [] := by unfold putE; rw [hk]; rfl
    rw [hp] at C1
    clear w1 l1 z1 y1 ok PL PB hwb hz HM HL HZ1 HY
    have kk : ev.kind < 1 ∨ (¬ ev.kind < 1 ∧ 30 < ev.kind) := by simp [okk] at hk; omega
    clear hk hp
    rcases kk with k1 | ⟨k1, k2⟩
    all_goals
      go_enter Try.func4, Try.ntmps4
      go_wp2_with fail
      rw [HWA.out]
      refine (C1.out _).mono ?_
      rintro e u ⟨v, rfl, g⟩
      obtain ⟨a, cap, hv⟩ := g.shape
      subst hv
      have c0 : u.cell? ⟨z, 0, none⟩ = some (.int .i64 ev.kind) := (KE.out u g.bel).cell 0
      have B1 : Hid (Below w.heap.size w u) := EB.out.2.trans (g.bel.mono EB.out.2.size)
      rw [HZ.out]
      clear g
      go_wp2_with fail
      refine (KN.out _).mono ?_
      rintro e u2 ⟨rfl, b⟩
      have B2 : Hid (Below w.heap.size w u2) := B1.out.trans (b.mono B1.out.size)
      clear b
      go_wp2
      go_ret
      exact ⟨rfl, B2.out⟩
  | true =>
    have kk : ¬ ev.kind < 1 ∧ ¬ 30 < ev.kind := by simp [okk] at hk; omega
    obtain ⟨k1, k2⟩ := kk
    have GP : Hid (getE (putE ev ++ xs1) = .ok (ev, (putE ev).length)) := get_put ev xs1 ok hk
    obtain ⟨PE, hPE⟩ : ∃ PE, putE ev = PE := ⟨_, rfl⟩
    rw [hPE] at C1 PL PB GP
    have PL2 : Hid ((PE.length : Int) ≤ 38) := by show (PE.length : Int) ≤ 38; omega
    clear w1 l1 z1 y1 ok hwb hz hk hPE PL
    by_cases big : (1000 : Int) < len1
    · go_enter Try.func4, Try.ntmps4
      go_wp2_with fail
      rw [HWA.out]
      refine (C1.out _).mono ?_
      rintro e u ⟨v, rfl, g⟩
      obtain ⟨a, cap, hv⟩ := g.shape
      subst hv
      have c0 : u.cell? ⟨z, 0, none⟩ = some (.int .i64 ev.kind) := (KE.out u g.bel).cell 0
      have B1 : Hid (Below w.heap.size w u) := EB.out.2.trans (g.bel.mono EB.out.2.size)
      rw [HZ.out]
      clear g
      go_wp2_with fail
      refine (KN.out _).mono ?_
      rintro e u2 ⟨rfl, b⟩
      have B2 : Hid (Below w.heap.size w u2) := B1.out.trans (b.mono B1.out.size)
      clear b
      go_wp2
      go_ret
      exact ⟨rfl, B2.out⟩
    go_enter Try.func4, Try.ntmps4
    go_wp2_with fail
    rw [HWA.out]
    refine (C1.out _).mono ?_
    rintro e u ⟨v, rfl, g⟩
    obtain ⟨a, cap, hv⟩ := g.shape
    subst hv
    have c0 : u.cell? ⟨z, 0, none⟩ = some (.int .i64 ev.kind) := (KE.out u g.bel).cell 0
    have CR := crow_of g PB.out
    have BWU := EB.out.2.trans (g.bel.mono EB.out.2.size)
    obtain ⟨v1, u1, run1, g1⟩ := bg_many (og_start by8 5 u) (Below.refl _ _) CR.row (fun a' c' h h2 => by
      simp only [Value.slice.injEq] at h
      obtain ⟨rfl, h3, rfl⟩ := h
      have := CR.cp
      rcases g.own.2 with ⟨hv, _⟩ | ⟨b, c, cur, hv, _⟩
      · simp only [Value.slice.injEq] at hv; exact hv.2.2
      · rw [h2] at hv; simp at hv) (by simp) (by have := PL2.out; omega)
    obtain ⟨v2, u2, run2, g2⟩ := bg_many g1 (Below.refl _ _) (HM.out.below (BWU.trans (g1.bel.mono BWU.size))) (fun a' c' h h2 => by
      simp only [Value.slice.injEq] at h
      obtain ⟨rfl, _, rfl⟩ := h
      exact HY.out.2 h2) (by have := PL2.out; simpa using (by omega : (PE.length : Int) ≤ 100000)) (by have := HL.out; omega)
    rw [List.nil_append] at g1 g2
    obtain ⟨a2, cap2, hv2⟩ := g2.shape
    subst hv2
    have CR2 := crow_of g2 (fun x hx => by
      rcases List.mem_append.1 hx with h | h
      · exact PB.out x h
      · exact HZ1.out x h)
    obtain ⟨N2, hN2⟩ : ∃ N2, (PE ++ xs1).length = N2 := ⟨_, rfl⟩
    have C2 : Hid (∀ _ : Unit, _) := fun _ => get_any u2 a2 _ cap2 (PE ++ xs1) CR2 (by rw [List.length_append]; have := PL2.out; have := HL.out; omega)
    rw [GP.out, show geV (.ok (ev, PE.length)) = .tuple #[evV ev, .int .i64 (PE.length : Nat), .int .i64 0] from rfl] at C2
    have BU2 : Hid (Below u.heap.size u u2) := g2.bel
    have BW : Hid (Below w.heap.size w u) := BWU
    have KU : Hid (∀ t, Below u.heap.size u t → Blk t z (evL ev) 26) := fun t b => KE.out t (g.bel.trans (b.mono g.bel.size))
    obtain ⟨a1v, cap1v, hv1⟩ := g1.shape
    subst hv1
    rw [hN2] at run2 C2
    have q : (PE.length == PE.length) = true := by simp
    generalize PE.length = M at *
    rw [HZ.out]
    clear g g1 g2 CR CR2 hN2 BWU HM HL HZ1 HY PB PL2 GP
    go_wp2_with (first | (at_builtin; guard_target =~ wpList _ _ _ (Oper.mk (some 32) _ _ _ _ _ :: _) _ _; refine wpList_rung rfl (.tmp 30) (.tmp 31) 22 rfl rfl rfl run1 ?_) | (at_builtin; guard_target =~ wpList _ _ _ (Oper.mk (some 35) _ _ _ _ _ :: _) _ _; refine wpList_rung rfl (.tmp 33) (.tmp 34) 22 rfl rfl rfl run2 ?_))
    refine (C2.out ()).mono ?_
    rintro e u3 ⟨rfl, b3⟩
    simp only [evV, evL]
    have BU3 : Hid (Below u.heap.size u u3) := BU2.out.trans (b3.mono BU2.out.size)
    obtain ⟨u4, hu4⟩ : ∃ u4, u3.alloc (.cells #[.int .i64 ev.kind, .int .i64 ev.cpu, .int .i64 ev.id, .int .u64 ev.mask, .int .i64 ev.n] 26) = u4 := ⟨_, rfl⟩
    have BU4 : Hid (Below u.heap.size u (u3.alloc (.cells #[.int .i64 ev.kind, .int .i64 ev.cpu, .int .i64 ev.id, .int .u64 ev.mask, .int .i64 ev.n] 26))) := BU3.out.alloc BU3.out.size _
    have EE := KU.out _ BU4.out
    have d0 : (u3.alloc (.cells #[.int .i64 ev.kind, .int .i64 ev.cpu, .int .i64 ev.id, .int .u64 ev.mask, .int .i64 ev.n] 26)).cell? ⟨z, 0, none⟩ = some (.int .i64 ev.kind) := EE.cell 0
    have d1 : (u3.alloc (.cells #[.int .i64 ev.kind, .int .i64 ev.cpu, .int .i64 ev.id, .int .u64 ev.mask, .int .i64 ev.n] 26)).cell? ⟨z, 1, none⟩ = some (.int .i64 ev.cpu) := EE.cell 1
    have d2 : (u3.alloc (.cells #[.int .i64 ev.kind, .int .i64 ev.cpu, .int .i64 ev.id, .int .u64 ev.mask, .int .i64 ev.n] 26)).cell? ⟨z, 2, none⟩ = some (.int .i64 ev.id) := EE.cell 2
    have d3 : (u3.alloc (.cells #[.int .i64 ev.kind, .int .i64 ev.cpu, .int .i64 ev.id, .int .u64 ev.mask, .int .i64 ev.n] 26)).cell? ⟨z, 3, none⟩ = some (.int .u64 ev.mask) := EE.cell 3
    have d4 : (u3.alloc (.cells #[.int .i64 ev.kind, .int .i64 ev.cpu, .int .i64 ev.id, .int .u64 ev.mask, .int .i64 ev.n] 26)).cell? ⟨z, 4, none⟩ = some (.int .i64 ev.n) := EE.cell 4
    clear b3 EE C2 C1 run1 run2 hu4
    go_wp2_with fail
    refine (KN.out _).mono ?_
    rintro e u5 ⟨rfl, b5⟩
    have B5 : Hid (Below w.heap.size w u5) := by
      have h1 := BW.out.trans (BU4.out.mono BW.out.size)
      exact h1.trans (b5.mono h1.size)
    clear b5
    go_wp2
    go_ret
    exact ⟨rfl, B5.out⟩

set_option maxRecDepth 100000 in
theorem lifted (os : Os) (started : os.Started) (H : Type) (enc : TypeId × Value → H) :
    ReturnsInHanded {} Try.checked os 4 .any (Rows.wireBackSpec.pre6 enc Try.prog Try.f4 Rows.wireBackRow.domain false) (Rows.wireBackSpec.post enc Try.prog Try.f4 false true false false) := by
  refine returnsInHanded_of_change (C := Try.checked) own started (by kernel_rfl) Try.func4
    (ChangeSpec.witness6 (enc := enc) (C := Try.checked) false ⟨#[], #[.agg #[.int .i64 0, .int .i64 0, .int .i64 0, .int .u64 0, .int .i64 0], .slice none 0 0], []⟩ 8 (by kernel_rfl) (by kernel_rfl) (by kernel_rfl) (by kernel_rfl)) ?_
  intro W base args ds gs before hval0 hW hcnd _
  have hval : ∀ (j : Nat) t v, Try.f4.params[j]? = some t → args[j]? = some v → Value.okWide Try.prog W .any base t v := hval0
  have hW' := hW
  obtain ⟨p, q, hA0, hV, rfl, hfz, hnd⟩ := hW
  have hA : DataW.TrodAll enc Try.prog W 0 (fun _ => true) true Try.f4.params.toList args.toList ds p := hA0
  rw [Try.params4] at hA hval
  obtain ⟨v0, vs0, d0, ds0, p0, q0, hargs, rfl, rfl, h0, r0⟩ := trodAll_cons hA
  obtain ⟨v1, vs1, d1, ds1, p1, q1, rfl, rfl, rfl, h1, r1⟩ := trodAll_cons r0
  obtain ⟨rfl, rfl, rfl⟩ := trodAll_nil r1
  obtain rfl : args = #[v0, v1] := by cases args; simp_all
  obtain ⟨rfl, rfl⟩ := trodVars_none hV
  have k0 := h0
  have lt0 : ∀ x ∈ p0, x.block < W.heap.size := by obtain ⟨m, hm⟩ := k0; exact DataW.trod_lt m _ _ _ hm
  obtain ⟨X0, e0, z0⟩ := open_rec [1, 1, 1, 2, 1] Try.underlying26 (by kernel_rfl) rfl (fun | 0, _ => ⟨_, rfl, rfl, by kernel_rfl, Try.underlying3⟩ | 1, _ => ⟨_, rfl, rfl, by kernel_rfl, Try.underlying3⟩ | 2, _ => ⟨_, rfl, rfl, by kernel_rfl, Try.underlying3⟩ | 3, _ => ⟨_, rfl, rfl, by kernel_rfl, Try.underlying24⟩ | 4, _ => ⟨_, rfl, rfl, by kernel_rfl, Try.underlying2⟩ | n + 5, h => absurd h (by simp only [List.length]; omega)) (hval 0 26 v0 rfl rfl) h0
  have e0 : v0 = .agg #[.int .i64 (X0 0), .int .i64 (X0 1), .int .i64 (X0 2), .int .u64 (X0 3), .int .i64 (X0 4)] := e0
  subst e0
  obtain ⟨a1, len1, cap1, rfl⟩ := okWide_slice Try.underlying22 (hval 1 22 v1 rfl rfl)
  have k1 := h1
  have lt1 : ∀ x ∈ p1, x.block < W.heap.size := by obtain ⟨m, hm⟩ := k1; exact DataW.trod_lt m _ _ _ hm
  obtain ⟨xs1, w1, l1, z1⟩ : ∃ xs, ORow by8 W (.slice a1 len1 cap1) xs ∧ xs.length = len1 ∧ ∀ n ∈ xs, n < 256 := by
    obtain ⟨fuel, hf⟩ := h1
    exact open_ones (fun n => n < 256) Try.underlying22 (by kernel_rfl) (trod_by8 Try.underlying5) hf
  have y1 : len1 ≤ cap1 ∧ (a1 = none → cap1 = 0) := by
    obtain ⟨fuel, hf⟩ := h1
    exact open_cap Try.underlying22 hf
  clear hA0 hval0
  refine (walk X0 a1 len1 cap1 xs1 W z0 w1 l1 z1 y1).mono fun e W' ⟨he, bel⟩ => ?_
  subst he
  exact ⟨_, rfl, _, _, _, [], _, [], hW', trodAll_mk1 (shut_bool Try.underlying4 _), (trodAll_cons_mk (Below.trod laidOut (by kernel_rfl) (of_decide_eq_true (by kernel_rfl)) k0 bel lt0) (trodAll_cons_mk (Below.trod laidOut (by kernel_rfl) (of_decide_eq_true (by kernel_rfl)) k1 bel lt1) trodAll_mk0)), rfl, bel.frame _, fun h => by cases h⟩

theorem over : Rows.WireBackSaid :=
  OpenClaim.holds_of_wide 4 Try.f4 rfl rfl rfl rfl rfl rfl rfl ⟨rfl, rfl, rfl, rfl, rfl⟩ rfl rfl rfl rfl rfl (by kernel_rfl) Try.func4 (by kernel_rfl)
    (of_decide_eq_true (by kernel_rfl)) (by unfold Func.isWrapper; first | (rw [if_pos (by decide +kernel)]; kernel_rfl) | (rw [if_neg (by decide +kernel)]; exact ⟨rfl, rfl⟩))
    (fun os started H enc _ => lifted os started H enc)
end Go.Proofs.Ytmelbbojanomiab.wireBack

namespace Go.Proofs.Ytmelbbojanomiab
open Go
theorem wireBack_holds : Rows.WireBackSaid := wireBack.over
#print axioms wireBack_holds
end Go.Proofs.Ytmelbbojanomiab
