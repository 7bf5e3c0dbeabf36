/- Proved: for every number cpus, every number readers and every event e, davitlaw29.ModelWrong(cpus, readers, e) returns true: a state of no number of cores, or without each core's readers, has no next one, and any other has no such error (readers from 0 to 100 are looked at, as the law itself says); no condition. -/
import Derived.Test.YtaebebgoijgolaaGreatRows
import Derived.Test.YtaebebgoijgolaaGreatFo
import Derived.Test.YtaebebgoijgolaaGreatMdo
import Derived.WalkKit
import Derived.ProofKit
import Derived.OpenShut
import Derived.Stop.Joined
import Derived.ShutString
import Derived.ChangeOld
import Derived.Below
import Derived.Carry
import Derived.Test.YtaebebgoijgolaaGreatFt
namespace Go.Proofs.YtaebebgoijgolaaGreat.modelWrong
open Go.ChangeShapes Go.WideShapes Go.ChangeAt Go.RowKit
set_option linter.unusedVariables false
set_option linter.unusedSimpArgs false

theorem own : ownKnob Tryz.prog.godebug = none := by kernel_rfl
theorem laidOut : laidOutB Tryz.prog = true := by kernel_rfl

set_option maxRecDepth 100000 in
set_option maxHeartbeats 4000000 in
theorem walk (a0 : Int) (a1 : Int) (X2 : Nat → Int) (w : World) (w0 : (Lit.int .i64 a0).wf = true) (w1 : (Lit.int .i64 a1).wf = true) (z2 : ∀ j, j < [1, 1, 1, 2, 1].length → kwf ([1, 1, 1, 2, 1].getD j 1) (X2 j)) :
    Calls Tryz.prog 3 #[.int .i64 a0, .int .i64 a1, .agg #[.int .i64 (X2 0), .int .i64 (X2 1), .int .i64 (X2 2), .int .u64 (X2 3), .int .i64 (X2 4)]] w fun e w' => e = .returned (.bool true) ∧ Below w.heap.size w w' := by
  have KN : Hid (∀ w1, _) := fun w1 => known_yes w1
  by_cases q : a1 < 0 ∨ 100 < a1
  · have tail : a1 < 0 ∨ (¬ a1 < 0 ∧ decide (a1 < 0) = false ∧ 100 < a1) := by
      by_cases h : a1 < 0
      · exact Or.inl h
      · exact Or.inr ⟨h, decide_eq_false h, by omega⟩
    have BE : Hid (∀ v, Below (w.alloc (.cells #[.int .i64 (X2 0), .int .i64 (X2 1), .int .i64 (X2 2), .int .u64 (X2 3), .int .i64 (X2 4)] 24)).heap.size (w.alloc (.cells #[.int .i64 (X2 0), .int .i64 (X2 1), .int .i64 (X2 2), .int .u64 (X2 3), .int .i64 (X2 4)] 24)) v → Below w.heap.size w v) := fun v h => ((Below.refl _ _).alloc (Nat.le_refl _) _).trans (h.mono (by simp))
    clear w0 w1 z2 q
    rcases tail with h | ⟨h1, h2, h3⟩
    all_goals (
      go_enter Tryz.func3, Tryz.ntmps3
      go_wp2_with fail
      refine (KN.out _).mono ?_
      rintro e u2 ⟨rfl, b2⟩
      have b3 := BE.out _ b2
      go_wp2
      go_ret
      exact ⟨rfl, b3⟩)
  · have q1 : 0 ≤ a1 := by omega
    have q2 : a1 ≤ 100 := by omega
    obtain ⟨n, rfl⟩ : ∃ n : Nat, a1 = (n : Int) := ⟨a1.toNat, by omega⟩
    generalize X2 0 = e0 at *
    generalize X2 1 = e1 at *
    generalize X2 2 = e2 at *
    generalize X2 3 = e3 at *
    generalize X2 4 = e4 at *
    have r1 : ¬ (n : Int) < 0 := by omega
    have r2 : ¬ 100 < (n : Int) := by omega
    have r3 : decide ((n : Int) < 0) = false := decide_eq_false r1
    have hmk : ∀ v : World, (Instr.makeSlice 27 (.int .i64 (n : Int)) (.int .i64 (n : Int))).run Tryz.prog v = .ok (.slice (some ⟨v.heap.size, 0, none⟩) n n) (v.alloc (.cells ((List.replicate n (0 : Int)).map iv).toArray 3)) := fun v => mkints n (by omega) v
    have I0 := mw_start w n a0 e0 e1 e2 e3 e4
    have NX : Hid (∀ u : World, MW w u n a0 e0 e1 e2 e3 e4 → _) := fun u h => next_empty u a0 n _ e0 e1 e2 e3 e4 (by omega) h.sl
    have SA : Hid (∀ u : World, _) := fun u => same_any (w := u) (c := 0) (on := 0) (sl_nil u).1 (sl_nil u).1 (sl_nil u).1 (sl_nil u).1 (by simp) (by simp)
    have TR : Hid (∀ u v : World, MW w u n a0 e0 e1 e2 e3 e4 → Below u.heap.size u v → Below w.heap.size w v) := fun u v h b => h.be.trans (b.mono h.be.size)
    unfold mw at I0
    generalize (List.replicate n (0 : Int)).map iv = L at hmk I0
    unfold sc z13 at *
    unfold sc at *
    unfold ev at I0 NX
    clear w0 w1 z2 q q1 q2
    go_enter Tryz.func3, Tryz.ntmps3
    go_wp2_with fail
    have I1 : Hid (MW w _ n a0 e0 e1 e2 e3 e4) := I0
    clear I0 hmk
    refine (NX.out _ I1.out).mono ?_
    rintro e u2 ⟨b2, h⟩
    have B2 : Hid (Below w.heap.size w u2) := TR.out _ _ I1.out b2
    clear I1 TR b2 NX
    rcases h with ⟨h, rfl⟩ | ⟨h, h6⟩
    · have tail : a0 < 1 ∨ (¬ a0 < 1 ∧ decide (a0 < 1) = false ∧ 64 < a0) ∨ (¬ a0 < 1 ∧ decide (a0 < 1) = false ∧ ¬ 64 < a0 ∧ decide (64 < a0) = false ∧ (a0 == (n : Int)) = false ∧ ¬ a0 = (n : Int) ∧ (a0 != (n : Int)) = true) := by
        by_cases p1 : a0 < 1
        · exact Or.inl p1
        · by_cases p2 : 64 < a0
          · exact Or.inr (Or.inl ⟨p1, decide_eq_false p1, p2⟩)
          · refine Or.inr (Or.inr ⟨p1, decide_eq_false p1, p2, decide_eq_false p2, by rw [beq_eq_false_iff_ne]; omega, by omega, by rw [bne_iff_ne]; omega⟩)
      clear h
      have B3 : Hid (∀ v, Below (u2.alloc (.cells #[.int .i64 0, .int .u64 0, .int .i64 0, .slice none 0 0, .slice none 0 0, .slice none 0 0, .slice none 0 0, .slice none 0 0, .slice none 0 0, .bool false, .bool false, .int .i64 0, .slice none 0 0] 32)).heap.size (u2.alloc (.cells #[.int .i64 0, .int .u64 0, .int .i64 0, .slice none 0 0, .slice none 0 0, .slice none 0 0, .slice none 0 0, .slice none 0 0, .slice none 0 0, .bool false, .bool false, .int .i64 0, .slice none 0 0] 32)) v → Below w.heap.size w v) := fun v b => (B2.out.alloc B2.out.size _).trans (b.mono (by have := B2.out.size; simp; omega))
      have T3 : Hid (∀ v v' : World, Below w.heap.size w v → Below v.heap.size v v' → Below w.heap.size w v') := fun v v' h k => h.trans (k.mono h.size)
      rcases tail with p1 | ⟨p1, p2, p3⟩ | ⟨p1, p2, p3, p4, p5, p6, p7⟩
      all_goals (
        go_wp2_with fail
        refine (SA.out _).mono ?_
        rintro e u3 ⟨rfl, b3⟩
        have b4 := B3.out _ b3
        go_wp2_with fail
        refine (KN.out _).mono ?_
        rintro e u4 ⟨rfl, b5⟩
        have b6 := T3.out _ _ b4 b5
        go_wp2
        go_ret
        exact ⟨rfl, b6⟩)
    · have p1 : ¬ a0 < 1 := by omega
      have p2 : decide (a0 < 1) = false := decide_eq_false p1
      have p3 : ¬ 64 < a0 := by omega
      have p4 : decide (64 < a0) = false := decide_eq_false p3
      obtain rfl : a0 = (n : Int) := by omega
      clear h
      have T3 : Hid (∀ v v' : World, Below w.heap.size w v → Below v.heap.size v v' → Below w.heap.size w v') := fun v v' h k => h.trans (k.mono h.size)
      rcases h6 with rfl | ⟨a2, n2, c2, a3, n3, c3, rfl⟩
      · have B3 : Hid (∀ v, Below (u2.alloc (.cells #[.int .i64 0, .int .u64 0, .int .i64 0, .slice none 0 0, .slice none 0 0, .slice none 0 0, .slice none 0 0, .slice none 0 0, .slice none 0 0, .bool false, .bool false, .int .i64 0, .slice none 0 0] 32)).heap.size (u2.alloc (.cells #[.int .i64 0, .int .u64 0, .int .i64 0, .slice none 0 0, .slice none 0 0, .slice none 0 0, .slice none 0 0, .slice none 0 0, .slice none 0 0, .bool false, .bool false, .int .i64 0, .slice none 0 0] 32)) v → Below w.heap.size w v) := fun v b => (B2.out.alloc B2.out.size _).trans (b.mono (by have := B2.out.size; simp; omega))
        go_wp2_with fail
        refine (SA.out _).mono ?_
        rintro e u3 ⟨rfl, b3⟩
        have b4 := B3.out _ b3
        go_wp2_with fail
        refine (KN.out _).mono ?_
        rintro e u4 ⟨rfl, b5⟩
        have b6 := T3.out _ _ b4 b5
        go_wp2
        go_ret
        exact ⟨rfl, b6⟩
      · have B3 : Hid (∀ v, Below (u2.alloc (.cells #[.int .i64 (n : Int), .int .u64 1, .int .i64 0, .slice none 0 0, .slice none 0 0, .slice none 0 0, .slice a2 n2 c2, .slice none 0 0, .slice none 0 0, .bool false, .bool false, .int .i64 0, .slice a3 n3 c3] 32)).heap.size (u2.alloc (.cells #[.int .i64 (n : Int), .int .u64 1, .int .i64 0, .slice none 0 0, .slice none 0 0, .slice none 0 0, .slice a2 n2 c2, .slice none 0 0, .slice none 0 0, .bool false, .bool false, .int .i64 0, .slice a3 n3 c3] 32)) v → Below w.heap.size w v) := fun v b => (B2.out.alloc B2.out.size _).trans (b.mono (by have := B2.out.size; simp; omega))
        go_wp2_with fail
        refine (KN.out _).mono ?_
        rintro e u4 ⟨rfl, b5⟩
        have b6 := B3.out _ b5
        go_wp2
        go_ret
        exact ⟨rfl, b6⟩

set_option maxRecDepth 100000 in
theorem lifted (os : Os) (started : os.Started) (H : Type) (enc : TypeId × Value → H) :
    ReturnsInHanded {} Tryz.checked os 3 .any (Rows.modelWrongSpec.pre6 enc Tryz.prog Tryz.f3 Rows.modelWrongRow.domain false) (Rows.modelWrongSpec.post enc Tryz.prog Tryz.f3 false true false false) := by
  refine returnsInHanded_of_change (C := Tryz.checked) own started (by kernel_rfl) Tryz.func3
    (ChangeSpec.witness6 (enc := enc) (C := Tryz.checked) false ⟨#[], #[.int .i64 0, .int .i64 0, .agg #[.int .i64 0, .int .i64 0, .int .i64 0, .int .u64 0, .int .i64 0]], []⟩ 8 (by kernel_rfl) (by kernel_rfl) (by kernel_rfl) (by kernel_rfl)) ?_
  intro W base args ds gs before hval0 hW hcnd _
  have hval : ∀ (j : Nat) t v, Tryz.f3.params[j]? = some t → args[j]? = some v → Value.okWide Tryz.prog W .any base t v := hval0
  have hW' := hW
  obtain ⟨p, q, hA0, hV, rfl, hfz, hnd⟩ := hW
  have hA : DataW.TrodAll enc Tryz.prog W 0 (fun _ => true) true Tryz.f3.params.toList args.toList ds p := hA0
  rw [Tryz.params3] at hA hval
  obtain ⟨v0, vs0, d0, ds0, p0, q0, hargs, rfl, rfl, h0, r0⟩ := trodAll_cons hA
  obtain ⟨v1, vs1, d1, ds1, p1, q1, rfl, rfl, rfl, h1, r1⟩ := trodAll_cons r0
  obtain ⟨v2, vs2, d2, ds2, p2, q2, rfl, rfl, rfl, h2, r2⟩ := trodAll_cons r1
  obtain ⟨rfl, rfl, rfl⟩ := trodAll_nil r2
  obtain rfl : args = #[v0, v1, v2] := by cases args; simp_all
  obtain ⟨rfl, rfl⟩ := trodVars_none hV
  obtain ⟨a0, rfl, rfl, rfl, w0⟩ := open_int Tryz.underlying3 (hval 0 3 v0 rfl rfl) h0
  obtain ⟨a1, rfl, rfl, rfl, w1⟩ := open_int Tryz.underlying3 (hval 1 3 v1 rfl rfl) h1
  have k2 := h2
  have lt2 : ∀ x ∈ p2, x.block < W.heap.size := by obtain ⟨m, hm⟩ := k2; exact DataW.trod_lt m _ _ _ hm
  obtain ⟨X2, e2, z2⟩ := open_rec [1, 1, 1, 2, 1] Tryz.underlying24 (by kernel_rfl) rfl (fun | 0, _ => ⟨_, rfl, rfl, by kernel_rfl, Tryz.underlying3⟩ | 1, _ => ⟨_, rfl, rfl, by kernel_rfl, Tryz.underlying3⟩ | 2, _ => ⟨_, rfl, rfl, by kernel_rfl, Tryz.underlying3⟩ | 3, _ => ⟨_, rfl, rfl, by kernel_rfl, Tryz.underlying22⟩ | 4, _ => ⟨_, rfl, rfl, by kernel_rfl, Tryz.underlying2⟩ | n + 5, h => absurd h (by simp only [List.length]; omega)) (hval 2 24 v2 rfl rfl) h2
  have e2 : v2 = .agg #[.int .i64 (X2 0), .int .i64 (X2 1), .int .i64 (X2 2), .int .u64 (X2 3), .int .i64 (X2 4)] := e2
  subst e2
  clear hA0 hval0
  refine (walk a0 a1 X2 W w0 w1 z2).mono fun e W' ⟨he, bel⟩ => ?_
  subst he
  exact ⟨_, rfl, _, _, _, [], _, [], hW', trodAll_mk1 (shut_bool Tryz.underlying4 _), (trodAll_cons_mk (shut_int Tryz.underlying3 w0) (trodAll_cons_mk (shut_int Tryz.underlying3 w1) (trodAll_cons_mk (Below.trod laidOut (by kernel_rfl) (of_decide_eq_true (by kernel_rfl)) k2 bel lt2) trodAll_mk0))), rfl, bel.frame _, fun h => by cases h⟩

theorem over : Rows.ModelWrongSaid :=
  OpenClaim.holds_of_wide 3 Tryz.f3 rfl rfl rfl rfl rfl rfl rfl ⟨rfl, rfl, rfl, rfl, rfl⟩ rfl rfl rfl rfl rfl (by kernel_rfl) Tryz.func3 (by kernel_rfl)
    (of_decide_eq_true (by kernel_rfl)) (by unfold Func.isWrapper; first | (rw [if_pos (by decide +kernel)]; kernel_rfl) | (rw [if_neg (by decide +kernel)]; exact ⟨rfl, rfl⟩))
    (fun os started H enc _ => lifted os started H enc)
end Go.Proofs.YtaebebgoijgolaaGreat.modelWrong

namespace Go.Proofs.YtaebebgoijgolaaGreat
open Go
theorem modelWrong_holds : Rows.ModelWrongSaid := modelWrong.over
#print axioms modelWrong_holds
end Go.Proofs.YtaebebgoijgolaaGreat
