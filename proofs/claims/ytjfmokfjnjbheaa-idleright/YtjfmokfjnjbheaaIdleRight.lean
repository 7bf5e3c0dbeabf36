/- Proved: for every list l of ways and all numbers rest, more and limit, davitlaw23.IdleRight(l, rest, more, limit) returns true: of ways that can be a table the one that is chosen never needs more ticks to wake than the limit, and a longer rest is no lighter way (of at most 100 ways, as the law itself says), and l is left alone; no condition. -/
import Derived.Test.YtjfmokfjnjbheaaRows
import Derived.Test.YtjfmokfjnjbheaaFo
import Derived.Test.YtjfmokfjnjbheaaIn
import Derived.WalkKit
import Derived.ProofKit
import Derived.OpenShut
import Derived.Stop.Joined
import Derived.ShutString
import Derived.ChangeOld
import Derived.Below
import Derived.Carry
import Derived.SizedLaws
import Derived.Deep.Slices
import Derived.Test.YtjfmokfjnjbheaaFs
namespace Go.Proofs.Ytjfmokfjnjbheaa.idleRight
open Go.ChangeShapes Go.WideShapes Go.ChangeAt Go.RowKit
set_option linter.unusedVariables false
set_option linter.unusedSimpArgs false

theorem own : ownKnob Try.prog.godebug = none := by kernel_rfl
theorem laidOut : laidOutB Try.prog = true := by kernel_rfl

set_option maxRecDepth 100000 in
set_option maxHeartbeats 4000000 in
theorem walk (a0 : Option Addr) (len0 cap0 : Nat) (X0 : Nat → Nat → Int) (a1 : Int) (a2 : Int) (a3 : Int) (w : World) (w0 : SRow w (.slice a0 len0 cap0) len0 [true, true, true] X0) (z0 : ∀ i, i < len0 → ∀ j, j < [true, true, true].length → [true, true, true].getD j true = true → (Lit.int .i64 (X0 i j)).wf = true) (q0 : len0 * 24 ≤ 140737488355328) (w1 : (Lit.int .i64 a1).wf = true) (w2 : (Lit.int .i64 a2).wf = true) (w3 : (Lit.int .i64 a3).wf = true) :
    Calls Try.prog 5 #[.slice a0 len0 cap0, .int .i64 a1, .int .i64 a2, .int .i64 a3] w fun e w' => e = .returned (.bool true) ∧ Below w.heap.size w w' := by
  have KN : Hid (∀ w, _) := fun w => iknown_yes w
  have hr : LRow wy w (.slice a0 len0 cap0) ((List.range len0).map fun i => ⟨X0 i 0, X0 i 1, X0 i 2⟩) := lrow_of_srow _ w0 rfl (fun i _ j hj => by
      have hj : j < 3 := hj
      have : j = 0 ∨ j = 1 ∨ j = 2 := by omega
      rcases this with rfl | rfl | rfl <;> rfl)
  have hyl : ((List.range len0).map fun i => (⟨X0 i 0, X0 i 1, X0 i 2⟩ : Wy)).length = len0 := by simp
  generalize ((List.range len0).map fun i => (⟨X0 i 0, X0 i 1, X0 i 2⟩ : Wy)) = Y at *
  subst hyl
  have HL : Hid ((Y.length : Int) ≤ 5864062014805) := by show (Y.length : Int) ≤ 5864062014805; omega
  have HR : Hid (LRow wy w (.slice a0 Y.length cap0) Y) := hr
  have C1 : Hid (∀ _ : Unit, _) := fun _ => igiven_any Y _ w hr HL.out
  obtain ⟨l, hl⟩ : ∃ l, Y.length = l := ⟨_, rfl⟩
  have HN : Hid (Y.length = l) := hl
  rw [hl] at C1 HR HL ⊢
  clear w0 z0 hr w1 w2 w3 q0 hl
  go_enter Try.func5, Try.ntmps5
  go_wp2_with fail
  refine (C1.out ()).mono ?_
  rintro e u1 ⟨v1, rfl, g1⟩
  obtain ⟨av, cv, rfl⟩ := owng_shape g1.own
  have R1 : Hid (LRow wy u1 (.slice av Y.length cv) Y) := g1.row
  have B1 : Hid (Below w.heap.size w u1) := g1.bel
  rw [HN.out] at R1 ⊢
  have C2 : Hid (∀ _ : Unit, _) := fun _ => iright_any Y _ u1 R1.out
  clear g1 C1
  by_cases big : (100 : Int) < l
  · go_wp2_with fail
    refine (KN.out _).mono ?_
    rintro e u ⟨rfl, b⟩
    have B : Hid (Below w.heap.size w u) := B1.out.trans (b.mono B1.out.size)
    clear b
    go_wp2
    go_ret
    exact ⟨rfl, B.out⟩
  go_wp2_with fail
  refine (C2.out ()).mono ?_
  rintro e u2 ⟨⟨q, rfl, hq⟩, b2⟩
  have R2 : Hid (LRow wy u2 (.slice av l cv) Y) := R1.out.below b2
  have B2 : Hid (Below w.heap.size w u2) := B1.out.trans (b2.mono B1.out.size)
  have HQ : Hid (q = true ↔ Rgt Y) := hq
  clear hq b2 C2 R1 B1
  cases q
  · go_wp2_with fail
    refine (KN.out _).mono ?_
    rintro e u ⟨rfl, b⟩
    have B : Hid (Below w.heap.size w u) := B2.out.trans (b.mono B2.out.size)
    clear b
    go_wp2
    go_ret
    exact ⟨rfl, B.out⟩
  by_cases hm : a3 < 0
  · go_wp2_with fail
    refine (KN.out _).mono ?_
    rintro e u ⟨rfl, b⟩
    have B : Hid (Below w.heap.size w u) := B2.out.trans (b.mono B2.out.size)
    clear b
    go_wp2
    go_ret
    exact ⟨rfl, B.out⟩
  have RG : Hid (Rgt Y) := HQ.out.1 rfl
  have HM : Hid (0 ≤ a3) := by show 0 ≤ a3; omega
  have C4 : Hid (∀ _ : Unit, _) := fun _ => ichoose_any Y _ a1 a3 u2 R2.out (by rw [HN.out]; exact HL.out)
  have C5 : Hid (∀ _ : Unit, _) := fun _ => ichoose_any Y _ a2 a3 u2 R2.out (by rw [HN.out]; exact HL.out)
  clear HQ
  go_wp2_with fail
  refine (C4.out ()).mono ?_
  rintro e w' ⟨⟨c, rfl, hc⟩, rfl⟩
  have HC : Hid (Cho Y a1 a3 Y.length c) := hc
  clear hc
  go_wp2_with fail
  refine (C5.out ()).mono ?_
  rintro e w' ⟨⟨d, rfl, hd⟩, rfl⟩
  have HD : Hid (Cho Y a2 a3 Y.length d) := hd
  clear hd
  obtain ⟨k1, k2⟩ := cho_right RG.out HC.out HM.out
  obtain ⟨b, off, rfl, -, c0, -, -⟩ := wrow_cell (HR.out.below B2.out) (k := c) k1
  rw [HN.out] at k1
  have k3 : (c : Int) < l := by omega
  generalize (Y.getD c wz).ex = x at *
  clear k1
  by_cases g : a2 < a1
  · go_wp2_with fail
    refine (KN.out _).mono ?_
    rintro e u ⟨rfl, b⟩
    have B : Hid (Below w.heap.size w u) := B2.out.trans (b.mono B2.out.size)
    clear b
    go_wp2
    go_ret
    exact ⟨rfl, B.out⟩
  · have cd : c ≤ d := cho_more HC.out HD.out (by omega)
    have cd2 : (c : Int) ≤ d := by omega
    clear cd
    go_wp2_with fail
    refine (KN.out _).mono ?_
    rintro e u ⟨rfl, b⟩
    have B : Hid (Below w.heap.size w u) := B2.out.trans (b.mono B2.out.size)
    clear b
    go_wp2
    go_ret
    exact ⟨rfl, B.out⟩

set_option maxRecDepth 100000 in
theorem lifted (os : Os) (started : os.Started) (H : Type) (enc : TypeId × Value → H) :
    ReturnsInHanded {} Try.checked os 5 .any (Rows.idleRightSpec.pre6 enc Try.prog Try.f5 Rows.idleRightRow.domain false) (Rows.idleRightSpec.post enc Try.prog Try.f5 false true false false) := by
  refine returnsInHanded_of_change_sized (C := Try.checked) own started (by kernel_rfl) Try.func5
    (ChangeSpec.witness6 (enc := enc) (C := Try.checked) false ⟨#[], #[.slice none 0 0, .int .i64 0, .int .i64 0, .int .i64 0], []⟩ 8 (by kernel_rfl) (by kernel_rfl) (by kernel_rfl) (by kernel_rfl)) ?_
  intro W base args ds gs before hval0 hW hcnd hsz0 _
  have hval : ∀ (j : Nat) t v, Try.f5.params[j]? = some t → args[j]? = some v → Value.okWide Try.prog W .any base t v := hval0
  have hW' := hW
  obtain ⟨p, q, hA0, hV, rfl, hfz, hnd⟩ := hW
  have hA : DataW.TrodAll enc Try.prog W 0 (fun _ => true) true Try.f5.params.toList args.toList ds p := hA0
  have hsz : (DataW.weightsEach Try.prog (Try.f5.params.toList ++ Rows.idleRightSpec.plain.varTypes Try.prog) (ds ++ gs)).all (· ≤ reachBytes) = true := hsz0
  rw [Try.params5] at hA hval hsz
  obtain ⟨v0, vs0, d0, ds0, p0, q0, hargs, rfl, rfl, h0, r0⟩ := trodAll_cons hA
  obtain ⟨v1, vs1, d1, ds1, p1, q1, rfl, rfl, rfl, h1, r1⟩ := trodAll_cons r0
  obtain ⟨v2, vs2, d2, ds2, p2, q2, rfl, rfl, rfl, h2, r2⟩ := trodAll_cons r1
  obtain ⟨v3, vs3, d3, ds3, p3, q3, rfl, rfl, rfl, h3, r3⟩ := trodAll_cons r2
  obtain ⟨rfl, rfl, rfl⟩ := trodAll_nil r3
  obtain rfl : args = #[v0, v1, v2, v3] := by cases args; simp_all
  obtain ⟨rfl, rfl⟩ := trodVars_none hV
  obtain ⟨a0, len0, cap0, rfl⟩ := okWide_slice Try.underlying22 (hval 0 22 v0 rfl rfl)
  have k0 := h0
  have lt0 : ∀ x ∈ p0, x.block < W.heap.size := by obtain ⟨m, hm⟩ := k0; exact DataW.trod_lt m _ _ _ hm
  have q0 : len0 * 24 ≤ 140737488355328 := by
    obtain ⟨fuel, hf⟩ := h0
    rcases Go.Deep.open_slice Try.underlying22 hf with ⟨hcs, _⟩ | ⟨x, l, c, m, n, D, Pl, hcs, _, hl, _, hmm, hx, _⟩
    · simp [Value.cells] at hcs
      omega
    · simp [Value.cells] at hcs
      obtain ⟨rfl, rfl, rfl⟩ := hcs
      have hd : d0 = _ := congrArg Prod.fst hx
      subst hd
      have hq := sized_slice hsz (j := 0) (t := 22) (e := 36) rfl rfl Try.underlying22
      simp only [List.length_map, List.length_range] at hq
      have hb : Try.prog.bytesOf 36 = 24 := by kernel_rfl
      rw [hb] at hq
      have hr := reachBytes_lt
      have hm : len0 ≤ len0 + (m - len0) := Nat.le_add_right _ _
      have := Nat.mul_le_mul_right 24 hm
      omega
  obtain ⟨X0, w0, z0⟩ : ∃ X : Nat → Nat → Int, SRow W (.slice a0 len0 cap0) len0 [true, true, true] X ∧ ∀ i, i < len0 → ∀ j, j < [true, true, true].length → [true, true, true].getD j true = true → (Lit.int .i64 (X i j)).wf = true := by
    obtain ⟨fuel, hf⟩ := h0
    exact open_recs [true, true, true] Try.underlying22 Try.underlying36 (by kernel_rfl) rfl (by decide) (fun | 0, _ => ⟨_, rfl, rfl, by kernel_rfl, Try.underlying2⟩ | 1, _ => ⟨_, rfl, rfl, by kernel_rfl, Try.underlying2⟩ | 2, _ => ⟨_, rfl, rfl, by kernel_rfl, Try.underlying2⟩ | n + 3, h => absurd h (by simp only [List.length]; omega)) hf
  obtain ⟨a1, rfl, rfl, rfl, w1⟩ := open_int Try.underlying2 (hval 1 2 v1 rfl rfl) h1
  obtain ⟨a2, rfl, rfl, rfl, w2⟩ := open_int Try.underlying2 (hval 2 2 v2 rfl rfl) h2
  obtain ⟨a3, rfl, rfl, rfl, w3⟩ := open_int Try.underlying2 (hval 3 2 v3 rfl rfl) h3
  clear hA0 hval0
  refine (walk a0 len0 cap0 X0 a1 a2 a3 W w0 z0 q0 w1 w2 w3).mono fun e W' ⟨he, bel⟩ => ?_
  subst he
  exact ⟨_, rfl, _, _, _, [], _, [], hW', trodAll_mk1 (shut_bool Try.underlying4 _), (trodAll_cons_mk (Below.trod laidOut (by kernel_rfl) (of_decide_eq_true (by kernel_rfl)) k0 bel lt0) (trodAll_cons_mk (shut_int Try.underlying2 w1) (trodAll_cons_mk (shut_int Try.underlying2 w2) (trodAll_cons_mk (shut_int Try.underlying2 w3) trodAll_mk0)))), rfl, bel.frame _, fun h => by cases h⟩

theorem over : Rows.IdleRightSaid :=
  OpenClaim.holds_of_wide 5 Try.f5 rfl rfl rfl rfl rfl rfl rfl ⟨rfl, rfl, rfl, rfl, rfl⟩ rfl rfl rfl rfl rfl (by kernel_rfl) Try.func5 (by kernel_rfl)
    (of_decide_eq_true (by kernel_rfl)) (by unfold Func.isWrapper; first | (rw [if_pos (by decide +kernel)]; kernel_rfl) | (rw [if_neg (by decide +kernel)]; exact ⟨rfl, rfl⟩))
    (fun os started H enc _ => lifted os started H enc)
end Go.Proofs.Ytjfmokfjnjbheaa.idleRight

namespace Go.Proofs.Ytjfmokfjnjbheaa
open Go
theorem idleRight_holds : Rows.IdleRightSaid := idleRight.over
#print axioms idleRight_holds
end Go.Proofs.Ytjfmokfjnjbheaa
