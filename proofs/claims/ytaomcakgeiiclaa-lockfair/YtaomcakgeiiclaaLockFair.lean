/- Proved: for every list cpus, davitlaw05.LockFair(cpus) returns true: each core that waits for a lock owns it when all ahead of it have left, and not earlier (200 cores at most, as the law itself says), and cpus is left alone, with no condition. -/
import Derived.Test.YtaomcakgeiiclaaRows
import Derived.Test.YtaomcakgeiiclaaFo
import Derived.Test.YtaomcakgeiiclaaLg
import Derived.WalkKit
import Derived.ProofKit
import Derived.OpenShut
import Derived.Stop.Joined
import Derived.ShutString
import Derived.ChangeOld
import Derived.Below
import Derived.Carry
namespace Go.Proofs.Ytaomcakgeiiclaa.lockFair
open Go.ChangeShapes Go.WideShapes Go.ChangeAt Go.RowKit
open Fm Ll
set_option linter.unusedVariables false
set_option linter.unusedSimpArgs false

theorem own : ownKnob Try.prog.godebug = none := by kernel_rfl
theorem laidOut : laidOutB Try.prog = true := by kernel_rfl

set_option maxRecDepth 100000 in
set_option maxHeartbeats 4000000 in
theorem walk (a0 : Option Addr) (len0 cap0 : Nat) (xs0 : List Int) (w : World) (w0 : Row w (.slice a0 len0 cap0) xs0) (l0 : xs0.length = len0) (z0 : ∀ n ∈ xs0, (Lit.int .i64 n).wf = true) :
    Calls Try.prog 4 #[.slice a0 len0 cap0] w fun e w' => e = .returned (.bool true) ∧ Below w.heap.size w w' := by
  have KN : Hid (∀ w, _) := fun w => known_yes w
  have HR : Hid (Row w (.slice a0 len0 cap0) xs0) := w0
  have HL : Hid (xs0.length = len0) := l0
  obtain ⟨Z, hZ, hz⟩ := zero_spin
  have S0 := sp_new w hZ.out
  have LF0 : Hid (LF w (w.alloc (.cells Z 26)) w.heap.size [] [] (.slice none 0 0)) := ⟨⟨_, S0⟩, World.ownsRow_nil _ _ _ _, ((Fr.refl w.heap.size [] w).alloc (Nat.le_refl _) _).below (by simp)⟩
  obtain ⟨i0, hi, hz0, hz1, hz2⟩ := info_parts Try.info3
  clear w0 l0 z0 hZ S0
  go_enter Try.func4, Try.ntmps4
  go_wp2
  go_loopw [4, 5] (fun v i wr => ∃ (k : Nat) (L : List Int), (k : Int) ≤ len0 ∧ (k : Int) ≤ 200 ∧ LF w wr w.heap.size L L v ∧ Hid ((L.length : Int) ≤ k) ∧ i = .int .i64 k) (fun _ i _ => 200 - (intOf i).toNat)
  case atStart => exact ⟨0, [], by omega, by omega, LF0.out, by simp [Hid], rfl⟩
  case round =>
    obtain ⟨k, L, hk, hk2, lf, hlk, rfl⟩ := hrel
    have hlt := lf.lt
    by_cases go : (k : Int) < len0 ∧ (k : Int) < 200
    · obtain ⟨h, h2⟩ := go
      obtain ⟨b0, off, rfl, hc⟩ := row_cell (wr := wr) HR.out HL.out (lf.bel) h
      obtain ⟨A, sp⟩ := lf.sp
      have P : Hid (∀ _ : Unit, _) := fun _ => take_any (xs0.getD k 0) wr sp
      have HC : Hid (∀ w2 : World, Below w.heap.size w w2 → w2.cell? ⟨b0, off + k, none⟩ = some (.int .i64 (xs0.getD k 0))) := fun w2 b2 => by
        obtain ⟨b3, off3, e3, hc3⟩ := row_cell (wr := w2) HR.out HL.out b2 h
        cases e3
        exact hc3
      obtain ⟨x, hx⟩ : ∃ x, xs0.getD k 0 = x := ⟨_, rfl⟩
      rw [hx] at P HC hc
      have F : Hid (LF w wr w.heap.size L L _) := lf
      have hl2 := hlk.out
      clear hx sp lf
      rcases tk_cases L x with ⟨t1, t2⟩ | ⟨t1, t2⟩
      · rw [t1, t2] at P
        clear t1 t2
        go_wp2_with fail
        refine (P.out ()).mono ?_
        rintro e w2 ⟨rfl, ⟨A2, s2⟩, f2⟩
        have F2 := F.out.act s2 f2
        have H2 : Hid (LF w w2 w.heap.size (L ++ [x]) L _) := F2
        have hc2 := HC.out w2 F2.bel
        have z2 := F2.lt
        clear f2 s2 F2
        go_wp2_with (at_builtin; refine wpList_append_own _ rfl _ _ 28 rfl (w.heap.size + 1) 3 i0 (.int .i64 0) 1 8 Try.underlying28 hi hz0 hz1 hz2 rfl (by decide) _ _ _ rfl (H2.out.own.alloc _) ⟨_, 0, none⟩ 1 1 [.int .i64 x] rfl rfl ?c1 ?c2 ?c3 ?c4 ?c5 ?_)
        case c1 =>
          intro j u hj
          match j, hj with
          | 0, hj => simp at hj; subst hj; exact (Blk.new _ [_] _).cell 0
        case c2 => intro u hu; simp at hu; subst hu; rfl
        case c3 => unfold maxLen; omega
        case c4 => omega
        case c5 => simp; omega
        intro v' w3 hown' hgrow _
        have F3 := H2.out.grow hown' hgrow
        clear hown' hgrow
        go_wp2
        go_roundw
        case rel => exact ⟨k + 1, L ++ [x], by omega, by omega, F3, by unfold Hid; simp; omega, by go_num⟩
        case measure => simp [intOf]; omega
      · rw [t2] at P
        clear t2
        generalize tkE L x = ee at *
        go_wp2_with fail
        refine (P.out ()).mono ?_
        rintro e w2 ⟨rfl, ⟨A2, s2⟩, f2⟩
        have F2 := F.out.act s2 f2
        clear f2 s2
        go_wp2
        go_roundw
        case rel => exact ⟨k + 1, L, by omega, by omega, F2, by unfold Hid; omega, by go_num⟩
        case measure => simp [intOf]; omega
    · have F : Hid (LF w wr w.heap.size L L _) := lf
      have hln : Hid (Ln L) := by obtain ⟨A, k⟩ := lf.sp; exact k.ln
      obtain ⟨a2, c2, rfl⟩ := own_shape lf.own
      have hlen : (L.length : Int) ≤ 200 := by have := hlk.out; omega
      obtain ⟨n, hn⟩ : ∃ n, L.length = n := ⟨_, rfl⟩
      have NL : Hid (L.length = n) := hn
      rw [hn] at hlen F ⊢
      have gate : (¬ (k : Int) < len0 ∧ decide ((k : Int) < len0) = false) ∨ ((k : Int) < len0 ∧ ¬ (k : Int) < 200) := by
        by_cases q : (k : Int) < len0
        · exact Or.inr ⟨q, fun z => go ⟨q, z⟩⟩
        · exact Or.inl ⟨q, decide_eq_false q⟩
      clear lf hlk go hn
      rcases gate with ⟨g, g2⟩ | ⟨g, g2⟩
      all_goals go_wp2
      all_goals (
        go_loopw [6] (fun i wr => ∃ j : Nat, (j : Int) ≤ n ∧ LF w wr w.heap.size (L.drop j) L (.slice a2 n c2) ∧ i = .int .i64 j) (fun i _ => n - (intOf i).toNat)
        case atStart => exact ⟨0, by omega, by rw [List.drop_zero]; exact F.out, rfl⟩
        case round =>
          obtain ⟨j, hj, lf, rfl⟩ := hrel
          by_cases h : (j : Int) < n
          · have hj2 : j < L.length := by have := NL.out; omega
            have F1 : Hid (LF w wr w.heap.size (L.drop j) L _) := lf
            clear lf
            go_wp2
            go_loopw [7] (fun i wr => ∃ q : Nat, (j : Int) ≤ q ∧ (q : Int) ≤ n ∧ LF w wr w.heap.size (L.drop j) L (.slice a2 n c2) ∧ i = .int .i64 q) (fun i _ => n - (intOf i).toNat)
            case atStart => exact ⟨j, by omega, by omega, F1.out, rfl⟩
            case round =>
              obtain ⟨q, hq1, hq2, lf, rfl⟩ := hrel
              obtain ⟨A, sp⟩ := lf.sp
              have own := lf.own
              have F2 : Hid (LF w wr w.heap.size (L.drop j) L _) := lf
              rw [NL.out] at own
              obtain ⟨b5, rfl, cj⟩ := own_cell own h
              have OW : Hid (∀ _ : Unit, _) := fun _ => owner_any wr sp
              rw [(drop_hd L j hj2).1, (drop_hd L j hj2).2.1] at OW
              have KC : Hid (∀ w2 : World, LF w w2 w.heap.size (L.drop j) L (.slice (some ⟨b5, 0, none⟩) n c2) → w2.cell? ⟨b5, j, none⟩ = some (.int .i64 (L.getD j 0))) := fun w2 f => by
                have o2 := f.own
                rw [NL.out] at o2
                obtain ⟨b6, e6, hc6⟩ := own_cell o2 h
                cases e6
                exact hc6
              by_cases h3 : (q : Int) < n
              · obtain ⟨b6, e6, cq⟩ := own_cell own h3
                cases e6
                have bb : (L.getD j 0 != L.getD j 0) = false := by simp
                by_cases e : q = j
                · subst e
                  clear lf sp own cq KC
                  generalize L.getD q 0 = x at *
                  go_wp2_with fail
                  refine (OW.out ()).mono ?_
                  rintro e w3 ⟨rfl, rfl⟩
                  have f2 := F2.out
                  go_wp2
                  go_roundw
                  case rel => exact ⟨q + 1, by omega, by omega, f2, by go_num⟩
                  case measure => simp [intOf]; omega
                · have LV : Hid (∀ _ : Unit, _) := fun _ => leave_any (L.getD q 0) wr sp
                  have hq3 : q < L.length := by have := NL.out; omega
                  rw [(lv_other hln.out j q (by omega) hq3).1, (lv_other hln.out j q (by omega) hq3).2] at LV
                  have hgt : (j : Int) < q := by omega
                  clear lf sp own KC e hq3
                  generalize L.getD q 0 = y at *
                  generalize L.getD j 0 = x at *
                  go_wp2_with fail
                  refine (OW.out ()).mono ?_
                  rintro e w3 ⟨rfl, rfl⟩
                  go_wp2_with fail
                  refine (LV.out ()).mono ?_
                  rintro e w4 ⟨rfl, ⟨A4, s4⟩, f4⟩
                  have f5 := F2.out.act s4 f4
                  clear s4 f4
                  go_wp2
                  go_roundw
                  case rel => exact ⟨q + 1, by omega, by omega, f5, by go_num⟩
                  case measure => simp [intOf]; omega
              · have LV : Hid (∀ _ : Unit, _) := fun _ => leave_any (L.getD j 0) wr sp
                rw [(lv_head hln.out j hj2).1, (lv_head hln.out j hj2).2] at LV
                clear lf sp own KC OW
                generalize L.getD j 0 = x at *
                go_wp2_with fail
                refine (LV.out ()).mono ?_
                rintro e w4 ⟨rfl, ⟨A4, s4⟩, f4⟩
                have f5 := F2.out.act s4 f4
                clear s4 f4
                go_wp2
                go_roundw
                case rel => exact ⟨j + 1, by omega, f5, by go_num⟩
                case measure => simp [intOf]; omega
          · have e : L.drop j = [] := List.drop_eq_nil_of_le (by have := NL.out; omega)
            rw [e] at lf
            obtain ⟨A, sp⟩ := lf.sp
            have OW : Hid (∀ _ : Unit, _) := fun _ => owner_any wr sp
            rw [show List.headD ([] : List Int) 0 = 0 from rfl, show decide (([] : List Int) ≠ []) = false by decide] at OW
            have B3 : Hid (Below w.heap.size w wr) := lf.bel
            have z3 := lf.lt
            clear lf sp e
            go_wp2_with fail
            refine (OW.out ()).mono ?_
            rintro e w3 ⟨rfl, rfl⟩
            go_wp2_with fail
            refine (KN.out _).mono ?_
            rintro e w5 ⟨rfl, hb5⟩
            go_wp2
            go_ret
            exact ⟨rfl, B3.out.trans (hb5.mono (by omega))⟩)

set_option maxRecDepth 100000 in
theorem lifted (os : Os) (started : os.Started) (H : Type) (enc : TypeId × Value → H) :
    ReturnsInHanded {} Try.checked os 4 .any (Rows.lockFairSpec.pre6 enc Try.prog Try.f4 Rows.lockFairRow.domain false) (Rows.lockFairSpec.post enc Try.prog Try.f4 false true false false) := by
  refine returnsInHanded_of_change (C := Try.checked) own started (by kernel_rfl) Try.func4
    (ChangeSpec.witness6 (enc := enc) (C := Try.checked) false ⟨#[], #[.slice none 0 0], []⟩ 8 (by kernel_rfl) (by kernel_rfl) (by kernel_rfl) (by kernel_rfl)) ?_
  intro W base args ds gs before hval0 hW hcnd _
  have hval : ∀ (j : Nat) t v, Try.f4.params[j]? = some t → args[j]? = some v → Value.okWide Try.prog W .any base t v := hval0
  have hW' := hW
  obtain ⟨p, q, hA0, hV, rfl, hfz, hnd⟩ := hW
  have hA : DataW.TrodAll enc Try.prog W 0 (fun _ => true) true Try.f4.params.toList args.toList ds p := hA0
  rw [Try.params4] at hA hval
  obtain ⟨v0, vs0, d0, ds0, p0, q0, hargs, rfl, rfl, h0, r0⟩ := trodAll_cons hA
  obtain ⟨rfl, rfl, rfl⟩ := trodAll_nil r0
  obtain rfl : args = #[v0] := by cases args; simp_all
  obtain ⟨rfl, rfl⟩ := trodVars_none hV
  obtain ⟨a0, len0, cap0, rfl⟩ := okWide_slice Try.underlying28 (hval 0 28 v0 rfl rfl)
  have k0 := h0
  have lt0 : ∀ x ∈ p0, x.block < W.heap.size := by obtain ⟨m, hm⟩ := k0; exact DataW.trod_lt m _ _ _ hm
  obtain ⟨xs0, w0, l0, z0⟩ : ∃ xs, Row W (.slice a0 len0 cap0) xs ∧ xs.length = len0 ∧ ∀ n ∈ xs, (Lit.int .i64 n).wf = true := by
    obtain ⟨fuel, hf⟩ := h0
    rcases open_ints Try.underlying28 Try.underlying3 (by kernel_rfl) hf with ⟨hcs, _⟩ | ⟨x, l, c, zs, hcs, _, hl, hm, hz, _, hcell, hwz⟩
    · simp [Value.cells] at hcs
      obtain ⟨rfl, rfl, rfl⟩ := hcs
      exact ⟨[], Or.inl ⟨rfl, none, 0, rfl⟩, rfl, fun n hn => by simp at hn⟩
    · simp [Value.cells] at hcs
      obtain ⟨rfl, rfl, rfl⟩ := hcs
      obtain ⟨xs, r1, r2, r3⟩ := row_of_cells (zs := zs) (Or.inr ⟨_, rfl, hl, by simpa using hz, hcell⟩)
      exact ⟨xs, r1, r2, fun n hn => hwz n (r3 n hn)⟩
  clear hA0 hval0
  refine (walk a0 len0 cap0 xs0 W w0 l0 z0).mono fun e W' ⟨he, bel⟩ => ?_
  subst he
  exact ⟨_, rfl, _, _, _, [], _, [], hW', trodAll_mk1 (shut_bool Try.underlying4 _), (trodAll_cons_mk (Below.trod laidOut (by kernel_rfl) (of_decide_eq_true (by kernel_rfl)) k0 bel lt0) trodAll_mk0), rfl, bel.frame _, fun h => by cases h⟩

theorem over : Rows.LockFairSaid :=
  OpenClaim.holds_of_wide 4 Try.f4 rfl rfl rfl rfl rfl rfl rfl ⟨rfl, rfl, rfl, rfl, rfl⟩ rfl rfl rfl rfl rfl (by kernel_rfl) Try.func4 (by kernel_rfl)
    (of_decide_eq_true (by kernel_rfl)) (by unfold Func.isWrapper; first | (rw [if_pos (by decide +kernel)]; kernel_rfl) | (rw [if_neg (by decide +kernel)]; exact ⟨rfl, rfl⟩))
    (fun os started H enc _ => lifted os started H enc)
end Go.Proofs.Ytaomcakgeiiclaa.lockFair

namespace Go.Proofs.Ytaomcakgeiiclaa
open Go
theorem lockFair_holds : Rows.LockFairSaid := lockFair.over
#print axioms lockFair_holds
end Go.Proofs.Ytaomcakgeiiclaa
