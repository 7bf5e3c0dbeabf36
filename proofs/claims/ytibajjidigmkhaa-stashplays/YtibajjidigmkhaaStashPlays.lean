/- Proved: for all numbers cpus and pages and every list acts, davitlaw08.StashPlays(cpus, pages, acts) returns true: objects that cores keep, played with, answer what the document says (120 acts at most, as the law itself says), and acts is left alone, with no condition. -/
import Derived.Test.YtibajjidigmkhaaRows
import Derived.Test.YtibajjidigmkhaaFo
import Derived.Test.YtibajjidigmkhaaHl
import Derived.WalkKit
import Derived.ProofKit
import Derived.OpenShut
import Derived.Stop.Joined
import Derived.ShutString
import Derived.ChangeOld
import Derived.Below
import Derived.Carry
import Derived.Test.YtibajjidigmkhaaFs
import Derived.Deep.RegionHeld3
import Derived.Deep.RegionHeldLaw
namespace Go.Proofs.Ytibajjidigmkhaa.stashPlays
open Go.ChangeShapes Go.WideShapes Go.ChangeAt Go.RowKit
open Om Hm
set_option linter.unusedVariables false
set_option linter.unusedSimpArgs false

theorem own : ownKnob Try.prog.godebug = none := by kernel_rfl
theorem laidOut : laidOutB Try.prog = true := by kernel_rfl

set_option maxRecDepth 100000 in
set_option maxHeartbeats 4000000 in
theorem walk (a0 : Int) (a1 : Int) (a2 : Option Addr) (len2 cap2 : Nat) (X2 : Nat → Nat → Int) (w : World) (w0 : (Lit.int .i64 a0).wf = true) (w1 : (Lit.int .i64 a1).wf = true) (w2 : SRow w (.slice a2 len2 cap2) len2 [true, true, true] X2) (z2 : ∀ i, i < len2 → ∀ j, j < [true, true, true].length → [true, true, true].getD j true = true → (Lit.int .i64 (X2 i j)).wf = true) :
    Calls Try.prog 6 #[.int .i64 a0, .int .i64 a1, .slice a2 len2 cap2] w fun e w' => e = .returned (.bool true) ∧ Below w.heap.size w w' := by
  have KN : Hid (∀ w, _) := fun w => sknown_yes w
  by_cases wrong : (a0 < 1 ∨ 64 < a0) ∨ (a1 < 1 ∨ 12 < a1)
  · have C : Hid (∀ w, _) := fun w => snew_bad a0 a1 w wrong
    have D : Hid (∀ w, _) := fun w => rsnew_bad a0 a1 w wrong
    clear wrong w0 w1 w2 z2
    go_enter Try.func6, Try.ntmps6
    go_wp2_with fail
    refine (C.out _).mono ?_
    rintro e u1 ⟨rfl, rfl⟩
    go_wp2_with fail
    refine (D.out _).mono ?_
    rintro e u2 ⟨rfl, f2⟩
    have F2 : Hid (Below u1.heap.size u1 u2) := f2.below (by simp)
    clear f2
    go_wp2_with fail
    refine (KN.out _).mono ?_
    rintro e u3 ⟨rfl, hb⟩
    go_wp2
    go_ret
    exact ⟨rfl, F2.out.trans (hb.mono F2.out.size)⟩
  · obtain ⟨n, rfl⟩ := Int.eq_ofNat_of_zero_le (show 0 ≤ a0 by omega)
    obtain ⟨m, rfl⟩ := Int.eq_ofNat_of_zero_le (show 0 ≤ a1 by omega)
    have n1 : (1 : Int) ≤ n := by omega
    have n2 : (n : Int) ≤ 64 := by omega
    have m1 : (1 : Int) ≤ m := by omega
    have m2 : (m : Int) ≤ 12 := by omega
    have C : Hid (∀ _ : Unit, _) := fun _ => snew_any n m w n1 n2 m1 m2
    have D : Hid (∀ w1, _) := fun w1 => rsnew_any n m w1 n1 n2 m1 m2
    have HR : Hid (SRow w (.slice a2 len2 cap2) len2 [true, true, true] X2) := w2
    obtain ⟨s, hs⟩ : ∃ s, w.heap.size = s := ⟨_, rfl⟩
    have HS : Hid (w.heap.size = s) := hs
    rw [hs] at C ⊢
    clear wrong w0 w1 w2 z2 hs
    go_enter Try.func6, Try.ntmps6
    go_wp2_with fail
    refine (C.out ()).mono ?_
    rintro e u1 ⟨b, pb, lb, V0, rfl, h0, up, f0⟩
    have Q1 : Hid (SH u1 b pb lb n m (List.replicate 12 0) V0 (List.replicate n []) ∧ (s ≤ b ∧ s ≤ pb ∧ s ≤ lb ∧ ∀ g ∈ bl V0, s ≤ g) ∧ Fr s [] w u1) := ⟨h0, up, f0⟩
    clear h0 up f0 C
    go_wp2_with fail
    refine (D.out u1).mono ?_
    rintro e u2 ⟨rb, rp, rg, rl, R0, rfl, r0, ur, f2⟩
    have SI0 : Hid (SI w u2 s n m ⟨b, pb, lb, rb, rp, rg, rl⟩ (List.replicate 12 0) V0 R0 (List.replicate n [])) := by
      obtain rfl := HS.out
      exact si_new Q1.out.1 Q1.out.2.1 Q1.out.2.2 r0 ur f2
    clear r0 ur f2 Q1 D
    obtain ⟨P, hP⟩ : ∃ P : Pl, (⟨b, pb, lb, rb, rp, rg, rl⟩ : Pl) = P := ⟨_, rfl⟩
    rw [hP] at SI0
    obtain ⟨rfl, rfl⟩ : b = P.b ∧ rb = P.rb := by rw [← hP]; exact ⟨rfl, rfl⟩
    clear hP
    have TAIL : Hid (∀ (wr : World) (A : List Nat) (V R : List Value) (K : List (List Int)), SI w wr s n m P A V R K → ∀ (c : Int), c < 0 ∨ (n : Int) ≤ c → ∀ u : World, Sm u wr → Calls Try.prog 33 #[.pointer (some ⟨P.b, 0, none⟩), .int .i64 c] u fun e w' => ∃ a cap, e = .returned (.slice a 0 cap) ∧ SI w w' s n m P A V R K) := fun wr A V R K h c hc u e => (si_kept h c u e).mono fun _ w' ⟨v, r1, r2, r3⟩ => by
      rw [kc_out hc] at r2
      obtain ⟨a, cap, hv⟩ := r2.shape
      exact ⟨a, cap, by rw [r1, hv]; rfl, r3⟩
    go_wp2
    go_loopw [11] (fun i wr => ∃ (k : Nat) (A : List Nat) (V R : List Value) (K : List (List Int)), (k : Int) ≤ 120 ∧ (k : Int) ≤ len2 ∧ SI w wr s n m P A V R K ∧ i = .int .i64 k) (fun i _ => 120 - (intOf i).toNat)
    case atStart => exact ⟨0, _, _, _, _, by omega, by omega, SI0.out, rfl⟩
    case round =>
      obtain ⟨k, A, V, R, K, hk, hk2, si, rfl⟩ := hrel
      clear SI0
      have HI : Hid (SI w wr s n m P A V R K) := si
      have tail : (¬ (k : Int) < len2 ∧ decide ((k : Int) < len2) = false) ∨ ((k : Int) < len2 ∧ ¬ (k : Int) < 120) ∨ ((k : Int) < len2 ∧ (k : Int) < 120) := by
        by_cases h : (k : Int) < len2
        · by_cases h2 : (k : Int) < 120
          · exact Or.inr (Or.inr ⟨h, h2⟩)
          · exact Or.inr (Or.inl ⟨h, h2⟩)
        · exact Or.inl ⟨h, decide_eq_false h⟩
      rw [← or_assoc] at tail
      rcases tail with tail | ⟨h, h2⟩
      · have T1 : Hid (∀ _ : Unit, _) := fun _ => TAIL.out wr A V R K si (-1) (by omega) wr ⟨rfl, rfl, rfl, rfl⟩
        have T2 : Hid (∀ (u : World), SI w u s n m P A V R K → _) := fun u hu => TAIL.out u A V R K hu (n : Int) (by omega) u ⟨rfl, rfl, rfl, rfl⟩
        clear si
        rcases tail with ⟨h, hd⟩ | ⟨h, h2⟩
        all_goals (
          go_wp2_with fail
          refine (T1.out ()).mono ?_
          rintro e u3 ⟨a3, c3, rfl, i3⟩
          have I3 : Hid (SI w u3 s n m P A V R K) := i3
          clear i3
          go_wp2_with fail
          refine (T2.out u3 I3.out).mono ?_
          rintro e u4 ⟨a4, c4, rfl, i4⟩
          have B4 : Hid (Below s w u4 ∧ s ≤ u4.heap.size) := ⟨i4.bel, i4.le⟩
          clear i4
          go_wp2_with fail
          refine (KN.out _).mono ?_
          rintro e u5 ⟨rfl, hb5⟩
          go_wp2
          go_ret
          exact ⟨rfl, B4.out.1.trans (hb5.mono B4.out.2)⟩)
      · obtain ⟨ab, off, rfl, hA⟩ := srow_cell (wr := wr) HR.out (by rw [HS.out]; exact si.bel) h
        have HX : Hid (∀ w2 : World, Below s w w2 → ∀ j, j < 3 → w2.cell? ⟨ab, off + k * 3 + j, none⟩ = some (.int .i64 (X2 k j))) := fun w2 b2 j hj => by
          obtain ⟨ab3, off3, e3, hc3⟩ := srow_cell (wr := w2) HR.out (by rw [HS.out]; exact b2) h
          cases e3
          have := hc3 j hj
          match j, hj with
          | 0, _ => exact this
          | 1, _ => exact this
          | 2, _ => exact this
        clear hA
        generalize hy0 : X2 k 0 = y0 at *
        generalize hy1 : X2 k 1 = y1 at *
        generalize hy2 : X2 k 2 = y2 at *
        have FACT : Hid (∀ (u : World) (A2 : List Nat) (V2 R2 : List Value) (K2 : List (List Int)), SI w u s n m P A2 V2 R2 K2 → u.cell? ⟨ab, off + k * 3, none⟩ = some (.int .i64 y0) ∧ u.cell? ⟨ab, off + k * 3 + 1, none⟩ = some (.int .i64 y1) ∧ u.cell? ⟨ab, off + k * 3 + 2, none⟩ = some (.int .i64 y2) ∧ u.cell? ⟨P.rb, 0, none⟩ = some (.pointer (some ⟨P.rp, 0, none⟩)) ∧ u.cell? ⟨P.rb, 1, none⟩ = some (.slice (some ⟨P.rl, 0, none⟩) n n)) := fun u A2 V2 R2 K2 hu => by
          obtain ⟨q1, q2⟩ := si_cells hu
          refine ⟨?_, ?_, ?_, q1, q2⟩
          · rw [← hy0]; exact HX.out u hu.bel 0 (by omega)
          · rw [← hy1]; exact HX.out u hu.bel 1 (by omega)
          · rw [← hy2]; exact HX.out u hu.bel 2 (by omega)
        obtain ⟨x0, x1, x2, x3, x4⟩ := FACT.out wr A V R K si
        have DO : Hid (∀ u : World, Sm u wr → _) := fun u e => si_do si y0 y1 y2 u e
        have SO : Hid (∀ (u1 : World) (A2 : List Nat) (V2 R2 : List Value) (K2 : List (List Int)), SI w u1 s n m P A2 V2 R2 K2 → ∀ u : World, Sm u u1 → _) := fun u1 A2 V2 R2 K2 hu u e => si_out hu u e
        have RO : Hid (∀ (u1 : World) (A2 : List Nat) (V2 R2 : List Value) (K2 : List (List Int)) (v1 : Value), SI w u1 s n m P A2 V2 R2 K2 → Row u1 v1 (ol m A2 K2 96) → ∀ u : World, Sm u u1 → _) := fun u1 A2 V2 R2 K2 v1 hu r u e => si_rout hu r u e
        have IN : Hid (∀ (u1 : World) (A2 : List Nat) (K2 : List (List Int)) (v1 v2 : Value), Row u1 v1 (ol m A2 K2 96) → Row u1 v2 (ol m A2 K2 96) → ∀ u : World, Sm u u1 → _) := fun u1 A2 K2 v1 v2 r1 r2 u e => si_ints (ol_len m A2 K2 96) r1 r2 u e
        have SF : Hid (∀ (u1 : World) (A2 : List Nat) (V2 R2 : List Value) (K2 : List (List Int)), SI w u1 s n m P A2 V2 R2 K2 → ∀ u : World, Sm u u1 → _) := fun u1 A2 V2 R2 K2 hu u e => si_free hu u e
        have RF : Hid (∀ (u1 : World) (A2 : List Nat) (V2 R2 : List Value) (K2 : List (List Int)), SI w u1 s n m P A2 V2 R2 K2 → ∀ u : World, Sm u u1 → _) := fun u1 A2 V2 R2 K2 hu u e => si_rfree hu u e
        have SA : Hid (∀ (u1 : World) (A2 : List Nat) (V2 R2 : List Value) (K2 : List (List Int)), SI w u1 s n m P A2 V2 R2 K2 → ∀ u : World, Sm u u1 → _) := fun u1 A2 V2 R2 K2 hu u e => si_has hu y2 u e
        have RA : Hid (∀ (u1 : World) (A2 : List Nat) (V2 R2 : List Value) (K2 : List (List Int)), SI w u1 s n m P A2 V2 R2 K2 → ∀ u : World, Sm u u1 → _) := fun u1 A2 V2 R2 K2 hu u e => si_rhas hu y2 u e
        have bn : ∀ x : Nat, ((x : Int) != (x : Int)) = false := fun x => by simp
        have bc : ∀ x : Bool, (x != x) = false := fun x => by simp
        clear si hy0 hy1 hy2 HX
        go_wp2_with fail
        go_region_held3 (fun w' => w'.cell? ⟨ab, off + k * 3, none⟩ = some (.int .i64 y0) ∧ w'.cell? ⟨ab, off + k * 3 + 1, none⟩ = some (.int .i64 y1) ∧ w'.cell? ⟨ab, off + k * 3 + 2, none⟩ = some (.int .i64 y2) ∧ w'.cell? ⟨P.rb, 0, none⟩ = some (.pointer (some ⟨P.rp, 0, none⟩))) (go_keep)
          (first | (go_at_call 25; refine (DO.out _ ?_).mono ?_; exact ⟨rfl, rfl, rfl, rfl⟩; rintro e u1 ⟨rfl, A2, V2, R2, K2, i1⟩; obtain ⟨p0, p1, p2, p3, _⟩ := FACT.out u1 A2 V2 R2 K2 i1; have I1 : Hid (SI w u1 s n m P A2 V2 R2 K2) := i1; clear i1) | (go_at_call 27; refine (SO.out u1 A2 V2 R2 K2 I1.out _ ?_).mono ?_; exact ⟨rfl, rfl, rfl, rfl⟩; rintro e u2 ⟨v2, rfl, r2, i2⟩; obtain ⟨q0, q1, q2, q3, _⟩ := FACT.out u2 A2 V2 R2 K2 i2; have I2 : Hid (SI w u2 s n m P A2 V2 R2 K2 ∧ Row u2 v2 (ol m A2 K2 96)) := ⟨i2, r2⟩; clear i2 r2) | (go_at_call 28; refine (RO.out u2 A2 V2 R2 K2 v2 I2.out.1 I2.out.2 _ ?_).mono ?_; exact ⟨rfl, rfl, rfl, rfl⟩; rintro e u3 ⟨v3, rfl, r3, r4, i3⟩; obtain ⟨t0, t1, t2, t3, _⟩ := FACT.out u3 A2 V2 R2 K2 i3; have I3 : Hid (SI w u3 s n m P A2 V2 R2 K2) := i3; have J3 : Hid (Row u3 v2 (ol m A2 K2 96) ∧ Row u3 v3 (ol m A2 K2 96)) := ⟨r4, r3⟩; clear i3 r3 r4) | (go_at_call 26; refine (IN.out u3 A2 K2 v2 v3 J3.out.1 J3.out.2 _ ?_).mono ?_; exact ⟨rfl, rfl, rfl, rfl⟩; rintro e u4 ⟨rfl, d4, rfl⟩) | (go_at_call 29; refine (SF.out u3 A2 V2 R2 K2 I3.out _ ?_).mono ?_; exact ⟨rfl, rfl, rfl, rfl⟩; rintro e u4 ⟨rfl, rfl⟩) | (go_at_call 19; refine (RF.out u3 A2 V2 R2 K2 I3.out _ ?_).mono ?_; exact ⟨rfl, rfl, rfl, rfl⟩; rintro e u4 ⟨rfl, rfl⟩) | (go_at_call 30; refine (SA.out u3 A2 V2 R2 K2 I3.out _ ?_).mono ?_; exact ⟨rfl, rfl, rfl, rfl⟩; rintro e u4 ⟨rfl, d5, rfl⟩) | (go_at_call 31; refine (RA.out u3 A2 V2 R2 K2 I3.out _ ?_).mono ?_; exact ⟨rfl, rfl, rfl, rfl⟩; rintro e u4 ⟨rfl, rfl⟩))
        obtain ⟨g0, g1, g2, g3, g4⟩ := FACT.out u3 A2 V2 R2 K2 I3.out
        have IS : Hid (∀ u : World, Sm u u3 → _) := fun u e => si_is I3.out y1 u e
        clear x0 x1 x2 x3 x4 DO SO RO IN SF RF SA RA p0 p1 p2 p3 q0 q1 q2 q3 t0 t1 t2 t3 HI
        cases i : isc n y1 with
        | true =>
          rw [i] at IS
          have hi := isc_true i
          obtain ⟨c, rfl⟩ := Int.eq_ofNat_of_zero_le hi.1
          have hc : (c : Int) < n := hi.2
          have KP : Hid (∀ u : World, Sm u u3 → _) := fun u e => si_kept I3.out (c : Int) u e
          rw [show kc n K2 (c : Int) = ks K2 c by unfold kc; rw [i]; rfl] at KP
          have K4 : Hid ((ks K2 c).length ≤ 96) := by have := I3.out.kv.kl c; unfold Hid; omega
          have LC : Hid (∀ u : World, SI w u s n m P A2 V2 R2 K2 → u.cell? ⟨P.rl, c, none⟩ = some (R2.getD c nv) ∧ Row u (R2.getD c nv) (ks K2 c)) := fun u hu => si_list hu (by omega)
          have IN : Hid (∀ (u1 : World) (v1 v2 : Value), Row u1 v1 (ks K2 c) → Row u1 v2 (ks K2 c) → ∀ u : World, Sm u u1 → _) := fun u1 v1 v2 r1 r2 u e => si_ints K4.out r1 r2 u e
          have l0 := (LC.out u3 I3.out).1
          generalize R2.getD c nv = rv at *
          clear i hi
          go_wp2_with fail
          go_region_held3 (fun w' => w'.cell? ⟨ab, off + k * 3 + 1, none⟩ = some (.int .i64 (c : Int)) ∧ w'.cell? ⟨P.rb, 1, none⟩ = some (.slice (some ⟨P.rl, 0, none⟩) n n) ∧ w'.cell? ⟨P.rl, c, none⟩ = some rv) (go_keep)
            (first | (go_at_call 32; refine (IS.out _ ?_).mono ?_; exact ⟨rfl, rfl, rfl, rfl⟩; rintro e u5 ⟨rfl, rfl⟩) | (go_at_call 33; refine (KP.out _ ?_).mono ?_; exact ⟨rfl, rfl, rfl, rfl⟩; rintro e u6 ⟨v6, rfl, r6, i6⟩; obtain ⟨h0, h1, h2', h3, h4⟩ := FACT.out u6 A2 V2 R2 K2 i6; obtain ⟨l1, l2⟩ := LC.out u6 i6; have I6 : Hid (SI w u6 s n m P A2 V2 R2 K2) := i6; have J6 : Hid (Row u6 v6 (ks K2 c) ∧ Row u6 rv (ks K2 c)) := ⟨r6, l2⟩; clear i6 r6 l2) | (go_at_call 26; refine (IN.out u6 v6 rv J6.out.1 J6.out.2 _ ?_).mono ?_; exact ⟨rfl, rfl, rfl, rfl⟩; rintro e u7 ⟨rfl, d7, rfl⟩))
          go_wp2
          go_roundw
          case rel => exact ⟨k + 1, A2, V2, R2, K2, by omega, by omega, I6.out.sm ⟨rfl, rfl, rfl, rfl⟩, by go_num⟩
          case measure => simp [intOf]; omega
        | false =>
          rw [i] at IS
          clear i
          go_wp2_with fail
          refine wp_region_held_drew (S := fun w' => w'.cell? ⟨ab, off + k * 3 + 1, none⟩ = some (.int .i64 y1)) (by kernel_rfl) (by go_keep) (fun hHeld => ?_)
          refine wpAnyH_take (i := 0) (oi := { dst := some 90, op := Op.move (Operand.tmp 9), type := 45, pos := "law.go:61", after := #[], guard := none }) (v := ?va0) rfl (by kernel_rfl) (by kernel_rfl) (by kernel_rfl) (fun _ _ _ h => h) (Or.inl ⟨by rfl, ?ha0⟩) (by assumption) ?ra0
          case ha0 => (intro wz hSw; (try dsimp only at hSw); go_simp <;> with_reducible rfl)
          try simp only [Act.put, List.setIfInBounds_toArray, List.set_cons_zero, List.set_cons_succ]
          refine wpAnyH_take (i := 1) (oi := { dst := some 91, op := Op.move (Operand.tmp 2), type := 41, pos := "law.go:61", after := #[], guard := none }) (v := ?va1) rfl (by kernel_rfl) (by kernel_rfl) (by kernel_rfl) (fun _ _ _ h => h) (Or.inl ⟨by rfl, ?ha1⟩) (by assumption) ?ra1
          case ha1 => (intro wz hSw; (try dsimp only at hSw); go_simp <;> with_reducible rfl)
          try simp only [Act.put, List.setIfInBounds_toArray, List.set_cons_zero, List.set_cons_succ]
          refine wpAnyH_take (i := 2) (oi := { dst := some 92, op := Op.move (Operand.tmp 11), type := 3, pos := "law.go:61", after := #[], guard := none }) (v := ?va2) rfl (by kernel_rfl) (by kernel_rfl) (by kernel_rfl) (fun _ _ _ h => h) (Or.inl ⟨by rfl, ?ha2⟩) (by assumption) ?ra2
          case ha2 => (intro wz hSw; (try dsimp only at hSw); go_simp <;> with_reducible rfl)
          try simp only [Act.put, List.setIfInBounds_toArray, List.set_cons_zero, List.set_cons_succ]
          refine wpAnyH_take (i := 3) (oi := { dst := some 93, op := Op.indexAddr 41 (Operand.tmp 91) (Operand.tmp 92), type := 0, pos := "law.go:61", after := #[{ on := 1, ground := Ground.data }, { on := 2, ground := Ground.data }], guard := none }) (v := ?va3) rfl (by kernel_rfl) (by kernel_rfl) (by kernel_rfl) (fun _ _ _ h => h) (Or.inl ⟨by rfl, ?ha3⟩) (by assumption) ?ra3
          case ha3 => (intro wz hSw; (try dsimp only at hSw); go_simp <;> with_reducible rfl)
          try simp only [Act.put, List.setIfInBounds_toArray, List.set_cons_zero, List.set_cons_succ]
          refine wpAnyH_take (i := 4) (oi := { dst := some 94, op := Op.fieldAddr 50 (Operand.tmp 93) 1, type := 0, pos := "law.go:61", after := #[{ on := 3, ground := Ground.data }], guard := none }) (v := ?va4) rfl (by kernel_rfl) (by kernel_rfl) (by kernel_rfl) (fun _ _ _ h => h) (Or.inl ⟨by rfl, ?ha4⟩) (by assumption) ?ra4
          case ha4 => (intro wz hSw; (try dsimp only at hSw); go_simp <;> with_reducible rfl)
          try simp only [Act.put, List.setIfInBounds_toArray, List.set_cons_zero, List.set_cons_succ]
          refine wpAnyH_take (i := 5) (oi := { dst := some 95, op := Op.load 3 (Operand.tmp 94), type := 3, pos := "law.go:61", after := #[{ on := 4, ground := Ground.data }], guard := none }) (v := ?va5) rfl (by kernel_rfl) (by kernel_rfl) (by kernel_rfl) (fun _ _ _ h => h) (Or.inl ⟨by rfl, ?ha5⟩) (by assumption) ?ra5
          case ha5 => (intro wz hSw; (try dsimp only at hSw); go_simp <;> with_reducible rfl)
          try simp only [Act.put, List.setIfInBounds_toArray, List.set_cons_zero, List.set_cons_succ]
          refine wpAnyH_ready (rs := [6]) (by kernel_rfl) (by simp) ?_
          refine AllReadyH.cons (o := { dst := some 96, op := Op.call { callee := Callee.value (Operand.func 32), args := #[Operand.tmp 90, Operand.tmp 95], argTypes := #[45, 3] }, type := 4, pos := "law.go:61", after := #[{ on := 0, ground := Ground.data }, { on := 5, ground := Ground.data }], guard := none }) rfl (fun K hK => ?_) AllReadyH.nil
          go_simp
          refine (IS.out _ ?_).mono ?_
          · exact ⟨rfl, rfl, rfl, rfl⟩
          rintro e u5 ⟨rfl, rfl⟩
          (try go_wp2_with fail)
          refine hK.out _ _ ?sa6 (fun hHeld => ?ta6)
          case sa6 => go_keep
          clear hK K
          try simp only [Act.put, List.setIfInBounds_toArray, List.set_cons_zero, List.set_cons_succ]
          refine wpAnyH_take (i := 7) (oi := { dst := some 97, op := Op.move (Operand.tmp 96), type := 4, pos := "law.go:61", after := #[{ on := 6, ground := Ground.data }, { on := 6, ground := Ground.chain }], guard := none }) (v := ?va7) rfl (by kernel_rfl) (by kernel_rfl) (by kernel_rfl) (fun _ _ _ h => h) (Or.inl ⟨by rfl, ?ha7⟩) (by assumption) ?ra7
          case ha7 => (intro wz hSw; (try dsimp only at hSw); go_simp <;> with_reducible rfl)
          try simp only [Act.put, List.setIfInBounds_toArray, List.set_cons_zero, List.set_cons_succ]
          refine wpAnyH_take (i := 8) (oi := { dst := some 98, op := Op.move (Operand.tmp 7), type := 42, pos := "law.go:61", after := #[{ on := 7, ground := Ground.guard }], guard := some (7, true) }) (v := undef) rfl (by kernel_rfl) (by kernel_rfl) (by kernel_rfl) (fun _ _ _ h => h) (Or.inr ⟨by rfl, rfl⟩) (by assumption) ?_
          try simp only [Act.put, List.setIfInBounds_toArray, List.set_cons_zero, List.set_cons_succ]
          refine wpAnyH_take (i := 9) (oi := { dst := some 99, op := Op.move (Operand.tmp 2), type := 41, pos := "law.go:61", after := #[{ on := 7, ground := Ground.guard }], guard := some (7, true) }) (v := undef) rfl (by kernel_rfl) (by kernel_rfl) (by kernel_rfl) (fun _ _ _ h => h) (Or.inr ⟨by rfl, rfl⟩) (by assumption) ?_
          try simp only [Act.put, List.setIfInBounds_toArray, List.set_cons_zero, List.set_cons_succ]
          refine wpAnyH_take (i := 10) (oi := { dst := some 100, op := Op.move (Operand.tmp 11), type := 3, pos := "law.go:61", after := #[{ on := 7, ground := Ground.guard }], guard := some (7, true) }) (v := undef) rfl (by kernel_rfl) (by kernel_rfl) (by kernel_rfl) (fun _ _ _ h => h) (Or.inr ⟨by rfl, rfl⟩) (by assumption) ?_
          try simp only [Act.put, List.setIfInBounds_toArray, List.set_cons_zero, List.set_cons_succ]
          refine wpAnyH_take (i := 11) (oi := { dst := some 101, op := Op.indexAddr 41 (Operand.tmp 99) (Operand.tmp 100), type := 0, pos := "law.go:61", after := #[{ on := 9, ground := Ground.data }, { on := 10, ground := Ground.data }, { on := 7, ground := Ground.guard }], guard := some (7, true) }) (v := undef) rfl (by kernel_rfl) (by kernel_rfl) (by kernel_rfl) (fun _ _ _ h => h) (Or.inr ⟨by rfl, rfl⟩) (by assumption) ?_
          try simp only [Act.put, List.setIfInBounds_toArray, List.set_cons_zero, List.set_cons_succ]
          refine wpAnyH_take (i := 12) (oi := { dst := some 102, op := Op.fieldAddr 50 (Operand.tmp 101) 1, type := 0, pos := "law.go:61", after := #[{ on := 11, ground := Ground.data }, { on := 7, ground := Ground.guard }], guard := some (7, true) }) (v := undef) rfl (by kernel_rfl) (by kernel_rfl) (by kernel_rfl) (fun _ _ _ h => h) (Or.inr ⟨by rfl, rfl⟩) (by assumption) ?_
          try simp only [Act.put, List.setIfInBounds_toArray, List.set_cons_zero, List.set_cons_succ]
          refine wpAnyH_take (i := 13) (oi := { dst := some 103, op := Op.load 3 (Operand.tmp 102), type := 3, pos := "law.go:61", after := #[{ on := 12, ground := Ground.data }, { on := 7, ground := Ground.guard }], guard := some (7, true) }) (v := undef) rfl (by kernel_rfl) (by kernel_rfl) (by kernel_rfl) (fun _ _ _ h => h) (Or.inr ⟨by rfl, rfl⟩) (by assumption) ?_
          try simp only [Act.put, List.setIfInBounds_toArray, List.set_cons_zero, List.set_cons_succ]
          refine wpAnyH_take (i := 14) (oi := { dst := some 104, op := Op.call { callee := Callee.value (Operand.func 33), args := #[Operand.tmp 98, Operand.tmp 103], argTypes := #[42, 3] }, type := 22, pos := "law.go:61", after := #[{ on := 8, ground := Ground.data }, { on := 13, ground := Ground.data }, { on := 7, ground := Ground.chain }, { on := 7, ground := Ground.guard }], guard := some (7, true) }) (v := undef) rfl (by kernel_rfl) (by kernel_rfl) (by kernel_rfl) (fun _ _ _ h => h) (Or.inr ⟨by rfl, rfl⟩) (by assumption) ?_
          try simp only [Act.put, List.setIfInBounds_toArray, List.set_cons_zero, List.set_cons_succ]
          refine wpAnyH_take (i := 15) (oi := { dst := some 105, op := Op.move (Operand.tmp 9), type := 45, pos := "law.go:61", after := #[{ on := 7, ground := Ground.guard }], guard := some (7, true) }) (v := undef) rfl (by kernel_rfl) (by kernel_rfl) (by kernel_rfl) (fun _ _ _ h => h) (Or.inr ⟨by rfl, rfl⟩) (by assumption) ?_
          try simp only [Act.put, List.setIfInBounds_toArray, List.set_cons_zero, List.set_cons_succ]
          refine wpAnyH_take (i := 16) (oi := { dst := some 106, op := Op.nilCheck (Operand.tmp 105), type := 0, pos := "law.go:61", after := #[{ on := 15, ground := Ground.data }, { on := 7, ground := Ground.guard }], guard := some (7, true) }) (v := undef) rfl (by kernel_rfl) (by kernel_rfl) (by kernel_rfl) (fun _ _ _ h => h) (Or.inr ⟨by rfl, rfl⟩) (by assumption) ?_
          try simp only [Act.put, List.setIfInBounds_toArray, List.set_cons_zero, List.set_cons_succ]
          refine wpAnyH_take (i := 17) (oi := { dst := some 107, op := Op.fieldAddr 55 (Operand.tmp 106) 1, type := 0, pos := "law.go:61", after := #[{ on := 16, ground := Ground.data }, { on := 7, ground := Ground.guard }], guard := some (7, true) }) (v := undef) rfl (by kernel_rfl) (by kernel_rfl) (by kernel_rfl) (fun _ _ _ h => h) (Or.inr ⟨by rfl, rfl⟩) (by assumption) ?_
          try simp only [Act.put, List.setIfInBounds_toArray, List.set_cons_zero, List.set_cons_succ]
          refine wpAnyH_take (i := 18) (oi := { dst := some 108, op := Op.load 53 (Operand.tmp 107), type := 53, pos := "law.go:61", after := #[{ on := 17, ground := Ground.data }, { on := 7, ground := Ground.guard }], guard := some (7, true) }) (v := undef) rfl (by kernel_rfl) (by kernel_rfl) (by kernel_rfl) (fun _ _ _ h => h) (Or.inr ⟨by rfl, rfl⟩) (by assumption) ?_
          try simp only [Act.put, List.setIfInBounds_toArray, List.set_cons_zero, List.set_cons_succ]
          refine wpAnyH_take (i := 19) (oi := { dst := some 109, op := Op.move (Operand.tmp 2), type := 41, pos := "law.go:61", after := #[{ on := 7, ground := Ground.guard }], guard := some (7, true) }) (v := undef) rfl (by kernel_rfl) (by kernel_rfl) (by kernel_rfl) (fun _ _ _ h => h) (Or.inr ⟨by rfl, rfl⟩) (by assumption) ?_
          try simp only [Act.put, List.setIfInBounds_toArray, List.set_cons_zero, List.set_cons_succ]
          refine wpAnyH_take (i := 20) (oi := { dst := some 110, op := Op.move (Operand.tmp 11), type := 3, pos := "law.go:61", after := #[{ on := 7, ground := Ground.guard }], guard := some (7, true) }) (v := undef) rfl (by kernel_rfl) (by kernel_rfl) (by kernel_rfl) (fun _ _ _ h => h) (Or.inr ⟨by rfl, rfl⟩) (by assumption) ?_
          try simp only [Act.put, List.setIfInBounds_toArray, List.set_cons_zero, List.set_cons_succ]
          refine wpAnyH_take (i := 21) (oi := { dst := some 111, op := Op.indexAddr 41 (Operand.tmp 109) (Operand.tmp 110), type := 0, pos := "law.go:61", after := #[{ on := 19, ground := Ground.data }, { on := 20, ground := Ground.data }, { on := 7, ground := Ground.guard }], guard := some (7, true) }) (v := undef) rfl (by kernel_rfl) (by kernel_rfl) (by kernel_rfl) (fun _ _ _ h => h) (Or.inr ⟨by rfl, rfl⟩) (by assumption) ?_
          try simp only [Act.put, List.setIfInBounds_toArray, List.set_cons_zero, List.set_cons_succ]
          refine wpAnyH_take (i := 22) (oi := { dst := some 112, op := Op.fieldAddr 50 (Operand.tmp 111) 1, type := 0, pos := "law.go:61", after := #[{ on := 21, ground := Ground.data }, { on := 7, ground := Ground.guard }], guard := some (7, true) }) (v := undef) rfl (by kernel_rfl) (by kernel_rfl) (by kernel_rfl) (fun _ _ _ h => h) (Or.inr ⟨by rfl, rfl⟩) (by assumption) ?_
          try simp only [Act.put, List.setIfInBounds_toArray, List.set_cons_zero, List.set_cons_succ]
          refine wpAnyH_take (i := 23) (oi := { dst := some 113, op := Op.load 3 (Operand.tmp 112), type := 3, pos := "law.go:61", after := #[{ on := 22, ground := Ground.data }, { on := 7, ground := Ground.guard }], guard := some (7, true) }) (v := undef) rfl (by kernel_rfl) (by kernel_rfl) (by kernel_rfl) (fun _ _ _ h => h) (Or.inr ⟨by rfl, rfl⟩) (by assumption) ?_
          try simp only [Act.put, List.setIfInBounds_toArray, List.set_cons_zero, List.set_cons_succ]
          refine wpAnyH_take (i := 24) (oi := { dst := some 114, op := Op.indexAddr 53 (Operand.tmp 108) (Operand.tmp 113), type := 0, pos := "law.go:61", after := #[{ on := 18, ground := Ground.data }, { on := 23, ground := Ground.data }, { on := 7, ground := Ground.guard }], guard := some (7, true) }) (v := undef) rfl (by kernel_rfl) (by kernel_rfl) (by kernel_rfl) (fun _ _ _ h => h) (Or.inr ⟨by rfl, rfl⟩) (by assumption) ?_
          try simp only [Act.put, List.setIfInBounds_toArray, List.set_cons_zero, List.set_cons_succ]
          refine wpAnyH_take (i := 25) (oi := { dst := some 115, op := Op.load 22 (Operand.tmp 114), type := 22, pos := "law.go:61", after := #[{ on := 24, ground := Ground.data }, { on := 7, ground := Ground.guard }], guard := some (7, true) }) (v := undef) rfl (by kernel_rfl) (by kernel_rfl) (by kernel_rfl) (fun _ _ _ h => h) (Or.inr ⟨by rfl, rfl⟩) (by assumption) ?_
          try simp only [Act.put, List.setIfInBounds_toArray, List.set_cons_zero, List.set_cons_succ]
          refine wpAnyH_take (i := 26) (oi := { dst := some 116, op := Op.call { callee := Callee.value (Operand.func 26), args := #[Operand.tmp 104, Operand.tmp 115], argTypes := #[22, 22] }, type := 4, pos := "law.go:61", after := #[{ on := 14, ground := Ground.data }, { on := 25, ground := Ground.data }, { on := 14, ground := Ground.chain }, { on := 7, ground := Ground.guard }], guard := some (7, true) }) (v := undef) rfl (by kernel_rfl) (by kernel_rfl) (by kernel_rfl) (fun _ _ _ h => h) (Or.inr ⟨by rfl, rfl⟩) (by assumption) ?_
          try simp only [Act.put, List.setIfInBounds_toArray, List.set_cons_zero, List.set_cons_succ]
          refine wpAnyH_take (i := 27) (oi := { dst := some 117, op := Op.unOp UnOp.not 4 (Operand.tmp 116), type := 4, pos := "law.go:61", after := #[{ on := 26, ground := Ground.data }, { on := 7, ground := Ground.guard }], guard := some (7, true) }) (v := undef) rfl (by kernel_rfl) (by kernel_rfl) (by kernel_rfl) (fun _ _ _ h => h) (Or.inr ⟨by rfl, rfl⟩) (by assumption) ?_
          try simp only [Act.put, List.setIfInBounds_toArray, List.set_cons_zero, List.set_cons_succ]
          refine wpAnyH_take (i := 28) (oi := { dst := some 118, op := Op.pick (Operand.tmp 97) (Operand.tmp 117) (Operand.const (Value.bool false)), type := 4, pos := "law.go:61", after := #[{ on := 7, ground := Ground.data }, { on := 27, ground := Ground.data }], guard := none }) (v := ?va28) rfl (by kernel_rfl) (by kernel_rfl) (by kernel_rfl) (fun _ _ _ h => h) (Or.inl ⟨by rfl, ?ha28⟩) (by assumption) ?ra28
          case ha28 => (intro wz hSw; (try dsimp only at hSw); go_simp <;> with_reducible rfl)
          try simp only [Act.put, List.setIfInBounds_toArray, List.set_cons_zero, List.set_cons_succ]
          refine wpAnyH_done (by kernel_rfl) ?_ _
          go_wp2
          go_roundw
          case rel => exact ⟨k + 1, A2, V2, R2, K2, by omega, by omega, I3.out.sm ⟨rfl, rfl, rfl, rfl⟩, by go_num⟩
          case measure => simp [intOf]; omega

set_option maxRecDepth 100000 in
theorem lifted (os : Os) (started : os.Started) (H : Type) (enc : TypeId × Value → H) :
    ReturnsInHanded {} Try.checked os 6 .any (Rows.stashPlaysSpec.pre6 enc Try.prog Try.f6 Rows.stashPlaysRow.domain false) (Rows.stashPlaysSpec.post enc Try.prog Try.f6 false true false false) := by
  refine returnsInHanded_of_change (C := Try.checked) own started (by kernel_rfl) Try.func6
    (ChangeSpec.witness6 (enc := enc) (C := Try.checked) false ⟨#[], #[.int .i64 0, .int .i64 0, .slice none 0 0], []⟩ 8 (by kernel_rfl) (by kernel_rfl) (by kernel_rfl) (by kernel_rfl)) ?_
  intro W base args ds gs before hval0 hW hcnd _
  have hval : ∀ (j : Nat) t v, Try.f6.params[j]? = some t → args[j]? = some v → Value.okWide Try.prog W .any base t v := hval0
  have hW' := hW
  obtain ⟨p, q, hA0, hV, rfl, hfz, hnd⟩ := hW
  have hA : DataW.TrodAll enc Try.prog W 0 (fun _ => true) true Try.f6.params.toList args.toList ds p := hA0
  rw [Try.params6] at hA hval
  obtain ⟨v0, vs0, d0, ds0, p0, q0, hargs, rfl, rfl, h0, r0⟩ := trodAll_cons hA
  obtain ⟨v1, vs1, d1, ds1, p1, q1, rfl, rfl, rfl, h1, r1⟩ := trodAll_cons r0
  obtain ⟨v2, vs2, d2, ds2, p2, q2, rfl, rfl, rfl, h2, r2⟩ := trodAll_cons r1
  obtain ⟨rfl, rfl, rfl⟩ := trodAll_nil r2
  obtain rfl : args = #[v0, v1, v2] := by cases args; simp_all
  obtain ⟨rfl, rfl⟩ := trodVars_none hV
  obtain ⟨a0, rfl, rfl, rfl, w0⟩ := open_int Try.underlying3 (hval 0 3 v0 rfl rfl) h0
  obtain ⟨a1, rfl, rfl, rfl, w1⟩ := open_int Try.underlying3 (hval 1 3 v1 rfl rfl) h1
  obtain ⟨a2, len2, cap2, rfl⟩ := okWide_slice Try.underlying41 (hval 2 41 v2 rfl rfl)
  have k2 := h2
  have lt2 : ∀ x ∈ p2, x.block < W.heap.size := by obtain ⟨m, hm⟩ := k2; exact DataW.trod_lt m _ _ _ hm
  obtain ⟨X2, w2, z2⟩ : ∃ X : Nat → Nat → Int, SRow W (.slice a2 len2 cap2) len2 [true, true, true] X ∧ ∀ i, i < len2 → ∀ j, j < [true, true, true].length → [true, true, true].getD j true = true → (Lit.int .i64 (X i j)).wf = true := by
    obtain ⟨fuel, hf⟩ := h2
    exact open_recs [true, true, true] Try.underlying41 Try.underlying50 (by kernel_rfl) rfl (by decide) (fun | 0, _ => ⟨_, rfl, rfl, by kernel_rfl, Try.underlying3⟩ | 1, _ => ⟨_, rfl, rfl, by kernel_rfl, Try.underlying3⟩ | 2, _ => ⟨_, rfl, rfl, by kernel_rfl, Try.underlying3⟩ | n + 3, h => absurd h (by simp only [List.length]; omega)) hf
  clear hA0 hval0
  refine (walk a0 a1 a2 len2 cap2 X2 W w0 w1 w2 z2).mono fun e W' ⟨he, bel⟩ => ?_
  subst he
  exact ⟨_, rfl, _, _, _, [], _, [], hW', trodAll_mk1 (shut_bool Try.underlying4 _), (trodAll_cons_mk (shut_int Try.underlying3 w0) (trodAll_cons_mk (shut_int Try.underlying3 w1) (trodAll_cons_mk (Below.trod laidOut (by kernel_rfl) (of_decide_eq_true (by kernel_rfl)) k2 bel lt2) trodAll_mk0))), rfl, bel.frame _, fun h => by cases h⟩

theorem over : Rows.StashPlaysSaid :=
  OpenClaim.holds_of_wide 6 Try.f6 rfl rfl rfl rfl rfl rfl rfl ⟨rfl, rfl, rfl, rfl, rfl⟩ rfl rfl rfl rfl rfl (by kernel_rfl) Try.func6 (by kernel_rfl)
    (of_decide_eq_true (by kernel_rfl)) (by unfold Func.isWrapper; first | (rw [if_pos (by decide +kernel)]; kernel_rfl) | (rw [if_neg (by decide +kernel)]; exact ⟨rfl, rfl⟩))
    (fun os started H enc _ => lifted os started H enc)
end Go.Proofs.Ytibajjidigmkhaa.stashPlays

namespace Go.Proofs.Ytibajjidigmkhaa
open Go
theorem stashPlays_holds : Rows.StashPlaysSaid := stashPlays.over
#print axioms stashPlays_holds
end Go.Proofs.Ytibajjidigmkhaa
