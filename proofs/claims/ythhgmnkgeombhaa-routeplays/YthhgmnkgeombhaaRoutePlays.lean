/- Proved: for every number cpus and every list acts, davitlaw16.RoutePlays(cpus, acts) returns true: a route of any number of cores that is played with answers what the document says: each answer, the core of an interrupt, those of a core, and the cores that any go to (150 acts at most, as the law itself says), and acts is left alone; no condition. -/
import Derived.Test.YthhgmnkgeombhaaRows
import Derived.Test.YthhgmnkgeombhaaFo
import Derived.Test.YthhgmnkgeombhaaNc
import Derived.Test.YthhgmnkgeombhaaNf
import Derived.WalkKit
import Derived.ProofKit
import Derived.OpenShut
import Derived.Stop.Joined
import Derived.ShutString
import Derived.ChangeOld
import Derived.Below
import Derived.Carry
import Derived.Test.YthhgmnkgeombhaaFs
import Derived.Deep.RegionHeld3
namespace Go.Proofs.Ythhgmnkgeombhaa.routePlays
open Go.ChangeShapes Go.WideShapes Go.ChangeAt Go.RowKit
open Mm Nm
set_option linter.unusedVariables false
set_option linter.unusedSimpArgs false

theorem own : ownKnob Try.prog.godebug = none := by kernel_rfl
theorem laidOut : laidOutB Try.prog = true := by kernel_rfl

set_option maxRecDepth 100000 in
set_option maxHeartbeats 4000000 in
theorem walk (a0 : Int) (a1 : Option Addr) (len1 cap1 : Nat) (X1 : Nat → Nat → Int) (w : World) (w0 : (Lit.int .i64 a0).wf = true) (w1 : SRow w (.slice a1 len1 cap1) len1 [true, true, false] X1) (z1 : ∀ i, i < len1 → ∀ j, j < [true, true, false].length → [true, true, false].getD j true = true → (Lit.int .i64 (X1 i j)).wf = true) :
    Calls Try.prog 6 #[.int .i64 a0, .slice a1 len1 cap1] w fun e w' => e = .returned (.bool true) ∧ Below w.heap.size w w' := by
  have KN : Hid (∀ w1, _) := fun w1 => rtknown_yes w1
  by_cases wrong : a0 < 1 ∨ 64 < a0
  · have C : Hid (∀ w, _) := fun w => rtnew_bad a0 w wrong
    have D : Hid (∀ w, _) := fun w => rnnew_bad a0 w wrong
    clear wrong w0 w1 z1
    go_enter Try.func6, Try.ntmps6
    go_wp2_with fail
    refine (C.out _).mono ?_
    rintro e u1 ⟨rfl, rfl⟩
    go_wp2_with fail
    refine (D.out _).mono ?_
    rintro e u2 ⟨rfl, rfl⟩
    go_wp2_with fail
    refine (KN.out _).mono ?_
    rintro e u3 ⟨rfl, hb⟩
    go_wp2
    go_ret
    exact ⟨rfl, hb⟩
  · obtain ⟨c, rfl⟩ := Int.eq_ofNat_of_zero_le (show 0 ≤ a0 by omega)
    have m1 : (1 : Int) ≤ c := by omega
    have m2 : (c : Int) ≤ 64 := by omega
    have C : Hid (∀ _ : Unit, _) := fun _ => rtnew_any c w m1 m2
    have D : Hid (∀ w1, _) := fun w1 => rnnew_any c w1 m1 m2
    have HR : Hid (SRow w (.slice a1 len1 cap1) len1 [true, true, false] X1) := w1
    obtain ⟨s, hsz⟩ : ∃ s, w.heap.size = s := ⟨_, rfl⟩
    have HS : Hid (w.heap.size = s) := hsz
    rw [hsz] at C ⊢
    clear wrong w0 w1 z1 hsz
    go_enter Try.func6, Try.ntmps6
    go_wp2_with fail
    refine (C.out ()).mono ?_
    rintro e u1 ⟨rfl, q1, f1, z1⟩
    have Q1 : Hid (RT u1 s c (fun _ => -1)) := q1
    have B1 : Hid (Below s w u1) := f1
    have D1 : Hid (∀ _ : Unit, _) := fun _ => D.out u1
    have hi1 : Hid (s < u1.heap.size) := q1.lt
    clear q1 f1 z1
    go_wp2_with fail
    refine (D1.out ()).mono ?_
    rintro e u2 ⟨rfl, ⟨g, cap, r2⟩, f2⟩
    have PP0 : Hid (NP w u2 s u1.heap.size g cap c (fun _ => -1)) := ⟨Q1.out.below f2, r2, B1.out.trans (f2.mono (by have := hi1.out; omega)), hi1.out⟩
    clear r2 f2
    generalize u1.heap.size = b at *
    clear Q1 B1 D1 hi1
    go_wp2
    go_loopw [9] (fun i wr => ∃ (k : Nat) (P : Nat → Int), (k : Int) ≤ 150 ∧ (k : Int) ≤ len1 ∧ NP w wr s b g cap c P ∧ i = .int .i64 k) (fun i _ => 150 - (intOf i).toNat)
    case atStart => exact ⟨0, _, by omega, by omega, PP0.out, rfl⟩
    case round =>
      obtain ⟨k, P, hk, hk2, p, rfl⟩ := hrel
      clear PP0
      have HB : Hid (Below s w wr) := p.bel
      have hz : s ≤ wr.heap.size := by have := p.hi; have := p.lt; omega
      have tail : (¬ (k : Int) < len1 ∧ decide ((k : Int) < len1) = false) ∨ ((k : Int) < len1 ∧ ¬ (k : Int) < 150) ∨ ((k : Int) < len1 ∧ (k : Int) < 150) := by
        by_cases h : (k : Int) < len1
        · by_cases h2 : (k : Int) < 150
          · exact Or.inr (Or.inr ⟨h, h2⟩)
          · exact Or.inr (Or.inl ⟨h, h2⟩)
        · exact Or.inl ⟨h, decide_eq_false h⟩
      rw [← or_assoc] at tail
      rcases tail with tail | ⟨h, h2⟩
      · clear p
        rcases tail with ⟨h, hd⟩ | ⟨h, h2⟩
        all_goals (
          go_wp2_with fail
          refine (KN.out _).mono ?_
          rintro e w4 ⟨rfl, f4⟩
          go_wp2
          go_ret
          exact ⟨rfl, HB.out.trans (f4.mono hz)⟩)
      · obtain ⟨b0, off, rfl, hA⟩ := srow_cell (wr := wr) HR.out (by rw [HS.out]; exact p.bel) h
        have x0 : wr.cell? ⟨b0, off + k * 3, none⟩ = some (.int .i64 (X1 k 0)) := hA 0 (by simp)
        have x1 : wr.cell? ⟨b0, off + k * 3 + 1, none⟩ = some (.int .i64 (X1 k 1)) := hA 1 (by simp)
        have x2 : wr.cell? ⟨b0, off + k * 3 + 2, none⟩ = some (.bool (X1 k 2 != 0)) := hA 2 (by simp)
        clear hA
        generalize X1 k 0 = y0 at *
        generalize X1 k 1 = y1 at *
        generalize (X1 k 2 != 0) = y2 at *
        have p0 := NZ.new p y0 y1 y2
        obtain ⟨z, hzz⟩ : ∃ z, wr.heap.size = z := ⟨_, rfl⟩
        have HZZ : Hid (wr.heap.size = z) := hzz
        obtain ⟨u0, hu0⟩ : ∃ u0, wr.alloc (.cells #[.int .i64 y0, .int .i64 y1, .bool y2] 63) = u0 := ⟨_, rfl⟩
        have HU0 : Hid (wr.alloc (.cells #[.int .i64 y0, .int .i64 y1, .bool y2] 63) = u0) := hu0
        rw [hu0, hzz] at p0
        have P0 : Hid (NZ w u0 s b g cap c P z y0 y1 y2) := p0
        obtain ⟨i0, i1, i2⟩ := p0.cells
        have j2 : (wr.alloc (.cells #[.int .i64 y0, .int .i64 y1, .bool y2] 63)).cell? ⟨wr.heap.size, 2, none⟩ = some (.bool y2) := by rw [HU0.out, HZZ.out]; exact i2
        clear p p0 hu0 hzz
        cases y2 with
        | true =>
          go_wp2_with fail
          rw [HU0.out, HZZ.out]
          go_region_held3 (fun w' => w'.cell? ⟨z, 0, none⟩ = some (.int .i64 y0)) (go_keep)
            (first | (go_at_call 31; refine (nz_off P0.out ?_).mono ?_; exact ⟨rfl, rfl, rfl, rfl⟩; rintro e v1 ⟨rfl, p1⟩; obtain ⟨k0, k1, k2⟩ := p1.cells; have P1 : Hid (NH w v1 s b g cap c P (stp (ofE P y0) P y0 (-1)) z y0 y1 true) := p1; clear p1; obtain ⟨E, hE⟩ : ∃ E, ofE P y0 = E := ⟨_, rfl⟩; have HE : Hid (ofE P y0 = E) := hE; have E1 : (E != E) = false := (by simp); have E2 : (E == E) = true := (by simp); rw [hE]; clear hE) | (go_at_call 32; refine (nz_roff P1.out ?_).mono ?_; exact ⟨rfl, rfl, rfl, rfl⟩; rintro e v2 ⟨rfl, p2⟩; rw [HE.out]; obtain ⟨l0, l1, l2⟩ := p2.cells; have P2 : Hid (NZ w v2 s b g cap c (stp (ofE P y0) P y0 (-1)) z y0 y1 true) := p2; clear p2))
          generalize stp (ofE P y0) P y0 (-1) = P2' at *
          clear P0 P1 HE E1 E2 x0 x1 x2 i0 i1 i2 j2 k0 k1 k2 HU0 HZZ
          obtain ⟨oN, hoN⟩ : ∃ oN, ofN P2' y0 = oN := ⟨_, rfl⟩
          obtain ⟨oB, hoB⟩ : ∃ oB, ofB P2' y0 = oB := ⟨_, rfl⟩
          obtain ⟨oC, hoC⟩ : ∃ oC, cl P2' 16 = oC := ⟨_, rfl⟩
          have HN : Hid (ofN P2' y0 = oN) := hoN
          have HO : Hid (ofB P2' y0 = oB) := hoB
          have HC : Hid (cl P2' 16 = oC) := hoC
          have n1 : (oN != oN) = false := by simp
          have n2 : (oB != oB) = false := by simp
          have n3 : ((oC : Int) != (oC : Int)) = false := by simp
          clear hoN hoB hoC
          go_wp2_with fail
          refine (nz_of P2.out ⟨rfl, rfl, rfl, rfl⟩).mono ?_
          rintro e v3 ⟨rfl, p3⟩
          rw [HN.out, HO.out]
          obtain ⟨m0, -, -⟩ := p3.cells
          have P3 : Hid (NZ w v3 s b g cap c P2' z y0 y1 true) := p3
          clear p3 P2 l0 l1 l2
          go_wp2_with fail
          refine (nz_rof P3.out ⟨rfl, rfl, rfl, rfl⟩).mono ?_
          rintro e v4 ⟨rfl, p4⟩
          rw [HN.out, HO.out]
          obtain ⟨-, m1', -⟩ := p4.cells
          have P4 : Hid (NZ w v4 s b g cap c P2' z y0 y1 true) := p4
          clear p4 P3 m0
          go_wp2_with fail
          go_region_held3 (fun w' => w'.cell? ⟨z, 1, none⟩ = some (.int .i64 y1)) (go_keep)
            (first | (go_at_call 37; refine (nz_on P4.out ?_).mono ?_; exact ⟨rfl, rfl, rfl, rfl⟩; rintro e v5 ⟨a5, n5, c5, rfl, p5, r5⟩; obtain ⟨-, s5, -⟩ := p5.cells; have P5 : Hid (NZ w v5 s b g cap c P2' z y0 y1 true) := p5; have R5 : Hid (Row v5 (.slice a5 n5 c5) (KK (on P2' y1) 16)) := r5; clear p5 r5) | (go_at_call 38; refine (nz_ron P5.out R5.out ?_).mono ?_; exact ⟨rfl, rfl, rfl, rfl⟩; rintro e v6 ⟨a6, n6, c6, rfl, p6, r6, t6⟩; obtain ⟨-, s6, -⟩ := p6.cells; have P6 : Hid (NZ w v6 s b g cap c P2' z y0 y1 true) := p6; have R6 : Hid (Row v6 (.slice a5 n5 c5) (KK (on P2' y1) 16)) := r6; have T6 : Hid (Row v6 (.slice a6 n6 c6) (KK (on P2' y1) 16)) := t6; clear p6 r6 t6) | (go_at_call 15; refine (nz_ints P6.out R6.out T6.out ?_).mono ?_; exact ⟨rfl, rfl, rfl, rfl⟩; rintro e v7 ⟨rfl, p7⟩; obtain ⟨-, s7, -⟩ := p7.cells; have P7 : Hid (NZ w v7 s b g cap c P2' z y0 y1 true) := p7; clear p7) | (go_at_call 39; refine (nz_cores P7.out ?_).mono ?_; exact ⟨rfl, rfl, rfl, rfl⟩; rintro e v8 ⟨rfl, p8⟩; rw [HC.out]; obtain ⟨-, s8, -⟩ := p8.cells; have P8 : Hid (NZ w v8 s b g cap c P2' z y0 y1 true) := p8; clear p8) | (go_at_call 40; refine (nz_rcores P8.out ?_).mono ?_; exact ⟨rfl, rfl, rfl, rfl⟩; rintro e v9 ⟨rfl, p9⟩; rw [HC.out]; obtain ⟨-, s9, -⟩ := p9.cells; have P9 : Hid (NZ w v9 s b g cap c P2' z y0 y1 true) := p9; clear p9))
          go_wp2
          go_roundw
          case rel => exact ⟨k + 1, P2', by omega, by omega, P9.out.np.sm ⟨rfl, rfl, rfl, rfl⟩, by go_num⟩
          case measure => simp [intOf]; omega
        | false =>
          go_wp2_with fail
          rw [HU0.out, HZZ.out]
          go_region_held3 (fun w' => w'.cell? ⟨z, 0, none⟩ = some (.int .i64 y0) ∧ w'.cell? ⟨z, 1, none⟩ = some (.int .i64 y1)) (go_keep)
            (first | (go_at_call 33; refine (nz_set P0.out ?_).mono ?_; exact ⟨rfl, rfl, rfl, rfl⟩; rintro e v1 ⟨rfl, p1⟩; obtain ⟨k0, k1, k2⟩ := p1.cells; have P1 : Hid (NH w v1 s b g cap c P (stp (stE c y0 y1) P y0 y1) z y0 y1 false) := p1; clear p1; obtain ⟨E, hE⟩ : ∃ E, stE c y0 y1 = E := ⟨_, rfl⟩; have HE : Hid (stE c y0 y1 = E) := hE; have E1 : (E != E) = false := (by simp); have E2 : (E == E) = true := (by simp); rw [hE]; clear hE) | (go_at_call 34; refine (nz_rset P1.out ?_).mono ?_; exact ⟨rfl, rfl, rfl, rfl⟩; rintro e v2 ⟨rfl, p2⟩; rw [HE.out]; obtain ⟨l0, l1, l2⟩ := p2.cells; have P2 : Hid (NZ w v2 s b g cap c (stp (stE c y0 y1) P y0 y1) z y0 y1 false) := p2; clear p2))
          generalize stp (stE c y0 y1) P y0 y1 = P2' at *
          clear P0 P1 HE E1 E2 x0 x1 x2 i0 i1 i2 j2 k0 k1 k2 HU0 HZZ
          obtain ⟨oN, hoN⟩ : ∃ oN, ofN P2' y0 = oN := ⟨_, rfl⟩
          obtain ⟨oB, hoB⟩ : ∃ oB, ofB P2' y0 = oB := ⟨_, rfl⟩
          obtain ⟨oC, hoC⟩ : ∃ oC, cl P2' 16 = oC := ⟨_, rfl⟩
          have HN : Hid (ofN P2' y0 = oN) := hoN
          have HO : Hid (ofB P2' y0 = oB) := hoB
          have HC : Hid (cl P2' 16 = oC) := hoC
          have n1 : (oN != oN) = false := by simp
          have n2 : (oB != oB) = false := by simp
          have n3 : ((oC : Int) != (oC : Int)) = false := by simp
          clear hoN hoB hoC
          go_wp2_with fail
          refine (nz_of P2.out ⟨rfl, rfl, rfl, rfl⟩).mono ?_
          rintro e v3 ⟨rfl, p3⟩
          rw [HN.out, HO.out]
          obtain ⟨m0, -, -⟩ := p3.cells
          have P3 : Hid (NZ w v3 s b g cap c P2' z y0 y1 false) := p3
          clear p3 P2 l0 l1 l2
          go_wp2_with fail
          refine (nz_rof P3.out ⟨rfl, rfl, rfl, rfl⟩).mono ?_
          rintro e v4 ⟨rfl, p4⟩
          rw [HN.out, HO.out]
          obtain ⟨-, m1', -⟩ := p4.cells
          have P4 : Hid (NZ w v4 s b g cap c P2' z y0 y1 false) := p4
          clear p4 P3 m0
          go_wp2_with fail
          go_region_held3 (fun w' => w'.cell? ⟨z, 1, none⟩ = some (.int .i64 y1)) (go_keep)
            (first | (go_at_call 37; refine (nz_on P4.out ?_).mono ?_; exact ⟨rfl, rfl, rfl, rfl⟩; rintro e v5 ⟨a5, n5, c5, rfl, p5, r5⟩; obtain ⟨-, s5, -⟩ := p5.cells; have P5 : Hid (NZ w v5 s b g cap c P2' z y0 y1 false) := p5; have R5 : Hid (Row v5 (.slice a5 n5 c5) (KK (on P2' y1) 16)) := r5; clear p5 r5) | (go_at_call 38; refine (nz_ron P5.out R5.out ?_).mono ?_; exact ⟨rfl, rfl, rfl, rfl⟩; rintro e v6 ⟨a6, n6, c6, rfl, p6, r6, t6⟩; obtain ⟨-, s6, -⟩ := p6.cells; have P6 : Hid (NZ w v6 s b g cap c P2' z y0 y1 false) := p6; have R6 : Hid (Row v6 (.slice a5 n5 c5) (KK (on P2' y1) 16)) := r6; have T6 : Hid (Row v6 (.slice a6 n6 c6) (KK (on P2' y1) 16)) := t6; clear p6 r6 t6) | (go_at_call 15; refine (nz_ints P6.out R6.out T6.out ?_).mono ?_; exact ⟨rfl, rfl, rfl, rfl⟩; rintro e v7 ⟨rfl, p7⟩; obtain ⟨-, s7, -⟩ := p7.cells; have P7 : Hid (NZ w v7 s b g cap c P2' z y0 y1 false) := p7; clear p7) | (go_at_call 39; refine (nz_cores P7.out ?_).mono ?_; exact ⟨rfl, rfl, rfl, rfl⟩; rintro e v8 ⟨rfl, p8⟩; rw [HC.out]; obtain ⟨-, s8, -⟩ := p8.cells; have P8 : Hid (NZ w v8 s b g cap c P2' z y0 y1 false) := p8; clear p8) | (go_at_call 40; refine (nz_rcores P8.out ?_).mono ?_; exact ⟨rfl, rfl, rfl, rfl⟩; rintro e v9 ⟨rfl, p9⟩; rw [HC.out]; obtain ⟨-, s9, -⟩ := p9.cells; have P9 : Hid (NZ w v9 s b g cap c P2' z y0 y1 false) := p9; clear p9))
          go_wp2
          go_roundw
          case rel => exact ⟨k + 1, P2', by omega, by omega, P9.out.np.sm ⟨rfl, rfl, rfl, rfl⟩, by go_num⟩
          case measure => simp [intOf]; omega

set_option maxRecDepth 100000 in
theorem lifted (os : Os) (started : os.Started) (H : Type) (enc : TypeId × Value → H) :
    ReturnsInHanded {} Try.checked os 6 .any (Rows.routePlaysSpec.pre6 enc Try.prog Try.f6 Rows.routePlaysRow.domain false) (Rows.routePlaysSpec.post enc Try.prog Try.f6 false true false false) := by
  refine returnsInHanded_of_change (C := Try.checked) own started (by kernel_rfl) Try.func6
    (ChangeSpec.witness6 (enc := enc) (C := Try.checked) false ⟨#[], #[.int .i64 0, .slice none 0 0], []⟩ 8 (by kernel_rfl) (by kernel_rfl) (by kernel_rfl) (by kernel_rfl)) ?_
  intro W base args ds gs before hval0 hW hcnd _
  have hval : ∀ (j : Nat) t v, Try.f6.params[j]? = some t → args[j]? = some v → Value.okWide Try.prog W .any base t v := hval0
  have hW' := hW
  obtain ⟨p, q, hA0, hV, rfl, hfz, hnd⟩ := hW
  have hA : DataW.TrodAll enc Try.prog W 0 (fun _ => true) true Try.f6.params.toList args.toList ds p := hA0
  rw [Try.params6] at hA hval
  obtain ⟨v0, vs0, d0, ds0, p0, q0, hargs, rfl, rfl, h0, r0⟩ := trodAll_cons hA
  obtain ⟨v1, vs1, d1, ds1, p1, q1, rfl, rfl, rfl, h1, r1⟩ := trodAll_cons r0
  obtain ⟨rfl, rfl, rfl⟩ := trodAll_nil r1
  obtain rfl : args = #[v0, v1] := by cases args; simp_all
  obtain ⟨rfl, rfl⟩ := trodVars_none hV
  obtain ⟨a0, rfl, rfl, rfl, w0⟩ := open_int Try.underlying3 (hval 0 3 v0 rfl rfl) h0
  obtain ⟨a1, len1, cap1, rfl⟩ := okWide_slice Try.underlying55 (hval 1 55 v1 rfl rfl)
  have k1 := h1
  have lt1 : ∀ x ∈ p1, x.block < W.heap.size := by obtain ⟨m, hm⟩ := k1; exact DataW.trod_lt m _ _ _ hm
  obtain ⟨X1, w1, z1⟩ : ∃ X : Nat → Nat → Int, SRow W (.slice a1 len1 cap1) len1 [true, true, false] X ∧ ∀ i, i < len1 → ∀ j, j < [true, true, false].length → [true, true, false].getD j true = true → (Lit.int .i64 (X i j)).wf = true := by
    obtain ⟨fuel, hf⟩ := h1
    exact open_recs [true, true, false] Try.underlying55 Try.underlying63 (by kernel_rfl) rfl (by decide) (fun | 0, _ => ⟨_, rfl, rfl, by kernel_rfl, Try.underlying3⟩ | 1, _ => ⟨_, rfl, rfl, by kernel_rfl, Try.underlying3⟩ | 2, _ => ⟨_, rfl, rfl, by kernel_rfl, Try.underlying4⟩ | n + 3, h => absurd h (by simp only [List.length]; omega)) hf
  clear hA0 hval0
  refine (walk a0 a1 len1 cap1 X1 W w0 w1 z1).mono fun e W' ⟨he, bel⟩ => ?_
  subst he
  exact ⟨_, rfl, _, _, _, [], _, [], hW', trodAll_mk1 (shut_bool Try.underlying4 _), (trodAll_cons_mk (shut_int Try.underlying3 w0) (trodAll_cons_mk (Below.trod laidOut (by kernel_rfl) (of_decide_eq_true (by kernel_rfl)) k1 bel lt1) trodAll_mk0)), rfl, bel.frame _, fun h => by cases h⟩

theorem over : Rows.RoutePlaysSaid :=
  OpenClaim.holds_of_wide 6 Try.f6 rfl rfl rfl rfl rfl rfl rfl ⟨rfl, rfl, rfl, rfl, rfl⟩ rfl rfl rfl rfl rfl (by kernel_rfl) Try.func6 (by kernel_rfl)
    (of_decide_eq_true (by kernel_rfl)) (by unfold Func.isWrapper; first | (rw [if_pos (by decide +kernel)]; kernel_rfl) | (rw [if_neg (by decide +kernel)]; exact ⟨rfl, rfl⟩))
    (fun os started H enc _ => lifted os started H enc)
end Go.Proofs.Ythhgmnkgeombhaa.routePlays

namespace Go.Proofs.Ythhgmnkgeombhaa
open Go
theorem routePlays_holds : Rows.RoutePlaysSaid := routePlays.over
#print axioms routePlays_holds
end Go.Proofs.Ythhgmnkgeombhaa
