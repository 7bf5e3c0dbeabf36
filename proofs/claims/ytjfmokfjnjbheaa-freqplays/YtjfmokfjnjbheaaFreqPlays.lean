/- Proved: for all numbers low and high of 64 bits with a sign and every list acts, davitlaw24.FreqPlays(low, high, acts) returns true: a governor that is played with answers what the document says, each time, and so are its frequency and how busy it was (100 acts at most, as the law itself says), and acts is left alone; no condition. -/
import Derived.Test.YtjfmokfjnjbheaaRows
import Derived.Test.YtjfmokfjnjbheaaFo
import Derived.Test.YtjfmokfjnjbheaaGn
import Derived.WalkKit
import Derived.ProofKit
import Derived.OpenShut
import Derived.Stop.Joined
import Derived.ShutString
import Derived.ChangeOld
import Derived.Below
import Derived.Carry
import Derived.Test.YtjfmokfjnjbheaaFs
import Derived.Deep.RegionHeld3
namespace Go.Proofs.Ytjfmokfjnjbheaa.freqPlays
open Go.ChangeShapes Go.WideShapes Go.ChangeAt Go.RowKit
set_option linter.unusedVariables false
set_option linter.unusedSimpArgs false

theorem own : ownKnob Try.prog.godebug = none := by kernel_rfl
theorem laidOut : laidOutB Try.prog = true := by kernel_rfl

set_option maxRecDepth 100000 in
set_option maxHeartbeats 4000000 in
theorem walk (a0 : Int) (a1 : Int) (a2 : Option Addr) (len2 cap2 : Nat) (X2 : Nat → Nat → Int) (w : World) (w0 : (Lit.int .i64 a0).wf = true) (w1 : (Lit.int .i64 a1).wf = true) (w2 : SRow w (.slice a2 len2 cap2) len2 [false, true, true] X2) (z2 : ∀ i, i < len2 → ∀ j, j < [false, true, true].length → [false, true, true].getD j true = true → (Lit.int .i64 (X2 i j)).wf = true) :
    Calls Try.prog 6 #[.int .i64 a0, .int .i64 a1, .slice a2 len2 cap2] w fun e w' => e = .returned (.bool true) ∧ Below w.heap.size w w' := by
  have KN : Hid (∀ w, _) := fun w => gknown_yes w
  by_cases hl : ¬ Lim a0 a1
  · have C0 : Hid (∀ _ : Unit, _) := fun _ => gnew_bad a0 a1 w hl
    have C1 : Hid (∀ u, _) := fun u => dnew_bad a0 a1 u hl
    clear w0 w1 w2 z2 hl
    go_enter Try.func6, Try.ntmps6
    go_wp2_with fail
    refine (C0.out ()).mono ?_
    rintro e u1 ⟨rfl, b1⟩
    have B1 : Hid (Below w.heap.size w u1) := b1
    clear b1
    go_wp2_with fail
    refine (C1.out _).mono ?_
    rintro e w' ⟨rfl, rfl⟩
    go_wp2_with fail
    refine (KN.out _).mono ?_
    rintro e u2 ⟨rfl, b2⟩
    have B2 : Hid (Below w.heap.size w u2) := B1.out.trans (b2.mono B1.out.size)
    clear b2
    go_wp2
    go_ret
    exact ⟨rfl, B2.out⟩
  have hl : Lim a0 a1 := Decidable.not_not.1 hl
  have C0 : Hid (∀ _ : Unit, _) := fun _ => gnew_ok a0 a1 w hl
  have C1 : Hid (∀ u, _) := fun u => dnew_ok a0 a1 u hl
  have HL : Hid (Lim a0 a1) := hl
  have HR : Hid (SRow w (.slice a2 len2 cap2) len2 [false, true, true] X2) := w2
  obtain ⟨s, hs⟩ : ∃ s, w.heap.size = s := ⟨_, rfl⟩
  have HS : Hid (w.heap.size = s) := hs
  rw [hs] at C0 ⊢
  clear w0 w1 w2 z2 hl hs
  go_enter Try.func6, Try.ntmps6
  go_wp2_with fail
  refine (C0.out ()).mono ?_
  rintro e u1 ⟨rfl, g1, b1⟩
  have T1 : Hid (GW w u1 s a0 a1 (lf []) 0) := ⟨g1, HL.out, b1⟩
  have D1 : Hid (∀ _ : Unit, _) := fun _ => C1.out u1
  obtain ⟨r, hr⟩ : ∃ r, u1.heap.size = r := ⟨_, rfl⟩
  have HRR : Hid (u1.heap.size = r) := hr
  rw [hr] at D1
  clear g1 b1 C0 C1 hr
  go_wp2_with fail
  refine (D1.out ()).mono ?_
  rintro e u2 ⟨rfl, d2, b2⟩
  have T2 : Hid (GD w u2 s r (.slice none 0 0) a0 a1 [] a0 a1 (lf []) 0) := by
    have h1 := HRR.out
    have h2 := T1.out.top
    have b3 : Below u1.heap.size u1 u2 := by rw [h1]; exact b2
    exact ⟨T1.out.g.below b3, d2, HL.out, HL.out, by omega, fun g e => (by cases e), T1.out.bel.trans (b3.mono (by omega))⟩
  clear d2 b2 D1 T1 HRR
  go_wp2
  go_loopw [11] (fun i wr => ∃ (k : Nat) (v : Value) (lo hi : Int) (Y : List Fq) (p : Nat), (k : Int) ≤ 100 ∧ (k : Int) ≤ len2 ∧ (Y.length : Int) ≤ k ∧ GD w wr s r v lo hi Y lo hi (lf Y) p ∧ i = .int .i64 k) (fun i _ => 100 - (intOf i).toNat)
  case atStart => exact ⟨0, _, a0, a1, [], 0, by omega, by omega, by simp, T2.out, rfl⟩
  case round =>
    obtain ⟨k, v, lo, hi, Y, p, hk, hk2, hy, g, rfl⟩ := hrel
    clear T2
    have tail : (¬ (k : Int) < len2 ∧ decide ((k : Int) < len2) = false) ∨ ((k : Int) < len2 ∧ ¬ (k : Int) < 100) ∨ ((k : Int) < len2 ∧ (k : Int) < 100) := by
      by_cases h : (k : Int) < len2
      · by_cases h2 : (k : Int) < 100
        · exact Or.inr (Or.inr ⟨h, h2⟩)
        · exact Or.inr (Or.inl ⟨h, h2⟩)
      · exact Or.inl ⟨h, decide_eq_false h⟩
    rw [← or_assoc] at tail
    rcases tail with tail | ⟨h, h2⟩
    · have M1 : Hid (Below s w wr ∧ s ≤ wr.heap.size) := ⟨g.bel, by have := g.top; omega⟩
      clear g hy
      rcases tail with ⟨h, hd⟩ | ⟨h, h2⟩
      all_goals (
        go_wp2_with fail
        refine (KN.out _).mono ?_
        rintro e u4 ⟨rfl, f4⟩
        go_wp2
        go_ret
        exact ⟨rfl, M1.out.1.trans (f4.mono M1.out.2)⟩)
    · obtain ⟨b0, off, rfl, x0⟩ := srow_cell (wr := wr) HR.out (by rw [HS.out]; exact g.bel) h
      have y0 := x0 0 (by decide)
      have y1 := x0 1 (by decide)
      have y2 := x0 2 (by decide)
      change wr.cell? ⟨b0, off + k * 3, none⟩ = some (.bool (X2 k 0 != 0)) at y0
      change wr.cell? ⟨b0, off + k * 3 + 1, none⟩ = some (.int .i64 (X2 k 1)) at y1
      change wr.cell? ⟨b0, off + k * 3 + 2, none⟩ = some (.int .i64 (X2 k 2)) at y2
      have HY : Hid ((Y.length : Int) ≤ k ∧ (k : Int) < 100) := ⟨hy, h2⟩
      generalize X2 k 1 = x at *
      generalize X2 k 2 = y at *
      clear x0 hy
      cases hx : (X2 k 0 != 0)
      · rw [hx] at y0
        clear hx
        have Q0 : Hid (GA w (wr.alloc (.cells #[.bool false, .int .i64 x, .int .i64 y] 47)) s r v wr.heap.size [.bool false, .int .i64 x, .int .i64 y] lo hi Y lo hi (lf Y) p) := g.box [.bool false, .int .i64 x, .int .i64 y]
        obtain ⟨z, hz⟩ : ∃ z, wr.heap.size = z := ⟨_, rfl⟩
        rw [hz] at Q0
        have q1 := Q0.out.ac.cell 0
        have q2 := Q0.out.ac.cell 1
        have q3 := Q0.out.ac.cell 2
        clear g
        have P1 : Hid (∀ u, GA w u s r v z [.bool false, .int .i64 x, .int .i64 y] lo hi Y lo hi (lf Y) p → _) := fun u t => ga_feed x y (wr := u) t
        have P2 : Hid (∀ u, GA w u s r v z [.bool false, .int .i64 x, .int .i64 y] lo hi Y lo hi (fdQ x y (lf Y)) (fdP x y p) → _) := fun u t => ga_rfeed x y (wr := u) t (by have := HY.out; omega)
        have EL : Hid (lf (fdY x y Y) = fdQ x y (lf Y)) := lf_fd x y Y
        have LN1 : Hid (((fdY x y Y).length : Int) ≤ (k + 1 : Nat)) := by have := fdY_len x y Y; have := HY.out; show ((fdY x y Y).length : Int) ≤ (k + 1 : Nat); omega
        have LN0 : Hid (((fdY x y Y).length : Int) ≤ 1000) := by have := fdY_len x y Y; have := HY.out; show ((fdY x y Y).length : Int) ≤ 1000; omega
        rw [← EL.out] at P1 P2
        generalize fdN x y lo hi (lf Y) = n1 at *
        generalize fdE x y = n2 at *
        generalize fdP x y p = p2 at *
        generalize fdY x y Y = Y2 at *
        have m1 : (n1 != n1) = false := by simp
        have m2 : (n2 != n2) = false := by simp
        clear EL
        go_wp2_with fail
        refine (P1.out _ Q0.out).mono ?_
        rintro e u1 ⟨rfl, t1⟩
        have T1 : Hid (GA w u1 s r v z [.bool false, .int .i64 x, .int .i64 y] lo hi Y lo hi (lf Y2) p2) := t1
        have q1 := t1.ac.cell 0
        have q2 := t1.ac.cell 1
        have q3 := t1.ac.cell 2
        clear t1 P1 Q0
        go_wp2_with fail
        refine (P2.out _ T1.out).mono ?_
        rintro e u2 ⟨rfl, vv, t2⟩
        have TT : Hid (GA w u2 s r vv z [.bool false, .int .i64 x, .int .i64 y] lo hi Y2 lo hi (lf Y2) p2) := t2
        clear t2 P2 T1
        have LN : Hid ((Y2.length : Int) ≤ 1000) := LN0.out
        have R1 : Hid (∀ u, GA w u s r vv z [.bool false, .int .i64 x, .int .i64 y] lo hi Y2 lo hi (lf Y2) p2 → _) := fun u t => ga_limits (wr := u) t
        have R2 : Hid (∀ u, GA w u s r vv z [.bool false, .int .i64 x, .int .i64 y] lo hi Y2 lo hi (lf Y2) p2 → _) := fun u t => ga_freq (wr := u) t
        have R3 : Hid (∀ u, GA w u s r vv z [.bool false, .int .i64 x, .int .i64 y] lo hi Y2 lo hi (lf Y2) p2 → _) := fun u t => ga_rfreq (wr := u) t LN.out
        have R4 : Hid (∀ u, GA w u s r vv z [.bool false, .int .i64 x, .int .i64 y] lo hi Y2 lo hi (lf Y2) p2 → _) := fun u t => ga_busy (wr := u) t
        have R5 : Hid (∀ u, GA w u s r vv z [.bool false, .int .i64 x, .int .i64 y] lo hi Y2 lo hi (lf Y2) p2 → _) := fun u t => ga_rbusy (wr := u) t LN.out
        generalize fr lo hi (lf Y2) = f1 at *
        generalize bz (lf Y2) = f2 at *
        have n1 : (f1 != f1) = false := by simp
        have n2 : (f2 != f2) = false := by simp
        have n3 : (lo != lo) = false := by simp
        have n4 : (hi != hi) = false := by simp
        go_wp2_with fail
        refine (R1.out _ TT.out).mono ?_
        rintro e v1 ⟨rfl, t1⟩
        have S1 : Hid (GA w v1 s r vv z [.bool false, .int .i64 x, .int .i64 y] lo hi Y2 lo hi (lf Y2) p2) := t1
        clear t1 TT R1
        go_wp2_with fail
        refine (R2.out _ S1.out).mono ?_
        rintro e v2 ⟨rfl, t2⟩
        have S2 : Hid (GA w v2 s r vv z [.bool false, .int .i64 x, .int .i64 y] lo hi Y2 lo hi (lf Y2) p2) := t2
        clear t2 S1 R2
        go_wp2_with fail
        refine (R3.out _ S2.out).mono ?_
        rintro e v3 ⟨rfl, t3⟩
        have S3 : Hid (GA w v3 s r vv z [.bool false, .int .i64 x, .int .i64 y] lo hi Y2 lo hi (lf Y2) p2) := t3
        clear t3 S2 R3
        go_wp2_with fail
        refine (R4.out _ S3.out).mono ?_
        rintro e v4 ⟨rfl, t4⟩
        have S4 : Hid (GA w v4 s r vv z [.bool false, .int .i64 x, .int .i64 y] lo hi Y2 lo hi (lf Y2) p2) := t4
        clear t4 S3 R4
        go_wp2_with fail
        refine (R5.out _ S4.out).mono ?_
        rintro e v5 ⟨rfl, t5⟩
        have S5 : Hid (GA w v5 s r vv z [.bool false, .int .i64 x, .int .i64 y] lo hi Y2 lo hi (lf Y2) p2) := t5
        have k0 := t5.b.d.k0
        have k1 := t5.b.d.k1
        clear t5 S4 R5
        go_wp2
        go_roundw
        case rel => exact ⟨k + 1, _, lo, hi, Y2, p2, by omega, by omega, LN1.out, S5.out.b.sm ⟨rfl, rfl, rfl, rfl⟩, by go_num⟩
        case measure => simp [intOf]; omega
      · rw [hx] at y0
        clear hx
        have Q0 : Hid (GA w (wr.alloc (.cells #[.bool true, .int .i64 x, .int .i64 y] 47)) s r v wr.heap.size [.bool true, .int .i64 x, .int .i64 y] lo hi Y lo hi (lf Y) p) := g.box [.bool true, .int .i64 x, .int .i64 y]
        obtain ⟨z, hz⟩ : ∃ z, wr.heap.size = z := ⟨_, rfl⟩
        rw [hz] at Q0
        have q1 := Q0.out.ac.cell 0
        have q2 := Q0.out.ac.cell 1
        have q3 := Q0.out.ac.cell 2
        clear g
        have P1 : Hid (∀ u, GA w u s r v z [.bool true, .int .i64 x, .int .i64 y] lo hi Y lo hi (lf Y) p → _) := fun u t => ga_set x y (wr := u) t
        have P2 : Hid (∀ u, GA w u s r v z [.bool true, .int .i64 x, .int .i64 y] lo hi Y (stL x y lo) (stH x y hi) (lf Y) p → _) := fun u t => ga_rset x y (wr := u) t
        have LN1 : Hid ((Y.length : Int) ≤ (k + 1 : Nat)) := by have := HY.out; show (Y.length : Int) ≤ (k + 1 : Nat); omega
        have LN0 : Hid ((Y.length : Int) ≤ 1000) := by have := HY.out; show (Y.length : Int) ≤ 1000; omega
        generalize stE x y = n2 at *
        generalize stL x y lo = lo2 at *
        generalize stH x y hi = hi2 at *
        have m2 : (n2 != n2) = false := by simp
        go_wp2_with fail
        go_region_held3 (fun w' => w'.cell? ⟨z, 1, none⟩ = some (.int .i64 x) ∧ w'.cell? ⟨z, 2, none⟩ = some (.int .i64 y)) (go_keep)
          (first | (go_at_call 22; refine (P1.out _ ?_).mono ?_; exact Q0.out.sm ⟨rfl, rfl, rfl, rfl⟩; rintro e u1 ⟨rfl, t1⟩; have T1 : Hid (GA w u1 s r v z [.bool true, .int .i64 x, .int .i64 y] lo hi Y lo2 hi2 (lf Y) p) := t1; have q2 : u1.cell? ⟨z, 1, none⟩ = some (.int .i64 x) := t1.ac.cell 1; have q3 : u1.cell? ⟨z, 2, none⟩ = some (.int .i64 y) := t1.ac.cell 2; clear t1) | (go_at_call 23; refine (P2.out _ ?_).mono ?_; exact T1.out.sm ⟨rfl, rfl, rfl, rfl⟩; rintro e u2 ⟨rfl, t2⟩; have TT : Hid (GA w u2 s r v z [.bool true, .int .i64 x, .int .i64 y] lo2 hi2 Y lo2 hi2 (lf Y) p) := t2; have q2 : u2.cell? ⟨z, 1, none⟩ = some (.int .i64 x) := t2.ac.cell 1; have q3 : u2.cell? ⟨z, 2, none⟩ = some (.int .i64 y) := t2.ac.cell 2; clear t2))
        have LN : Hid ((Y.length : Int) ≤ 1000) := LN0.out
        have R1 : Hid (∀ u, GA w u s r v z [.bool true, .int .i64 x, .int .i64 y] lo2 hi2 Y lo2 hi2 (lf Y) p → _) := fun u t => ga_limits (wr := u) t
        have R2 : Hid (∀ u, GA w u s r v z [.bool true, .int .i64 x, .int .i64 y] lo2 hi2 Y lo2 hi2 (lf Y) p → _) := fun u t => ga_freq (wr := u) t
        have R3 : Hid (∀ u, GA w u s r v z [.bool true, .int .i64 x, .int .i64 y] lo2 hi2 Y lo2 hi2 (lf Y) p → _) := fun u t => ga_rfreq (wr := u) t LN.out
        have R4 : Hid (∀ u, GA w u s r v z [.bool true, .int .i64 x, .int .i64 y] lo2 hi2 Y lo2 hi2 (lf Y) p → _) := fun u t => ga_busy (wr := u) t
        have R5 : Hid (∀ u, GA w u s r v z [.bool true, .int .i64 x, .int .i64 y] lo2 hi2 Y lo2 hi2 (lf Y) p → _) := fun u t => ga_rbusy (wr := u) t LN.out
        generalize fr lo2 hi2 (lf Y) = f1 at *
        generalize bz (lf Y) = f2 at *
        have n1 : (f1 != f1) = false := by simp
        have n2 : (f2 != f2) = false := by simp
        have n3 : (lo2 != lo2) = false := by simp
        have n4 : (hi2 != hi2) = false := by simp
        go_wp2_with fail
        refine (R1.out _ TT.out).mono ?_
        rintro e v1 ⟨rfl, t1⟩
        have S1 : Hid (GA w v1 s r v z [.bool true, .int .i64 x, .int .i64 y] lo2 hi2 Y lo2 hi2 (lf Y) p) := t1
        clear t1 TT R1
        go_wp2_with fail
        refine (R2.out _ S1.out).mono ?_
        rintro e v2 ⟨rfl, t2⟩
        have S2 : Hid (GA w v2 s r v z [.bool true, .int .i64 x, .int .i64 y] lo2 hi2 Y lo2 hi2 (lf Y) p) := t2
        clear t2 S1 R2
        go_wp2_with fail
        refine (R3.out _ S2.out).mono ?_
        rintro e v3 ⟨rfl, t3⟩
        have S3 : Hid (GA w v3 s r v z [.bool true, .int .i64 x, .int .i64 y] lo2 hi2 Y lo2 hi2 (lf Y) p) := t3
        clear t3 S2 R3
        go_wp2_with fail
        refine (R4.out _ S3.out).mono ?_
        rintro e v4 ⟨rfl, t4⟩
        have S4 : Hid (GA w v4 s r v z [.bool true, .int .i64 x, .int .i64 y] lo2 hi2 Y lo2 hi2 (lf Y) p) := t4
        clear t4 S3 R4
        go_wp2_with fail
        refine (R5.out _ S4.out).mono ?_
        rintro e v5 ⟨rfl, t5⟩
        have S5 : Hid (GA w v5 s r v z [.bool true, .int .i64 x, .int .i64 y] lo2 hi2 Y lo2 hi2 (lf Y) p) := t5
        have k0 := t5.b.d.k0
        have k1 := t5.b.d.k1
        clear t5 S4 R5
        go_wp2
        go_roundw
        case rel => exact ⟨k + 1, _, lo2, hi2, Y, p, by omega, by omega, LN1.out, S5.out.b.sm ⟨rfl, rfl, rfl, rfl⟩, by go_num⟩
        case measure => simp [intOf]; omega

set_option maxRecDepth 100000 in
theorem lifted (os : Os) (started : os.Started) (H : Type) (enc : TypeId × Value → H) :
    ReturnsInHanded {} Try.checked os 6 .any (Rows.freqPlaysSpec.pre6 enc Try.prog Try.f6 Rows.freqPlaysRow.domain false) (Rows.freqPlaysSpec.post enc Try.prog Try.f6 false true false false) := by
  refine returnsInHanded_of_change (C := Try.checked) own started (by kernel_rfl) Try.func6
    (ChangeSpec.witness6 (enc := enc) (C := Try.checked) false ⟨#[], #[.int .i64 0, .int .i64 0, .slice none 0 0], []⟩ 8 (by kernel_rfl) (by kernel_rfl) (by kernel_rfl) (by kernel_rfl)) ?_
  intro W base args ds gs before hval0 hW hcnd _
  have hval : ∀ (j : Nat) t v, Try.f6.params[j]? = some t → args[j]? = some v → Value.okWide Try.prog W .any base t v := hval0
  have hW' := hW
  obtain ⟨p, q, hA0, hV, rfl, hfz, hnd⟩ := hW
  have hA : DataW.TrodAll enc Try.prog W 0 (fun _ => true) true Try.f6.params.toList args.toList ds p := hA0
  rw [Try.params6] at hA hval
  obtain ⟨v0, vs0, d0, ds0, p0, q0, hargs, rfl, rfl, h0, r0⟩ := trodAll_cons hA
  obtain ⟨v1, vs1, d1, ds1, p1, q1, rfl, rfl, rfl, h1, r1⟩ := trodAll_cons r0
  obtain ⟨v2, vs2, d2, ds2, p2, q2, rfl, rfl, rfl, h2, r2⟩ := trodAll_cons r1
  obtain ⟨rfl, rfl, rfl⟩ := trodAll_nil r2
  obtain rfl : args = #[v0, v1, v2] := by cases args; simp_all
  obtain ⟨rfl, rfl⟩ := trodVars_none hV
  obtain ⟨a0, rfl, rfl, rfl, w0⟩ := open_int Try.underlying2 (hval 0 2 v0 rfl rfl) h0
  obtain ⟨a1, rfl, rfl, rfl, w1⟩ := open_int Try.underlying2 (hval 1 2 v1 rfl rfl) h1
  obtain ⟨a2, len2, cap2, rfl⟩ := okWide_slice Try.underlying38 (hval 2 38 v2 rfl rfl)
  have k2 := h2
  have lt2 : ∀ x ∈ p2, x.block < W.heap.size := by obtain ⟨m, hm⟩ := k2; exact DataW.trod_lt m _ _ _ hm
  obtain ⟨X2, w2, z2⟩ : ∃ X : Nat → Nat → Int, SRow W (.slice a2 len2 cap2) len2 [false, true, true] X ∧ ∀ i, i < len2 → ∀ j, j < [false, true, true].length → [false, true, true].getD j true = true → (Lit.int .i64 (X i j)).wf = true := by
    obtain ⟨fuel, hf⟩ := h2
    exact open_recs [false, true, true] Try.underlying38 Try.underlying47 (by kernel_rfl) rfl (by decide) (fun | 0, _ => ⟨_, rfl, rfl, by kernel_rfl, Try.underlying4⟩ | 1, _ => ⟨_, rfl, rfl, by kernel_rfl, Try.underlying2⟩ | 2, _ => ⟨_, rfl, rfl, by kernel_rfl, Try.underlying2⟩ | n + 3, h => absurd h (by simp only [List.length]; omega)) hf
  clear hA0 hval0
  refine (walk a0 a1 a2 len2 cap2 X2 W w0 w1 w2 z2).mono fun e W' ⟨he, bel⟩ => ?_
  subst he
  exact ⟨_, rfl, _, _, _, [], _, [], hW', trodAll_mk1 (shut_bool Try.underlying4 _), (trodAll_cons_mk (shut_int Try.underlying2 w0) (trodAll_cons_mk (shut_int Try.underlying2 w1) (trodAll_cons_mk (Below.trod laidOut (by kernel_rfl) (of_decide_eq_true (by kernel_rfl)) k2 bel lt2) trodAll_mk0))), rfl, bel.frame _, fun h => by cases h⟩

theorem over : Rows.FreqPlaysSaid :=
  OpenClaim.holds_of_wide 6 Try.f6 rfl rfl rfl rfl rfl rfl rfl ⟨rfl, rfl, rfl, rfl, rfl⟩ rfl rfl rfl rfl rfl (by kernel_rfl) Try.func6 (by kernel_rfl)
    (of_decide_eq_true (by kernel_rfl)) (by unfold Func.isWrapper; first | (rw [if_pos (by decide +kernel)]; kernel_rfl) | (rw [if_neg (by decide +kernel)]; exact ⟨rfl, rfl⟩))
    (fun os started H enc _ => lifted os started H enc)
end Go.Proofs.Ytjfmokfjnjbheaa.freqPlays

namespace Go.Proofs.Ytjfmokfjnjbheaa
open Go
theorem freqPlays_holds : Rows.FreqPlaysSaid := freqPlays.over
#print axioms freqPlays_holds
end Go.Proofs.Ytjfmokfjnjbheaa
