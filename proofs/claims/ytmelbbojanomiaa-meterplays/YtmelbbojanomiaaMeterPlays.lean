/- Proved: for every number cpus and every list acts, davitlaw25.MeterPlays(cpus, acts) returns true: a meter that is played with answers what the document says, each time, and so do its energy, its ticks, those of a way to rest, what a tick costs and what part was rested, floats bit by bit (80 acts at most, as the law itself says), and acts is left alone; no condition. -/
import Derived.Test.YtmelbbojanomiaaRows
import Derived.Test.YtmelbbojanomiaaFo
import Derived.Test.YtmelbbojanomiaaMeK
import Derived.Test.YtmelbbojanomiaaMeH
import Derived.WalkKit
import Derived.ProofKit
import Derived.OpenShut
import Derived.Stop.Joined
import Derived.ShutString
import Derived.ChangeOld
import Derived.Below
import Derived.Carry
import Derived.Test.YtmelbbojanomiaaFs
import Derived.Deep.RegionHeld3
namespace Go.Proofs.Ytmelbbojanomiaa.meterPlays
open Go.ChangeShapes Go.WideShapes Go.ChangeAt Go.RowKit
open Mt Flo
set_option linter.unusedVariables false
set_option linter.unusedSimpArgs false

theorem own : ownKnob Try.prog.godebug = none := by kernel_rfl
theorem laidOut : laidOutB Try.prog = true := by kernel_rfl

set_option maxRecDepth 100000 in
set_option maxHeartbeats 4000000 in
theorem walk (a0 : Int) (a1 : Option Addr) (len1 cap1 : Nat) (X1 : Nat → Nat → Int) (w : World) (w0 : (Lit.int .i64 a0).wf = true) (w1 : SRow w (.slice a1 len1 cap1) len1 [true, true, true, true] X1) (z1 : ∀ i, i < len1 → ∀ j, j < [true, true, true, true].length → [true, true, true, true].getD j true = true → (Lit.int .i64 (X1 i j)).wf = true) :
    Calls Try.prog 3 #[.int .i64 a0, .slice a1 len1 cap1] w fun e w' => e = .returned (.bool true) ∧ Below w.heap.size w w' := by
  have KN : Hid (∀ w, _) := fun w => mknown_yes w
  by_cases hl : a0 < 1 ∨ 64 < a0
  · have C0 : Hid (∀ w, _) := fun w => mtnew_bad a0 w hl
    have C1 : Hid (∀ w, _) := fun w => rfnew_bad a0 w hl
    clear w0 w1 z1 hl
    go_enter Try.func3, Try.ntmps3
    go_wp2_with fail
    refine (C0.out _).mono ?_
    rintro e w' ⟨rfl, rfl⟩
    go_wp2_with fail
    refine (C1.out _).mono ?_
    rintro e w' ⟨rfl, rfl⟩
    go_wp2_with fail
    refine (KN.out _).mono ?_
    rintro e u2 ⟨rfl, b2⟩
    have B2 : Hid (Below w'.heap.size w' u2) := b2
    clear b2
    go_wp2
    go_ret
    exact ⟨rfl, B2.out⟩
  obtain ⟨n, rfl⟩ : ∃ n : Nat, a0 = (n : Int) := ⟨a0.toNat, by omega⟩
  have C0 : Hid (∀ _ : Unit, _) := fun _ => mtnew_any n w (by omega) (by omega)
  have C1 : Hid (∀ u, _) := fun u => rfnew_any n u (by omega) (by omega)
  have HR : Hid (SRow w (.slice a1 len1 cap1) len1 [true, true, true, true] X1) := w1
  have OK0 : Hid (OkF n (fun _ => za) 0) := okF_new n
  obtain ⟨g, hg⟩ : ∃ g, w.heap.size = g := ⟨_, rfl⟩
  have HG : Hid (w.heap.size = g) := hg
  rw [hg] at C0 ⊢
  obtain ⟨s, hs⟩ : ∃ s, g + 1 = s := ⟨_, rfl⟩
  rw [hs] at C0
  generalize (fun _ => za : Nat → Ac) = F0 at *
  clear w0 w1 z1 hl hg hs
  go_enter Try.func3, Try.ntmps3
  go_wp2_with fail
  refine (C0.out ()).mono ?_
  rintro e u1 ⟨rfl, p1, b1⟩
  have T1 : Hid (PM u1 s g n F0 ∧ Below g w u1) := ⟨p1, b1⟩
  have D1 : Hid (∀ _ : Unit, _) := fun _ => C1.out u1
  obtain ⟨h, hh⟩ : ∃ h, u1.heap.size = h := ⟨_, rfl⟩
  have HH : Hid (u1.heap.size = h) := hh
  rw [hh] at D1
  obtain ⟨r, hr⟩ : ∃ r, h + 1 = r := ⟨_, rfl⟩
  rw [hr] at D1
  clear p1 b1 C0 C1 hh hr
  go_wp2_with fail
  refine (D1.out ()).mono ?_
  rintro e u2 ⟨rfl, p2, b2⟩
  have T2 : Hid (M2 w u2 s g r h n F0 F0) := by
    have h1 := HG.out
    have h2 := HH.out
    have b3 : Below u1.heap.size u1 u2 := by rw [h2]; exact b2
    have b4 : Below w.heap.size w u1 := by rw [h1]; exact T1.out.2
    exact ⟨T1.out.1.below b3, p2, b4.trans (b3.mono b4.size), by omega, by have := b4.size; omega⟩
  clear p2 b2 D1 T1 HH
  go_wp2
  go_loopw [9] (fun i wr => ∃ (k : Nat) (F : Nat → Ac), (k : Int) ≤ 80 ∧ (k : Int) ≤ len1 ∧ OkF n F ((k : Int) * 2147483648) ∧ M2 w wr s g r h n F F ∧ i = .int .i64 k) (fun i _ => 80 - (intOf i).toNat)
  case atStart => exact ⟨0, F0, by omega, by omega, OK0.out, T2.out, rfl⟩
  case round =>
    obtain ⟨k, F, hk, hk2, ok, m2, rfl⟩ := hrel
    clear T2
    have tail : (¬ (k : Int) < len1 ∧ decide ((k : Int) < len1) = false) ∨ ((k : Int) < len1 ∧ ¬ (k : Int) < 80) ∨ ((k : Int) < len1 ∧ (k : Int) < 80) := by
      by_cases h : (k : Int) < len1
      · by_cases h2 : (k : Int) < 80
        · exact Or.inr (Or.inr ⟨h, h2⟩)
        · exact Or.inr (Or.inl ⟨h, h2⟩)
      · exact Or.inl ⟨h, decide_eq_false h⟩
    rw [← or_assoc] at tail
    rcases tail with tail | ⟨hx, h2⟩
    · have M1 : Hid (Below g w wr ∧ g ≤ wr.heap.size) := by have b := m2.bel; have e := b.size; rw [HG.out] at b e; exact ⟨b, e⟩
      clear m2 ok
      rcases tail with ⟨hx, hd⟩ | ⟨hx, h2⟩
      all_goals (
        go_wp2_with fail
        refine (KN.out _).mono ?_
        rintro e u4 ⟨rfl, f4⟩
        go_wp2
        go_ret
        exact ⟨rfl, M1.out.1.trans (f4.mono M1.out.2)⟩)
    · obtain ⟨b0, off, rfl, x0⟩ := srow_cell (wr := wr) HR.out m2.bel hx
      have y0 := x0 0 (by decide)
      have y1 := x0 1 (by decide)
      have y2 := x0 2 (by decide)
      have y3 := x0 3 (by decide)
      change wr.cell? ⟨b0, off + k * 4, none⟩ = some (.int .i64 (X1 k 0)) at y0
      change wr.cell? ⟨b0, off + k * 4 + 1, none⟩ = some (.int .i64 (X1 k 1)) at y1
      change wr.cell? ⟨b0, off + k * 4 + 2, none⟩ = some (.int .i64 (X1 k 2)) at y2
      change wr.cell? ⟨b0, off + k * 4 + 3, none⟩ = some (.int .i64 (X1 k 3)) at y3
      obtain ⟨c0, hc0⟩ : ∃ c, X1 k 0 = c := ⟨_, rfl⟩
      obtain ⟨c1, hc1⟩ : ∃ c, X1 k 1 = c := ⟨_, rfl⟩
      obtain ⟨c2, hc2⟩ : ∃ c, X1 k 2 = c := ⟨_, rfl⟩
      obtain ⟨c3, hc3⟩ : ∃ c, X1 k 3 = c := ⟨_, rfl⟩
      rw [hc0] at y0
      rw [hc1] at y1
      rw [hc2] at y2
      rw [hc3] at y3
      have Q0 : Hid (MB w (wr.alloc (.cells #[.int .i64 c0, .int .i64 c1, .int .i64 c2, .int .i64 c3] 32)) s g r h n F F wr.heap.size [.int .i64 c0, .int .i64 c1, .int .i64 c2, .int .i64 c3]) := m2.act [.int .i64 c0, .int .i64 c1, .int .i64 c2, .int .i64 c3]
      obtain ⟨z, hz⟩ : ∃ z, wr.heap.size = z := ⟨_, rfl⟩
      rw [hz] at Q0
      have d0 : (wr.alloc (.cells #[.int .i64 c0, .int .i64 c1, .int .i64 c2, .int .i64 c3] 32)).cell? ⟨z, 0, none⟩ = some (.int .i64 c0) := Q0.out.ak.cell 0
      have d1 : (wr.alloc (.cells #[.int .i64 c0, .int .i64 c1, .int .i64 c2, .int .i64 c3] 32)).cell? ⟨z, 1, none⟩ = some (.int .i64 c1) := Q0.out.ak.cell 1
      have d2 : (wr.alloc (.cells #[.int .i64 c0, .int .i64 c1, .int .i64 c2, .int .i64 c3] 32)).cell? ⟨z, 2, none⟩ = some (.int .i64 c2) := Q0.out.ak.cell 2
      have d3 : (wr.alloc (.cells #[.int .i64 c0, .int .i64 c1, .int .i64 c2, .int .i64 c3] 32)).cell? ⟨z, 3, none⟩ = some (.int .i64 c3) := Q0.out.ak.cell 3
      have OKW : Hid (OkF n F 1000000000000) := fun i hi => (ok i hi).mono (by omega)
      have OKA : Hid (OkF n (wkF n F c0 c2 c3) (((k + 1 : Nat) : Int) * 2147483648)) := fun i hi => (ok.wkF c0 c2 c3 i hi).mono (by omega)
      have OKB : Hid (OkF n (rsF n F c0 c1 c2 c3) (((k + 1 : Nat) : Int) * 2147483648)) := fun i hi => (ok.rsF c0 c1 c2 c3 i hi).mono (by omega)
      clear m2 ok x0 hc0 hc1 hc2 hc3
      by_cases neg : c1 < 0
      · skip
        have P1 : Hid (∀ u, MB w u s g r h n F F z [.int .i64 c0, .int .i64 c1, .int .i64 c2, .int .i64 c3] → _) := fun u t => mb_work (u := u) t OKW.out c0 c2 c3 ⟨rfl, rfl, rfl, rfl⟩
        have P2 : Hid (∀ u, MB w u s g r h n (wkF n F c0 c2 c3) F z [.int .i64 c0, .int .i64 c1, .int .i64 c2, .int .i64 c3] → _) := fun u t => mbr_work (u := u) t OKW.out c0 c2 c3 ⟨rfl, rfl, rfl, rfl⟩
        have OKN : Hid (OkF n (wkF n F c0 c2 c3) (((k + 1 : Nat) : Int) * 2147483648)) := OKA.out
        generalize wkF n F c0 c2 c3 = F2 at *
        generalize wkE n F c0 c2 c3 = v0 at *
        have OK2 : Hid (OkF n F2 1000000000000) := fun i hi => (OKN.out i hi).mono (by omega)
        have e0 : (v0 != v0) = false := by simp
        clear OKA OKB OKW
        go_wp2_with fail
        go_region_held3 (fun w' => w'.cell? ⟨z, 0, none⟩ = some (.int .i64 c0) ∧ w'.cell? ⟨z, 1, none⟩ = some (.int .i64 c1) ∧ w'.cell? ⟨z, 2, none⟩ = some (.int .i64 c2) ∧ w'.cell? ⟨z, 3, none⟩ = some (.int .i64 c3)) (go_keep)
          (first | (go_at_call 12; refine (P1.out _ ?_).mono ?_; exact Q0.out.sm ⟨rfl, rfl, rfl, rfl⟩; rintro e w' ⟨rfl, t1⟩; have T1 : Hid (MB w w' s g r h n F2 F z [.int .i64 c0, .int .i64 c1, .int .i64 c2, .int .i64 c3]) := t1; have d0 : w'.cell? ⟨z, 0, none⟩ = some (.int .i64 c0) := t1.ak.cell 0; have d1 : w'.cell? ⟨z, 1, none⟩ = some (.int .i64 c1) := t1.ak.cell 1; have d2 : w'.cell? ⟨z, 2, none⟩ = some (.int .i64 c2) := t1.ak.cell 2; have d3 : w'.cell? ⟨z, 3, none⟩ = some (.int .i64 c3) := t1.ak.cell 3; clear t1 Q0 P1) | (go_at_call 13; refine (P2.out _ ?_).mono ?_; exact T1.out.sm ⟨rfl, rfl, rfl, rfl⟩; rintro e w' ⟨rfl, t1⟩; have T2 : Hid (MB w w' s g r h n F2 F2 z [.int .i64 c0, .int .i64 c1, .int .i64 c2, .int .i64 c3]) := t1; have d0 : w'.cell? ⟨z, 0, none⟩ = some (.int .i64 c0) := t1.ak.cell 0; have d1 : w'.cell? ⟨z, 1, none⟩ = some (.int .i64 c1) := t1.ak.cell 1; have d2 : w'.cell? ⟨z, 2, none⟩ = some (.int .i64 c2) := t1.ak.cell 2; have d3 : w'.cell? ⟨z, 3, none⟩ = some (.int .i64 c3) := t1.ak.cell 3; clear t1 T1 P2))
        have U0 : Hid (MB w _ s g r h n F2 F2 z [.int .i64 c0, .int .i64 c1, .int .i64 c2, .int .i64 c3]) := T2.out
        have L1 : Hid (∀ u, MB w u s g r h n F2 F2 z [.int .i64 c0, .int .i64 c1, .int .i64 c2, .int .i64 c3] → _) := fun u t => mb_energy (u := u) t c0 ⟨rfl, rfl, rfl, rfl⟩
        have L2 : Hid (∀ u, MB w u s g r h n F2 F2 z [.int .i64 c0, .int .i64 c1, .int .i64 c2, .int .i64 c3] → _) := fun u t => mbr_energy (u := u) t c0 ⟨rfl, rfl, rfl, rfl⟩
        have L3 : Hid (∀ u, MB w u s g r h n F2 F2 z [.int .i64 c0, .int .i64 c1, .int .i64 c2, .int .i64 c3] → _) := fun u t => mb_ticks (u := u) t c0 ⟨rfl, rfl, rfl, rfl⟩
        have L4 : Hid (∀ u, MB w u s g r h n F2 F2 z [.int .i64 c0, .int .i64 c1, .int .i64 c2, .int .i64 c3] → _) := fun u t => mbr_ticks (u := u) t OK2.out c0 ⟨rfl, rfl, rfl, rfl⟩
        have L5 : Hid (∀ u, MB w u s g r h n F2 F2 z [.int .i64 c0, .int .i64 c1, .int .i64 c2, .int .i64 c3] → _) := fun u t => mb_rested (u := u) t c0 c1 ⟨rfl, rfl, rfl, rfl⟩
        have L6 : Hid (∀ u, MB w u s g r h n F2 F2 z [.int .i64 c0, .int .i64 c1, .int .i64 c2, .int .i64 c3] → _) := fun u t => mbr_rested (u := u) t c0 c1 ⟨rfl, rfl, rfl, rfl⟩
        have L7 : Hid (∀ u, MB w u s g r h n F2 F2 z [.int .i64 c0, .int .i64 c1, .int .i64 c2, .int .i64 c3] → _) := fun u t => mb_average (u := u) t c0 ⟨rfl, rfl, rfl, rfl⟩
        have L8 : Hid (∀ u, MB w u s g r h n F2 F2 z [.int .i64 c0, .int .i64 c1, .int .i64 c2, .int .i64 c3] → _) := fun u t => mbr_average (u := u) t OK2.out c0 ⟨rfl, rfl, rfl, rfl⟩
        have L9 : Hid (∀ u, MB w u s g r h n F2 F2 z [.int .i64 c0, .int .i64 c1, .int .i64 c2, .int .i64 c3] → _) := fun u t => mb_share (u := u) t c0 c1 ⟨rfl, rfl, rfl, rfl⟩
        have L0 : Hid (∀ u, MB w u s g r h n F2 F2 z [.int .i64 c0, .int .i64 c1, .int .i64 c2, .int .i64 c3] → _) := fun u t => mbr_share (u := u) t OK2.out c0 c1 ⟨rfl, rfl, rfl, rfl⟩
        have LS : Hid (∀ u x y, x < 18446744073709551616 → y < 18446744073709551616 → ky x = ky y → MB w u s g r h n F2 F2 z [.int .i64 c0, .int .i64 c1, .int .i64 c2, .int .i64 c3] → _) := fun u x y hx hy e t => mb_same (u := u) t x y hx hy e ⟨rfl, rfl, rfl, rfl⟩
        generalize rt (enB n F2 c0) (tkB n F2 c0) = q1 at *
        generalize rt (rsB n F2 c0 c1) (tkB n F2 c0) = q2 at *
        generalize enB n F2 c0 = v1 at *
        generalize tkB n F2 c0 = v2 at *
        generalize rsB n F2 c0 c1 = v3 at *
        have e1 : (v1 != v1) = false := by simp
        have e2 : (v2 != v2) = false := by simp
        have e3 : (v3 != v3) = false := by simp
        clear T2
        go_wp2_with fail
        (try simp only [List.append])
        go_region_held3 (fun w' => w'.cell? ⟨z, 0, none⟩ = some (.int .i64 c0) ∧ w'.cell? ⟨z, 1, none⟩ = some (.int .i64 c1)) (go_keep)
          (first | (go_at_call 16; refine (L1.out _ ?_).mono ?_; exact U0.out.sm ⟨rfl, rfl, rfl, rfl⟩; rintro e w' ⟨rfl, t1⟩; have U1 : Hid (MB w w' s g r h n F2 F2 z [.int .i64 c0, .int .i64 c1, .int .i64 c2, .int .i64 c3]) := t1; have d0 : w'.cell? ⟨z, 0, none⟩ = some (.int .i64 c0) := t1.ak.cell 0; have d1 : w'.cell? ⟨z, 1, none⟩ = some (.int .i64 c1) := t1.ak.cell 1; clear t1 U0 L1) | (go_at_call 17; refine (L2.out _ ?_).mono ?_; exact U1.out.sm ⟨rfl, rfl, rfl, rfl⟩; rintro e w' ⟨rfl, t1⟩; have U2 : Hid (MB w w' s g r h n F2 F2 z [.int .i64 c0, .int .i64 c1, .int .i64 c2, .int .i64 c3]) := t1; have d0 : w'.cell? ⟨z, 0, none⟩ = some (.int .i64 c0) := t1.ak.cell 0; have d1 : w'.cell? ⟨z, 1, none⟩ = some (.int .i64 c1) := t1.ak.cell 1; clear t1 U1 L2) | (go_at_call 18; refine (L3.out _ ?_).mono ?_; exact U2.out.sm ⟨rfl, rfl, rfl, rfl⟩; rintro e w' ⟨rfl, t1⟩; have U3 : Hid (MB w w' s g r h n F2 F2 z [.int .i64 c0, .int .i64 c1, .int .i64 c2, .int .i64 c3]) := t1; have d0 : w'.cell? ⟨z, 0, none⟩ = some (.int .i64 c0) := t1.ak.cell 0; have d1 : w'.cell? ⟨z, 1, none⟩ = some (.int .i64 c1) := t1.ak.cell 1; clear t1 U2 L3) | (go_at_call 19; refine (L4.out _ ?_).mono ?_; exact U3.out.sm ⟨rfl, rfl, rfl, rfl⟩; rintro e w' ⟨rfl, t1⟩; have U4 : Hid (MB w w' s g r h n F2 F2 z [.int .i64 c0, .int .i64 c1, .int .i64 c2, .int .i64 c3]) := t1; have d0 : w'.cell? ⟨z, 0, none⟩ = some (.int .i64 c0) := t1.ak.cell 0; have d1 : w'.cell? ⟨z, 1, none⟩ = some (.int .i64 c1) := t1.ak.cell 1; clear t1 U3 L4) | (go_at_call 20; refine (L5.out _ ?_).mono ?_; exact U4.out.sm ⟨rfl, rfl, rfl, rfl⟩; rintro e w' ⟨rfl, t1⟩; have U5 : Hid (MB w w' s g r h n F2 F2 z [.int .i64 c0, .int .i64 c1, .int .i64 c2, .int .i64 c3]) := t1; have d0 : w'.cell? ⟨z, 0, none⟩ = some (.int .i64 c0) := t1.ak.cell 0; have d1 : w'.cell? ⟨z, 1, none⟩ = some (.int .i64 c1) := t1.ak.cell 1; clear t1 U4 L5) | (go_at_call 21; refine (L6.out _ ?_).mono ?_; exact U5.out.sm ⟨rfl, rfl, rfl, rfl⟩; rintro e w' ⟨rfl, t1⟩; have U6 : Hid (MB w w' s g r h n F2 F2 z [.int .i64 c0, .int .i64 c1, .int .i64 c2, .int .i64 c3]) := t1; have d0 : w'.cell? ⟨z, 0, none⟩ = some (.int .i64 c0) := t1.ak.cell 0; have d1 : w'.cell? ⟨z, 1, none⟩ = some (.int .i64 c1) := t1.ak.cell 1; clear t1 U5 L6) | (go_at_call 23; refine (L7.out _ ?_).mono ?_; exact U6.out.sm ⟨rfl, rfl, rfl, rfl⟩; rintro e w' ⟨xa, rfl, hx, kx, t1⟩; have Kxa : Hid (xa < 18446744073709551616 ∧ ky xa = q1) := ⟨hx, kx⟩; have U7 : Hid (MB w w' s g r h n F2 F2 z [.int .i64 c0, .int .i64 c1, .int .i64 c2, .int .i64 c3]) := t1; have d0 : w'.cell? ⟨z, 0, none⟩ = some (.int .i64 c0) := t1.ak.cell 0; have d1 : w'.cell? ⟨z, 1, none⟩ = some (.int .i64 c1) := t1.ak.cell 1; clear t1 hx kx U6 L7) | (go_at_call 24; refine (L8.out _ ?_).mono ?_; exact U7.out.sm ⟨rfl, rfl, rfl, rfl⟩; rintro e w' ⟨xb, rfl, hx, kx, t1⟩; have Kxb : Hid (xb < 18446744073709551616 ∧ ky xb = q1) := ⟨hx, kx⟩; have U8 : Hid (MB w w' s g r h n F2 F2 z [.int .i64 c0, .int .i64 c1, .int .i64 c2, .int .i64 c3]) := t1; have d0 : w'.cell? ⟨z, 0, none⟩ = some (.int .i64 c0) := t1.ak.cell 0; have d1 : w'.cell? ⟨z, 1, none⟩ = some (.int .i64 c1) := t1.ak.cell 1; clear t1 hx kx U7 L8) | (go_at_call 22; refine (LS.out _ xa xb Kxa.out.1 Kxb.out.1 (Kxa.out.2.trans Kxb.out.2.symm) ?_).mono ?_; exact U8.out.sm ⟨rfl, rfl, rfl, rfl⟩; rintro e w' ⟨rfl, t1⟩; have U9 : Hid (MB w w' s g r h n F2 F2 z [.int .i64 c0, .int .i64 c1, .int .i64 c2, .int .i64 c3]) := t1; have d0 : w'.cell? ⟨z, 0, none⟩ = some (.int .i64 c0) := t1.ak.cell 0; have d1 : w'.cell? ⟨z, 1, none⟩ = some (.int .i64 c1) := t1.ak.cell 1; clear t1 U8 Kxa Kxb) | (go_at_call 25; refine (L9.out _ ?_).mono ?_; exact U9.out.sm ⟨rfl, rfl, rfl, rfl⟩; rintro e w' ⟨xc, rfl, hx, kx, t1⟩; have Kxc : Hid (xc < 18446744073709551616 ∧ ky xc = q2) := ⟨hx, kx⟩; have U10 : Hid (MB w w' s g r h n F2 F2 z [.int .i64 c0, .int .i64 c1, .int .i64 c2, .int .i64 c3]) := t1; have d0 : w'.cell? ⟨z, 0, none⟩ = some (.int .i64 c0) := t1.ak.cell 0; have d1 : w'.cell? ⟨z, 1, none⟩ = some (.int .i64 c1) := t1.ak.cell 1; clear t1 hx kx U9 L9) | (go_at_call 26; refine (L0.out _ ?_).mono ?_; exact U10.out.sm ⟨rfl, rfl, rfl, rfl⟩; rintro e w' ⟨xd, rfl, hx, kx, t1⟩; have Kxd : Hid (xd < 18446744073709551616 ∧ ky xd = q2) := ⟨hx, kx⟩; have U11 : Hid (MB w w' s g r h n F2 F2 z [.int .i64 c0, .int .i64 c1, .int .i64 c2, .int .i64 c3]) := t1; have d0 : w'.cell? ⟨z, 0, none⟩ = some (.int .i64 c0) := t1.ak.cell 0; have d1 : w'.cell? ⟨z, 1, none⟩ = some (.int .i64 c1) := t1.ak.cell 1; clear t1 hx kx U10 L0) | (go_at_call 22; refine (LS.out _ xc xd Kxc.out.1 Kxd.out.1 (Kxc.out.2.trans Kxd.out.2.symm) ?_).mono ?_; exact U11.out.sm ⟨rfl, rfl, rfl, rfl⟩; rintro e w' ⟨rfl, t1⟩; have U12 : Hid (MB w w' s g r h n F2 F2 z [.int .i64 c0, .int .i64 c1, .int .i64 c2, .int .i64 c3]) := t1; have d0 : w'.cell? ⟨z, 0, none⟩ = some (.int .i64 c0) := t1.ak.cell 0; have d1 : w'.cell? ⟨z, 1, none⟩ = some (.int .i64 c1) := t1.ak.cell 1; clear t1 U11 Kxc Kxd))
        have FIN : Hid (M2 w _ s g r h n F2 F2) := U12.out.two
        clear U12
        go_wp2
        go_roundw
        case rel => exact ⟨k + 1, F2, by omega, by omega, OKN.out, ⟨FIN.out.p.heap rfl, FIN.out.q.heap rfl, ⟨FIN.out.bel.os, FIN.out.bel.tape, FIN.out.bel.output, FIN.out.bel.size, FIN.out.bel.block⟩, FIN.out.glo, FIN.out.hlo⟩, by go_num⟩
        case measure => simp [intOf]; omega
      · skip
        have P1 : Hid (∀ u, MB w u s g r h n F F z [.int .i64 c0, .int .i64 c1, .int .i64 c2, .int .i64 c3] → _) := fun u t => mb_rest (u := u) t OKW.out c0 c1 c2 c3 ⟨rfl, rfl, rfl, rfl⟩
        have P2 : Hid (∀ u, MB w u s g r h n (rsF n F c0 c1 c2 c3) F z [.int .i64 c0, .int .i64 c1, .int .i64 c2, .int .i64 c3] → _) := fun u t => mbr_rest (u := u) t OKW.out c0 c1 c2 c3 ⟨rfl, rfl, rfl, rfl⟩
        have OKN : Hid (OkF n (rsF n F c0 c1 c2 c3) (((k + 1 : Nat) : Int) * 2147483648)) := OKB.out
        generalize rsF n F c0 c1 c2 c3 = F2 at *
        generalize rsE n F c0 c1 c2 c3 = v0 at *
        have OK2 : Hid (OkF n F2 1000000000000) := fun i hi => (OKN.out i hi).mono (by omega)
        have e0 : (v0 != v0) = false := by simp
        clear OKA OKB OKW
        go_wp2_with fail
        go_region_held3 (fun w' => w'.cell? ⟨z, 0, none⟩ = some (.int .i64 c0) ∧ w'.cell? ⟨z, 1, none⟩ = some (.int .i64 c1) ∧ w'.cell? ⟨z, 2, none⟩ = some (.int .i64 c2) ∧ w'.cell? ⟨z, 3, none⟩ = some (.int .i64 c3)) (go_keep)
          (first | (go_at_call 14; refine (P1.out _ ?_).mono ?_; exact Q0.out.sm ⟨rfl, rfl, rfl, rfl⟩; rintro e w' ⟨rfl, t1⟩; have T1 : Hid (MB w w' s g r h n F2 F z [.int .i64 c0, .int .i64 c1, .int .i64 c2, .int .i64 c3]) := t1; have d0 : w'.cell? ⟨z, 0, none⟩ = some (.int .i64 c0) := t1.ak.cell 0; have d1 : w'.cell? ⟨z, 1, none⟩ = some (.int .i64 c1) := t1.ak.cell 1; have d2 : w'.cell? ⟨z, 2, none⟩ = some (.int .i64 c2) := t1.ak.cell 2; have d3 : w'.cell? ⟨z, 3, none⟩ = some (.int .i64 c3) := t1.ak.cell 3; clear t1 Q0 P1) | (go_at_call 15; refine (P2.out _ ?_).mono ?_; exact T1.out.sm ⟨rfl, rfl, rfl, rfl⟩; rintro e w' ⟨rfl, t1⟩; have T2 : Hid (MB w w' s g r h n F2 F2 z [.int .i64 c0, .int .i64 c1, .int .i64 c2, .int .i64 c3]) := t1; have d0 : w'.cell? ⟨z, 0, none⟩ = some (.int .i64 c0) := t1.ak.cell 0; have d1 : w'.cell? ⟨z, 1, none⟩ = some (.int .i64 c1) := t1.ak.cell 1; have d2 : w'.cell? ⟨z, 2, none⟩ = some (.int .i64 c2) := t1.ak.cell 2; have d3 : w'.cell? ⟨z, 3, none⟩ = some (.int .i64 c3) := t1.ak.cell 3; clear t1 T1 P2))
        have U0 : Hid (MB w _ s g r h n F2 F2 z [.int .i64 c0, .int .i64 c1, .int .i64 c2, .int .i64 c3]) := T2.out
        have L1 : Hid (∀ u, MB w u s g r h n F2 F2 z [.int .i64 c0, .int .i64 c1, .int .i64 c2, .int .i64 c3] → _) := fun u t => mb_energy (u := u) t c0 ⟨rfl, rfl, rfl, rfl⟩
        have L2 : Hid (∀ u, MB w u s g r h n F2 F2 z [.int .i64 c0, .int .i64 c1, .int .i64 c2, .int .i64 c3] → _) := fun u t => mbr_energy (u := u) t c0 ⟨rfl, rfl, rfl, rfl⟩
        have L3 : Hid (∀ u, MB w u s g r h n F2 F2 z [.int .i64 c0, .int .i64 c1, .int .i64 c2, .int .i64 c3] → _) := fun u t => mb_ticks (u := u) t c0 ⟨rfl, rfl, rfl, rfl⟩
        have L4 : Hid (∀ u, MB w u s g r h n F2 F2 z [.int .i64 c0, .int .i64 c1, .int .i64 c2, .int .i64 c3] → _) := fun u t => mbr_ticks (u := u) t OK2.out c0 ⟨rfl, rfl, rfl, rfl⟩
        have L5 : Hid (∀ u, MB w u s g r h n F2 F2 z [.int .i64 c0, .int .i64 c1, .int .i64 c2, .int .i64 c3] → _) := fun u t => mb_rested (u := u) t c0 c1 ⟨rfl, rfl, rfl, rfl⟩
        have L6 : Hid (∀ u, MB w u s g r h n F2 F2 z [.int .i64 c0, .int .i64 c1, .int .i64 c2, .int .i64 c3] → _) := fun u t => mbr_rested (u := u) t c0 c1 ⟨rfl, rfl, rfl, rfl⟩
        have L7 : Hid (∀ u, MB w u s g r h n F2 F2 z [.int .i64 c0, .int .i64 c1, .int .i64 c2, .int .i64 c3] → _) := fun u t => mb_average (u := u) t c0 ⟨rfl, rfl, rfl, rfl⟩
        have L8 : Hid (∀ u, MB w u s g r h n F2 F2 z [.int .i64 c0, .int .i64 c1, .int .i64 c2, .int .i64 c3] → _) := fun u t => mbr_average (u := u) t OK2.out c0 ⟨rfl, rfl, rfl, rfl⟩
        have L9 : Hid (∀ u, MB w u s g r h n F2 F2 z [.int .i64 c0, .int .i64 c1, .int .i64 c2, .int .i64 c3] → _) := fun u t => mb_share (u := u) t c0 c1 ⟨rfl, rfl, rfl, rfl⟩
        have L0 : Hid (∀ u, MB w u s g r h n F2 F2 z [.int .i64 c0, .int .i64 c1, .int .i64 c2, .int .i64 c3] → _) := fun u t => mbr_share (u := u) t OK2.out c0 c1 ⟨rfl, rfl, rfl, rfl⟩
        have LS : Hid (∀ u x y, x < 18446744073709551616 → y < 18446744073709551616 → ky x = ky y → MB w u s g r h n F2 F2 z [.int .i64 c0, .int .i64 c1, .int .i64 c2, .int .i64 c3] → _) := fun u x y hx hy e t => mb_same (u := u) t x y hx hy e ⟨rfl, rfl, rfl, rfl⟩
        generalize rt (enB n F2 c0) (tkB n F2 c0) = q1 at *
        generalize rt (rsB n F2 c0 c1) (tkB n F2 c0) = q2 at *
        generalize enB n F2 c0 = v1 at *
        generalize tkB n F2 c0 = v2 at *
        generalize rsB n F2 c0 c1 = v3 at *
        have e1 : (v1 != v1) = false := by simp
        have e2 : (v2 != v2) = false := by simp
        have e3 : (v3 != v3) = false := by simp
        clear T2
        go_wp2_with fail
        (try simp only [List.append])
        go_region_held3 (fun w' => w'.cell? ⟨z, 0, none⟩ = some (.int .i64 c0) ∧ w'.cell? ⟨z, 1, none⟩ = some (.int .i64 c1)) (go_keep)
          (first | (go_at_call 16; refine (L1.out _ ?_).mono ?_; exact U0.out.sm ⟨rfl, rfl, rfl, rfl⟩; rintro e w' ⟨rfl, t1⟩; have U1 : Hid (MB w w' s g r h n F2 F2 z [.int .i64 c0, .int .i64 c1, .int .i64 c2, .int .i64 c3]) := t1; have d0 : w'.cell? ⟨z, 0, none⟩ = some (.int .i64 c0) := t1.ak.cell 0; have d1 : w'.cell? ⟨z, 1, none⟩ = some (.int .i64 c1) := t1.ak.cell 1; clear t1 U0 L1) | (go_at_call 17; refine (L2.out _ ?_).mono ?_; exact U1.out.sm ⟨rfl, rfl, rfl, rfl⟩; rintro e w' ⟨rfl, t1⟩; have U2 : Hid (MB w w' s g r h n F2 F2 z [.int .i64 c0, .int .i64 c1, .int .i64 c2, .int .i64 c3]) := t1; have d0 : w'.cell? ⟨z, 0, none⟩ = some (.int .i64 c0) := t1.ak.cell 0; have d1 : w'.cell? ⟨z, 1, none⟩ = some (.int .i64 c1) := t1.ak.cell 1; clear t1 U1 L2) | (go_at_call 18; refine (L3.out _ ?_).mono ?_; exact U2.out.sm ⟨rfl, rfl, rfl, rfl⟩; rintro e w' ⟨rfl, t1⟩; have U3 : Hid (MB w w' s g r h n F2 F2 z [.int .i64 c0, .int .i64 c1, .int .i64 c2, .int .i64 c3]) := t1; have d0 : w'.cell? ⟨z, 0, none⟩ = some (.int .i64 c0) := t1.ak.cell 0; have d1 : w'.cell? ⟨z, 1, none⟩ = some (.int .i64 c1) := t1.ak.cell 1; clear t1 U2 L3) | (go_at_call 19; refine (L4.out _ ?_).mono ?_; exact U3.out.sm ⟨rfl, rfl, rfl, rfl⟩; rintro e w' ⟨rfl, t1⟩; have U4 : Hid (MB w w' s g r h n F2 F2 z [.int .i64 c0, .int .i64 c1, .int .i64 c2, .int .i64 c3]) := t1; have d0 : w'.cell? ⟨z, 0, none⟩ = some (.int .i64 c0) := t1.ak.cell 0; have d1 : w'.cell? ⟨z, 1, none⟩ = some (.int .i64 c1) := t1.ak.cell 1; clear t1 U3 L4) | (go_at_call 20; refine (L5.out _ ?_).mono ?_; exact U4.out.sm ⟨rfl, rfl, rfl, rfl⟩; rintro e w' ⟨rfl, t1⟩; have U5 : Hid (MB w w' s g r h n F2 F2 z [.int .i64 c0, .int .i64 c1, .int .i64 c2, .int .i64 c3]) := t1; have d0 : w'.cell? ⟨z, 0, none⟩ = some (.int .i64 c0) := t1.ak.cell 0; have d1 : w'.cell? ⟨z, 1, none⟩ = some (.int .i64 c1) := t1.ak.cell 1; clear t1 U4 L5) | (go_at_call 21; refine (L6.out _ ?_).mono ?_; exact U5.out.sm ⟨rfl, rfl, rfl, rfl⟩; rintro e w' ⟨rfl, t1⟩; have U6 : Hid (MB w w' s g r h n F2 F2 z [.int .i64 c0, .int .i64 c1, .int .i64 c2, .int .i64 c3]) := t1; have d0 : w'.cell? ⟨z, 0, none⟩ = some (.int .i64 c0) := t1.ak.cell 0; have d1 : w'.cell? ⟨z, 1, none⟩ = some (.int .i64 c1) := t1.ak.cell 1; clear t1 U5 L6) | (go_at_call 23; refine (L7.out _ ?_).mono ?_; exact U6.out.sm ⟨rfl, rfl, rfl, rfl⟩; rintro e w' ⟨xa, rfl, hx, kx, t1⟩; have Kxa : Hid (xa < 18446744073709551616 ∧ ky xa = q1) := ⟨hx, kx⟩; have U7 : Hid (MB w w' s g r h n F2 F2 z [.int .i64 c0, .int .i64 c1, .int .i64 c2, .int .i64 c3]) := t1; have d0 : w'.cell? ⟨z, 0, none⟩ = some (.int .i64 c0) := t1.ak.cell 0; have d1 : w'.cell? ⟨z, 1, none⟩ = some (.int .i64 c1) := t1.ak.cell 1; clear t1 hx kx U6 L7) | (go_at_call 24; refine (L8.out _ ?_).mono ?_; exact U7.out.sm ⟨rfl, rfl, rfl, rfl⟩; rintro e w' ⟨xb, rfl, hx, kx, t1⟩; have Kxb : Hid (xb < 18446744073709551616 ∧ ky xb = q1) := ⟨hx, kx⟩; have U8 : Hid (MB w w' s g r h n F2 F2 z [.int .i64 c0, .int .i64 c1, .int .i64 c2, .int .i64 c3]) := t1; have d0 : w'.cell? ⟨z, 0, none⟩ = some (.int .i64 c0) := t1.ak.cell 0; have d1 : w'.cell? ⟨z, 1, none⟩ = some (.int .i64 c1) := t1.ak.cell 1; clear t1 hx kx U7 L8) | (go_at_call 22; refine (LS.out _ xa xb Kxa.out.1 Kxb.out.1 (Kxa.out.2.trans Kxb.out.2.symm) ?_).mono ?_; exact U8.out.sm ⟨rfl, rfl, rfl, rfl⟩; rintro e w' ⟨rfl, t1⟩; have U9 : Hid (MB w w' s g r h n F2 F2 z [.int .i64 c0, .int .i64 c1, .int .i64 c2, .int .i64 c3]) := t1; have d0 : w'.cell? ⟨z, 0, none⟩ = some (.int .i64 c0) := t1.ak.cell 0; have d1 : w'.cell? ⟨z, 1, none⟩ = some (.int .i64 c1) := t1.ak.cell 1; clear t1 U8 Kxa Kxb) | (go_at_call 25; refine (L9.out _ ?_).mono ?_; exact U9.out.sm ⟨rfl, rfl, rfl, rfl⟩; rintro e w' ⟨xc, rfl, hx, kx, t1⟩; have Kxc : Hid (xc < 18446744073709551616 ∧ ky xc = q2) := ⟨hx, kx⟩; have U10 : Hid (MB w w' s g r h n F2 F2 z [.int .i64 c0, .int .i64 c1, .int .i64 c2, .int .i64 c3]) := t1; have d0 : w'.cell? ⟨z, 0, none⟩ = some (.int .i64 c0) := t1.ak.cell 0; have d1 : w'.cell? ⟨z, 1, none⟩ = some (.int .i64 c1) := t1.ak.cell 1; clear t1 hx kx U9 L9) | (go_at_call 26; refine (L0.out _ ?_).mono ?_; exact U10.out.sm ⟨rfl, rfl, rfl, rfl⟩; rintro e w' ⟨xd, rfl, hx, kx, t1⟩; have Kxd : Hid (xd < 18446744073709551616 ∧ ky xd = q2) := ⟨hx, kx⟩; have U11 : Hid (MB w w' s g r h n F2 F2 z [.int .i64 c0, .int .i64 c1, .int .i64 c2, .int .i64 c3]) := t1; have d0 : w'.cell? ⟨z, 0, none⟩ = some (.int .i64 c0) := t1.ak.cell 0; have d1 : w'.cell? ⟨z, 1, none⟩ = some (.int .i64 c1) := t1.ak.cell 1; clear t1 hx kx U10 L0) | (go_at_call 22; refine (LS.out _ xc xd Kxc.out.1 Kxd.out.1 (Kxc.out.2.trans Kxd.out.2.symm) ?_).mono ?_; exact U11.out.sm ⟨rfl, rfl, rfl, rfl⟩; rintro e w' ⟨rfl, t1⟩; have U12 : Hid (MB w w' s g r h n F2 F2 z [.int .i64 c0, .int .i64 c1, .int .i64 c2, .int .i64 c3]) := t1; have d0 : w'.cell? ⟨z, 0, none⟩ = some (.int .i64 c0) := t1.ak.cell 0; have d1 : w'.cell? ⟨z, 1, none⟩ = some (.int .i64 c1) := t1.ak.cell 1; clear t1 U11 Kxc Kxd))
        have FIN : Hid (M2 w _ s g r h n F2 F2) := U12.out.two
        clear U12
        go_wp2
        go_roundw
        case rel => exact ⟨k + 1, F2, by omega, by omega, OKN.out, ⟨FIN.out.p.heap rfl, FIN.out.q.heap rfl, ⟨FIN.out.bel.os, FIN.out.bel.tape, FIN.out.bel.output, FIN.out.bel.size, FIN.out.bel.block⟩, FIN.out.glo, FIN.out.hlo⟩, by go_num⟩
        case measure => simp [intOf]; omega

set_option maxRecDepth 100000 in
theorem lifted (os : Os) (started : os.Started) (H : Type) (enc : TypeId × Value → H) :
    ReturnsInHanded {} Try.checked os 3 .any (Rows.meterPlaysSpec.pre6 enc Try.prog Try.f3 Rows.meterPlaysRow.domain false) (Rows.meterPlaysSpec.post enc Try.prog Try.f3 false true false false) := by
  refine returnsInHanded_of_change (C := Try.checked) own started (by kernel_rfl) Try.func3
    (ChangeSpec.witness6 (enc := enc) (C := Try.checked) false ⟨#[], #[.int .i64 0, .slice none 0 0], []⟩ 8 (by kernel_rfl) (by kernel_rfl) (by kernel_rfl) (by kernel_rfl)) ?_
  intro W base args ds gs before hval0 hW hcnd _
  have hval : ∀ (j : Nat) t v, Try.f3.params[j]? = some t → args[j]? = some v → Value.okWide Try.prog W .any base t v := hval0
  have hW' := hW
  obtain ⟨p, q, hA0, hV, rfl, hfz, hnd⟩ := hW
  have hA : DataW.TrodAll enc Try.prog W 0 (fun _ => true) true Try.f3.params.toList args.toList ds p := hA0
  rw [Try.params3] at hA hval
  obtain ⟨v0, vs0, d0, ds0, p0, q0, hargs, rfl, rfl, h0, r0⟩ := trodAll_cons hA
  obtain ⟨v1, vs1, d1, ds1, p1, q1, rfl, rfl, rfl, h1, r1⟩ := trodAll_cons r0
  obtain ⟨rfl, rfl, rfl⟩ := trodAll_nil r1
  obtain rfl : args = #[v0, v1] := by cases args; simp_all
  obtain ⟨rfl, rfl⟩ := trodVars_none hV
  obtain ⟨a0, rfl, rfl, rfl, w0⟩ := open_int Try.underlying3 (hval 0 3 v0 rfl rfl) h0
  obtain ⟨a1, len1, cap1, rfl⟩ := okWide_slice Try.underlying22 (hval 1 22 v1 rfl rfl)
  have k1 := h1
  have lt1 : ∀ x ∈ p1, x.block < W.heap.size := by obtain ⟨m, hm⟩ := k1; exact DataW.trod_lt m _ _ _ hm
  obtain ⟨X1, w1, z1⟩ : ∃ X : Nat → Nat → Int, SRow W (.slice a1 len1 cap1) len1 [true, true, true, true] X ∧ ∀ i, i < len1 → ∀ j, j < [true, true, true, true].length → [true, true, true, true].getD j true = true → (Lit.int .i64 (X i j)).wf = true := by
    obtain ⟨fuel, hf⟩ := h1
    exact open_recs [true, true, true, true] Try.underlying22 Try.underlying32 (by kernel_rfl) rfl (by decide) (fun | 0, _ => ⟨_, rfl, rfl, by kernel_rfl, Try.underlying3⟩ | 1, _ => ⟨_, rfl, rfl, by kernel_rfl, Try.underlying3⟩ | 2, _ => ⟨_, rfl, rfl, by kernel_rfl, Try.underlying2⟩ | 3, _ => ⟨_, rfl, rfl, by kernel_rfl, Try.underlying2⟩ | n + 4, h => absurd h (by simp only [List.length]; omega)) hf
  clear hA0 hval0
  refine (walk a0 a1 len1 cap1 X1 W w0 w1 z1).mono fun e W' ⟨he, bel⟩ => ?_
  subst he
  exact ⟨_, rfl, _, _, _, [], _, [], hW', trodAll_mk1 (shut_bool Try.underlying4 _), (trodAll_cons_mk (shut_int Try.underlying3 w0) (trodAll_cons_mk (Below.trod laidOut (by kernel_rfl) (of_decide_eq_true (by kernel_rfl)) k1 bel lt1) trodAll_mk0)), rfl, bel.frame _, fun h => by cases h⟩

theorem over : Rows.MeterPlaysSaid :=
  OpenClaim.holds_of_wide 3 Try.f3 rfl rfl rfl rfl rfl rfl rfl ⟨rfl, rfl, rfl, rfl, rfl⟩ rfl rfl rfl rfl rfl (by kernel_rfl) Try.func3 (by kernel_rfl)
    (of_decide_eq_true (by kernel_rfl)) (by unfold Func.isWrapper; first | (rw [if_pos (by decide +kernel)]; kernel_rfl) | (rw [if_neg (by decide +kernel)]; exact ⟨rfl, rfl⟩))
    (fun os started H enc _ => lifted os started H enc)
end Go.Proofs.Ytmelbbojanomiaa.meterPlays

namespace Go.Proofs.Ytmelbbojanomiaa
open Go
theorem meterPlays_holds : Rows.MeterPlaysSaid := meterPlays.over
#print axioms meterPlays_holds
end Go.Proofs.Ytmelbbojanomiaa
