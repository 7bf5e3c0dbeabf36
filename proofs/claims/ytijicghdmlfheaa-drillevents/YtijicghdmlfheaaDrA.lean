/- Drill's laws of events and scripts. -/
import Derived.Test.YtijicghdmlfheaaRows
import Derived.Test.YtijicghdmlfheaaDr9
import Derived.WalkKit
import Derived.ProofKit
import Derived.OpenShut
import Derived.BigQuiet
import Derived.BigGuard
import Derived.Carry
namespace Go.Proofs.Ytijicghdmlfheaa.Dri
open Go.ChangeShapes Go.WideShapes Go.ChangeAt Go.RowKit
open Mm
set_option linter.unusedVariables false
set_option linter.unusedSimpArgs false
set_option maxRecDepth 100000

def eN (x : Nat) (c : Int) : Ev := if okc c = true then evN x c else ez
def eS (x : Nat) (c : Int) : Nat := if okc c = true then evS x else x
theorem okc_of {c : Int} (h : okc c = true) : 1 ≤ c ∧ c ≤ 64 := by
  unfold okc at h
  simpa using h
section
variable {w u v : World} {x y : Nat}
theorem R2.ev1 (h : R2 w x y u) (c : Int) :
    Calls Try.prog 11 #[.pointer (some ⟨w.heap.size, 0, none⟩), .int .i64 c] u fun e w' => e = .returned (evV (eN x c)) ∧ R2 w (eS x c) y w' := by
  unfold eN eS
  by_cases hc : okc c = true
  · rw [if_pos hc, if_pos hc]
    exact (ev_any w.heap.size x c u h.d1 h.l1 (okc_of hc).1 (okc_of hc).2).mono fun e w' ⟨h1, h2, h3⟩ => ⟨h1, h.fst h2 h3 (evS_lt x)⟩
  · rw [if_neg hc, if_neg hc]
    exact (ev_no w.heap.size c u (by simpa using hc)).mono fun e w' ⟨h1, h2⟩ => ⟨h1, h.below h2⟩
theorem R2.ev2 (h : R2 w x y u) (c : Int) :
    Calls Try.prog 12 #[.pointer (some ⟨w.heap.size + 1, 0, none⟩), .int .i64 c] u fun e w' => e = .returned (evV (eN y c)) ∧ R2 w x (eS y c) w' := by
  unfold eN eS
  by_cases hc : okc c = true
  · rw [if_pos hc, if_pos hc]
    exact (rev_any (w.heap.size + 1) y c u h.d2 h.l2 (okc_of hc).1 (okc_of hc).2).mono fun e w' ⟨h1, h2, h3⟩ => ⟨h1, h.snd h2 h3 (evS_lt y)⟩
  · rw [if_neg hc, if_neg hc]
    exact (rev_no (w.heap.size + 1) c u (by simpa using hc)).mono fun e w' ⟨h1, h2⟩ => ⟨h1, h.below h2⟩
end
/-- The script that is answered, and the error. -/
def sL (c : Int) (x : Nat) (m : Int) : List Ev := if oks c m = true then scr c x m.toNat else []
def sE (c : Int) (m : Int) : Int := if oks c m = true then 0 else 2
theorem sL_le (c : Int) (x : Nat) (m : Int) : (sL c x m).length ≤ 600 := by
  unfold sL
  split
  · rename_i h
    rw [scr_len]
    unfold oks at h
    simp at h
    omega
  · simp
set_option maxHeartbeats 4000000 in
theorem events_walk (c : Int) (x : Nat) (m : Int) (w : World) (hx : x < 18446744073709551616) :
    Calls Try.prog 4 #[.int .i64 c, .int .u64 (x : Int), .int .i64 m] w fun e w' => e = .returned (.bool true) ∧ Below w.heap.size w w' := by
  have CN : Hid (∀ v, _) := fun v => new_any x v
  have HK : Hid (∀ u, _) := fun u => dknown_yes u
  have CS : Hid (∀ v, _) := fun v => script_any c x m v hx
  have CR : Hid (∀ v, _) := fun v => rscript_any c x m v hx
  have R0 : Hid (R2 w x x ((w.alloc (.cells #[.int .u64 (x : Int)] 44)).alloc (.cells #[.int .u64 (x : Int)] 28))) := R2.new w x hx
  obtain ⟨Y, hY⟩ : ∃ Y, sL c x m = Y := ⟨_, rfl⟩
  obtain ⟨E, hE⟩ : ∃ E, sE c m = E := ⟨_, rfl⟩
  have YL : (Y.length : Int) ≤ 600 := by have := sL_le c x m; rw [hY] at this; omega
  have SP : Hid (∀ e w w', ScP c x m w e w' → ∃ v, e = .returned (.tuple #[v, .int .i64 E]) ∧ LRow evy w' v Y ∧ Below w.heap.size w w') := fun e w w' h => by rw [← hY, ← hE]; exact h
  have CM : Hid (∀ u v w, LRow evy w u Y → LRow evy w v Y → _) := fun u v w h1 h2 => rsame_any Y u v w (by omega) h1 h2
  clear hx hY hE
  go_enter Try.func4, Try.ntmps4
  go_wp2_with fail
  refine (CN.out _).mono ?_
  rintro e w1 ⟨rfl, rfl⟩
  go_wp2
  go_loopw [9] (fun i wr => ∃ k : Nat, (k : Int) ≤ 12 ∧ i = .int .i64 k ∧ Hid (∃ y, R2 w y y wr)) (fun i _ => 12 - (intOf i).toNat)
  case atStart => exact ⟨0, by omega, rfl, ⟨x, R0.out⟩⟩
  case round =>
    obtain ⟨k, hk, rfl, hy⟩ := hrel
    obtain ⟨y, H⟩ := hy.out
    clear hy
    by_cases h : (k : Int) < 12
    · have C1 : Hid (∀ _ : Unit, _) := fun _ => H.ev1 c
      have C2 : Hid (∀ u, R2 w (eS y c) y u → _) := fun u q => q.ev2 c
      have BW : Hid (Below w.heap.size w wr) := H.bel
      clear H
      generalize eS y c = y' at *
      generalize eN y c = V at *
      obtain ⟨q0, q1, q2, q3, q4⟩ := V
      dsimp only [evV] at C1 C2
      go_wp2_with fail
      refine (C1.out ()).mono ?_
      rintro e v1 ⟨rfl, g1⟩
      have G1 : Hid (R2 w y' y v1) := g1
      clear g1
      go_wp2_with fail
      refine (C2.out _ G1.out).mono ?_
      rintro e v2 ⟨rfl, g2⟩
      have G2 : Hid (R2 w y' y' v2) := g2
      clear g2 G1
      go_wp2
      go_roundw
      case rel => exact ⟨k + 1, by omega, by go_num, ⟨_, G2.out⟩⟩
      case measure => simp [intOf]; omega
    · have B0 : Hid (Below w.heap.size w wr) := H.bel
      clear H
      go_wp2_with fail
      refine (CS.out _).mono ?_
      rintro e v1 s1
      obtain ⟨X, rfl, r1, b1⟩ := SP.out _ _ _ s1
      clear s1
      have B1 : Hid (Below w.heap.size w v1) := B0.out.trans (b1.mono B0.out.size)
      have L1 : Hid (LRow evy v1 X Y) := r1
      clear r1 b1
      go_wp2_with fail
      refine (CR.out _).mono ?_
      rintro e v2 s2
      obtain ⟨Z, rfl, r2, b2⟩ := SP.out _ _ _ s2
      clear s2
      have B2 : Hid (Below w.heap.size w v2) := B1.out.trans (b2.mono B1.out.size)
      have L2 : Hid (LRow evy v2 X Y ∧ LRow evy v2 Z Y) := ⟨L1.out.below b2, r2⟩
      clear r2 b2
      go_wp2_with fail
      refine (CM.out _ _ _ L2.out.1 L2.out.2).mono ?_
      rintro e v3 ⟨rfl, s3⟩
      have B3 : Hid (Below w.heap.size w v3) := s3.below B2.out
      have ee : (E == E) = true := by simp
      clear s3
      go_wp2_with fail
      refine (HK.out _).mono ?_
      rintro e v4 ⟨rfl, b4⟩
      have B4 := B3.out.trans (b4.mono B3.out.size)
      clear b4
      go_wp2
      go_ret
      exact ⟨rfl, B4⟩
end Go.Proofs.Ytijicghdmlfheaa.Dri
