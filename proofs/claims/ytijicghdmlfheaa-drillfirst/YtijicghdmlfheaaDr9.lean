/- Drill's law of rolls: both dice, one roll after another. -/
import Derived.Test.YtijicghdmlfheaaRows
import Derived.Test.YtijicghdmlfheaaDr8
import Derived.Deep.RegionHeld3
import Derived.Deep.RegionHeldLaw
import Derived.WalkKit
import Derived.ProofKit
import Derived.OpenShut
import Derived.BigQuiet
import Derived.BigGuard
import Derived.Carry
namespace Go.Proofs.Ytijicghdmlfheaa.Dri
open Go.ChangeShapes Go.WideShapes Go.ChangeAt Go.RowKit
open Mm
set_option linter.unusedVariables false
set_option linter.unusedSimpArgs false
set_option maxRecDepth 100000

theorem rlS_lt' (x : Nat) (b : Int) (h : x < 18446744073709551616) : rlS x b < 18446744073709551616 := rlS_lt x b h
/-- Both dice, in the two blocks behind what was there. -/
structure R2 (w : World) (x1 x2 : Nat) (v : World) : Prop where
  bel : Below w.heap.size w v
  d1 : Blk v w.heap.size [.int .u64 (x1 : Int)] 44
  d2 : Blk v (w.heap.size + 1) [.int .u64 (x2 : Int)] 28
  l1 : x1 < 18446744073709551616
  l2 : x2 < 18446744073709551616
section
variable {w u v : World} {x y : Nat}
theorem R2.new (w : World) (x : Nat) (h : x < 18446744073709551616) : R2 w x x ((w.alloc (.cells #[.int .u64 (x : Int)] 44)).alloc (.cells #[.int .u64 (x : Int)] 28)) := by
  have z2 := Blk.new (w.alloc (.cells #[.int .u64 (x : Int)] 44)) [.int .u64 (x : Int)] 28
  rw [World.size_alloc] at z2
  exact ⟨((Below.refl _ _).alloc (Nat.le_refl _) _).alloc (by simp) _, (Blk.new w _ _).alloc _, z2, h, h⟩
theorem R2.sm (h : R2 w x y u) (s : Sm v u) : R2 w x y v := ⟨s.below h.bel, h.d1.heap s.1, h.d2.heap s.1, h.l1, h.l2⟩
theorem R2.fst {x' : Nat} (h : R2 w x y u) (k : Blk v w.heap.size [.int .u64 (x' : Int)] 44) (f : Fr u.heap.size [w.heap.size] u v) (hl : x' < 18446744073709551616) : R2 w x' y v :=
  ⟨h.bel.trans ((f.less h.bel.size).below (by simp)), k, h.d2.keep f h.d2.lt (by simp), hl, h.l2⟩
theorem R2.snd {y' : Nat} (h : R2 w x y u) (k : Blk v (w.heap.size + 1) [.int .u64 (y' : Int)] 28) (f : Fr u.heap.size [w.heap.size + 1] u v) (hl : y' < 18446744073709551616) : R2 w x y' v :=
  ⟨h.bel.trans ((f.less h.bel.size).below (by simp)), h.d1.keep f h.d1.lt (by simp), k, h.l1, hl⟩
theorem R2.below (h : R2 w x y u) (b : Below u.heap.size u v) : R2 w x y v :=
  ⟨h.bel.trans (b.mono h.bel.size), h.d1.keep (Fr.of_below b) h.d1.lt (by simp), h.d2.keep (Fr.of_below b) h.d2.lt (by simp), h.l1, h.l2⟩
theorem R2.one (h : R2 w x y u) (b : Int) (v : World) (s : Sm v u) :
    Calls Try.prog 8 #[.pointer (some ⟨w.heap.size, 0, none⟩), .int .i64 b] v fun e w' => e = .returned (.int .i64 (rlN x b)) ∧ R2 w (rlS x b) y w' :=
  (roll_any w.heap.size x b v (h.sm s).d1 h.l1).mono fun e w' ⟨h1, h2, h3⟩ => ⟨h1, (h.sm s).fst h2 h3 (rlS_lt x b h.l1)⟩
theorem R2.two (h : R2 w x y u) (b : Int) (v : World) (s : Sm v u) :
    Calls Try.prog 9 #[.pointer (some ⟨w.heap.size + 1, 0, none⟩), .int .i64 b] v fun e w' => e = .returned (.int .i64 (rlN y b)) ∧ R2 w x (rlS y b) w' :=
  (rroll_any (w.heap.size + 1) y b v (h.sm s).d2 h.l2).mono fun e w' ⟨h1, h2, h3⟩ => ⟨h1, (h.sm s).snd h2 h3 (rlS_lt y b h.l2)⟩
end
theorem nat_of {n : Int} (h : (Lit.int .u64 n).wf = true) : ∃ m : Nat, n = m ∧ m < 18446744073709551616 := by
  have h2 : 0 ≤ n ∧ n ≤ 18446744073709551615 := by simpa [Lit.wf, IntKind.bits, IntKind.signed, IntKind.min, IntKind.max] using h
  exact ⟨n.toNat, by omega, by omega⟩
theorem cell_lt {w : World} {p : Addr} {v : Value} (h : w.cell? p = some v) : p.block < w.heap.size := by
  by_cases q : p.block < w.heap.size
  · exact q
  · exfalso
    have e : w.heap[p.block]? = none := Array.getElem?_eq_none (by omega)
    simp [World.cell?, e] at h
set_option maxHeartbeats 4000000 in
theorem rolls_walk (x : Nat) (xs : List Int) (a : Option Addr) (cap : Nat) (w : World) (hx : x < 18446744073709551616) (hr : Row w (.slice a xs.length cap) xs) (hk : ∀ u, Calls Try.prog 10 #[] u fun e w' => e = .returned (.bool true) ∧ Below u.heap.size u w') :
    Calls Try.prog 3 #[.int .u64 (x : Int), .slice a xs.length cap] w fun e w' => e = .returned (.bool true) ∧ Below w.heap.size w w' := by
  have HR : Hid (Row w (.slice a xs.length cap) xs) := hr
  have CN : Hid (∀ v, _) := fun v => new_any x v
  have HK : Hid (∀ u, _) := hk
  have R0 : Hid (R2 w x x ((w.alloc (.cells #[.int .u64 (x : Int)] 44)).alloc (.cells #[.int .u64 (x : Int)] 28))) := R2.new w x hx
  obtain ⟨n, hn⟩ : ∃ n, xs.length = n := ⟨_, rfl⟩
  have HN : Hid (xs.length = n) := hn
  rw [hn] at HR ⊢
  clear hr hk hx hn
  go_enter Try.func3, Try.ntmps3
  go_wp2_with fail
  refine (CN.out _).mono ?_
  rintro e w1 ⟨rfl, rfl⟩
  go_wp2
  go_loopw [7] (fun i wr => ∃ k : Nat, (k : Int) ≤ n ∧ (k : Int) ≤ 200 ∧ i = .int .i64 k ∧ Hid (∃ y, R2 w y y wr)) (fun i _ => 200 - (intOf i).toNat)
  case atStart => exact ⟨0, by omega, by omega, rfl, ⟨x, R0.out⟩⟩
  case round =>
    obtain ⟨k, hk, hk2, rfl, hy⟩ := hrel
    obtain ⟨y, H⟩ := hy.out
    clear hy
    have fin : Hid (∀ v, Below w.heap.size w v → Calls Try.prog 10 #[] v fun e w' => e = .returned (.bool true) ∧ Below w.heap.size w w') := fun v b => (HK.out v).mono fun e w' ⟨h1, h2⟩ => ⟨h1, b.trans (h2.mono b.size)⟩
    have HH : Hid (R2 w y y wr) := H
    by_cases h : (k : Int) < n
    · by_cases h2 : (k : Int) < 200
      · obtain ⟨b, off, rfl, hc⟩ := row_cell HR.out HN.out (Below.refl _ _) h
        have e1 : decide ((k : Int) < n) = true := decide_eq_true h
        have e2 : decide ((k : Int) < 200) = true := decide_eq_true h2
        generalize xs.getD k 0 = z at *
        have C1 : Hid (∀ v, Sm v wr → _) := fun v s => H.one z v s
        have C2 : Hid (∀ u v, R2 w (rlS y z) y u → Sm v u → _) := fun u v q s => q.two z v s
        have HC : Hid (∀ v, Below w.heap.size w v → v.cell? ⟨b, off + k, none⟩ = some (.int .i64 z)) := fun v bv => (bv.cell (p := ⟨b, off + k, none⟩) (cell_lt hc)).trans hc
        have hc := HC.out wr H.bel
        have bb : ((rlN y z) != (rlN y z)) = false := by simp
        have BW : Hid (Below w.heap.size w wr) := H.bel
        clear H fin
        generalize rlN y z = r at *
        generalize rlS y z = y' at *
        go_wp2_with fail
        go_region_held3 (fun w' => w'.cell? ⟨b, off + k, none⟩ = some (.int .i64 z)) (go_keep)
          (first | (go_at_call 8; refine (C1.out _ ?_).mono ?_; exact ⟨rfl, rfl, rfl, rfl⟩; rintro e v1 ⟨rfl, g1⟩; have c1 := HC.out v1 g1.bel; have G1 : Hid (R2 w y' y v1) := g1; clear g1) | (go_at_call 9; refine (C2.out v1 _ G1.out ?_).mono ?_; exact ⟨rfl, rfl, rfl, rfl⟩; rintro e v2 ⟨rfl, g2⟩; have c2 := HC.out v2 g2.bel; have G2 : Hid (R2 w y' y' v2) := g2; clear g2 G1 c1))
        all_goals go_wp2
        go_roundw
        case rel => exact ⟨k + 1, by omega, by omega, by go_num, ⟨_, G2.out.sm ⟨rfl, rfl, rfl, rfl⟩⟩⟩
        case measure => simp [intOf]; omega
      · have e2 : decide ((k : Int) < 200) = false := decide_eq_false h2
        have FB := fin.out wr H.bel
        clear H fin HH
        go_wp2_with fail
        refine FB.mono ?_
        rintro e v ⟨rfl, bv⟩
        go_wp2
        go_ret
        exact ⟨rfl, bv⟩
    · have e1 : decide ((k : Int) < n) = false := decide_eq_false h
      have FB := fin.out wr H.bel
      clear H fin HH
      go_wp2_with fail
      refine FB.mono ?_
      rintro e v ⟨rfl, bv⟩
      go_wp2
      go_ret
      exact ⟨rfl, bv⟩
end Go.Proofs.Ytijicghdmlfheaa.Dri
