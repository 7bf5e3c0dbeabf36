/- What the program's dice roll: numbers, kinds and cores. -/
import Derived.Test.YtijicghdmlfheaaRows
import Derived.Test.YtijicghdmlfheaaDr1
import Derived.Test.YtijicghdmlfheaaKam
import Derived.WalkKit
import Derived.ProofKit
import Derived.OpenShut
import Derived.BigQuiet
import Derived.BigGuard
import Derived.Carry
namespace Go.Proofs.Ytijicghdmlfheaa.Dri
open Go.ChangeShapes Go.WideShapes Go.ChangeAt Go.RowKit
open Mm
set_option linter.unusedVariables false
set_option linter.unusedSimpArgs false

theorem rlS_of {x : Nat} {b : Int} (h : vd b = true) : rlS x b = st x := by unfold rlS; rw [if_pos h]
theorem vd100 : vd 100 = true := rfl
theorem vd28 : vd 28 = true := rfl
theorem vd6 : vd 6 = true := rfl
theorem vd20 : vd 20 = true := rfl
theorem vd255 : vd 255 = true := rfl
def okc (c : Int) : Bool := decide (1 ≤ c) && decide (c ≤ 64)
theorem q33 (s : Nat) (h : s < 18446744073709551616) : wrap64 ((s : Int) / 8589934592) = ((s / 8589934592 : Nat) : Int) := by
  have e : ((s : Int) / 8589934592) = ((s / 8589934592 : Nat) : Int) := by simp
  rw [e]
  unfold wrap64
  omega

set_option maxRecDepth 100000 in
set_option maxHeartbeats 4000000 in
theorem roll_any (z x : Nat) (b : Int) (w : World) (h : Blk w z [.int .u64 (x : Int)] 44) (hx : x < 18446744073709551616) :
    Calls Try.prog 8 #[.pointer (some ⟨z, 0, none⟩), .int .i64 b] w fun e w' => e = .returned (.int .i64 (rlN x b)) ∧ Blk w' z [.int .u64 (rlS x b : Nat)] 44 ∧ Fr w.heap.size [z] w w' := by
  have HB : Hid (Blk w z [.int .u64 (x : Int)] 44) := h
  by_cases h1 : b < 1
  · have e1 : decide (b < 1) = true := decide_eq_true h1
    have v0 : vd b = false := by unfold vd; rw [decide_eq_false (by omega)]; rfl
    rw [show rlN x b = 0 by unfold rlN; rw [v0]; rfl, show rlS x b = x by unfold rlS; rw [v0]; rfl]
    clear h
    go_enter Try.func8, Try.ntmps8
    go_wp2
    go_ret
    exact ⟨rfl, HB.out, Fr.refl _ _ _⟩
  · have e1 : decide (b < 1) = false := decide_eq_false h1
    by_cases h2 : 2147483648 < b
    · have e2 : decide (2147483648 < b) = true := decide_eq_true h2
      have v0 : vd b = false := by unfold vd; rw [decide_eq_true (show 1 ≤ b by omega), decide_eq_false (by omega)]; rfl
      rw [show rlN x b = 0 by unfold rlN; rw [v0]; rfl, show rlS x b = x by unfold rlS; rw [v0]; rfl]
      clear h
      go_enter Try.func8, Try.ntmps8
      go_wp2
      go_ret
      exact ⟨rfl, HB.out, Fr.refl _ _ _⟩
    · have e2 : decide (2147483648 < b) = false := decide_eq_false h2
      have v1 : vd b = true := by unfold vd; rw [decide_eq_true (show 1 ≤ b by omega), decide_eq_true (by omega)]; rfl
      obtain ⟨c, rfl⟩ := Int.eq_ofNat_of_zero_le (show 0 ≤ b by omega)
      rw [show rlN x (c : Int) = ((st x / 8589934592 % c : Nat) : Int) by unfold rlN; rw [if_pos v1, Int.toNat_natCast], show rlS x (c : Int) = st x by unfold rlS; rw [if_pos v1]]
      have SI := st_int x
      have SL : Hid (st x < 18446744073709551616) := st_lt x
      have KS : Hid (Blk (w.setCell ⟨z, 0, none⟩ (.int .u64 (st x : Nat))) z [.int .u64 (st x : Nat)] 44) := h.set 0 _
      have FS : Hid (Fr w.heap.size [z] w (w.setCell ⟨z, 0, none⟩ (.int .u64 (st x : Nat)))) := (Fr.refl _ _ _).setCell (Or.inr (by simp)) _
      have c0 : w.cell? ⟨z, 0, none⟩ = some (.int .u64 (x : Int)) := h.cell 0
      have fz : w.frozen? ⟨z, 0, none⟩ = false := h.free 0
      have c1 : (w.setCell ⟨z, 0, none⟩ (.int .u64 (st x : Nat))).cell? ⟨z, 0, none⟩ = some (.int .u64 (st x : Nat)) := KS.out.cell 0
      have Q := q33 (st x) (st_lt x)
      have cz : ((c : Int) == 0) = false := by rw [beq_eq_false_iff_ne]; omega
      clear h
      generalize st x = s at *
      generalize s / 8589934592 = d at *
      go_enter Try.func8, Try.ntmps8
      go_wp2
      go_ret
      exact ⟨congrArg (fun n => Ending.returned (.int .i64 n)) (Int.natCast_emod d c).symm, KS.out, FS.out⟩

set_option maxRecDepth 100000 in
set_option maxHeartbeats 4000000 in
theorem cpus_any (c : Int) (w : World) :
    Calls Try.prog 16 #[.int .i64 c] w fun e w' => e = .returned (.bool (okc c)) ∧ w' = w := by
  unfold okc
  by_cases h1 : 1 ≤ c
  · by_cases h2 : c ≤ 64
    · rw [decide_eq_true h1, decide_eq_true h2]
      go_enter Try.func16, Try.ntmps16
      go_wp2
      go_ret
      exact ⟨rfl, rfl⟩
    · have e2 : decide (c ≤ 64) = false := decide_eq_false h2
      rw [decide_eq_true h1, e2]
      go_enter Try.func16, Try.ntmps16
      go_wp2
      go_ret
      exact ⟨rfl, rfl⟩
  · have e1 : decide (1 ≤ c) = false := decide_eq_false h1
    rw [e1]
    go_enter Try.func16, Try.ntmps16
    go_wp2
    go_ret
    exact ⟨rfl, rfl⟩

theorem two {a b c : World} {z : Nat} (f : Fr a.heap.size [z] a b) (g : Fr b.heap.size [z] b c) : Fr a.heap.size [z] a c := f.trans (g.less f.size)
/-- A roll of the program's dice, below a number of which there is one. -/
theorem roll_of {z x : Nat} {b : Int} {w : World} (hb : vd b = true) (h : Blk w z [.int .u64 (x : Int)] 44) (hx : x < 18446744073709551616) :
    Calls Try.prog 8 #[.pointer (some ⟨z, 0, none⟩), .int .i64 b] w fun e w' => e = .returned (.int .i64 (rlN x b)) ∧ Blk w' z [.int .u64 (st x : Nat)] 44 ∧ Fr w.heap.size [z] w w' := by
  have := roll_any z x b w h hx
  rwa [rlS_of hb] at this

set_option maxRecDepth 100000 in
set_option maxHeartbeats 4000000 in
theorem kind_any (z x : Nat) (w : World) (h : Blk w z [.int .u64 (x : Int)] 44) (hx : x < 18446744073709551616) :
    Calls Try.prog 17 #[.pointer (some ⟨z, 0, none⟩)] w fun e w' => e = .returned (.int .i64 (kdN x)) ∧ Blk w' z [.int .u64 (kdS x : Nat)] 44 ∧ Fr w.heap.size [z] w w' := by
  have C : Hid (∀ _ : Unit, _) := fun _ => roll_of vd100 h hx
  have D : Hid (∀ v, Blk v z [.int .u64 (st x : Nat)] 44 → _) := fun v k => roll_of (w := v) vd28 k (st_lt x)
  have KN : Hid (kdN x = if rlN x 100 < 60 then 1 else if rlN x 100 < 66 then 2 else 3 + rlN (st x) 28) := rfl
  have KS : Hid (kdS x = if rlN x 100 < 66 then st x else st (st x)) := rfl
  have rg := rl_rg (st x) 28
  have g2 := rg.2 vd28
  have g1 := rg.1
  clear rg h
  generalize kdN x = K at *
  generalize kdS x = S at *
  generalize rlN x 100 = k at *
  generalize rlN (st x) 28 = k2 at *
  have aw : wrap64 (3 + k2) = 3 + k2 := by unfold wrap64; omega
  generalize st (st x) = y2 at *
  generalize st x = y1 at *
  go_enter Try.func17, Try.ntmps17
  go_wp2_with fail
  refine (C.out ()).mono ?_
  rintro e w1 ⟨rfl, b1, f1⟩
  have B1 : Hid (Blk w1 z [.int .u64 (y1 : Nat)] 44 ∧ Fr w.heap.size [z] w w1) := ⟨b1, f1⟩
  clear b1 f1
  by_cases h1 : k < 60
  · have e1 : decide (k < 60) = true := decide_eq_true h1
    rw [if_pos h1] at KN
    rw [if_pos (show k < 66 by omega)] at KS
    obtain rfl := KS.out
    go_wp2
    go_ret
    exact ⟨congrArg (fun n => Ending.returned (.int .i64 n)) KN.out.symm, B1.out⟩
  · have e1 : decide (k < 60) = false := decide_eq_false h1
    by_cases h2 : k < 66
    · have e2 : decide (k < 66) = true := decide_eq_true h2
      rw [if_neg h1, if_pos h2] at KN
      rw [if_pos h2] at KS
      obtain rfl := KS.out
      go_wp2
      go_ret
      exact ⟨congrArg (fun n => Ending.returned (.int .i64 n)) KN.out.symm, B1.out⟩
    · have e2 : decide (k < 66) = false := decide_eq_false h2
      rw [if_neg h1, if_neg h2] at KN
      rw [if_neg h2] at KS
      obtain rfl := KS.out
      go_wp2_with fail
      refine (D.out _ B1.out.1).mono ?_
      rintro e w2 ⟨rfl, b2, f2⟩
      have B2 : Hid (Blk w2 z [.int .u64 (S : Nat)] 44 ∧ Fr w.heap.size [z] w w2) := ⟨b2, two B1.out.2 f2⟩
      clear b2 f2
      go_wp2
      go_ret
      exact ⟨congrArg (fun n => Ending.returned (.int .i64 n)) KN.out.symm, B2.out⟩

theorem up_lt' (c : Int) : up c < 18446744073709551616 := up_lt c
theorem and_lt' {a b : Nat} (h : a < 18446744073709551616) : a &&& b < 18446744073709551616 := Nat.lt_of_le_of_lt Nat.and_le_left h
theorem mk_lt (x : Nat) : mk x < 18446744073709551616 := by
  have := rl_rg x 255
  have := this.2 vd255
  show (rlN x 255).toNat + 1 < _
  omega
set_option maxRecDepth 100000 in
set_option maxHeartbeats 4000000 in
theorem cores_any (z x : Nat) (c : Int) (w : World) (h : Blk w z [.int .u64 (x : Int)] 44) (hx : x < 18446744073709551616) :
    Calls Try.prog 18 #[.pointer (some ⟨z, 0, none⟩), .int .i64 c] w fun e w' => e = .returned (.int .u64 (mkc x c : Nat)) ∧ Blk w' z [.int .u64 (st x : Nat)] 44 ∧ Fr w.heap.size [z] w w' := by
  have C : Hid (∀ _ : Unit, _) := fun _ => roll_of vd255 h hx
  have CU : Hid (∀ v, _) := fun v => kupto_any c v
  have CA : Hid (∀ v, _) := fun v => kand_any (mk x) (up c) v (mk_lt x) (up_lt c)
  have CM : Hid (∀ v, _) := fun v => kmany_any (mk x &&& up c) v (and_lt' (mk_lt x))
  have rg := rl_rg x 255
  have g2 := rg.2 vd255
  have g1 := rg.1
  have aw : wrap64 (rlN x 255 + 1) = rlN x 255 + 1 := by unfold wrap64; omega
  have wu : IntKind.u64.wrap (rlN x 255 + 1) = ((mk x : Nat) : Int) := by rw [wu64]; unfold mk; omega
  have EQ : Hid (mkc x c = if mk x &&& up c = 0 then 1 else mk x &&& up c) := rfl
  have LM := and_lt' (b := up c) (mk_lt x)
  have LZ := ls_nil (mk x &&& up c) LM
  generalize mkc x c = M at *
  generalize mk x &&& up c = m at *
  generalize mk x = m0 at *
  generalize up c = u at *
  generalize rlN x 255 = k at *
  generalize st x = y1 at *
  clear h rg
  by_cases hz : m = 0
  · subst hz
    rw [ls_zero] at CM
    rw [if_pos rfl] at EQ
    clear LZ
    go_enter Try.func18, Try.ntmps18
    go_wp2_with fail
    refine (C.out ()).mono ?_
    rintro e w1 ⟨rfl, b1, f1⟩
    have B1 : Hid (Blk w1 z [.int .u64 (y1 : Nat)] 44 ∧ Fr w.heap.size [z] w w1) := ⟨b1, f1⟩
    clear b1 f1
    go_wp2_with fail
    refine (CU.out _).mono ?_
    rintro e w2 ⟨rfl, rfl⟩
    go_wp2_with fail
    refine (CA.out _).mono ?_
    rintro e w3 ⟨rfl, rfl⟩
    go_wp2_with fail
    refine (CM.out _).mono ?_
    rintro e w4 ⟨rfl, rfl⟩
    have CO : Hid (Calls Try.prog 25 #[.slice (some ⟨w4.heap.size, 0, none⟩) 1 1] (w4.alloc (.cells #[.int .i64 0] 3)) fun e w' => e = .returned (.int .u64 1) ∧ w' = w4.alloc (.cells #[.int .i64 0] 3)) :=
      kof_any [0] (.slice (some ⟨w4.heap.size, 0, none⟩) 1 1) (w4.alloc (.cells #[.int .i64 0] 3)) (by simp) (row_of_blk (xs := [0]) (Blk.new w4 [.int .i64 0] 3) 1)
    have b5 := B1.out.1.alloc (.cells #[.int .i64 0] 3)
    have f5 := B1.out.2.alloc B1.out.2.size (.cells #[.int .i64 0] 3)
    have B5 : Hid (Blk (w4.alloc (.cells #[.int .i64 0] 3)) z [.int .u64 (y1 : Nat)] 44 ∧ Fr w.heap.size [z] w (w4.alloc (.cells #[.int .i64 0] 3))) := ⟨b5, f5⟩
    clear b5 f5
    go_wp2_with fail
    refine CO.out.mono ?_
    rintro e w5 ⟨rfl, rfl⟩
    go_wp2
    go_ret
    exact ⟨congrArg (fun n : Nat => Ending.returned (.int .u64 n)) EQ.out.symm, B5.out⟩
  · rw [if_neg hz] at EQ
    have e1 : (((ls m).length : Int) == 0) = false := by
      rw [beq_eq_false_iff_ne]
      intro e
      exact hz (LZ (List.eq_nil_of_length_eq_zero (by omega)))
    generalize (ls m).length = L at *
    clear LZ hz
    go_enter Try.func18, Try.ntmps18
    go_wp2_with fail
    refine (C.out ()).mono ?_
    rintro e w1 ⟨rfl, b1, f1⟩
    have B1 : Hid (Blk w1 z [.int .u64 (y1 : Nat)] 44 ∧ Fr w.heap.size [z] w w1) := ⟨b1, f1⟩
    clear b1 f1
    go_wp2_with fail
    refine (CU.out _).mono ?_
    rintro e w2 ⟨rfl, rfl⟩
    go_wp2_with fail
    refine (CA.out _).mono ?_
    rintro e w3 ⟨rfl, rfl⟩
    go_wp2_with fail
    refine (CM.out _).mono ?_
    rintro e w4 ⟨rfl, rfl⟩
    go_wp2
    go_ret
    exact ⟨congrArg (fun n : Nat => Ending.returned (.int .u64 n)) EQ.out.symm, B1.out⟩
end Go.Proofs.Ytijicghdmlfheaa.Dri
