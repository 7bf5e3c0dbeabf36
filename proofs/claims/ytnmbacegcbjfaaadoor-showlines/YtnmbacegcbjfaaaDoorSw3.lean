/- Records as lines: a word as a kind, or as a field. -/
import Derived.Test.YtnmbacegcbjfaaaDoorRows
import Derived.Test.YtnmbacegcbjfaaaDoorSw2
import Derived.Test.YtnmbacegcbjfaaaDoorWse
import Derived.Test.YtnmbacegcbjfaaaDoorSr2
import Derived.WalkKit
import Derived.ProofKit
import Derived.OpenShut
import Derived.BigQuiet
import Derived.WalkSmall
import Derived.WalkSpells
namespace Go.Proofs.YtnmbacegcbjfaaaDoor
open Go.ChangeShapes Go.WideShapes Go.ChangeAt Go.RowKit
open Wd Mm
set_option linter.unusedVariables false
set_option linter.unusedSimpArgs false
set_option maxRecDepth 100000
open Sv

/-- The kinds' words as a value. -/
def nrv : List Value := [.string (sb (nrk 0)), .string (sb (nrk 1)), .string (sb (nrk 2)), .string (sb (nrk 3)), .string (sb (nrk 4)), .string (sb (nrk 5)), .string (sb (nrk 6)), .string (sb (nrk 7))]
theorem krOf_none {s : List UInt8} (h : ∀ k, k < 8 → nrk k ≠ s) : krOf s = 0 := by
  by_cases h0 : krOf s = 0
  · exact h0
  · have := krOf_some h0
    exact absurd this.2 (h _ this.1)
theorem nrv_idx (k : Nat) (h : k < 8) (W : World) : (Instr.index 39 (.agg nrv.toArray) (.int .i64 (k : Int))).run Tryd.prog W = .ok (.string (sb (nrk k))) W := by
  obtain rfl | rfl | rfl | rfl | rfl | rfl | rfl | rfl : k = 0 ∨ k = 1 ∨ k = 2 ∨ k = 3 ∨ k = 4 ∨ k = 5 ∨ k = 6 ∨ k = 7 := by omega
  all_goals rfl

set_option maxHeartbeats 4000000 in
theorem kof_any (s : List UInt8) (w : World) (g : GW w) :
    Calls Tryd.prog 38 #[.string (sb s)] w fun e w' => e = .returned (.int .i64 (krOf s : Nat)) ∧ w' = w := by
  have n0 := g.nr 0 (by omega)
  have n1 := g.nr 1 (by omega)
  have n2 := g.nr 2 (by omega)
  have n3 := g.nr 3 (by omega)
  have n4 := g.nr 4 (by omega)
  have n5 := g.nr 5 (by omega)
  have n6 := g.nr 6 (by omega)
  have n7 := g.nr 7 (by omega)
  have HX : Hid (∀ (k : Nat) (h : k < 8) (W : World), _) := fun k h W => nrv_idx k h W
  have HK : Hid (∀ k, k < 8 → nrk k = s → (∀ j, j < k → nrk j ≠ s) → krOf s = k) := fun k hk e hj => by
    rcases Nat.eq_zero_or_pos k with rfl | hp
    · rw [← e]
      exact krOf_nm ⟨0, by omega⟩
    · exact (nr_iff s k hp hk).1 e
  have HN : Hid ((∀ k, k < 8 → nrk k ≠ s) → krOf s = 0) := fun h => krOf_none h
  generalize krOf s = R1 at *
  dsimp only [nrv] at HX
  clear g
  go_enter Tryd.func38, Tryd.ntmps38
  go_wp2
  go_loop [6] (fun i => ∃ k : Nat, (k : Int) ≤ 8 ∧ i = .int .i64 k ∧ Hid (∀ j, j < k → nrk j ≠ s)) (fun i => 8 - (intOf i).toNat)
  case atStart => exact ⟨0, by omega, rfl, fun j h => by omega⟩
  case round =>
    obtain ⟨k, hk, rfl, hj⟩ := hrel
    by_cases h : (k : Int) < 8
    · have hx : ∀ W, _ := fun W => HX.out k (by omega) W
      have hh := HK.out k (by omega)
      by_cases he : nrk k = s
      · obtain rfl := hh he hj.out
        have q : (nrk R1 == s) = true := by rw [beq_iff_eq]; exact he
        generalize nrk R1 = nm at *
        clear he hh HK HN hj
        go_wp2
        go_ret
        exact ⟨rfl, rfl⟩
      · have q : (nrk k == s) = false := by rw [beq_eq_false_iff_ne]; exact he
        have HJ : Hid (∀ j, j < k + 1 → nrk j ≠ s) := fun j hjk => by
          by_cases e : j = k
          · rw [e]; exact he
          · exact hj.out j (by omega)
        generalize nrk k = nm at *
        clear he hh hj
        go_wp2
        go_round
        case rel => exact ⟨k + 1, by omega, by go_num, HJ⟩
        case measure => simp [intOf]; omega
    · obtain rfl : k = 8 := by omega
      obtain rfl := HN.out hj.out
      clear HK HN hj
      go_wp2
      go_ret
      exact ⟨rfl, rfl⟩

theorem ixl_f {l : UInt8} (h : ¬ isF l) : ixl l = -1 := by
  unfold isF at h
  unfold ixl
  rw [if_neg (fun e => h (Or.inl e)), if_neg (fun e => h (Or.inr (Or.inl e))), if_neg (fun e => h (Or.inr (Or.inr (Or.inl e)))), if_neg (fun e => h (Or.inr (Or.inr (Or.inr e))))]
/-- What put answers. -/
structure PutA (r : Sv.R) (x : List UInt8) (fb : Nat) (w w' : World) (e : Ending) : Prop where
  is : e = .returned (.bool (putR r x).isSome)
  bk : Blk w' fb (fls ((putR r x).getD r)) 41
  fr : Fr w.heap.size [fb] w w'

set_option maxHeartbeats 4000000 in
theorem put_any (r : Sv.R) (x : List UInt8) (hx : x.length ≤ 1000) (fb : Nat) (w : World) (g : GW w) (hb : Blk w fb (fls r) 41) :
    Calls Tryd.prog 39 #[.pointer (some ⟨fb, 0, none⟩), .string (sb x)] w fun e w' => PutA r x fb w w' e := by
  have HB : Hid (Blk w fb (fls r) 41) := hb
  cases x with
  | nil =>
    have q : (([] : List UInt8) == []) = true := rfl
    have PA : Hid (PutA r [] fb w w (.returned (.bool false))) := ⟨rfl, hb, Fr.refl _ _ _⟩
    clear g hb hx HB
    go_enter Tryd.func39, Tryd.ntmps39
    go_wp2
    go_ret
    exact PA.out
  | cons l d =>
    have q : ((l :: d) == []) = false := by rw [beq_eq_false_iff_ne]; simp
    have q2 : ¬ (l :: d = []) := by simp
    have i1 : ∀ W, _ := fun W => index_run (l :: d) 0 (by simp) W
    have j1 : ∀ W, _ := fun W => slice_from (l :: d) 1 (by simp) 1 rfl W
    rw [show (l :: d).drop 1 = d from rfl] at j1
    rw [show (l :: d)[0] = l from rfl, show (((0 : Nat)) : Int) = 0 from rfl] at i1
    have CI : Hid (∀ w, _) := fun w => idx_any l w
    have hd : d.length ≤ 281474976710656 := by simp at hx; omega
    have pos : (0 : Int) < ((l :: d).length : Nat) := by simp
    have UP : Hid (∀ w', Below w.heap.size w w' → putR r (l :: d) = none → PutA r (l :: d) fb w w' (.returned (.bool false))) := fun w' b e => ⟨by rw [e]; rfl, by rw [e]; exact HB.out.keep (Fr.of_below b) HB.out.lt (by simp), (Fr.of_below b).mono (Nat.le_refl _) (fun _ _ _ => by simp)⟩
    have UQ : Hid (∀ w' i v r', Below w.heap.size w w' → putR r (l :: d) = some r' → (fls r).set i v = fls r' → PutA r (l :: d) fb w (w'.setCell ⟨fb, i, none⟩ v) (.returned (.bool true))) := fun w' i v r' b e h => ⟨by rw [e]; rfl, by
      rw [e, Option.getD_some, ← h]
      exact (HB.out.keep (Fr.of_below b) HB.out.lt (by simp)).set i v, ((Fr.of_below b).mono (S' := [fb]) (Nat.le_refl _) (fun _ _ _ => by simp)).st fb i v (by simp)⟩
    have FI : Hid (∀ w', Below w.heap.size w w' → Blk w' fb (fls r) 41) := fun w' b => HB.out.keep (Fr.of_below b) HB.out.lt (by simp)
    have PE : Hid (putR r (l :: d) = if isF l then (pI d).map (stR r l) else none) := rfl
    cases hp : pI d with
    | none =>
      have CP : Hid (∀ _ : Unit, _) := fun _ => prs_none hp w g hd
      have U1 : Hid (∀ w', Below w.heap.size w w' → PutA r (l :: d) fb w w' (.returned (.bool false))) := fun w' b => UP.out w' b (by rw [PE.out, hp]; split <;> rfl)
      generalize l :: d = Y at *
      clear g hb hx hd UP UQ PE FI HB hp
      by_cases hf : isF l
      · have ix0 : ¬ ixl l < 0 := by rcases hf with rfl | rfl | rfl | rfl <;> decide
        have ix1 : decide (ixl l < 0) = false := decide_eq_false ix0
        generalize ixl l = X at *
        clear hf
        go_enter Tryd.func39, Tryd.ntmps39
        go_wp2_with fail
        refine (CI.out _).mono ?_
        rintro e u ⟨rfl, rfl⟩
        go_wp2_with fail
        refine (CP.out ()).mono ?_
        rintro e u2 ⟨⟨v, t, p, rfl⟩, b2⟩
        go_wp2
        go_ret
        exact U1.out _ b2
      · have ix0 := ixl_f hf
        rw [ix0] at CI
        clear hf ix0
        go_enter Tryd.func39, Tryd.ntmps39
        go_wp2_with fail
        refine (CI.out _).mono ?_
        rintro e u ⟨rfl, rfl⟩
        go_wp2_with fail
        refine (CP.out ()).mono ?_
        rintro e u2 ⟨⟨v, t, p, rfl⟩, b2⟩
        go_wp2
        go_ret
        exact U1.out _ b2
    | some v =>
      have CP : Hid (∀ _ : Unit, _) := fun _ => prs_some hp w g hd
      rw [hp] at PE
      by_cases hf : isF l
      · rw [if_pos hf] at PE
        have U2 : Hid (∀ w' i, Below w.heap.size w w' → (fls r).set i (.int .i64 v) = fls (stR r l v) → PutA r (l :: d) fb w (w'.setCell ⟨fb, i, none⟩ (.int .i64 v)) (.returned (.bool true))) := fun w' i b h => UQ.out w' i _ _ b PE.out h
        generalize l :: d = Y at *
        clear g hb hx hd UP UQ PE HB hp
        rcases hf with rfl | rfl | rfl | rfl
        · rw [show ixl 99 = 0 from rfl] at CI
          go_enter Tryd.func39, Tryd.ntmps39
          go_wp2_with fail
          refine (CI.out _).mono ?_
          rintro e u ⟨rfl, rfl⟩
          go_wp2_with fail
          refine (CP.out ()).mono ?_
          rintro e u2 ⟨rfl, b2⟩
          have c1 := (FI.out _ b2).cell 0
          have c2 := (FI.out _ b2).free 0
          go_wp2
          go_ret
          exact U2.out _ 0 b2 rfl
        · rw [show ixl 105 = 1 from rfl] at CI
          go_enter Tryd.func39, Tryd.ntmps39
          go_wp2_with fail
          refine (CI.out _).mono ?_
          rintro e u ⟨rfl, rfl⟩
          go_wp2_with fail
          refine (CP.out ()).mono ?_
          rintro e u2 ⟨rfl, b2⟩
          have c1 := (FI.out _ b2).cell 1
          have c2 := (FI.out _ b2).free 1
          go_wp2
          go_ret
          exact U2.out _ 1 b2 rfl
        · rw [show ixl 110 = 2 from rfl] at CI
          go_enter Tryd.func39, Tryd.ntmps39
          go_wp2_with fail
          refine (CI.out _).mono ?_
          rintro e u ⟨rfl, rfl⟩
          go_wp2_with fail
          refine (CP.out ()).mono ?_
          rintro e u2 ⟨rfl, b2⟩
          have c1 := (FI.out _ b2).cell 2
          have c2 := (FI.out _ b2).free 2
          go_wp2
          go_ret
          exact U2.out _ 2 b2 rfl
        · rw [show ixl 101 = 3 from rfl] at CI
          go_enter Tryd.func39, Tryd.ntmps39
          go_wp2_with fail
          refine (CI.out _).mono ?_
          rintro e u ⟨rfl, rfl⟩
          go_wp2_with fail
          refine (CP.out ()).mono ?_
          rintro e u2 ⟨rfl, b2⟩
          have c1 := (FI.out _ b2).cell 3
          have c2 := (FI.out _ b2).free 3
          go_wp2
          go_ret
          exact U2.out _ 3 b2 rfl
      · rw [if_neg hf] at PE
        have U1 : Hid (∀ w', Below w.heap.size w w' → PutA r (l :: d) fb w w' (.returned (.bool false))) := fun w' b => UP.out w' b PE.out
        have ix0 := ixl_f hf
        rw [ix0] at CI
        generalize l :: d = Y at *
        clear g hb hx hd UP UQ PE HB hp hf ix0 FI
        go_enter Tryd.func39, Tryd.ntmps39
        go_wp2_with fail
        refine (CI.out _).mono ?_
        rintro e u ⟨rfl, rfl⟩
        go_wp2_with fail
        refine (CP.out ()).mono ?_
        rintro e u2 ⟨rfl, b2⟩
        go_wp2
        go_ret
        exact U1.out _ b2

theorem rc_ret {w : World} {z : Nat} {x : Sv.R} {tmps : Array Value} (h : Blk w z (R.vals x) 28) (h2 : tmps.getD 4 undef = .pointer (some ⟨z, 0, none⟩)) :
    (results Tryd.f40 tmps).run Tryd.prog w = .ok (.agg (R.vals x).toArray) w :=
  results_cell_row (p := 4) (ty := 28) rfl tmps w z 28 (R.vals x).toArray (0, 0) _ h2 h Tryd.underlying28 rfl (by rw [size_rec]; rfl)
set_option maxHeartbeats 1000000 in
theorem record_any (r : Sv.R) (w : World) :
    Calls Tryd.prog 40 #[.agg (fls r).toArray, .int .i64 r.k] w fun e w' => e = .returned (.agg (R.vals r).toArray) ∧ Below w.heap.size w w' := by
  have KB : Hid (Blk (((w.alloc (.cells (fls r).toArray 41)).alloc (.cells (R.vals r).toArray 28))) (w.heap.size + 1) (R.vals r) 28) := by
    have := Blk.new (w.alloc (.cells (fls r).toArray 41)) (R.vals r) 28
    rwa [World.size_alloc] at this
  have BB : Hid (Below w.heap.size w ((w.alloc (.cells (fls r).toArray 41)).alloc (.cells (R.vals r).toArray 28))) := ((Below.refl _ _).alloc (Nat.le_refl _) _).alloc (by simp) _
  obtain ⟨k, c, i, n, y⟩ := r
  dsimp only [R.vals, fls] at KB BB ⊢
  go_enter Tryd.func40, Tryd.ntmps40
  go_wp2
  exact bodyPost_ret (rc_ret (x := ⟨k, c, i, n, y⟩) KB.out rfl) rfl ⟨rfl, BB.out⟩

theorem words_any (s : List UInt8) (w : World) :
    Calls Tryd.prog 37 #[.string (sb s)] w fun e w' => e = .returned (.func (.func 49) #[] #[.pointer (some ⟨w.heap.size, 0, none⟩)]) ∧ w' = w.alloc (.cells #[.string (sb s)] 9) := by
  go_enter Tryd.func37, Tryd.ntmps37
  go_wp2
  go_ret
  exact ⟨rfl, rfl⟩
end Go.Proofs.YtnmbacegcbjfaaaDoor
