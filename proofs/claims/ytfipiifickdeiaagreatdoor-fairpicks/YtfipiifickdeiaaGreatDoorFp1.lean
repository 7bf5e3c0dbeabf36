/- What fair's isCore, come and leave answer and keep. -/
import Derived.Test.YtfipiifickdeiaaGreatDoorRows
import Derived.Test.YtfipiifickdeiaaGreatDoorFp0
import Derived.Test.YtfipiifickdeiaaGreatDoorZkn
import Derived.WalkKit
import Derived.ProofKit
import Derived.OpenShut
import Derived.BigQuiet
import Derived.BigGuard
import Derived.Carry
namespace Go.Proofs.YtfipiifickdeiaaGreatDoor.Fai
open Go.ChangeShapes Go.WideShapes Go.ChangeAt Go.RowKit
open Mm Zkn
set_option linter.unusedSimpArgs false
set_option linter.unusedVariables false

theorem wrs {n : Int} (h0 : -9223372036854775808 ≤ n) (h1 : n < 9223372036854775808) : IntKind.i64.wrap n = n := by rw [IntKind.wrap_i64]; omega
/-- The window at block z. -/
def TW (w : World) (z : Nat) (L : List Int) : Prop := Blk w z (cl (fun c => (cnt L c : Nat)) (wl 0 L)) 42
theorem tw_ext {w : World} {z : Nat} {f : Nat → Int} {m : Nat} {L : List Int} (h : Blk w z (cl f m) 42) (hf : ∀ c, c < 64 → f c = (cnt L c : Nat)) (hm : m = wl 0 L) : TW w z L := by
  unfold TW
  subst hm
  have : cl f (wl 0 L) = cl (fun c => (cnt L c : Nat)) (wl 0 L) := by
    unfold cl
    congr 1
    apply List.map_congr_left
    intro c hc
    rw [hf c (by simpa using hc)]
  rwa [this] at h
theorem TW.keep {w w' : World} {z : Nat} {L : List Int} (h : TW w z L) {S : List Nat} (f : Fr w.heap.size S w w') (hs : z ∉ S) : TW w' z L := Blk.keep h f (Blk.lt h) hs
theorem TW.num {w : World} {z : Nat} {L : List Int} (h : TW w z L) {c : Nat} (hc : c < 64) : w.cell? ⟨z, c, none⟩ = some (.int .i64 (cnt L c : Nat)) := by rw [Blk.cell h c]; exact cl_get _ _ c hc
theorem TW.mask {w : World} {z : Nat} {L : List Int} (h : TW w z L) : w.cell? ⟨z, 64, none⟩ = some (.int .u64 (wl 0 L : Nat)) := by rw [Blk.cell h 64]; exact cl_mask _ _
theorem TW.free {w : World} {z : Nat} {L : List Int} (h : TW w z L) (i : Nat) : w.frozen? ⟨z, i, none⟩ = false := Blk.free h i
theorem TW.lt {w : World} {z : Nat} {L : List Int} (h : TW w z L) : z < w.heap.size := Blk.lt h
def isB (x : Int) : Bool := decide (0 ≤ x) && decide (x < 64)
set_option maxRecDepth 100000 in
set_option maxHeartbeats 4000000 in
theorem isc_any (x : Int) (w : World) : Calls Tryz.prog 40 #[.int .i64 x] w fun e w' => e = .returned (.bool (isB x)) ∧ w' = w := by
  unfold isB
  by_cases h0 : (0 : Int) ≤ x
  · have e0 : decide ((0 : Int) ≤ x) = true := decide_eq_true h0
    rw [e0]
    go_enter Tryz.func40, Tryz.ntmps40
    go_wp2
    go_ret
    exact ⟨rfl, rfl⟩
  · have e0 : decide ((0 : Int) ≤ x) = false := decide_eq_false h0
    rw [e0]
    go_enter Tryz.func40, Tryz.ntmps40
    go_wp2
    go_ret
    exact ⟨rfl, rfl⟩

set_option maxRecDepth 100000 in
set_option maxHeartbeats 4000000 in
theorem come_any (z : Nat) (L xs : List Int) (v : Value) (w : World) (h : TW w z L) (hr : ∀ u, Fr w.heap.size [z] w u → Row u v xs) (hl : (xs.length : Int) ≤ 1000) (hL : (L.length : Int) ≤ 1000) :
    Calls Tryz.prog 13 #[.pointer (some ⟨z, 0, none⟩), v] w fun e w' => e = .returned (.tuple #[]) ∧ TW w' z (L ++ xs) ∧ Fr w.heap.size [z] w w' := by
  have hsh : ∃ a cap, v = .slice a xs.length cap := by
    rcases hr w (Fr.refl _ _ _) with ⟨rfl, a, cap, rfl⟩ | ⟨b, off, cap, rfl, _⟩
    · exact ⟨a, cap, rfl⟩
    · exact ⟨_, cap, rfl⟩
  obtain ⟨a, cap, rfl⟩ := hsh
  have HR : Hid (∀ u, Fr w.heap.size [z] w u → Row u (.slice a xs.length cap) xs) := hr
  have H0 : Hid (TW w z L) := h
  have HE : Hid (xs.take xs.length = xs) := List.take_of_length_le (Nat.le_refl _)
  have zl : Hid (z < w.heap.size) := h.lt
  clear h hr
  go_enter Tryz.func13, Tryz.ntmps13
  go_wp2
  go_loopw [8] (fun i wr => ∃ k : Nat, (k : Int) ≤ xs.length ∧ Hid (TW wr z (L ++ xs.take k) ∧ Fr w.heap.size [z] w wr) ∧ i = .int .i64 (k : Int)) (fun i _ => xs.length - (intOf i).toNat)
  case atStart => exact ⟨0, by omega, ⟨by simpa using H0.out, Fr.refl _ _ _⟩, rfl⟩
  case round =>
    obtain ⟨k, hk, hm, rfl⟩ := hrel
    by_cases e : (k : Int) < xs.length
    · rcases HR.out wr hm.out.2 with ⟨e9, _⟩ | ⟨b, off, cap2, e9, hb, hc⟩
      · rw [e9] at e
        simp at e
        omega
      · cases e9
        have c0 := hc k (by omega)
        have s : Hid (xs.take k ++ [xs.getD k 0] = xs.take (k + 1)) := (take_one' xs 0 (by omega)).symm
        have CI : Hid (∀ v, _) := fun v => isc_any (xs.getD k 0) v
        have T0 : Hid (TW wr z (L ++ xs.take k)) := hm.out.1
        have F0 : Hid (Fr w.heap.size [z] w wr) := hm.out.2
        have ln : (L ++ xs.take k).length ≤ 2000 := by rw [List.length_append, List.length_take]; omega
        have HLN : Hid ((L ++ xs.take k).length ≤ 2000) := ln
        have s3 : Hid (∀ x, L ++ (xs.take k ++ [x]) = (L ++ xs.take k) ++ [x]) := fun x => (List.append_assoc _ _ _).symm
        generalize xs.getD k 0 = x at *
        clear hm hc hb ln
        generalize L ++ xs.take k = G at *
        have HTE : Hid ((z : Nat) = z) := rfl
        by_cases hb : 0 ≤ x ∧ x < 64
        · have ib : isB x = true := by unfold isB; rw [decide_eq_true hb.1, decide_eq_true hb.2]; rfl
          rw [ib] at CI
          obtain ⟨c, rfl⟩ := Int.eq_ofNat_of_zero_le hb.1
          have hc64 : (c : Int) < 64 := hb.2
          have HC : Hid (c < 64) := by show c < 64; omega
          obtain ⟨f, hf⟩ : ∃ f : Nat, cnt G c = f := ⟨_, rfl⟩
          have HF : Hid (cnt G c = f) := hf
          have c1 := T0.out.num HC.out
          rw [hf] at c1
          have fz1 := T0.out.free c
          have fl : (f : Int) ≤ 2000 := by have := cnt_le G c; have := HLN.out; omega
          have wf : IntKind.i64.wrap ((f : Int) + 1) = (f : Int) + 1 := wrs (by omega) (by omega)
          clear hb ib hf
          go_wp2_with fail
          refine (CI.out _).mono ?_
          rintro e w1 ⟨rfl, rfl⟩
          go_wp2_with fail
          refine wp_region_K [10] (fun w' => w'.cell? ⟨z, c, none⟩ = some (.int .i64 (f : Int))) (by kernel_rfl) (by exact c1) (fun hHeld => ?_)
          refine wpAnyK_pure (i := 0) (oi := { dst := some 14, op := Op.move (Operand.tmp 0), type := 110, pos := "fair.go:32", after := #[], guard := none }) (v := ?va1) rfl (by kernel_rfl) (by kernel_rfl) (by kernel_rfl) (by kernel_rfl) (fun _ _ _ h => h) (Or.inl ⟨by rfl, ?ha1⟩) (fun _ => hHeld) ?ra1
          case ha1 => (intro wz _; go_simp <;> with_reducible rfl)
          try simp only [Act.put, List.setIfInBounds_toArray, List.set_cons_zero, List.set_cons_succ]
          refine wpAnyK_pure (i := 1) (oi := { dst := some 15, op := Op.move (Operand.tmp 5), type := 3, pos := "fair.go:32", after := #[], guard := none }) (v := ?va2) rfl (by kernel_rfl) (by kernel_rfl) (by kernel_rfl) (by kernel_rfl) (fun _ _ _ h => h) (Or.inl ⟨by rfl, ?ha2⟩) (fun _ => hHeld) ?ra2
          case ha2 => (intro wz _; go_simp <;> with_reducible rfl)
          try simp only [Act.put, List.setIfInBounds_toArray, List.set_cons_zero, List.set_cons_succ]
          refine wpAnyK_pure (i := 2) (oi := { dst := some 16, op := Op.nilCheck (Operand.tmp 14), type := 0, pos := "fair.go:32", after := #[{ on := 0, ground := Ground.data }], guard := none }) (v := ?va3) rfl (by kernel_rfl) (by kernel_rfl) (by kernel_rfl) (by kernel_rfl) (fun _ _ _ h => h) (Or.inl ⟨by rfl, ?ha3⟩) (fun _ => hHeld) ?ra3
          case ha3 => (intro wz _; go_simp <;> with_reducible rfl)
          try simp only [Act.put, List.setIfInBounds_toArray, List.set_cons_zero, List.set_cons_succ]
          refine wpAnyK_pure (i := 3) (oi := { dst := some 17, op := Op.fieldAddr 42 (Operand.tmp 16) 0, type := 0, pos := "fair.go:32", after := #[{ on := 2, ground := Ground.data }], guard := none }) (v := ?va4) rfl (by kernel_rfl) (by kernel_rfl) (by kernel_rfl) (by kernel_rfl) (fun _ _ _ h => h) (Or.inl ⟨by rfl, ?ha4⟩) (fun _ => hHeld) ?ra4
          case ha4 => (intro wz _; go_simp <;> with_reducible rfl)
          try simp only [Act.put, List.setIfInBounds_toArray, List.set_cons_zero, List.set_cons_succ]
          refine wpAnyK_pure (i := 4) (oi := { dst := some 18, op := Op.indexAddr 40 (Operand.tmp 17) (Operand.tmp 15), type := 0, pos := "fair.go:32", after := #[{ on := 3, ground := Ground.data }, { on := 1, ground := Ground.data }], guard := none }) (v := ?va5) rfl (by kernel_rfl) (by kernel_rfl) (by kernel_rfl) (by kernel_rfl) (fun _ _ _ h => h) (Or.inl ⟨by rfl, ?ha5⟩) (fun _ => hHeld) ?ra5
          case ha5 => (intro wz _; go_simp <;> with_reducible rfl)
          try simp only [Act.put, List.setIfInBounds_toArray, List.set_cons_zero, List.set_cons_succ]
          refine wpAnyK_take (i := 5) (oi := { dst := some 19, op := Op.load 3 (Operand.tmp 18), type := 3, pos := "fair.go:32", after := #[{ on := 4, ground := Ground.data }], guard := none }) (v := ?va6) rfl (by kernel_rfl) (by kernel_rfl) (by kernel_rfl) (by kernel_rfl) (by kernel_rfl) (fun _ _ _ h => h) (Or.inl ⟨by rfl, ?ha6⟩) hHeld ?ra6
          case ha6 => (intro wz hSw; (try dsimp only at hSw); go_simp <;> with_reducible rfl)
          try simp only [Act.put, List.setIfInBounds_toArray, List.set_cons_zero, List.set_cons_succ]
          refine wpAnyK_pure (i := 6) (oi := { dst := some 20, op := Op.binOp BinOp.add 3 (Operand.tmp 19) (Operand.const (Value.int IntKind.i64 1)) 3, type := 3, pos := "fair.go:32", after := #[{ on := 5, ground := Ground.data }], guard := none }) (v := ?va7) rfl (by kernel_rfl) (by kernel_rfl) (by kernel_rfl) (by kernel_rfl) (fun _ _ _ h => h) (Or.inl ⟨by rfl, ?ha7⟩) (fun _ => hHeld) ?ra7
          case ha7 => (intro wz _; go_simp <;> with_reducible rfl)
          try simp only [Act.put, List.setIfInBounds_toArray, List.set_cons_zero, List.set_cons_succ]
          refine wpAnyK_pure (i := 7) (oi := { dst := some 21, op := Op.nilCheck (Operand.tmp 14), type := 0, pos := "fair.go:32", after := #[{ on := 0, ground := Ground.data }], guard := none }) (v := ?va8) rfl (by kernel_rfl) (by kernel_rfl) (by kernel_rfl) (by kernel_rfl) (fun _ _ _ h => h) (Or.inl ⟨by rfl, ?ha8⟩) (fun _ => hHeld) ?ra8
          case ha8 => (intro wz _; go_simp <;> with_reducible rfl)
          try simp only [Act.put, List.setIfInBounds_toArray, List.set_cons_zero, List.set_cons_succ]
          refine wpAnyK_pure (i := 8) (oi := { dst := some 22, op := Op.fieldAddr 42 (Operand.tmp 21) 0, type := 0, pos := "fair.go:32", after := #[{ on := 7, ground := Ground.data }], guard := none }) (v := ?va9) rfl (by kernel_rfl) (by kernel_rfl) (by kernel_rfl) (by kernel_rfl) (fun _ _ _ h => h) (Or.inl ⟨by rfl, ?ha9⟩) (fun _ => hHeld) ?ra9
          case ha9 => (intro wz _; go_simp <;> with_reducible rfl)
          try simp only [Act.put, List.setIfInBounds_toArray, List.set_cons_zero, List.set_cons_succ]
          refine wpAnyK_pure (i := 9) (oi := { dst := some 23, op := Op.indexAddr 40 (Operand.tmp 22) (Operand.tmp 15), type := 0, pos := "fair.go:32", after := #[{ on := 8, ground := Ground.data }, { on := 1, ground := Ground.data }, { on := 0, ground := Ground.phase }, { on := 1, ground := Ground.phase }, { on := 2, ground := Ground.phase }, { on := 3, ground := Ground.phase }, { on := 4, ground := Ground.phase }, { on := 5, ground := Ground.phase }, { on := 6, ground := Ground.phase }], guard := none }) (v := ?va10) rfl (by kernel_rfl) (by kernel_rfl) (by kernel_rfl) (by kernel_rfl) (fun _ _ _ h => h) (Or.inl ⟨by rfl, ?ha10⟩) (fun _ => hHeld) ?ra10
          case ha10 => (intro wz _; go_simp <;> with_reducible rfl)
          try simp only [Act.put, List.setIfInBounds_toArray, List.set_cons_zero, List.set_cons_succ]
          refine wpAnyK_one (i := 10) (by kernel_rfl) (oneK (o := { dst := none, op := Op.store 3 (Operand.tmp 23) (Operand.tmp 20), type := 0, pos := "fair.go:32", after := #[{ on := 9, ground := Ground.data }, { on := 6, ground := Ground.data }, { on := 0, ground := Ground.phase }, { on := 1, ground := Ground.phase }, { on := 2, ground := Ground.phase }, { on := 3, ground := Ground.phase }, { on := 4, ground := Ground.phase }, { on := 5, ground := Ground.phase }, { on := 6, ground := Ground.phase }], guard := none }) rfl (fun K hK => ?_))
          go_simp
          (try go_wp2_with fail)
          refine hK.out _ _ ?sa11 (fun hHeld => ?ta11)
          case sa11 => (intro hU; exact absurd hU (un_not (by kernel_rfl)))
          clear hHeld hK K
          try simp only [Act.put, List.setIfInBounds_toArray, List.set_cons_zero, List.set_cons_succ]
          refine wpAnyK_done (by kernel_rfl) ?_ _
          have k1 : Blk (w1.setCell ⟨z, c, none⟩ (.int .i64 ((f : Int) + 1))).drew z (cl (up1 (fun c => (cnt G c : Nat)) c ((f : Int) + 1)) (wl 0 G)) 42 := by
            have q := Blk.set T0.out c (.int .i64 ((f : Int) + 1))
            rw [cl_set _ _ _ HC.out] at q
            exact q
          have f1 : Fr w.heap.size [z] w (w1.setCell ⟨z, c, none⟩ (.int .i64 ((f : Int) + 1))).drew := by
            have q := F0.out.setCell (p := ⟨z, c, none⟩) (Or.inr (by simp)) (.int .i64 ((f : Int) + 1))
            exact ⟨q.os, q.tape, q.output, q.size, q.block⟩
          obtain ⟨u1, hu1⟩ : ∃ u, (w1.setCell ⟨z, c, none⟩ (.int .i64 ((f : Int) + 1))).drew = u := ⟨_, rfl⟩
          rw [hu1] at k1 f1 ⊢
          have m2 : (u1.alloc (.cells #[.int .i64 (c : Int)] 3)).cell? ⟨z, 64, none⟩ = some (.int .u64 (wl 0 G : Nat)) := by rw [(k1.alloc _).cell 64]; exact cl_mask _ _
          have m1 : u1.cell? ⟨z, 64, none⟩ = some (.int .u64 (wl 0 G : Nat)) := by rw [k1.cell 64]; exact cl_mask _ _
          have fz2 : (u1.alloc (.cells #[.int .i64 (c : Int)] 3)).frozen? ⟨z, 64, none⟩ = false := (k1.alloc _).free 64
          have RW : Row (u1.alloc (.cells #[.int .i64 (c : Int)] 3)) (.slice (some ⟨u1.heap.size, 0, none⟩) 1 1) [(c : Int)] := row_of_blk (xs := [(c : Int)]) (t := 3) (Blk.new _ _ _) 1
          have CW : Hid (∀ _ : Unit, _) := fun _ => kwith_any (wl 0 G) [(c : Int)] _ _ (wl_lt 0 G (by decide)) (by simp) RW
          have k2 : Blk ((u1.alloc (.cells #[.int .i64 (c : Int)] 3)).setCell ⟨z, 64, none⟩ (.int .u64 (wl (wl 0 G) [(c : Int)] : Nat))) z (cl (up1 (fun c => (cnt G c : Nat)) c ((f : Int) + 1)) (wl (wl 0 G) [(c : Int)])) 42 := by
            have q := (k1.alloc (.cells #[.int .i64 (c : Int)] 3)).set 64 (.int .u64 (wl (wl 0 G) [(c : Int)] : Nat))
            rw [cl_setm] at q
            exact q
          have T2 : Hid (TW ((u1.alloc (.cells #[.int .i64 (c : Int)] 3)).setCell ⟨z, 64, none⟩ (.int .u64 (wl (wl 0 G) [(c : Int)] : Nat))) z (G ++ [(c : Int)])) := tw_ext k2 (fun j hj => by
            rw [cnt_snoc]
            unfold up1
            by_cases q : j = c
            · subst q; rw [if_pos rfl, if_pos rfl, HF.out]; omega
            · rw [if_neg q, if_neg (by omega)]; rfl) (by rw [wl_snoc]; rfl)
          have F2 : Hid (Fr w.heap.size [z] w ((u1.alloc (.cells #[.int .i64 (c : Int)] 3)).setCell ⟨z, 64, none⟩ (.int .u64 (wl (wl 0 G) [(c : Int)] : Nat)))) := (f1.alloc f1.size _).setCell (Or.inr (by simp)) _
          have S4 : Hid (L ++ xs.take (k + 1) = G ++ [(c : Int)]) := by
            show L ++ xs.take (k + 1) = G ++ [(c : Int)]
            rw [← s.out]; exact s3.out _
          clear k1 f1 RW k2 hu1 T0 F0 s s3 HC HF c1 fz1
          generalize wl (wl 0 G) [(c : Int)] = M at *
          go_wp2_with fail
          refine (CW.out ()).mono ?_
          rintro e w5 ⟨rfl, rfl⟩
          go_wp2
          go_roundw
          case rel => exact ⟨k + 1, by omega, ⟨by rw [S4.out]; exact T2.out, F2.out⟩, by go_num⟩
          case measure => simp [intOf]; omega
        · have ib : isB x = false := by
            unfold isB
            by_cases q : 0 ≤ x
            · rw [decide_eq_true q, Bool.true_and]; exact decide_eq_false fun h => hb ⟨q, h⟩
            · rw [decide_eq_false q]; rfl
          rw [ib] at CI
          have T2 : Hid (TW wr z (G ++ [x])) := tw_ext T0.out (fun j hj => by rw [cnt_snoc, if_neg (by omega), Nat.add_zero]) (wl_out 0 x hb G).symm
          have S4 : Hid (L ++ xs.take (k + 1) = G ++ [x]) := by
            show L ++ xs.take (k + 1) = G ++ [x]
            rw [← s.out]; exact s3.out _
          clear hb ib T0 s s3
          go_wp2_with fail
          refine (CI.out _).mono ?_
          rintro e w1 ⟨rfl, rfl⟩
          go_wp2
          go_roundw
          case rel => exact ⟨k + 1, by omega, ⟨by rw [S4.out]; exact T2.out, F0.out⟩, by go_num⟩
          case measure => simp [intOf]; omega
    · have e2 : k = xs.length := by omega
      subst e2
      rw [HE.out] at hm
      go_wp2
      go_end0
      exact ⟨rfl, hm.out.1, hm.out.2⟩
set_option maxRecDepth 100000 in
set_option maxHeartbeats 4000000 in
theorem leave_any (z : Nat) (x : Int) (G : List Int) (w : World) (h : TW w z (x :: G)) (hL : (G.length : Int) ≤ 1000) :
    Calls Tryz.prog 15 #[.pointer (some ⟨z, 0, none⟩), .int .i64 x] w fun e w' => e = .returned (.tuple #[]) ∧ TW w' z G ∧ Fr w.heap.size [z] w w' := by
  have T0 : Hid (TW w z (x :: G)) := h
  have F0 : Hid (Fr w.heap.size [z] w w) := Fr.refl _ _ _
  have CI : Hid (∀ v, _) := fun v => isc_any x v
  clear h
  by_cases hb : 0 ≤ x ∧ x < 64
  · have ib : isB x = true := by unfold isB; rw [decide_eq_true hb.1, decide_eq_true hb.2]; rfl
    rw [ib] at CI
    obtain ⟨c, rfl⟩ := Int.eq_ofNat_of_zero_le hb.1
    have hc64 : (c : Int) < 64 := hb.2
    have HC : Hid (c < 64) := by show c < 64; omega
    obtain ⟨f, hf⟩ : ∃ f : Nat, cnt G c = f := ⟨_, rfl⟩
    have HF : Hid (cnt G c = f) := hf
    have c1 := T0.out.num HC.out
    rw [cnt_cons, if_pos rfl, hf] at c1
    have c1 : w.cell? ⟨z, c, none⟩ = some (.int .i64 ((f : Int) + 1)) := c1
    have fz1 := T0.out.free c
    have fl : (f : Int) ≤ 1000 := by have := cnt_le G c; omega
    have wf : IntKind.i64.wrap ((f : Int) + 1 - 1) = (f : Int) := by rw [wrs (by omega) (by omega)]; omega
    have wf2 : IntKind.i64.wrap (f : Int) = (f : Int) := wrs (by omega) (by omega)
    clear hb ib hf
    go_enter Tryz.func15, Tryz.ntmps15
    go_wp2_with fail
    refine (CI.out _).mono ?_
    rintro e w1 ⟨rfl, rfl⟩
    go_wp2_with fail
    refine wp_region_K [10] (fun w' => w'.cell? ⟨z, c, none⟩ = some (.int .i64 ((f : Int) + 1))) (by kernel_rfl) (by exact c1) (fun hHeld => ?_)
    refine wpAnyK_pure (i := 0) (oi := { dst := some 7, op := Op.move (Operand.tmp 0), type := 110, pos := "fair.go:43", after := #[], guard := none }) (v := ?vb1) rfl (by kernel_rfl) (by kernel_rfl) (by kernel_rfl) (by kernel_rfl) (fun _ _ _ h => h) (Or.inl ⟨by rfl, ?hb1⟩) (fun _ => hHeld) ?rb1
    case hb1 => (intro wz _; go_simp <;> with_reducible rfl)
    try simp only [Act.put, List.setIfInBounds_toArray, List.set_cons_zero, List.set_cons_succ]
    refine wpAnyK_pure (i := 1) (oi := { dst := some 8, op := Op.move (Operand.tmp 1), type := 3, pos := "fair.go:43", after := #[], guard := none }) (v := ?vb2) rfl (by kernel_rfl) (by kernel_rfl) (by kernel_rfl) (by kernel_rfl) (fun _ _ _ h => h) (Or.inl ⟨by rfl, ?hb2⟩) (fun _ => hHeld) ?rb2
    case hb2 => (intro wz _; go_simp <;> with_reducible rfl)
    try simp only [Act.put, List.setIfInBounds_toArray, List.set_cons_zero, List.set_cons_succ]
    refine wpAnyK_pure (i := 2) (oi := { dst := some 9, op := Op.nilCheck (Operand.tmp 7), type := 0, pos := "fair.go:43", after := #[{ on := 0, ground := Ground.data }], guard := none }) (v := ?vb3) rfl (by kernel_rfl) (by kernel_rfl) (by kernel_rfl) (by kernel_rfl) (fun _ _ _ h => h) (Or.inl ⟨by rfl, ?hb3⟩) (fun _ => hHeld) ?rb3
    case hb3 => (intro wz _; go_simp <;> with_reducible rfl)
    try simp only [Act.put, List.setIfInBounds_toArray, List.set_cons_zero, List.set_cons_succ]
    refine wpAnyK_pure (i := 3) (oi := { dst := some 10, op := Op.fieldAddr 42 (Operand.tmp 9) 0, type := 0, pos := "fair.go:43", after := #[{ on := 2, ground := Ground.data }], guard := none }) (v := ?vb4) rfl (by kernel_rfl) (by kernel_rfl) (by kernel_rfl) (by kernel_rfl) (fun _ _ _ h => h) (Or.inl ⟨by rfl, ?hb4⟩) (fun _ => hHeld) ?rb4
    case hb4 => (intro wz _; go_simp <;> with_reducible rfl)
    try simp only [Act.put, List.setIfInBounds_toArray, List.set_cons_zero, List.set_cons_succ]
    refine wpAnyK_pure (i := 4) (oi := { dst := some 11, op := Op.indexAddr 40 (Operand.tmp 10) (Operand.tmp 8), type := 0, pos := "fair.go:43", after := #[{ on := 3, ground := Ground.data }, { on := 1, ground := Ground.data }], guard := none }) (v := ?vb5) rfl (by kernel_rfl) (by kernel_rfl) (by kernel_rfl) (by kernel_rfl) (fun _ _ _ h => h) (Or.inl ⟨by rfl, ?hb5⟩) (fun _ => hHeld) ?rb5
    case hb5 => (intro wz _; go_simp <;> with_reducible rfl)
    try simp only [Act.put, List.setIfInBounds_toArray, List.set_cons_zero, List.set_cons_succ]
    refine wpAnyK_take (i := 5) (oi := { dst := some 12, op := Op.load 3 (Operand.tmp 11), type := 3, pos := "fair.go:43", after := #[{ on := 4, ground := Ground.data }], guard := none }) (v := ?vb6) rfl (by kernel_rfl) (by kernel_rfl) (by kernel_rfl) (by kernel_rfl) (by kernel_rfl) (fun _ _ _ h => h) (Or.inl ⟨by rfl, ?hb6⟩) hHeld ?rb6
    case hb6 => (intro wz hSw; (try dsimp only at hSw); go_simp <;> with_reducible rfl)
    try simp only [Act.put, List.setIfInBounds_toArray, List.set_cons_zero, List.set_cons_succ]
    refine wpAnyK_pure (i := 6) (oi := { dst := some 13, op := Op.binOp BinOp.sub 3 (Operand.tmp 12) (Operand.const (Value.int IntKind.i64 1)) 3, type := 3, pos := "fair.go:43", after := #[{ on := 5, ground := Ground.data }], guard := none }) (v := ?vb7) rfl (by kernel_rfl) (by kernel_rfl) (by kernel_rfl) (by kernel_rfl) (fun _ _ _ h => h) (Or.inl ⟨by rfl, ?hb7⟩) (fun _ => hHeld) ?rb7
    case hb7 => (intro wz _; go_simp <;> with_reducible rfl)
    try simp only [Act.put, List.setIfInBounds_toArray, List.set_cons_zero, List.set_cons_succ]
    refine wpAnyK_pure (i := 7) (oi := { dst := some 14, op := Op.nilCheck (Operand.tmp 7), type := 0, pos := "fair.go:43", after := #[{ on := 0, ground := Ground.data }], guard := none }) (v := ?vb8) rfl (by kernel_rfl) (by kernel_rfl) (by kernel_rfl) (by kernel_rfl) (fun _ _ _ h => h) (Or.inl ⟨by rfl, ?hb8⟩) (fun _ => hHeld) ?rb8
    case hb8 => (intro wz _; go_simp <;> with_reducible rfl)
    try simp only [Act.put, List.setIfInBounds_toArray, List.set_cons_zero, List.set_cons_succ]
    refine wpAnyK_pure (i := 8) (oi := { dst := some 15, op := Op.fieldAddr 42 (Operand.tmp 14) 0, type := 0, pos := "fair.go:43", after := #[{ on := 7, ground := Ground.data }], guard := none }) (v := ?vb9) rfl (by kernel_rfl) (by kernel_rfl) (by kernel_rfl) (by kernel_rfl) (fun _ _ _ h => h) (Or.inl ⟨by rfl, ?hb9⟩) (fun _ => hHeld) ?rb9
    case hb9 => (intro wz _; go_simp <;> with_reducible rfl)
    try simp only [Act.put, List.setIfInBounds_toArray, List.set_cons_zero, List.set_cons_succ]
    refine wpAnyK_pure (i := 9) (oi := { dst := some 16, op := Op.indexAddr 40 (Operand.tmp 15) (Operand.tmp 8), type := 0, pos := "fair.go:43", after := #[{ on := 8, ground := Ground.data }, { on := 1, ground := Ground.data }, { on := 0, ground := Ground.phase }, { on := 1, ground := Ground.phase }, { on := 2, ground := Ground.phase }, { on := 3, ground := Ground.phase }, { on := 4, ground := Ground.phase }, { on := 5, ground := Ground.phase }, { on := 6, ground := Ground.phase }], guard := none }) (v := ?vb10) rfl (by kernel_rfl) (by kernel_rfl) (by kernel_rfl) (by kernel_rfl) (fun _ _ _ h => h) (Or.inl ⟨by rfl, ?hb10⟩) (fun _ => hHeld) ?rb10
    case hb10 => (intro wz _; go_simp <;> with_reducible rfl)
    try simp only [Act.put, List.setIfInBounds_toArray, List.set_cons_zero, List.set_cons_succ]
    refine wpAnyK_one (i := 10) (by kernel_rfl) (oneK (o := { dst := none, op := Op.store 3 (Operand.tmp 16) (Operand.tmp 13), type := 0, pos := "fair.go:43", after := #[{ on := 9, ground := Ground.data }, { on := 6, ground := Ground.data }, { on := 0, ground := Ground.phase }, { on := 1, ground := Ground.phase }, { on := 2, ground := Ground.phase }, { on := 3, ground := Ground.phase }, { on := 4, ground := Ground.phase }, { on := 5, ground := Ground.phase }, { on := 6, ground := Ground.phase }], guard := none }) rfl (fun K hK => ?_))
    go_simp
    (try go_wp2_with fail)
    refine hK.out _ _ ?sb11 (fun hHeld => ?tb11)
    case sb11 => (intro hU; exact absurd hU (un_not (by kernel_rfl)))
    clear hHeld hK K
    try simp only [Act.put, List.setIfInBounds_toArray, List.set_cons_zero, List.set_cons_succ]
    refine wpAnyK_done (by kernel_rfl) ?_ _
    have k1 : Blk (w1.setCell ⟨z, c, none⟩ (.int .i64 (f : Int))).drew z (cl (up1 (fun c' => (cnt ((c : Int) :: G) c' : Nat)) c (f : Int)) (wl 0 ((c : Int) :: G))) 42 := by
      have q := Blk.set T0.out c (.int .i64 (f : Int))
      rw [cl_set _ _ _ HC.out] at q
      exact q
    have f1 : Fr w1.heap.size [z] w1 (w1.setCell ⟨z, c, none⟩ (.int .i64 (f : Int))).drew := by
      have q := F0.out.setCell (p := ⟨z, c, none⟩) (Or.inr (by simp)) (.int .i64 (f : Int))
      exact ⟨q.os, q.tape, q.output, q.size, q.block⟩
    obtain ⟨u1, hu1⟩ : ∃ u, (w1.setCell ⟨z, c, none⟩ (.int .i64 (f : Int))).drew = u := ⟨_, rfl⟩
    rw [hu1] at k1 f1 ⊢
    have m1 : u1.cell? ⟨z, 64, none⟩ = some (.int .u64 (wl 0 ((c : Int) :: G) : Nat)) := by rw [k1.cell 64]; exact cl_mask _ _
    have n1 : u1.cell? ⟨z, c, none⟩ = some (.int .i64 (f : Int)) := by
      rw [k1.cell c, cl_get _ _ _ HC.out]
      unfold up1
      rw [if_pos rfl]
    have fz2 : u1.frozen? ⟨z, 64, none⟩ = false := k1.free 64
    have EC : Hid (∀ j, j < 64 → up1 (fun c' => (cnt ((c : Int) :: G) c' : Nat)) c (f : Int) j = ((cnt G j : Nat) : Int)) := fun j _ => by
      unfold up1
      by_cases q : j = c
      · subst q; rw [if_pos rfl, HF.out]
      · rw [if_neg q]
        show ((cnt ((c : Int) :: G) j : Nat) : Int) = _
        rw [cnt_cons, if_neg (by omega)]
        rfl
    have KL : Hid (∀ v, _) := fun v => kless_any (wl 0 ((c : Int) :: G)) (c : Int) v (wl_lt 0 _ (by decide))
    by_cases z0 : f = 0
    · have TF : Hid (TW (u1.setCell ⟨z, 64, none⟩ (.int .u64 (nt (wl 0 ((c : Int) :: G)) (bv (c : Int)) : Nat))) z G) := by
        have q := k1.set 64 (.int .u64 (nt (wl 0 ((c : Int) :: G)) (bv (c : Int)) : Nat))
        rw [cl_setm] at q
        exact tw_ext q EC.out (wl_last G c (by rw [HF.out, z0]))
      have FF : Hid (Fr w1.heap.size [z] w1 (u1.setCell ⟨z, 64, none⟩ (.int .u64 (nt (wl 0 ((c : Int) :: G)) (bv (c : Int)) : Nat)))) := f1.setCell (Or.inr (by simp)) _
      clear k1 f1 hu1 T0 F0 HF EC HC
      subst z0
      generalize nt (wl 0 ((c : Int) :: G)) (bv (c : Int)) = M at *
      go_wp2_with fail
      refine (KL.out _).mono ?_
      rintro e w5 ⟨rfl, rfl⟩
      go_wp2
      go_end0
      exact ⟨rfl, TF.out, FF.out⟩
    · have TF : Hid (TW u1 z G) := tw_ext k1 EC.out (wl_more G c (by rw [HF.out]; exact z0))
      have FF : Hid (Fr w1.heap.size [z] w1 u1) := f1
      have z1 : ((f : Int) == 0) = false := by simpa using z0
      clear k1 f1 hu1 T0 F0 HF EC HC
      go_wp2
      go_end0
      exact ⟨rfl, TF.out, FF.out⟩
  · have ib : isB x = false := by
      unfold isB
      by_cases q : 0 ≤ x
      · rw [decide_eq_true q, Bool.true_and]; exact decide_eq_false fun h => hb ⟨q, h⟩
      · rw [decide_eq_false q]; rfl
    rw [ib] at CI
    have T2 : Hid (TW w z G) := tw_ext T0.out (fun j hj => by rw [cnt_cons, if_neg (by omega), Nat.add_zero]) (wl_cons_out x hb G)
    clear hb ib T0
    go_enter Tryz.func15, Tryz.ntmps15
    go_wp2_with fail
    refine (CI.out _).mono ?_
    rintro e w1 ⟨rfl, rfl⟩
    go_wp2
    exact bodyPost_ret (results_none rfl _ _ _) rfl ⟨rfl, T2.out, F0.out⟩

end Go.Proofs.YtfipiifickdeiaaGreatDoor.Fai
