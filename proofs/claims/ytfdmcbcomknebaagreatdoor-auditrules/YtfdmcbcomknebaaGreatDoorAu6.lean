/- What audit's rules of masks, power and the request, Rule and Check answer. -/
import Derived.Test.YtfdmcbcomknebaaGreatDoorRows
import Derived.Test.YtfdmcbcomknebaaGreatDoorAu5
import Derived.WalkKit
import Derived.ProofKit
import Derived.OpenShut
import Derived.BigQuiet
import Derived.BigGuard
import Derived.Carry
import Derived.Deep.RegionHeld3
namespace Go.Proofs.YtfdmcbcomknebaaGreatDoor.Aud
open Go.ChangeShapes Go.WideShapes Go.ChangeAt Go.RowKit
open Mm

theorem ls_pos (m : Nat) (hm : m < 18446744073709551616) : decide (m ≠ 0) = decide ((0 : Int) < ((ls m).length : Nat)) := by
  refine decide_eq_decide.2 ⟨fun h => ?_, fun h e => ?_⟩
  · have : ls m ≠ [] := fun e => h (ls_nil m hm e)
    have := List.length_pos_iff.2 this
    omega
  · subst e
    have : ls 0 = [] := by unfold ls; simp
    rw [this] at h
    simp at h
theorem nt_beq (a b : Nat) : decide (nt a b = 0) = (((nt a b : Nat) : Int) == 0) := by
  show _ = decide _
  exact decide_eq_decide.2 (by omega)
theorem drN {B : Nat} {a w : World} (h : Below B a w) (n : Nat) : Below B a (w.drewN n) := Sm.below (⟨rfl, rfl, rfl, rfl⟩ : Sm (w.drewN n) w) h
theorem dt {a b : Int} (h : a = b) : decide (a = b) = true := decide_eq_true h

set_option maxRecDepth 100000 in
set_option maxHeartbeats 2000000 in
theorem cn_any (p : Pic) (v4 v5 v6 v7 v8 v9 v10 : Value) (w : World) (h : PV w p v4 v5 v6 v7 v8 v9 v10) :
    Calls Tryz.prog 14 #[.agg #[.int .i64 p.cp, .int .u64 (p.on : Int), .int .u64 (p.ac : Int), .int .u64 (p.pw : Int), v4, v5, v6, v7, v8, v9, v10, .bool p.bu, .bool p.up, .int .i64 p.cc, .int .i64 p.by']] w fun e w' => e = .returned (.bool (rl1 p)) ∧ Below w.heap.size w w' := by
  have b0 : Below w.heap.size w (w.alloc (.cells #[.int .i64 p.cp, .int .u64 (p.on : Int), .int .u64 (p.ac : Int), .int .u64 (p.pw : Int), v4, v5, v6, v7, v8, v9, v10, .bool p.bu, .bool p.up, .int .i64 p.cc, .int .i64 p.by'] 33)) := (Below.refl _ _).alloc (Nat.le_refl _) _
  have B0 : Hid (∀ n, Below w.heap.size w ((w.alloc (.cells #[.int .i64 p.cp, .int .u64 (p.on : Int), .int .u64 (p.ac : Int), .int .u64 (p.pw : Int), v4, v5, v6, v7, v8, v9, v10, .bool p.bu, .bool p.up, .int .i64 p.cc, .int .i64 p.by'] 33)).drewN n)) := fun n => drN b0 n
  have CM : Hid (∀ v, _) := fun v => kmany_any p.ac v h.ac
  have C1 : Hid (∀ v, _) := fun v => kwithin_any p.ac p.on v h.ac h.on
  have C2 : Hid (∀ v, _) := fun v => kwithin_any p.on p.pw v h.on h.pw
  have CU : Hid (∀ v, _) := fun v => kupto_any p.cp v
  have C3 : Hid (∀ v, _) := fun v => kwithin_any p.pw (up p.cp) v h.pw (up_lt _)
  unfold rl1
  rw [ls_pos p.ac h.ac, nt_beq, nt_beq, nt_beq]
  clear h b0
  generalize ((ls p.ac).length : Int) = n at *
  generalize (((nt p.ac p.on : Nat) : Int) == 0) = b1 at *
  generalize (((nt p.on p.pw : Nat) : Int) == 0) = b2 at *
  generalize (((nt p.pw (up p.cp) : Nat) : Int) == 0) = b3 at *
  generalize ((up p.cp : Nat) : Int) = uc at *
  by_cases h0 : (0 : Int) < n
  · have e0 : decide ((0 : Int) < n) = true := decide_eq_true h0
    rw [e0]
    cases b1
    · skip
      go_enter Tryz.func14, Tryz.ntmps14
      go_wp2_with fail
      go_quiet (first | (go_at_call 64; refine Calls.quiet_of_same (CM.out _)) | (go_at_call 65; first | with_reducible refine Calls.quiet_of_same (C1.out _) | with_reducible refine Calls.quiet_of_same (C2.out _) | with_reducible refine Calls.quiet_of_same (C3.out _)) | (go_at_call 29; refine Calls.quiet_of_same (CU.out _)))
      go_wp2
      go_ret
      exact ⟨rfl, B0.out _⟩
    · cases b2
      · skip
        go_enter Tryz.func14, Tryz.ntmps14
        go_wp2_with fail
        go_quiet (first | (go_at_call 64; refine Calls.quiet_of_same (CM.out _)) | (go_at_call 65; first | with_reducible refine Calls.quiet_of_same (C1.out _) | with_reducible refine Calls.quiet_of_same (C2.out _) | with_reducible refine Calls.quiet_of_same (C3.out _)) | (go_at_call 29; refine Calls.quiet_of_same (CU.out _)))
        go_wp2
        go_ret
        exact ⟨rfl, B0.out _⟩
      · skip
        go_enter Tryz.func14, Tryz.ntmps14
        go_wp2_with fail
        go_quiet (first | (go_at_call 64; refine Calls.quiet_of_same (CM.out _)) | (go_at_call 65; first | with_reducible refine Calls.quiet_of_same (C1.out _) | with_reducible refine Calls.quiet_of_same (C2.out _) | with_reducible refine Calls.quiet_of_same (C3.out _)) | (go_at_call 29; refine Calls.quiet_of_same (CU.out _)))
        go_wp2
        go_ret
        exact ⟨rfl, B0.out _⟩
  · have e0 : decide ((0 : Int) < n) = false := decide_eq_false h0
    rw [e0]
    go_enter Tryz.func14, Tryz.ntmps14
    go_wp2_with fail
    go_quiet (first | (go_at_call 64; refine Calls.quiet_of_same (CM.out _)) | (go_at_call 65; first | with_reducible refine Calls.quiet_of_same (C1.out _) | with_reducible refine Calls.quiet_of_same (C2.out _) | with_reducible refine Calls.quiet_of_same (C3.out _)) | (go_at_call 29; refine Calls.quiet_of_same (CU.out _)))
    go_wp2
    go_ret
    exact ⟨rfl, B0.out _⟩
set_option maxRecDepth 100000 in
set_option maxHeartbeats 2000000 in
theorem pw_any (p : Pic) (v4 v5 v6 v7 v8 v9 v10 : Value) (w : World) (h : PV w p v4 v5 v6 v7 v8 v9 v10) :
    Calls Tryz.prog 18 #[.agg #[.int .i64 p.cp, .int .u64 (p.on : Int), .int .u64 (p.ac : Int), .int .u64 (p.pw : Int), v4, v5, v6, v7, v8, v9, v10, .bool p.bu, .bool p.up, .int .i64 p.cc, .int .i64 p.by']] w fun e w' => e = .returned (.bool (rl5 p)) ∧ Below w.heap.size w w' := by
  have b0 : Below w.heap.size w (w.alloc (.cells #[.int .i64 p.cp, .int .u64 (p.on : Int), .int .u64 (p.ac : Int), .int .u64 (p.pw : Int), v4, v5, v6, v7, v8, v9, v10, .bool p.bu, .bool p.up, .int .i64 p.cc, .int .i64 p.by'] 33)) := (Below.refl _ _).alloc (Nat.le_refl _) _
  have B0 : Hid (∀ n, Below w.heap.size w ((w.alloc (.cells #[.int .i64 p.cp, .int .u64 (p.on : Int), .int .u64 (p.ac : Int), .int .u64 (p.pw : Int), v4, v5, v6, v7, v8, v9, v10, .bool p.bu, .bool p.up, .int .i64 p.cc, .int .i64 p.by'] 33)).drewN n)) := fun n => drN b0 n
  have g1 : Below w.heap.size w ((w.alloc (.cells #[.int .i64 p.cp, .int .u64 (p.on : Int), .int .u64 (p.ac : Int), .int .u64 (p.pw : Int), v4, v5, v6, v7, v8, v9, v10, .bool p.bu, .bool p.up, .int .i64 p.cc, .int .i64 p.by'] 33)).alloc (.cells #[.int .i64 p.cc] 3)) := b0.alloc b0.size _
  have RW : Row ((w.alloc (.cells #[.int .i64 p.cp, .int .u64 (p.on : Int), .int .u64 (p.ac : Int), .int .u64 (p.pw : Int), v4, v5, v6, v7, v8, v9, v10, .bool p.bu, .bool p.up, .int .i64 p.cc, .int .i64 p.by'] 33)).alloc (.cells #[.int .i64 p.cc] 3)) (.slice (some ⟨(w.alloc (.cells #[.int .i64 p.cp, .int .u64 (p.on : Int), .int .u64 (p.ac : Int), .int .u64 (p.pw : Int), v4, v5, v6, v7, v8, v9, v10, .bool p.bu, .bool p.up, .int .i64 p.cc, .int .i64 p.by'] 33)).heap.size, 0, none⟩) 1 1) [p.cc] := row_of_blk (xs := [p.cc]) (t := 3) (Blk.new _ _ _) 1
  rw [show (w.alloc (.cells #[.int .i64 p.cp, .int .u64 (p.on : Int), .int .u64 (p.ac : Int), .int .u64 (p.pw : Int), v4, v5, v6, v7, v8, v9, v10, .bool p.bu, .bool p.up, .int .i64 p.cc, .int .i64 p.by'] 33)).heap.size = w.heap.size + 1 by simp] at RW
  have CW : Hid (∀ u, Sm u ((w.alloc (.cells #[.int .i64 p.cp, .int .u64 (p.on : Int), .int .u64 (p.ac : Int), .int .u64 (p.pw : Int), v4, v5, v6, v7, v8, v9, v10, .bool p.bu, .bool p.up, .int .i64 p.cc, .int .i64 p.by'] 33)).alloc (.cells #[.int .i64 p.cc] 3)) → Calls Tryz.prog _ _ u _) := fun u e => kwith_any p.on [p.cc] _ u h.on (by simp) (Row.keep RW (Fr.of_below (Sm.below e (Below.refl _ _))) (Nat.le_refl _))
  rw [show wl p.on [p.cc] = p.on ||| bv p.cc from rfl] at CW
  have B1 : Hid (∀ u, Sm u ((w.alloc (.cells #[.int .i64 p.cp, .int .u64 (p.on : Int), .int .u64 (p.ac : Int), .int .u64 (p.pw : Int), v4, v5, v6, v7, v8, v9, v10, .bool p.bu, .bool p.up, .int .i64 p.cc, .int .i64 p.by'] 33)).alloc (.cells #[.int .i64 p.cc] 3)) → Below w.heap.size w u) := fun u e => e.below g1
  have k1 := (Blk.new w [.int .i64 p.cp, .int .u64 (p.on : Int), .int .u64 (p.ac : Int), .int .u64 (p.pw : Int), v4, v5, v6, v7, v8, v9, v10, .bool p.bu, .bool p.up, .int .i64 p.cc, .int .i64 p.by'] 33).keep (Fr.of_below ((Below.refl _ (w.alloc (.cells #[.int .i64 p.cp, .int .u64 (p.on : Int), .int .u64 (p.ac : Int), .int .u64 (p.pw : Int), v4, v5, v6, v7, v8, v9, v10, .bool p.bu, .bool p.up, .int .i64 p.cc, .int .i64 p.by'] 33))).alloc (Nat.le_refl _) (.cells #[.int .i64 p.cc] 3))) (Blk.new w _ _).lt (by simp)
  have KL : Hid (∀ w' : World, Sm w' ((w.alloc (.cells #[.int .i64 p.cp, .int .u64 (p.on : Int), .int .u64 (p.ac : Int), .int .u64 (p.pw : Int), v4, v5, v6, v7, v8, v9, v10, .bool p.bu, .bool p.up, .int .i64 p.cc, .int .i64 p.by'] 33)).alloc (.cells #[.int .i64 p.cc] 3)) → w'.cell? ⟨w.heap.size, 1, none⟩ = some (.int .u64 (p.on : Int)) ∧ w'.cell? ⟨w.heap.size, 3, none⟩ = some (.int .u64 (p.pw : Int)) ∧ w'.cell? ⟨w.heap.size, 11, none⟩ = some (.bool p.bu) ∧ w'.cell? ⟨w.heap.size, 12, none⟩ = some (.bool p.up) ∧ w'.cell? ⟨w.heap.size, 13, none⟩ = some (.int .i64 p.cc)) := fun u e => by
    have q := k1.heap e.1
    exact ⟨q.cell 1, q.cell 3, q.cell 11, q.cell 12, q.cell 13⟩
  unfold rl5
  rw [show decide (p.pw = p.on) = decide ((p.pw : Int) = (p.on : Int)) from decide_eq_decide.2 (by omega), show decide (p.pw = p.on ||| bv p.cc) = decide ((p.pw : Int) = ((p.on ||| bv p.cc : Nat) : Int)) from decide_eq_decide.2 (by omega)]
  clear h b0 g1 RW k1
  generalize ((p.on ||| bv p.cc : Nat) : Int) = ow at *
  obtain ⟨cp, on, ac, pw, th, qu, ti, ir, wo, ca, ke, bu, up, cc, by'⟩ := p
  dsimp only at *
  generalize (on : Int) = on at *
  generalize (pw : Int) = pw at *
  generalize (ac : Int) = ac at *
  by_cases h0 : pw = on
  · subst h0
    go_enter Tryz.func18, Tryz.ntmps18
    go_wp2_with fail
    go_quiet (fail)
    go_wp2
    go_ret
    exact ⟨by simp, B0.out _⟩
  · have e0 := dn h0
    rw [e0]
    have e2 : (pw == on) = false := e0
    cases bu
    · skip
      go_enter Tryz.func18, Tryz.ntmps18
      go_wp2_with fail
      go_quiet (fail)
      go_wp2
      go_ret
      exact ⟨rfl, B0.out _⟩
    · cases up
      · skip
        go_enter Tryz.func18, Tryz.ntmps18
        go_wp2_with fail
        go_quiet (fail)
        go_wp2
        go_ret
        exact ⟨rfl, B0.out _⟩
      · go_enter Tryz.func18, Tryz.ntmps18
        go_wp2_with fail
        go_region_held3 (fun w' => w'.cell? ⟨w.heap.size, 1, none⟩ = some (.int .u64 on) ∧ w'.cell? ⟨w.heap.size, 3, none⟩ = some (.int .u64 pw) ∧ w'.cell? ⟨w.heap.size, 11, none⟩ = some (.bool true) ∧ w'.cell? ⟨w.heap.size, 12, none⟩ = some (.bool true) ∧ w'.cell? ⟨w.heap.size, 13, none⟩ = some (.int .i64 cc)) (go_keep)
          (first | (go_at_call 82; refine (CW.out _ ?_).mono ?_; exact ⟨rfl, rfl, rfl, rfl⟩; rintro e v7 ⟨rfl, rfl⟩))
        all_goals go_wp2
        go_ret
        exact ⟨ob (show decide (pw = ow) = (false || (true && (true && decide (pw = ow)))) by simp), B1.out _ ⟨rfl, rfl, rfl, rfl⟩⟩
set_option maxRecDepth 100000 in
set_option maxHeartbeats 8000000 in
theorem rq_any (p : Pic) (v4 v5 v6 v7 v8 v9 v10 : Value) (w : World) (h : PV w p v4 v5 v6 v7 v8 v9 v10) :
    Calls Tryz.prog 20 #[.agg #[.int .i64 p.cp, .int .u64 (p.on : Int), .int .u64 (p.ac : Int), .int .u64 (p.pw : Int), v4, v5, v6, v7, v8, v9, v10, .bool p.bu, .bool p.up, .int .i64 p.cc, .int .i64 p.by']] w fun e w' => e = .returned (.bool (rl7 p)) ∧ Below w.heap.size w w' := by
  have b0 : Below w.heap.size w (w.alloc (.cells #[.int .i64 p.cp, .int .u64 (p.on : Int), .int .u64 (p.ac : Int), .int .u64 (p.pw : Int), v4, v5, v6, v7, v8, v9, v10, .bool p.bu, .bool p.up, .int .i64 p.cc, .int .i64 p.by'] 33)) := (Below.refl _ _).alloc (Nat.le_refl _) _
  have B0 : Hid (∀ n, Below w.heap.size w ((w.alloc (.cells #[.int .i64 p.cp, .int .u64 (p.on : Int), .int .u64 (p.ac : Int), .int .u64 (p.pw : Int), v4, v5, v6, v7, v8, v9, v10, .bool p.bu, .bool p.up, .int .i64 p.cc, .int .i64 p.by'] 33)).drewN n)) := fun n => drN b0 n
  have C1 : Hid (∀ v, _) := fun v => khas_any p.ac p.by' v h.ac
  have CU : Hid (∀ v, _) := fun v => kupto_any p.cp v
  have C2 : Hid (∀ v, _) := fun v => khas_any (up p.cp) p.cc v (up_lt _)
  have C3 : Hid (∀ v, _) := fun v => khas_any p.on p.cc v h.on
  unfold rl7
  have HB : Hid (Below w.heap.size w (w.alloc (.cells #[.int .i64 p.cp, .int .u64 (p.on : Int), .int .u64 (p.ac : Int), .int .u64 (p.pw : Int), v4, v5, v6, v7, v8, v9, v10, .bool p.bu, .bool p.up, .int .i64 p.cc, .int .i64 p.by'] 33))) := b0
  clear h b0
  generalize tb p.ac p.by' = b1 at *
  generalize tb (up p.cp) p.cc = b2 at *
  generalize tb p.on p.cc = b3 at *
  generalize ((up p.cp : Nat) : Int) = uc at *
  obtain ⟨cp, on, ac, pw, th, qu, ti, ir, wo, ca, ke, bu, up, cc, by'⟩ := p
  dsimp only at *
  cases bu
  · go_enter Tryz.func20, Tryz.ntmps20
    go_wp2
    go_ret
    exact ⟨rfl, HB.out⟩
  · by_cases h0 : cc = by'
    · subst h0
      have e0 : decide (cc ≠ cc) = false := decide_eq_false (fun h => h rfl)
      rw [e0]
      go_enter Tryz.func20, Tryz.ntmps20
      go_wp2_with fail
      go_quiet (first | (go_at_call 84; first | with_reducible refine Calls.quiet_of_same (C1.out _) | with_reducible refine Calls.quiet_of_same (C2.out _) | with_reducible refine Calls.quiet_of_same (C3.out _)) | (go_at_call 29; refine Calls.quiet_of_same (CU.out _)))
      go_wp2
      go_ret
      exact ⟨rfl, B0.out _⟩
    · have e0 : decide (cc ≠ by') = true := decide_eq_true h0
      rw [e0]
      have e1 : (cc != by') = true := by simpa using h0
      cases b1
      · skip
        go_enter Tryz.func20, Tryz.ntmps20
        go_wp2_with fail
        go_quiet (first | (go_at_call 84; first | with_reducible refine Calls.quiet_of_same (C1.out _) | with_reducible refine Calls.quiet_of_same (C2.out _) | with_reducible refine Calls.quiet_of_same (C3.out _)) | (go_at_call 29; refine Calls.quiet_of_same (CU.out _)))
        go_wp2
        go_ret
        exact ⟨rfl, B0.out _⟩
      · cases b2
        · skip
          go_enter Tryz.func20, Tryz.ntmps20
          go_wp2_with fail
          go_quiet (first | (go_at_call 84; first | with_reducible refine Calls.quiet_of_same (C1.out _) | with_reducible refine Calls.quiet_of_same (C2.out _) | with_reducible refine Calls.quiet_of_same (C3.out _)) | (go_at_call 29; refine Calls.quiet_of_same (CU.out _)))
          go_wp2
          go_ret
          exact ⟨rfl, B0.out _⟩
        · skip
          go_enter Tryz.func20, Tryz.ntmps20
          go_wp2_with fail
          go_quiet (first | (go_at_call 84; first | with_reducible refine Calls.quiet_of_same (C1.out _) | with_reducible refine Calls.quiet_of_same (C2.out _) | with_reducible refine Calls.quiet_of_same (C3.out _)) | (go_at_call 29; refine Calls.quiet_of_same (CU.out _)))
          go_wp2
          go_ret
          exact ⟨ob (show (b3 != up) = (!true || (true && (true && (true && (b3 != up))))) by simp), B0.out _⟩
set_option maxRecDepth 100000 in
set_option maxHeartbeats 2000000 in
theorem rule_any (p : Pic) (v4 v5 v6 v7 v8 v9 v10 : Value) (n : Int) (w : World) (h : PV w p v4 v5 v6 v7 v8 v9 v10) (hl : Few p) :
    Calls Tryz.prog 7 #[.agg #[.int .i64 p.cp, .int .u64 (p.on : Int), .int .u64 (p.ac : Int), .int .u64 (p.pw : Int), v4, v5, v6, v7, v8, v9, v10, .bool p.bu, .bool p.up, .int .i64 p.cc, .int .i64 p.by'], .int .i64 n] w fun e w' => e = .returned (.bool (rule p n)) ∧ Below w.heap.size w w' := by
  have b0 : Below w.heap.size w (w.alloc (.cells #[.int .i64 p.cp, .int .u64 (p.on : Int), .int .u64 (p.ac : Int), .int .u64 (p.pw : Int), v4, v5, v6, v7, v8, v9, v10, .bool p.bu, .bool p.up, .int .i64 p.cc, .int .i64 p.by'] 33)) := (Below.refl _ _).alloc (Nat.le_refl _) _
  have h0 := h.below b0
  have HB0 : Hid (Below w.heap.size w (w.alloc (.cells #[.int .i64 p.cp, .int .u64 (p.on : Int), .int .u64 (p.ac : Int), .int .u64 (p.pw : Int), v4, v5, v6, v7, v8, v9, v10, .bool p.bu, .bool p.up, .int .i64 p.cc, .int .i64 p.by'] 33))) := b0
  have C1 : Hid (∀ _ : Unit, _) := fun _ => cn_any p v4 v5 v6 v7 v8 v9 v10 (w.alloc (.cells #[.int .i64 p.cp, .int .u64 (p.on : Int), .int .u64 (p.ac : Int), .int .u64 (p.pw : Int), v4, v5, v6, v7, v8, v9, v10, .bool p.bu, .bool p.up, .int .i64 p.cc, .int .i64 p.by'] 33)) h0
  have C2 : Hid (∀ _ : Unit, _) := fun _ => wq_any p v4 v5 v6 v7 v8 v9 v10 (w.alloc (.cells #[.int .i64 p.cp, .int .u64 (p.on : Int), .int .u64 (p.ac : Int), .int .u64 (p.pw : Int), v4, v5, v6, v7, v8, v9, v10, .bool p.bu, .bool p.up, .int .i64 p.cc, .int .i64 p.by'] 33)) h0 hl
  have C3 : Hid (∀ _ : Unit, _) := fun _ => sh_any p v4 v5 v6 v7 v8 v9 v10 (w.alloc (.cells #[.int .i64 p.cp, .int .u64 (p.on : Int), .int .u64 (p.ac : Int), .int .u64 (p.pw : Int), v4, v5, v6, v7, v8, v9, v10, .bool p.bu, .bool p.up, .int .i64 p.cc, .int .i64 p.by'] 33)) h0 hl
  have C4 : Hid (∀ _ : Unit, _) := fun _ => pm_any p v4 v5 v6 v7 v8 v9 v10 (w.alloc (.cells #[.int .i64 p.cp, .int .u64 (p.on : Int), .int .u64 (p.ac : Int), .int .u64 (p.pw : Int), v4, v5, v6, v7, v8, v9, v10, .bool p.bu, .bool p.up, .int .i64 p.cc, .int .i64 p.by'] 33)) h0 hl
  have C5 : Hid (∀ _ : Unit, _) := fun _ => pw_any p v4 v5 v6 v7 v8 v9 v10 (w.alloc (.cells #[.int .i64 p.cp, .int .u64 (p.on : Int), .int .u64 (p.ac : Int), .int .u64 (p.pw : Int), v4, v5, v6, v7, v8, v9, v10, .bool p.bu, .bool p.up, .int .i64 p.cc, .int .i64 p.by'] 33)) h0
  have C6 : Hid (∀ _ : Unit, _) := fun _ => on_any p v4 v5 v6 v7 v8 v9 v10 (w.alloc (.cells #[.int .i64 p.cp, .int .u64 (p.on : Int), .int .u64 (p.ac : Int), .int .u64 (p.pw : Int), v4, v5, v6, v7, v8, v9, v10, .bool p.bu, .bool p.up, .int .i64 p.cc, .int .i64 p.by'] 33)) h0 hl
  have C7 : Hid (∀ _ : Unit, _) := fun _ => rq_any p v4 v5 v6 v7 v8 v9 v10 (w.alloc (.cells #[.int .i64 p.cp, .int .u64 (p.on : Int), .int .u64 (p.ac : Int), .int .u64 (p.pw : Int), v4, v5, v6, v7, v8, v9, v10, .bool p.bu, .bool p.up, .int .i64 p.cc, .int .i64 p.by'] 33)) h0
  clear h h0 b0 hl
  by_cases h1 : n = 1
  · subst h1
    rw [show rule p 1 = rl1 p by unfold rule; simp]
    go_enter Tryz.func7, Tryz.ntmps7
    go_wp2_with fail
    refine (C1.out ()).mono ?_
    rintro e w1 ⟨rfl, B1⟩
    have HB1 : Hid (Below w.heap.size w w1) := HB0.out.trans (B1.mono HB0.out.size)
    clear B1
    go_wp2
    go_ret
    exact ⟨rfl, HB1.out⟩
  · skip
    by_cases h2 : n = 2
    · subst h2
      rw [show rule p 2 = rl2 p by unfold rule; simp]
      go_enter Tryz.func7, Tryz.ntmps7
      go_wp2_with fail
      refine (C2.out ()).mono ?_
      rintro e w1 ⟨rfl, B1⟩
      have HB1 : Hid (Below w.heap.size w w1) := HB0.out.trans (B1.mono HB0.out.size)
      clear B1
      go_wp2
      go_ret
      exact ⟨rfl, HB1.out⟩
    · skip
      by_cases h3 : n = 3
      · subst h3
        rw [show rule p 3 = rl3 p by unfold rule; simp]
        go_enter Tryz.func7, Tryz.ntmps7
        go_wp2_with fail
        refine (C3.out ()).mono ?_
        rintro e w1 ⟨rfl, B1⟩
        have HB1 : Hid (Below w.heap.size w w1) := HB0.out.trans (B1.mono HB0.out.size)
        clear B1
        go_wp2
        go_ret
        exact ⟨rfl, HB1.out⟩
      · skip
        by_cases h4 : n = 4
        · subst h4
          rw [show rule p 4 = rl4 p by unfold rule; simp]
          go_enter Tryz.func7, Tryz.ntmps7
          go_wp2_with fail
          refine (C4.out ()).mono ?_
          rintro e w1 ⟨rfl, B1⟩
          have HB1 : Hid (Below w.heap.size w w1) := HB0.out.trans (B1.mono HB0.out.size)
          clear B1
          go_wp2
          go_ret
          exact ⟨rfl, HB1.out⟩
        · skip
          by_cases h5 : n = 5
          · subst h5
            rw [show rule p 5 = rl5 p by unfold rule; simp]
            go_enter Tryz.func7, Tryz.ntmps7
            go_wp2_with fail
            refine (C5.out ()).mono ?_
            rintro e w1 ⟨rfl, B1⟩
            have HB1 : Hid (Below w.heap.size w w1) := HB0.out.trans (B1.mono HB0.out.size)
            clear B1
            go_wp2
            go_ret
            exact ⟨rfl, HB1.out⟩
          · skip
            by_cases h6 : n = 6
            · subst h6
              rw [show rule p 6 = rl6 p by unfold rule; simp]
              go_enter Tryz.func7, Tryz.ntmps7
              go_wp2_with fail
              refine (C6.out ()).mono ?_
              rintro e w1 ⟨rfl, B1⟩
              have HB1 : Hid (Below w.heap.size w w1) := HB0.out.trans (B1.mono HB0.out.size)
              clear B1
              go_wp2
              go_ret
              exact ⟨rfl, HB1.out⟩
            · skip
              by_cases h7 : n = 7
              · subst h7
                rw [show rule p 7 = rl7 p by unfold rule; simp]
                go_enter Tryz.func7, Tryz.ntmps7
                go_wp2_with fail
                refine (C7.out ()).mono ?_
                rintro e w1 ⟨rfl, B1⟩
                have HB1 : Hid (Below w.heap.size w w1) := HB0.out.trans (B1.mono HB0.out.size)
                clear B1
                go_wp2
                go_ret
                exact ⟨rfl, HB1.out⟩
              · skip
                rw [show rule p n = false by unfold rule; simp [h1, h2, h3, h4, h5, h6, h7]]
                go_enter Tryz.func7, Tryz.ntmps7
                go_wp2
                go_ret
                exact ⟨rfl, HB0.out⟩
theorem chk_true (p : Pic) (k : Nat) (hk : k < 7) (h : rule p ((k + 1 : Nat) : Int) = true) : chk p ((k + 1 : Nat) : Int) (7 - k) = chk p ((k + 1 + 1 : Nat) : Int) (7 - (k + 1)) := by
  rw [show 7 - k = (7 - (k + 1)) + 1 by omega]
  rw [show chk p ((k + 1 : Nat) : Int) ((7 - (k + 1)) + 1) = if rule p ((k + 1 : Nat) : Int) = true then chk p (((k + 1 : Nat) : Int) + 1) (7 - (k + 1)) else ((k + 1 : Nat) : Int) from rfl, if_pos h]
  congr 1
theorem chk_false (p : Pic) (k : Nat) (hk : k < 7) (h : rule p ((k + 1 : Nat) : Int) = false) : chk p ((k + 1 : Nat) : Int) (7 - k) = ((k + 1 : Nat) : Int) := by
  rw [show 7 - k = (7 - (k + 1)) + 1 by omega]
  unfold chk
  rw [if_neg (by rw [h]; simp)]
def ck (p : Pic) : Int := chk p 1 7
def ce (p : Pic) : Int := if ck p = 0 then 0 else 6
set_option maxRecDepth 100000 in
set_option maxHeartbeats 2000000 in
theorem check_any (p : Pic) (v4 v5 v6 v7 v8 v9 v10 : Value) (w : World) (h : PV w p v4 v5 v6 v7 v8 v9 v10) (hl : Few p) :
    Calls Tryz.prog 9 #[.agg #[.int .i64 p.cp, .int .u64 (p.on : Int), .int .u64 (p.ac : Int), .int .u64 (p.pw : Int), v4, v5, v6, v7, v8, v9, v10, .bool p.bu, .bool p.up, .int .i64 p.cc, .int .i64 p.by']] w fun e w' => e = .returned (.tuple #[.int .i64 (ck p), .int .i64 (ce p)]) ∧ Below w.heap.size w w' := by
  have b0 : Below w.heap.size w (w.alloc (.cells #[.int .i64 p.cp, .int .u64 (p.on : Int), .int .u64 (p.ac : Int), .int .u64 (p.pw : Int), v4, v5, v6, v7, v8, v9, v10, .bool p.bu, .bool p.up, .int .i64 p.cc, .int .i64 p.by'] 33)) := (Below.refl _ _).alloc (Nat.le_refl _) _
  have HH : Hid (PV w p v4 v5 v6 v7 v8 v9 v10) := h
  have HL : Hid (Few p) := hl
  have HB0 : Hid (Below w.heap.size w (w.alloc (.cells #[.int .i64 p.cp, .int .u64 (p.on : Int), .int .u64 (p.ac : Int), .int .u64 (p.pw : Int), v4, v5, v6, v7, v8, v9, v10, .bool p.bu, .bool p.up, .int .i64 p.cc, .int .i64 p.by'] 33))) := b0
  have HK0 : Hid (Blk (w.alloc (.cells #[.int .i64 p.cp, .int .u64 (p.on : Int), .int .u64 (p.ac : Int), .int .u64 (p.pw : Int), v4, v5, v6, v7, v8, v9, v10, .bool p.bu, .bool p.up, .int .i64 p.cc, .int .i64 p.by'] 33)) w.heap.size [.int .i64 p.cp, .int .u64 (p.on : Int), .int .u64 (p.ac : Int), .int .u64 (p.pw : Int), v4, v5, v6, v7, v8, v9, v10, .bool p.bu, .bool p.up, .int .i64 p.cc, .int .i64 p.by'] 33) := Blk.new w _ _
  clear h hl b0
  go_enter Tryz.func9, Tryz.ntmps9
  go_wp2
  go_loopw [4] (fun i wr => ∃ (k : Nat), (k : Int) ≤ 7 ∧ Hid (Below w.heap.size w wr ∧ Blk wr w.heap.size [.int .i64 p.cp, .int .u64 (p.on : Int), .int .u64 (p.ac : Int), .int .u64 (p.pw : Int), v4, v5, v6, v7, v8, v9, v10, .bool p.bu, .bool p.up, .int .i64 p.cc, .int .i64 p.by'] 33 ∧ ck p = chk p ((k + 1 : Nat) : Int) (7 - k)) ∧ i = .int .i64 ((k + 1 : Nat) : Int)) (fun i _ => 9 - (intOf i).toNat)
  case atStart => exact ⟨0, by omega, ⟨HB0.out, HK0.out, rfl⟩, rfl⟩
  case round =>
    obtain ⟨k, hk, hm, rfl⟩ := hrel
    by_cases e : (k : Int) < 7
    · have C : Hid (∀ _ : Unit, _) := fun _ => rule_any p v4 v5 v6 v7 v8 v9 v10 ((k + 1 : Nat) : Int) wr (HH.out.below hm.out.1) HL.out
      have c0 := hm.out.2.1.cell 0
      have c1 := hm.out.2.1.cell 1
      have c2 := hm.out.2.1.cell 2
      have c3 := hm.out.2.1.cell 3
      have c4 := hm.out.2.1.cell 4
      have c5 := hm.out.2.1.cell 5
      have c6 := hm.out.2.1.cell 6
      have c7 := hm.out.2.1.cell 7
      have c8 := hm.out.2.1.cell 8
      have c9 := hm.out.2.1.cell 9
      have c10 := hm.out.2.1.cell 10
      have c11 := hm.out.2.1.cell 11
      have c12 := hm.out.2.1.cell 12
      have c13 := hm.out.2.1.cell 13
      have c14 := hm.out.2.1.cell 14
      simp only [List.getElem?_cons_zero, List.getElem?_cons_succ] at c0 c1 c2 c3 c4 c5 c6 c7 c8 c9 c10 c11 c12 c13 c14
      have M : Hid (Below w.heap.size w wr ∧ _) := ⟨hm.out.1, hm.out.2.1⟩
      have T : Hid (rule p ((k + 1 : Nat) : Int) = true → ck p = chk p ((k + 1 + 1 : Nat) : Int) (7 - (k + 1))) := fun q => hm.out.2.2.trans (chk_true p k (by omega) q)
      have F : Hid (rule p ((k + 1 : Nat) : Int) = false → ck p = ((k + 1 : Nat) : Int) ∧ ce p = 6) := fun q => by
        have q2 := hm.out.2.2.trans (chk_false p k (by omega) q)
        refine ⟨q2, ?_⟩
        unfold ce
        rw [if_neg (by omega)]
      have le : ((k + 1 : Nat) : Int) ≤ 7 := by omega
      obtain ⟨i, hi⟩ : ∃ i : Int, ((k + 1 : Nat) : Int) = i := ⟨_, rfl⟩
      have HI : Hid (((k + 1 : Nat) : Int) = i) := hi
      rw [hi] at C T F le ⊢
      clear hm hi
      cases hq : rule p i
      · rw [hq] at C
        have FQ : Hid (ck p = i ∧ ce p = 6) := F.out hq
        clear F T
        go_wp2_with fail
        refine (C.out ()).mono ?_
        rintro e w1 ⟨rfl, b1⟩
        have B1 : Hid (Below w.heap.size w w1) := M.out.1.trans (b1.mono M.out.1.size)
        clear b1 c0 c1 c2 c3 c4 c5 c6 c7 c8 c9 c10 c11 c12 c13 c14
        go_wp2
        go_ret2
        exact ⟨by rw [FQ.out.1, FQ.out.2]; rfl, B1.out⟩
      · rw [hq] at C
        go_wp2_with fail
        refine (C.out ()).mono ?_
        rintro e w1 ⟨rfl, b1⟩
        have B1 : Hid (Below w.heap.size w w1) := M.out.1.trans (b1.mono M.out.1.size)
        have K1 : Hid (Blk _ _ _ _) := M.out.2.keep (Fr.of_below b1) M.out.2.lt (by simp)
        have wi : IntKind.i64.wrap (i + 1) = ((k + 1 + 1 : Nat) : Int) := by have := HI.out; rw [wrs (by omega) (by omega)]; omega
        have TT := T.out hq
        have HT : Hid (ck p = _) := TT
        clear b1 c0 c1 c2 c3 c4 c5 c6 c7 c8 c9 c10 c11 c12 c13 c14 TT
        go_wp2
        go_roundw
        case rel => exact ⟨k + 1, by omega, ⟨B1.out, K1.out, HT.out⟩, by go_num⟩
        case measure => have := HI.out; simp [intOf]; omega
    · have e2 : k = 7 := by omega
      subst e2
      have z : ck p = 0 := hm.out.2.2
      have z2 : ce p = 0 := by unfold ce; rw [if_pos z]
      have B1 : Hid (Below w.heap.size w wr) := hm.out.1
      have FQ : Hid (ck p = 0 ∧ ce p = 0) := ⟨z, z2⟩
      clear hm z z2
      go_wp2
      go_ret2
      exact ⟨by rw [FQ.out.1, FQ.out.2]; rfl, B1.out⟩
end Go.Proofs.YtfdmcbcomknebaaGreatDoor.Aud
