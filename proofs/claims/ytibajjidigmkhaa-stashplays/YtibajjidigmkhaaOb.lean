/- What pool's next, Take, Free and Pages answer and leave, for every pool, and what all calls of a pool that is not there answer. -/
import Derived.Test.YtibajjidigmkhaaRows
import Derived.Test.YtibajjidigmkhaaOa
import Derived.WalkKit
import Derived.ProofKit
import Derived.OpenShut
import Derived.BigQuiet
import Derived.Deep.RegionHeld3
namespace Go.Proofs.Ytibajjidigmkhaa
open Go.ChangeShapes Go.WideShapes Go.ChangeAt Go.RowKit
open Om

theorem nx_part {m : Nat} {A : List Nat} {p : Nat} (h1 : p < m) (h2 : pt A p = true) (h3 : ∀ j, j < p → pt A j = false) : nx m A = some p := by
  unfold nx
  rw [fi_yes h1 h2 h3]
theorem nx_else {m : Nat} {A : List Nat} (h3 : ∀ j, j < m → pt A j = false) : nx m A = fi (em A) m := by
  unfold nx
  rw [fi_no h3]

set_option maxHeartbeats 1000000 in
theorem next_any {b m : Nat} {A : List Nat} (w : World) (h : PO w b m A) :
    Calls Try.prog 37 #[.pointer (some ⟨b, 0, none⟩)] w fun e w' => e = .returned (.tuple #[.int .i64 (((nx m A).getD 0 : Nat) : Int), .bool (nx m A).isSome]) ∧ w' = w := by
  have c := h.c
  have hm : (m : Int) ≤ 12 := by have := h.pg.m2; omega
  have HC : Hid (∀ k : Nat, (k : Int) < m → w.cell? ⟨b, k, none⟩ = some (.int .u8 ((A.getD k 0 : Nat) : Int))) := fun k hk => h.at k (by omega)
  obtain ⟨R1, e1⟩ : ∃ R1, (nx m A).getD 0 = R1 := ⟨_, rfl⟩
  obtain ⟨R2, e2⟩ : ∃ R2, (nx m A).isSome = R2 := ⟨_, rfl⟩
  have HR : Hid ((nx m A).getD 0 = R1 ∧ (nx m A).isSome = R2) := ⟨e1, e2⟩
  rw [e1, e2]
  clear h e1 e2
  go_enter Try.func37, Try.ntmps37
  go_wp2
  go_loop [4, 5, 11] (fun f g i => ∃ (k F : Nat) (G : Bool), (k : Int) ≤ m ∧ Hid (∀ j, j < k → pt A j = false) ∧ Hid ((fi (em A) k).getD 0 = F ∧ (fi (em A) k).isSome = G) ∧ f = .int .i64 F ∧ g = .bool G ∧ i = .int .i64 k) (fun _ _ i => m - (intOf i).toNat)
  case atStart => exact ⟨0, 0, false, by omega, fun j hj => by omega, ⟨rfl, rfl⟩, rfl, rfl, rfl⟩
  case round =>
    obtain ⟨k, F, G, hk, hN, hF, rfl, rfl, rfl⟩ := hrel
    by_cases l : (k : Int) < m
    · have cg := HC.out k l
      have hk12 : (k : Int) < 12 := by omega
      by_cases x1 : A.getD k 0 = 255
      · have s1 : em A k = false := by unfold em; rw [x1]; rfl
        have s2 : pt A k = false := by unfold pt fu; rw [x1]; simp
        have N2 : Hid (∀ j, j < k + 1 → pt A j = false) := fun j hj => by
          by_cases d : j = k
          · subst d; exact s2
          · exact hN.out j (by omega)
        have F2 : Hid ((fi (em A) (k + 1)).getD 0 = F ∧ (fi (em A) (k + 1)).isSome = G) := by
          have := hF.out
          rw [fi_succ, s1]
          cases g : fi (em A) k with
          | some p => rw [g] at this; exact this
          | none => rw [g] at this; exact this
        rw [x1] at cg
        clear s1 s2 x1
        go_wp2
        go_round
        case rel => exact ⟨k + 1, F, G, by omega, N2, F2, rfl, rfl, by go_num⟩
        case measure => simp [intOf]; omega
      · by_cases x0 : A.getD k 0 = 0
        · have s1 : em A k = true := by unfold em; rw [x0]; rfl
          have s2 : pt A k = false := by unfold pt; rw [s1]; rfl
          have N2 : Hid (∀ j, j < k + 1 → pt A j = false) := fun j hj => by
            by_cases d : j = k
            · subst d; exact s2
            · exact hN.out j (by omega)
          rw [x0] at cg
          clear s2 x1 x0
          cases G with
          | true =>
            have F2 : Hid ((fi (em A) (k + 1)).getD 0 = F ∧ (fi (em A) (k + 1)).isSome = true) := by
              have := hF.out
              rw [fi_succ]
              cases g : fi (em A) k with
              | some p => rw [g] at this; exact this
              | none => rw [g] at this; simp at this
            clear s1
            go_wp2
            go_round
            case rel => exact ⟨k + 1, F, true, by omega, N2, F2, rfl, rfl, by go_num⟩
            case measure => simp [intOf]; omega
          | false =>
            have F2 : Hid ((fi (em A) (k + 1)).getD 0 = k ∧ (fi (em A) (k + 1)).isSome = true) := by
              have := hF.out
              rw [fi_succ, s1]
              cases g : fi (em A) k with
              | some p => rw [g] at this; simp at this
              | none => exact ⟨rfl, rfl⟩
            clear s1
            go_wp2
            go_round
            case rel => exact ⟨k + 1, k, true, by omega, N2, F2, rfl, rfl, by go_num⟩
            case measure => simp [intOf]; omega
        · have s : pt A k = true := by unfold pt em fu; simp only [Bool.and_eq_true, Bool.not_eq_true', beq_eq_false_iff_ne]; exact ⟨x0, x1⟩
          have e := nx_part (m := m) (by omega) s hN.out
          have hr := HR.out
          rw [e] at hr
          obtain ⟨r1, r2⟩ := hr
          simp at r1 r2
          subst r1
          subst r2
          generalize A.getD k 0 = x at *
          have y1 : ((x : Int) == 255) = false := by simp; omega
          have y0 : ((x : Int) == 0) = false := by simp; omega
          clear e s x0 x1
          go_wp2
          go_ret2
          exact ⟨rfl, rfl⟩
    · have hkm : k = m := by omega
      subst hkm
      have hr := HR.out
      rw [nx_else hN.out] at hr
      have hf := hF.out
      obtain rfl : F = R1 := by rw [← hf.1, ← hr.1]
      obtain rfl : G = R2 := by rw [← hf.2, ← hr.2]
      clear hr hf
      go_wp2
      go_ret2
      exact ⟨rfl, rfl⟩

theorem xor8 (x : Nat) (h : x < 256) : bits .xor .u8 (IntKind.u8.max) (x : Int) = ((255 - x : Nat) : Int) := by
  have e : ∀ x, x < 256 → 255 ^^^ x = 255 - x := by decide +kernel
  rw [show IntKind.u8.max = ((255 : Nat) : Int) from rfl, u8_xor_nat 255 x (by omega) h, e x h]

set_option maxHeartbeats 1000000 in
theorem ptake_any {b m : Nat} {A : List Nat} (w : World) (h : PO w b m A) :
    Calls Try.prog 12 #[.pointer (some ⟨b, 0, none⟩)] w fun e w' => e = .returned (.tuple #[.int .i64 (tkN m A), .int .i64 (tkE m A)]) ∧ PO w' b m (tkA m A) ∧ Fr w.heap.size [b] w w' := by
  have C : Hid (∀ _ : Unit, _) := fun _ => next_any w h
  have HT : Hid (PO w b m A) := h
  cases e : nx m A with
  | none =>
    rw [e] at C
    rw [show tkN m A = 0 by unfold tkN; rw [e], show tkE m A = 5 by unfold tkE; rw [e], show tkA m A = A by unfold tkA; rw [e]]
    clear h e
    go_enter Try.func12, Try.ntmps12
    go_wp2_with fail
    refine (C.out ()).mono ?_
    rintro e w' ⟨rfl, rfl⟩
    go_wp2
    go_ret2
    exact ⟨rfl, HT.out, Fr.refl _ _ _⟩
  | some p =>
    rw [e] at C
    obtain ⟨hp, hx⟩ := nx_some h.pg e
    have hm : (m : Int) ≤ 12 := by have := h.pg.m2; omega
    have hp2 : (p : Int) < 12 := by omega
    have hl := lz_lt _ hx
    have hl2 : ((lz (A.getD p 0) : Nat) : Int) < 8 := by omega
    rw [show tkN m A = (p : Int) * 8 + ((lz (A.getD p 0) : Nat) : Int) + 1 by unfold tkN; rw [e]; simp, show tkE m A = 0 by unfold tkE; rw [e], show tkA m A = A.set p (sb (A.getD p 0) (lz (A.getD p 0)) true) by unfold tkA; rw [e]]
    simp only [Option.getD_some, Option.isSome_some] at C
    have D : Hid (∀ _ : Unit, _) := fun _ => tz8_any (A.getD p 0) w (by omega)
    have cg := h.at p (by omega)
    have fg : w.frozen? ⟨b, p, none⟩ = false := h.f _
    have x8 := xor8 (A.getD p 0) (h.pg.lt p)
    have e8 := pow8 _ hl
    have o8 := u8_or_nat (A.getD p 0) (2 ^ lz (A.getD p 0)) (h.pg.lt p) (pow8_lt _ hl)
    have TS : Hid (∀ w1 : World, w1.heap = w.heap → _) := fun w1 e1 => po_store (h.heap e1) p (sb (A.getD p 0) (lz (A.getD p 0)) true) (by omega) (sb_lt _ (h.pg.lt p) _ hl).1
    rw [show A.getD p 0 ||| 2 ^ lz (A.getD p 0) = sb (A.getD p 0) (lz (A.getD p 0)) true from rfl] at o8
    clear h e hx hl hp
    generalize sb (A.getD p 0) (lz (A.getD p 0)) true = z at *
    generalize lz (A.getD p 0) = l at *
    generalize 255 - A.getD p 0 = y at *
    generalize A.getD p 0 = x at *
    generalize 2 ^ l = t at *
    go_enter Try.func12, Try.ntmps12
    go_wp2_with fail
    refine (C.out ()).mono ?_
    rintro e w' ⟨rfl, rfl⟩
    go_wp2_with fail
    refine (D.out ()).mono ?_
    rintro e w' ⟨rfl, rfl⟩
    go_wp2_with fail
    go_region
    all_goals go_wp2
    go_ret2
    refine ⟨rfl, TS.out (World.drewN _ _) rfl, (Fr.drewN ?_ _).setCell (Or.inr (by simp)) _⟩
    exact Fr.refl _ _ _

set_option maxHeartbeats 400000 in
theorem pfree_any {b m : Nat} {A : List Nat} (w : World) (h : PO w b m A) :
    Calls Try.prog 18 #[.pointer (some ⟨b, 0, none⟩)] w fun e w' => e = .returned (.int .i64 ((fr m A : Nat) : Int)) ∧ w' = w := by
  have c := h.c
  have hm : (m : Int) ≤ 12 := by have := h.pg.m2; omega
  have HC : Hid (∀ k : Nat, (k : Int) < m → w.cell? ⟨b, k, none⟩ = some (.int .u8 ((A.getD k 0 : Nat) : Int)) ∧ A.getD k 0 < 256) := fun k hk => ⟨h.at k (by omega), h.pg.lt k⟩
  obtain ⟨R, hR⟩ : ∃ R, fr m A = R := ⟨_, rfl⟩
  have HR : Hid (fr m A = R) := hR
  rw [hR]
  clear h hR
  go_enter Try.func18, Try.ntmps18
  go_wp2
  go_loop [3, 11] (fun c i => ∃ k C : Nat, (k : Int) ≤ m ∧ Hid (ct (fun i => !bt A i) (8 * k) = C) ∧ (C : Int) ≤ 8 * k ∧ i = .int .i64 k ∧ c = .int .i64 C) (fun _ i => m - (intOf i).toNat)
  case atStart => exact ⟨0, 0, by omega, rfl, by omega, rfl, rfl⟩
  case round =>
    obtain ⟨k, C, hk, hC, hcl, rfl, rfl⟩ := hrel
    by_cases l : (k : Int) < m
    · obtain ⟨cg, lt⟩ := HC.out k l
      have hk12 : (k : Int) < 12 := by omega
      have D : Hid (∀ w, _) := fun w => ones8_any (A.getD k 0) w (by omega)
      have hp : ((pop (A.getD k 0) : Nat) : Int) ≤ 8 := by have := pop_le _ lt; omega
      have s : Hid (ct (fun i => !bt A i) (8 * (k + 1)) = C + (8 - pop (A.getD k 0))) := by rw [ct_page A k lt, hC.out]; exact rfl
      generalize pop (A.getD k 0) = q at *
      generalize A.getD k 0 = x at *
      clear lt
      go_wp2_with fail
      refine (D.out _).mono ?_
      rintro e w' ⟨rfl, rfl⟩
      go_wp2
      go_round
      case rel => exact ⟨k + 1, C + (8 - q), by omega, s, by omega, by go_num, by go_num⟩
      case measure => simp [intOf]; omega
    · have e2 : C = R := by rw [← hC.out, ← HR.out, show k = m by omega]; rfl
      subst e2
      go_wp2
      go_ret
      exact ⟨rfl, rfl⟩

theorem ct_both (A : List Nat) (k : Nat) : ct (em A) k + ct (fu A) k ≤ k := by
  induction k with
  | zero => exact Nat.le_refl _
  | succ k ih =>
    rw [ct_succ, ct_succ]
    by_cases c : em A k = true
    · have : fu A k = false := by unfold em at c; unfold fu; rw [show A.getD k 0 = 0 by simpa using c]; rfl
      rw [c, this]
      simp
      omega
    · rw [show em A k = false by simpa using c]
      by_cases d : fu A k = true <;> simp [d] <;> omega

set_option maxHeartbeats 1000000 in
theorem ppages_any {b m : Nat} {A : List Nat} (w : World) (h : PO w b m A) :
    Calls Try.prog 16 #[.pointer (some ⟨b, 0, none⟩)] w fun e w' => e = .returned (.tuple #[.int .i64 ((ct (em A) m : Nat) : Int), .int .i64 ((m - ct (em A) m - ct (fu A) m : Nat) : Int), .int .i64 ((ct (fu A) m : Nat) : Int)]) ∧ ∃ k, w' = w.drewN k := by
  have c := h.c
  have hm : (m : Int) ≤ 12 := by have := h.pg.m2; omega
  have HC : Hid (∀ k : Nat, (k : Int) < m → w.cell? ⟨b, k, none⟩ = some (.int .u8 ((A.getD k 0 : Nat) : Int))) := fun k hk => h.at k (by omega)
  obtain ⟨R1, e1⟩ : ∃ R1, ct (em A) m = R1 := ⟨_, rfl⟩
  obtain ⟨R2, e2⟩ : ∃ R2, ct (fu A) m = R2 := ⟨_, rfl⟩
  have HR : Hid (ct (em A) m = R1 ∧ ct (fu A) m = R2) := ⟨e1, e2⟩
  have hle := ct_both A m
  rw [e1, e2] at hle ⊢
  rw [show ((m - R1 - R2 : Nat) : Int) = (m : Int) - R1 - R2 by omega]
  have hle2 : (R1 : Int) + R2 ≤ m := by omega
  clear h e1 e2 hle
  go_enter Try.func16, Try.ntmps16
  go_wp2
  go_loop [5, 6, 14] (fun f g i => ∃ k F G : Nat, (k : Int) ≤ m ∧ Hid (ct (em A) k = F ∧ ct (fu A) k = G) ∧ (F : Int) + G ≤ k ∧ f = .int .i64 F ∧ g = .int .i64 G ∧ i = .int .i64 k) (fun _ _ i => m - (intOf i).toNat)
  case atStart => exact ⟨0, 0, 0, by omega, ⟨rfl, rfl⟩, by omega, rfl, rfl, rfl⟩
  case round =>
    obtain ⟨k, F, G, hk, hF, hb, rfl, rfl, rfl⟩ := hrel
    by_cases l : (k : Int) < m
    · have cg := HC.out k l
      have hk12 : (k : Int) < 12 := by omega
      have s1 := ct_succ (em A) k
      have s2 := ct_succ (fu A) k
      rw [hF.out.1] at s1
      rw [hF.out.2] at s2
      by_cases x1 : A.getD k 0 = 255
      · have F2 : Hid (ct (em A) (k + 1) = F ∧ ct (fu A) (k + 1) = G + 1) := by
          rw [s1, s2, show em A k = false by unfold em; rw [x1]; rfl, show fu A k = true by unfold fu; rw [x1]; rfl]
          exact ⟨rfl, rfl⟩
        rw [x1] at cg
        clear s1 s2 x1
        go_wp2
        go_round
        case rel => exact ⟨k + 1, F, G + 1, by omega, F2, by omega, rfl, by go_num, by go_num⟩
        case measure => simp [intOf]; omega
      · by_cases x0 : A.getD k 0 = 0
        · have F2 : Hid (ct (em A) (k + 1) = F + 1 ∧ ct (fu A) (k + 1) = G) := by
            rw [s1, s2, show em A k = true by unfold em; rw [x0]; rfl, show fu A k = false by unfold fu; rw [x0]; rfl]
            exact ⟨rfl, rfl⟩
          rw [x0] at cg
          clear s1 s2 x1 x0
          go_wp2
          go_round
          case rel => exact ⟨k + 1, F + 1, G, by omega, F2, by omega, by go_num, rfl, by go_num⟩
          case measure => simp [intOf]; omega
        · have F2 : Hid (ct (em A) (k + 1) = F ∧ ct (fu A) (k + 1) = G) := by
            rw [s1, s2, show em A k = false by unfold em; simpa using x0, show fu A k = false by unfold fu; simpa using x1]
            exact ⟨rfl, rfl⟩
          generalize A.getD k 0 = x at *
          have y1 : ((x : Int) == 255) = false := by simp; omega
          have y0 : ((x : Int) == 0) = false := by simp; omega
          clear s1 s2 x0 x1
          go_wp2
          go_round
          case rel => exact ⟨k + 1, F, G, by omega, F2, by omega, rfl, rfl, by go_num⟩
          case measure => simp [intOf]; omega
    · have hkm : k = m := by omega
      subst hkm
      have hr := HR.out
      have hf := hF.out
      obtain rfl : F = R1 := by rw [← hf.1, ← hr.1]
      obtain rfl : G = R2 := by rw [← hf.2, ← hr.2]
      clear hr hf
      go_wp2
      go_quiet (fail)
      go_wp2
      go_ret3
      exact ⟨rfl, _, rfl⟩

/- The calls of a pool that is not there. -/
theorem nil_ptake (w : World) : Calls Try.prog 12 #[.pointer none] w fun e w' => e = .returned (.tuple #[.int .i64 0, .int .i64 1]) ∧ w' = w := by
  go_enter Try.func12, Try.ntmps12
  go_wp2
  go_ret2
  exact ⟨rfl, rfl⟩
theorem nil_pgive (n : Int) (w : World) : Calls Try.prog 14 #[.pointer none, .int .i64 n] w fun e w' => e = .returned (.int .i64 1) ∧ w' = w := by
  go_enter Try.func14, Try.ntmps14
  go_wp2
  go_ret
  exact ⟨rfl, rfl⟩
theorem nil_pout (n : Int) (w : World) : Calls Try.prog 20 #[.pointer none, .int .i64 n] w fun e w' => e = .returned (.bool false) ∧ w' = w := by
  go_enter Try.func20, Try.ntmps20
  go_wp2
  go_ret
  exact ⟨rfl, rfl⟩
theorem nil_pfree (w : World) : Calls Try.prog 18 #[.pointer none] w fun e w' => e = .returned (.int .i64 0) ∧ w' = w := by
  go_enter Try.func18, Try.ntmps18
  go_wp2
  go_ret
  exact ⟨rfl, rfl⟩
theorem nil_ppages (w : World) : Calls Try.prog 16 #[.pointer none] w fun e w' => e = .returned (.tuple #[.int .i64 0, .int .i64 0, .int .i64 0]) ∧ w' = w := by
  go_enter Try.func16, Try.ntmps16
  go_wp2
  go_ret3
  exact ⟨rfl, rfl⟩
end Go.Proofs.Ytibajjidigmkhaa
