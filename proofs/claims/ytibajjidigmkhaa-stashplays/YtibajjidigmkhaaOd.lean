/- What the document's pool's Out, Give, Free and Pages answer and leave; the law's fixed calls. -/
import Derived.Test.YtibajjidigmkhaaRows
import Derived.Test.YtibajjidigmkhaaOc
import Derived.WalkKit
import Derived.ProofKit
import Derived.OpenShut
import Derived.BigQuiet
namespace Go.Proofs.Ytibajjidigmkhaa
open Go.ChangeShapes Go.WideShapes Go.ChangeAt Go.RowKit
open Om

set_option maxHeartbeats 400000 in
theorem rpout_any {b g m : Nat} {A : List Nat} (n : Int) (w : World) (h : RO w b g m A) :
    Calls Try.prog 21 #[.pointer (some ⟨b, 0, none⟩), .int .i64 n] w fun e w' => e = .returned (.bool (ou m A n)) ∧ w' = w := by
  have c0 := h.c0
  have hm : (m : Int) ≤ 12 := by have := h.pg.m2; omega
  obtain ⟨q, hq⟩ : ∃ q, 8 * m + 1 = q := ⟨_, rfl⟩
  have hqI : Hid ((q : Int) = 8 * m + 1) := by unfold Hid; omega
  rw [hq] at c0
  by_cases l : n < 1
  · rw [show ou m A n = false by unfold ou; rw [decide_eq_false (by omega)]; rfl]
    clear h hq
    go_enter Try.func21, Try.ntmps21
    go_wp2
    go_ret
    exact ⟨rfl, rfl⟩
  · by_cases u : 8 * (m : Int) < n
    · rw [show ou m A n = false by unfold ou; rw [decide_eq_false (by omega)]; rfl]
      have u2 : (q : Int) ≤ n := by have := hqI.out; omega
      have l2 : 0 < n := by omega
      clear h hq u l
      go_enter Try.func21, Try.ntmps21
      go_wp2
      go_ret
      exact ⟨rfl, rfl⟩
    · obtain ⟨k, rfl⟩ := Int.eq_ofNat_of_zero_le (show 0 ≤ n by omega)
      have cg := h.at (k - 1) (by omega)
      rw [show k - 1 + 1 = k by omega] at cg
      rw [show ou m A (k : Int) = bt A (k - 1) by unfold ou; rw [decide_eq_true (by omega), Bool.true_and, show ((k : Int) - 1).toNat = k - 1 by omega]]
      have u2 : (k : Int) < q := by have := hqI.out; omega
      have l2 : 0 < (k : Int) := by omega
      generalize bt A (k - 1) = x at *
      clear h hq u l
      go_enter Try.func21, Try.ntmps21
      go_wp2
      go_ret
      exact ⟨rfl, rfl⟩

set_option maxHeartbeats 400000 in
theorem rpgive_any {b g m : Nat} {A : List Nat} (n : Int) (w : World) (h : RO w b g m A) :
    Calls Try.prog 15 #[.pointer (some ⟨b, 0, none⟩), .int .i64 n] w fun e w' => e = .returned (.int .i64 (gvE m A n)) ∧ RO w' b g m (gvA m A n) ∧ Fr w.heap.size [g] w w' := by
  have C : Hid (∀ _ : Unit, _) := fun _ => rpout_any n w h
  cases e : ou m A n with
  | false =>
    rw [e] at C
    rw [show gvE m A n = 4 by unfold gvE; rw [e]; rfl, show gvA m A n = A by unfold gvA; rw [e]; rfl]
    have HT : Hid (RO w b g m A) := h
    clear h e
    go_enter Try.func15, Try.ntmps15
    go_wp2_with fail
    refine (C.out ()).mono ?_
    rintro e w' ⟨rfl, rfl⟩
    go_wp2
    go_ret
    exact ⟨rfl, HT.out, Fr.refl _ _ _⟩
  | true =>
    rw [e] at C
    have hn : 1 ≤ n ∧ n ≤ 8 * m := by
      unfold ou at e
      rw [Bool.and_eq_true] at e
      exact of_decide_eq_true e.1
    have hm : (m : Int) ≤ 12 := by have := h.pg.m2; omega
    obtain ⟨k, rfl⟩ := Int.eq_ofNat_of_zero_le (show 0 ≤ n by omega)
    rw [show gvE m A (k : Int) = 0 by unfold gvE; rw [e]; rfl, show gvA m A (k : Int) = A.set ((k - 1) / 8) (sb (A.getD ((k - 1) / 8) 0) ((k - 1) % 8) false) by unfold gvA; rw [e, show ((k : Int) - 1).toNat = k - 1 by omega]; rfl]
    have c0 := h.c0
    obtain ⟨q, hq⟩ : ∃ q, 8 * m + 1 = q := ⟨_, rfl⟩
    rw [hq] at c0
    have cg := h.at (k - 1) (by omega)
    have S := ro_store h (k - 1) (by omega) false
    rw [show k - 1 + 1 = k by omega] at cg S
    have fg := h.f k
    have HS : Hid _ := S
    have u2 : (k : Int) < q := by omega
    generalize A.set ((k - 1) / 8) (sb (A.getD ((k - 1) / 8) 0) ((k - 1) % 8) false) = A2 at *
    generalize bt A (k - 1) = x at *
    clear h hq e hn S
    go_enter Try.func15, Try.ntmps15
    go_wp2_with fail
    refine (C.out ()).mono ?_
    rintro e w' ⟨rfl, rfl⟩
    go_wp2
    go_ret
    exact ⟨rfl, HS.out, (Fr.refl _ _ _).setCell (Or.inr (by simp)) _⟩

set_option maxHeartbeats 1000000 in
theorem rpfree_any {b g m : Nat} {A : List Nat} (w : World) (h : RO w b g m A) :
    Calls Try.prog 19 #[.pointer (some ⟨b, 0, none⟩)] w fun e w' => e = .returned (.int .i64 ((fr m A : Nat) : Int)) ∧ w' = w := by
  have c0 := h.c0
  have hm : (m : Int) ≤ 12 := by have := h.pg.m2; omega
  have HC : Hid (∀ k : Nat, k < 8 * m → w.cell? ⟨g, k + 1, none⟩ = some (.bool (bt A k))) := fun k hk => h.at k hk
  obtain ⟨R, hR⟩ : ∃ R, fr m A = R := ⟨_, rfl⟩
  have HR : Hid (ct (fun i => !bt A i) (8 * m) = R) := hR
  rw [hR]
  obtain ⟨q, hq⟩ : ∃ q, 8 * m = q := ⟨_, rfl⟩
  rw [hq] at c0 HC HR
  have hq2 : (q : Int) ≤ 96 := by omega
  clear h hR hq
  go_enter Try.func19, Try.ntmps19
  go_wp2
  go_loop [3, 4] (fun c i => ∃ k C : Nat, (k : Int) ≤ q ∧ Hid (ct (fun i => !bt A i) k = C) ∧ (C : Int) ≤ k ∧ i = .int .i64 ((k : Int) + 1) ∧ c = .int .i64 C) (fun _ i => q + 1 - (intOf i).toNat)
  case atStart => exact ⟨0, 0, by omega, rfl, by omega, by go_num, rfl⟩
  case round =>
    obtain ⟨k, C, hk, hC, hcl, rfl, rfl⟩ := hrel
    by_cases l : (k : Int) < q
    · have cg := HC.out k (by omega)
      have s := ct_succ (fun i => !bt A i) k
      rw [hC.out] at s
      cases e : bt A k with
      | true =>
        have S : Hid (ct (fun i => !bt A i) (k + 1) = C) := by rw [s]; simp [e, Hid]
        rw [e] at cg
        clear s e
        go_wp2
        go_round
        case rel => exact ⟨k + 1, C, by omega, S, by omega, by go_num, rfl⟩
        case measure => simp [intOf]; omega
      | false =>
        have S : Hid (ct (fun i => !bt A i) (k + 1) = C + 1) := by rw [s]; simp [e, Hid]
        rw [e] at cg
        clear s e
        go_wp2
        go_round
        case rel => exact ⟨k + 1, C + 1, by omega, S, by omega, by go_num, by go_num⟩
        case measure => simp [intOf]; omega
    · have e2 : C = R := by rw [← hC.out, ← HR.out, show k = q by omega]
      subst e2
      go_wp2
      go_ret
      exact ⟨rfl, rfl⟩

set_option maxHeartbeats 1000000 in
theorem rppages_any {b g m : Nat} {A : List Nat} (w : World) (h : RO w b g m A) :
    Calls Try.prog 17 #[.pointer (some ⟨b, 0, none⟩)] w fun e w' => e = .returned (.tuple #[.int .i64 ((ct (em A) m : Nat) : Int), .int .i64 ((m - ct (em A) m - ct (fu A) m : Nat) : Int), .int .i64 ((ct (fu A) m : Nat) : Int)]) ∧ w' = w := by
  have c0 := h.c0
  have hm : (m : Int) ≤ 12 := by have := h.pg.m2; omega
  have hm1 : (1 : Int) ≤ m := by have := h.pg.m1; omega
  have TK : Hid (∀ p : Nat, (p : Int) < m → _) := fun p hp => taken_any p w h hp
  have HP : Hid (∀ p, (em A p = true ↔ pop (A.getD p 0) = 0) ∧ (fu A p = true ↔ ¬ pop (A.getD p 0) < 8)) := pop_pt h.pg
  obtain ⟨R1, e1⟩ : ∃ R1, ct (em A) m = R1 := ⟨_, rfl⟩
  obtain ⟨R2, e2⟩ : ∃ R2, ct (fu A) m = R2 := ⟨_, rfl⟩
  obtain ⟨R3, e3⟩ : ∃ R3, m - R1 - R2 = R3 := ⟨_, rfl⟩
  have HR : Hid (ct (em A) m = R1 ∧ ct (fu A) m = R2 ∧ m - R1 - R2 = R3) := ⟨e1, e2, e3⟩
  rw [e1, e2, e3]
  obtain ⟨n, hn⟩ : ∃ n, 8 * m + 1 = n := ⟨_, rfl⟩
  have hnI : (n : Int) = 8 * m + 1 := by omega
  have hq2 : (n : Int) / 8 = m := by omega
  rw [hn] at c0
  clear h e1 e2 e3 hn
  go_enter Try.func17, Try.ntmps17
  go_wp2
  go_loop [5, 6, 7, 8] (fun f s g i => ∃ k F S G : Nat, (k : Int) ≤ m ∧ Hid (ct (em A) k = F ∧ ct (fu A) k = G) ∧ (F : Int) + S + G = k ∧ f = .int .i64 F ∧ s = .int .i64 S ∧ g = .int .i64 G ∧ i = .int .i64 k) (fun _ _ _ i => m - (intOf i).toNat)
  case atStart => exact ⟨0, 0, 0, 0, by omega, ⟨rfl, rfl⟩, by omega, rfl, rfl, rfl, rfl⟩
  case round =>
    obtain ⟨k, F, S, G, hk, hF, hb, rfl, rfl, rfl, rfl⟩ := hrel
    have b1 : (F : Int) ≤ 12 := by omega
    have b2 : (S : Int) ≤ 12 := by omega
    have b3 : (G : Int) ≤ 12 := by omega
    have HB : Hid ((F : Int) + S + G = k) := hb
    clear hb
    by_cases l : (k : Int) < m
    · have C : Hid (∀ _ : Unit, _) := fun _ => TK.out k l
      have s1 := ct_succ (em A) k
      have s2 := ct_succ (fu A) k
      rw [hF.out.1] at s1
      rw [hF.out.2] at s2
      by_cases p0 : pop (A.getD k 0) = 0
      · have F2 : Hid (ct (em A) (k + 1) = F + 1 ∧ ct (fu A) (k + 1) = G) := by
          have g1 := ((HP.out k).1).2 p0
          have g2 : fu A k = false := by
            cases c : fu A k with
            | false => rfl
            | true => exact absurd (by omega) (((HP.out k).2).1 c)
          rw [s1, s2, g1, g2]
          exact ⟨rfl, rfl⟩
        rw [p0] at C
        clear s1 s2 p0
        go_wp2_with fail
        refine (C.out ()).mono ?_
        rintro e w' ⟨rfl, rfl⟩
        go_wp2
        go_round
        case rel => exact ⟨k + 1, F + 1, S, G, by omega, F2, by have := HB.out; omega, by go_num, rfl, rfl, by go_num⟩
        case measure => simp [intOf]; omega
      · have g1 : em A k = false := by
          cases c : em A k with
          | false => rfl
          | true => exact absurd (((HP.out k).1).1 c) p0
        have q0 : ((((pop (A.getD k 0) : Nat) : Int)) == 0) = false := by simpa using p0
        by_cases p8 : pop (A.getD k 0) < 8
        · have F2 : Hid (ct (em A) (k + 1) = F ∧ ct (fu A) (k + 1) = G) := by
            have g2 : fu A k = false := by
              cases c : fu A k with
              | false => rfl
              | true => exact absurd p8 (((HP.out k).2).1 c)
            rw [s1, s2, g1, g2]
            exact ⟨rfl, rfl⟩
          have q8 : ((pop (A.getD k 0) : Nat) : Int) < 8 := by omega
          clear s1 s2 p0 p8 g1
          generalize pop (A.getD k 0) = q at *
          go_wp2_with fail
          refine (C.out ()).mono ?_
          rintro e w' ⟨rfl, rfl⟩
          go_wp2
          go_round
          case rel => exact ⟨k + 1, F, S + 1, G, by omega, F2, by have := HB.out; omega, rfl, by go_num, rfl, by go_num⟩
          case measure => simp [intOf]; omega
        · have F2 : Hid (ct (em A) (k + 1) = F ∧ ct (fu A) (k + 1) = G + 1) := by
            rw [s1, s2, g1, ((HP.out k).2).2 p8]
            exact ⟨rfl, rfl⟩
          have q8 : (8 : Int) ≤ ((pop (A.getD k 0) : Nat) : Int) := by omega
          clear s1 s2 p0 p8 g1
          generalize pop (A.getD k 0) = q at *
          go_wp2_with fail
          refine (C.out ()).mono ?_
          rintro e w' ⟨rfl, rfl⟩
          go_wp2
          go_round
          case rel => exact ⟨k + 1, F, S, G + 1, by omega, F2, by have := HB.out; omega, rfl, rfl, by go_num, by go_num⟩
          case measure => simp [intOf]; omega
    · obtain rfl : k = m := by omega
      obtain ⟨r1, r2, r3⟩ := HR.out
      have hf := hF.out
      obtain rfl : F = R1 := by rw [← hf.1, ← r1]
      obtain rfl : G = R2 := by rw [← hf.2, ← r2]
      obtain rfl : S = R3 := by have := HB.out; omega
      clear r1 r2 r3 hf
      go_wp2
      go_ret3
      exact ⟨rfl, rfl⟩

/-- What is left when takes follow each other. -/
def tkk (m : Nat) (A : List Nat) : Nat → List Nat
  | 0 => A
  | k + 1 => tkA m (tkk m A k)
theorem tkk9 : tkk 2 (List.replicate 12 0) 9 = [255, 1, 0, 0, 0, 0, 0, 0, 0, 0, 0, 0] := by decide +kernel
theorem gv3 : gvA 2 [255, 1, 0, 0, 0, 0, 0, 0, 0, 0, 0, 0] 3 = [251, 1, 0, 0, 0, 0, 0, 0, 0, 0, 0, 0] ∧ gvE 2 [255, 1, 0, 0, 0, 0, 0, 0, 0, 0, 0, 0] 3 = 0 := by decide +kernel
theorem tk3 : tkA 2 [251, 1, 0, 0, 0, 0, 0, 0, 0, 0, 0, 0] = [255, 1, 0, 0, 0, 0, 0, 0, 0, 0, 0, 0] ∧ tkE 2 [251, 1, 0, 0, 0, 0, 0, 0, 0, 0, 0, 0] = 0 ∧ tkN 2 [251, 1, 0, 0, 0, 0, 0, 0, 0, 0, 0, 0] = 3 := by decide +kernel
theorem tk10 : tkE 2 [255, 1, 0, 0, 0, 0, 0, 0, 0, 0, 0, 0] = 0 ∧ tkN 2 [255, 1, 0, 0, 0, 0, 0, 0, 0, 0, 0, 0] = 10 := by decide +kernel

set_option maxHeartbeats 2000000 in
theorem pknown_yes (w : World) : Calls Try.prog 11 #[] w fun e w' => e = .returned (.bool true) ∧ Below w.heap.size w w' := by
  have C0 : Hid (∀ _ : Unit, _) := fun _ => pnew_any 2 w (by omega) (by omega)
  have Z1 : Hid (∀ w1 w2 : World, w.heap.size < w1.heap.size → Fr w.heap.size [w.heap.size] w w1 → Fr w1.heap.size [w.heap.size] w1 w2 → Fr w.heap.size [w.heap.size] w w2 ∧ w.heap.size < w2.heap.size) := fun w1 w2 h a b => ⟨a.trans (b.less (by omega)), by have := b.size; omega⟩
  go_enter Try.func11, Try.ntmps11
  go_wp2_with fail
  refine (C0.out ()).mono ?_
  rintro e w0 ⟨rfl, h0, f0⟩
  have F0 : Hid (Fr w.heap.size [w.heap.size] w w0 ∧ w.heap.size < w0.heap.size) := ⟨f0.mono (Nat.le_refl _) (by simp), h0.sb.lt⟩
  have H0 : Hid (PO w0 w.heap.size 2 (tkk 2 (List.replicate 12 0) 0)) := h0
  clear h0 f0 C0
  go_wp2
  go_loopw [3] (fun i wr => ∃ k : Nat, (k : Int) ≤ 9 ∧ i = .int .i64 k ∧ Hid (PO wr w.heap.size 2 (tkk 2 (List.replicate 12 0) k)) ∧ Hid (Fr w.heap.size [w.heap.size] w wr ∧ w.heap.size < wr.heap.size)) (fun i _ => 9 - (intOf i).toNat)
  case atStart => exact ⟨0, by omega, rfl, H0, F0⟩
  case round =>
    obtain ⟨k, hk, rfl, hP, hF⟩ := hrel
    by_cases l : (k : Int) < 9
    · have C : Hid (∀ _ : Unit, _) := fun _ => ptake_any _ hP.out
      go_wp2_with fail
      refine (C.out ()).mono ?_
      rintro e w1 ⟨rfl, h1, f1⟩
      have H1 : Hid (PO w1 w.heap.size 2 (tkk 2 (List.replicate 12 0) (k + 1))) := h1
      have F1 : Hid (_ ∧ _) := Z1.out _ _ hF.out.2 hF.out.1 f1
      clear h1 f1
      go_wp2
      go_roundw
      case rel => exact ⟨k + 1, by omega, by go_num, H1, F1⟩
      case measure => simp [intOf]; omega
    · obtain rfl : k = 9 := by omega
      have h9 := hP.out
      rw [tkk9] at h9
      have C : Hid (∀ _ : Unit, _) := fun _ => pgive_any 3 _ h9
      rw [gv3.1, gv3.2] at C
      clear h9 l
      go_wp2_with fail
      refine (C.out ()).mono ?_
      rintro e w1 ⟨rfl, h1, f1⟩
      have F1 : Hid (_ ∧ _) := Z1.out _ _ hF.out.2 hF.out.1 f1
      have C1 : Hid (∀ _ : Unit, _) := fun _ => ptake_any _ h1
      rw [tk3.1, tk3.2.1, tk3.2.2] at C1
      clear f1 h1
      go_wp2_with fail
      refine (C1.out ()).mono ?_
      rintro e w2 ⟨rfl, h2, f2⟩
      have F2 : Hid (_ ∧ _) := Z1.out _ _ F1.out.2 F1.out.1 f2
      have C2 : Hid (∀ _ : Unit, _) := fun _ => ptake_any _ h2
      rw [tk10.1, tk10.2] at C2
      clear f2 h2
      go_wp2_with fail
      refine (C2.out ()).mono ?_
      rintro e w3 ⟨rfl, h3, f3⟩
      have F3 : Hid (_ ∧ _) := Z1.out _ _ F2.out.2 F2.out.1 f3
      clear h3 f3
      go_wp2
      go_ret
      exact ⟨rfl, F3.out.1.below (by simp)⟩
end Go.Proofs.Ytibajjidigmkhaa
