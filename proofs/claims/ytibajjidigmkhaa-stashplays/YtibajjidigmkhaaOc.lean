/- What the document's pool answers and leaves (davitref07), for every pool. -/
import Derived.Test.YtibajjidigmkhaaRows
import Derived.Test.YtibajjidigmkhaaOb
import Derived.Test.YtibajjidigmkhaaOg
import Derived.WalkKit
import Derived.ProofKit
import Derived.OpenShut
import Derived.BigQuiet
import Derived.Deep.OwnRows
namespace Go.Proofs.Ytibajjidigmkhaa
open Go.ChangeShapes Go.WideShapes Go.ChangeAt Go.RowKit
open Om

/-- The document's pool at block b, its truths at block g. -/
structure RO (w : World) (b g m : Nat) (A : List Nat) : Prop where
  sb : Blk w b [.slice (some ⟨g, 0, none⟩) (8 * m + 1) (8 * m + 1)] 64
  sg : Blk w g ((BL m A).map Value.bool) 4
  pg : Pg m A

theorem RO.c0 {w : World} {b g m : Nat} {A : List Nat} (h : RO w b g m A) : w.cell? ⟨b, 0, none⟩ = some (.slice (some ⟨g, 0, none⟩) (8 * m + 1) (8 * m + 1)) := h.sb.cell 0
theorem RO.ne {w : World} {b g m : Nat} {A : List Nat} (h : RO w b g m A) : b ≠ g := h.sb.ne h.sg (by decide)
theorem RO.heap {w w1 : World} {b g m : Nat} {A : List Nat} (h : RO w b g m A) (e : w1.heap = w.heap) : RO w1 b g m A := ⟨h.sb.heap e, h.sg.heap e, h.pg⟩
theorem RO.keep {B : Nat} {S : List Nat} {w w' : World} {b g m : Nat} {A : List Nat} (h : RO w b g m A) (k : Fr B S w w') (hb : b < B ∧ g < B) (hs : b ∉ S ∧ g ∉ S) : RO w' b g m A :=
  ⟨h.sb.keep k hb.1 hs.1, h.sg.keep k hb.2 hs.2, h.pg⟩
theorem RO.at {w : World} {b g m : Nat} {A : List Nat} (h : RO w b g m A) (i : Nat) (hi : i < 8 * m) : w.cell? ⟨g, i + 1, none⟩ = some (.bool (bt A i)) := by
  rw [h.sg.cell, List.getElem?_map, bl_at m A i hi]
  rfl
theorem RO.f {w : World} {b g m : Nat} {A : List Nat} (h : RO w b g m A) (i : Nat) : w.frozen? ⟨g, i, none⟩ = false := h.sg.free i

/-- Behind a store of one truth. -/
theorem ro_store {w : World} {b g m : Nat} {A : List Nat} (h : RO w b g m A) (k : Nat) (hk : k < 8 * m) (x : Bool) :
    RO (w.setCell ⟨g, k + 1, none⟩ (.bool x)) b g m (A.set (k / 8) (sb (A.getD (k / 8) 0) (k % 8) x)) := by
  refine ⟨h.sb.other h.ne _, ?_, ?_⟩
  · rw [bl_set h.pg k hk, List.map_set]
    exact h.sg.set _ _
  · have s := sb_lt _ (h.pg.lt (k / 8)) (k % 8) (by omega)
    cases x with
    | true => exact pg_set h.pg _ _ s.1
    | false => exact pg_set h.pg _ _ s.2

theorem Try.infoB : (Try.prog.info? 4).map (fun i => (i.zero, i.size, i.bytes)) = some (some (.bool false), 1, 1) := by kernel_rfl

theorem bl_new (m : Nat) : BL m (List.replicate 12 0) = List.replicate (8 * m + 1) false := by
  have hb : ∀ i, bt (List.replicate 12 0) i = false := fun i => by
    unfold bt
    rw [List.getD_eq_getElem?_getD, List.getElem?_replicate]
    split <;> simp
  unfold BL
  rw [List.replicate_succ (n := 8 * m)]
  congr 1
  apply List.ext_getElem?
  intro i
  rw [List.getElem?_map, List.getElem?_replicate]
  by_cases h : i < 8 * m
  · rw [List.getElem?_range h, if_pos h, Option.map_some, hb]
  · rw [List.getElem?_eq_none (by simpa using h), if_neg h]
    rfl
theorem made_bool (n : Nat) : madeCells #[Value.bool false] n = ((List.replicate n false).map Value.bool).toArray := by
  apply Array.ext
  · simp [size_madeCells]
  · intro i h1 h2
    simp [madeCells, Nat.mod_one]

set_option maxHeartbeats 400000 in
theorem rpnew_any (m : Nat) (w : World) (h1 : (1 : Int) ≤ m) (h2 : (m : Int) ≤ 12) :
    Calls Try.prog 10 #[.int .i64 (m : Int)] w fun e w' => e = .returned (.tuple #[.pointer (some ⟨w.heap.size + 1, 0, none⟩), .int .i64 0]) ∧ RO w' (w.heap.size + 1) w.heap.size m (List.replicate 12 0) ∧ Fr w.heap.size [] w w' := by
  obtain ⟨n, hn⟩ : ∃ n, 8 * m + 1 = n := ⟨_, rfl⟩
  have hq : 8 * (m : Int) + 1 = (n : Int) := by omega
  have hmk := run_make_row' (P := Try.prog) 39 4 (.bool false) 1 Try.underlying39 Try.infoB rfl .i64 .i64 n (by omega) (by omega)
  have F : Hid (∀ o1 o2, Fr w.heap.size [] w ((w.alloc o1).alloc o2)) := fun o1 o2 => ((Fr.refl _ _ _).alloc (Nat.le_refl _) o1).alloc (by simp) o2
  have G : Hid (RO ((w.alloc (.cells (madeCells #[.bool false] n) 4)).alloc (.cells #[.slice (some ⟨w.heap.size, 0, none⟩) n n] 64)) (w.heap.size + 1) w.heap.size m (List.replicate 12 0)) := by
    refine ⟨?_, ?_, by simp, fun p => by rw [List.getD_eq_getElem?_getD, List.getElem?_replicate]; split <;> simp, by omega, by omega⟩
    · have := Blk.new (w.alloc (.cells (madeCells #[.bool false] n) 4)) [.slice (some ⟨w.heap.size, 0, none⟩) n n] 64
      rw [hn]
      simpa using this
    · rw [made_bool, bl_new, hn]
      exact (Blk.new w _ 4).alloc _
  clear hn
  go_enter Try.func10, Try.ntmps10
  go_wp2
  go_ret2
  exact ⟨rfl, G.out, F.out _ _⟩

theorem rpnew_bad (m : Int) (w : World) (h : m < 1 ∨ 12 < m) :
    Calls Try.prog 10 #[.int .i64 m] w fun e w' => e = .returned (.tuple #[.pointer none, .int .i64 2]) ∧ w' = w := by
  rcases h with h | h
  · go_enter Try.func10, Try.ntmps10
    go_wp2
    go_ret2
    exact ⟨rfl, rfl⟩
  · have h2 : (1 : Int) ≤ m := by omega
    go_enter Try.func10, Try.ntmps10
    go_wp2
    go_ret2
    exact ⟨rfl, rfl⟩

/-- How many of the lowest k bits are set. -/
def pk (x k : Nat) : Nat := ((List.range k).filter fun j => x.testBit j).length
theorem pk_succ (x k : Nat) : pk x (k + 1) = pk x k + (if x.testBit k = true then 1 else 0) := by
  unfold pk
  rw [List.range_succ, List.filter_append, List.length_append]
  by_cases c : x.testBit k = true
  · simp [c]
  · simp [c]

set_option maxHeartbeats 1000000 in
theorem taken_any {b g m : Nat} {A : List Nat} (p : Nat) (w : World) (h : RO w b g m A) (hp : (p : Int) < m) :
    Calls Try.prog 39 #[.pointer (some ⟨b, 0, none⟩), .int .i64 (p : Int)] w fun e w' => e = .returned (.int .i64 ((pop (A.getD p 0) : Nat) : Int)) ∧ w' = w := by
  have c0 := h.c0
  have hm : (m : Int) ≤ 12 := by have := h.pg.m2; omega
  have HC : Hid (∀ k : Nat, (k : Int) < 8 → w.cell? ⟨g, 8 * p + k + 1, none⟩ = some (.bool ((A.getD p 0).testBit k))) := fun k hk => by rw [← bt_page A p k (by omega)]; exact h.at _ (by omega)
  obtain ⟨R, hR⟩ : ∃ R, pop (A.getD p 0) = R := ⟨_, rfl⟩
  have HR : Hid (pk (A.getD p 0) 8 = R) := hR
  obtain ⟨n, hn⟩ : ∃ n, 8 * m + 1 = n := ⟨_, rfl⟩
  have hnI : (n : Int) = 8 * m + 1 := by omega
  rw [hn] at c0
  rw [hR]
  clear h hR hn
  generalize A.getD p 0 = x at *
  go_enter Try.func39, Try.ntmps39
  go_wp2
  go_loop [5, 6] (fun c i => ∃ k C : Nat, (k : Int) ≤ 8 ∧ Hid (pk x k = C) ∧ (C : Int) ≤ k ∧ i = .int .i64 (8 * (p : Int) + k + 1) ∧ c = .int .i64 C) (fun _ i => 8 * p + 9 - (intOf i).toNat)
  case atStart => exact ⟨0, 0, by omega, rfl, by omega, by go_num, rfl⟩
  case round =>
    obtain ⟨k, C, hk, hC, hcl, rfl, rfl⟩ := hrel
    by_cases l : (k : Int) < 8
    · have cg := HC.out k l
      have s := pk_succ x k
      rw [hC.out] at s
      have hjn : 8 * (p : Int) + k + 1 < n := by omega
      cases e : x.testBit k with
      | true =>
        have S : Hid (pk x (k + 1) = C + 1) := by rw [s, e]; exact rfl
        rw [e] at cg
        clear s e
        go_wp2
        go_round
        case rel => exact ⟨k + 1, C + 1, by omega, S, by omega, by go_num, by go_num⟩
        case measure => simp [intOf]; omega
      | false =>
        have S : Hid (pk x (k + 1) = C) := by rw [s, e]; exact rfl
        rw [e] at cg
        clear s e
        go_wp2
        go_round
        case rel => exact ⟨k + 1, C, by omega, S, by omega, by go_num, rfl⟩
        case measure => simp [intOf]; omega
    · have e2 : C = R := by rw [← hC.out, ← HR.out, show k = 8 by omega]
      subst e2
      go_wp2
      go_ret
      exact ⟨rfl, rfl⟩

set_option maxHeartbeats 1000000 in
theorem rfree_any {b g m : Nat} {A : List Nat} (p : Nat) (w : World) (h : RO w b g m A) (hp : (p : Int) < m) (hx : A.getD p 0 < 255) :
    Calls Try.prog 40 #[.pointer (some ⟨b, 0, none⟩), .int .i64 (p : Int)] w fun e w' => e = .returned (.int .i64 ((p * 8 + lz (A.getD p 0) + 1 : Nat) : Int)) ∧ RO w' b g m (A.set p (sb (A.getD p 0) (lz (A.getD p 0)) true)) ∧ Fr w.heap.size [g] w w' := by
  have c0 := h.c0
  have hm : (m : Int) ≤ 12 := by have := h.pg.m2; omega
  have HC : Hid (∀ k : Nat, (k : Int) < 8 → w.cell? ⟨g, 8 * p + k + 1, none⟩ = some (.bool ((A.getD p 0).testBit k))) := fun k hk => by rw [← bt_page A p k (by omega)]; exact h.at _ (by omega)
  have hl := lz_lt _ hx
  have hl8 : ((lz (A.getD p 0) : Nat) : Int) < 8 := by omega
  have L1 : Hid ((A.getD p 0).testBit (lz (A.getD p 0)) = false ∧ ∀ k, k < lz (A.getD p 0) → (A.getD p 0).testBit k = true) := ⟨lz_at _ hx, lz_low _ (by omega)⟩
  have S := ro_store h (8 * p + lz (A.getD p 0)) (by omega) true
  rw [show (8 * p + lz (A.getD p 0)) / 8 = p by omega, show (8 * p + lz (A.getD p 0)) % 8 = lz (A.getD p 0) by omega] at S
  have HS : Hid _ := S
  have HF : Hid (∀ i, w.frozen? ⟨g, i, none⟩ = false) := h.f
  obtain ⟨n, hn⟩ : ∃ n, 8 * m + 1 = n := ⟨_, rfl⟩
  have hnI : (n : Int) = 8 * m + 1 := by omega
  rw [hn] at c0
  clear h hn S hl hx
  generalize sb (A.getD p 0) (lz (A.getD p 0)) true = z at *
  generalize lz (A.getD p 0) = l at *
  generalize A.getD p 0 = x at *
  rw [show ((p * 8 + l + 1 : Nat) : Int) = 8 * (p : Int) + l + 1 by omega]
  go_enter Try.func40, Try.ntmps40
  go_wp2
  go_loop [5] (fun i => ∃ k : Nat, (k : Int) ≤ l ∧ i = .int .i64 (8 * (p : Int) + k + 1)) (fun i => 8 * p + 9 - (intOf i).toNat)
  case atStart => exact ⟨0, by omega, by go_num⟩
  case round =>
    obtain ⟨k, hk, rfl⟩ := hrel
    have cg := HC.out k (by omega)
    have hjn : 8 * (p : Int) + k + 1 < n := by omega
    by_cases e : k = l
    · subst e
      rw [L1.out.1] at cg
      have fg := HF.out (8 * p + k + 1)
      go_wp2
      go_ret
      exact ⟨rfl, HS.out, (Fr.refl _ _ _).setCell (Or.inr (by simp)) _⟩
    · rw [L1.out.2 k (by omega)] at cg
      go_wp2
      go_round
      case rel => exact ⟨k + 1, by omega, by go_num⟩
      case measure => simp [intOf]; omega

theorem pop_pt {m : Nat} {A : List Nat} (h : Pg m A) (p : Nat) : (em A p = true ↔ pop (A.getD p 0) = 0) ∧ (fu A p = true ↔ ¬ pop (A.getD p 0) < 8) := by
  have h1 := pop_zero _ (h.lt p)
  have h2 := pop_full _ (h.lt p)
  unfold em fu
  rw [h1, h2]
  simp

set_option maxHeartbeats 4000000 in
theorem rptake_any {b g m : Nat} {A : List Nat} (w : World) (h : RO w b g m A) :
    Calls Try.prog 13 #[.pointer (some ⟨b, 0, none⟩)] w fun e w' => e = .returned (.tuple #[.int .i64 (tkN m A), .int .i64 (tkE m A)]) ∧ RO w' b g m (tkA m A) ∧ Fr w.heap.size [g] w w' := by
  have c0 := h.c0
  have hm : (m : Int) ≤ 12 := by have := h.pg.m2; omega
  have hm1 : (1 : Int) ≤ m := by have := h.pg.m1; omega
  have hq : (8 * (m : Int) + 1) / 8 = m := by omega
  have TK : Hid (∀ p : Nat, (p : Int) < m → _) := fun p hp => taken_any p w h hp
  have FR : Hid (∀ p : Nat, (p : Int) < m → A.getD p 0 < 255 → _) := fun p hp hx => rfree_any p w h hp hx
  have HP : Hid (∀ p, (em A p = true ↔ pop (A.getD p 0) = 0) ∧ (fu A p = true ↔ ¬ pop (A.getD p 0) < 8)) := pop_pt h.pg
  have HX : Hid (∀ p, fu A p = false → A.getD p 0 < 255) := fun p => pt_lt h.pg
  have HT : Hid (RO w b g m A) := h
  obtain ⟨N, hN⟩ : ∃ N, tkN m A = N := ⟨_, rfl⟩
  obtain ⟨E, hE⟩ : ∃ E, tkE m A = E := ⟨_, rfl⟩
  obtain ⟨A2, hA⟩ : ∃ A2, tkA m A = A2 := ⟨_, rfl⟩
  have HR : Hid (tkN m A = N ∧ tkE m A = E ∧ tkA m A = A2) := ⟨hN, hE, hA⟩
  rw [hN, hE, hA]
  clear hN hE hA h
  obtain ⟨n, hn⟩ : ∃ n, 8 * m + 1 = n := ⟨_, rfl⟩
  have hnI : (n : Int) = 8 * m + 1 := by omega
  have hq2 : (n : Int) / 8 = m := by omega
  rw [hn] at c0
  clear hn hq
  have FIN : Hid (∀ p, nx m A = some p → N = ((p * 8 + lz (A.getD p 0) + 1 : Nat) : Int) ∧ E = 0 ∧ A2 = A.set p (sb (A.getD p 0) (lz (A.getD p 0)) true)) := fun p e => by
    obtain ⟨h1, h2, h3⟩ := HR.out
    rw [← h1, ← h2, ← h3]
    unfold tkN tkE tkA
    rw [e]
    exact ⟨rfl, rfl, rfl⟩
  have FIN0 : Hid (nx m A = none → N = 0 ∧ E = 5 ∧ A2 = A) := fun e => by
    obtain ⟨h1, h2, h3⟩ := HR.out
    rw [← h1, ← h2, ← h3]
    unfold tkN tkE tkA
    rw [e]
    exact ⟨rfl, rfl, rfl⟩
  clear HR
  go_enter Try.func13, Try.ntmps13
  go_wp2
  go_loop [5] (fun i => ∃ k : Nat, (k : Int) ≤ m ∧ Hid (∀ j, j < k → pt A j = false) ∧ i = .int .i64 k) (fun i => m - (intOf i).toNat)
  case atStart => exact ⟨0, by omega, fun j hj => by omega, rfl⟩
  case round =>
    obtain ⟨k, hk, hN, rfl⟩ := hrel
    by_cases l : (k : Int) < m
    · have C : Hid (∀ _ : Unit, _) := fun _ => TK.out k l
      by_cases p0 : pop (A.getD k 0) = 0
      · have s : pt A k = false := by unfold pt; rw [((HP.out k).1).2 p0]; rfl
        have N2 : Hid (∀ j, j < k + 1 → pt A j = false) := fun j hj => by
          by_cases d : j = k
          · subst d; exact s
          · exact hN.out j (by omega)
        rw [p0] at C
        clear s p0
        go_wp2_with fail
        refine (C.out ()).mono ?_
        rintro e w' ⟨rfl, rfl⟩
        go_wp2
        go_round
        case rel => exact ⟨k + 1, by omega, N2, by go_num⟩
        case measure => simp [intOf]; omega
      · by_cases p8 : pop (A.getD k 0) < 8
        · have s1 : em A k = false := by
            cases c : em A k with
            | false => rfl
            | true => exact absurd (((HP.out k).1).1 c) p0
          have s2 : fu A k = false := by
            cases c : fu A k with
            | false => rfl
            | true => exact absurd p8 (((HP.out k).2).1 c)
          have s : pt A k = true := by unfold pt; rw [s1, s2]; rfl
          obtain ⟨r1, r2, r3⟩ := FIN.out k (nx_part (by omega) s hN.out)
          subst r2
          have D : Hid (∀ _ : Unit, _) := fun _ => FR.out k l (HX.out k s2)
          rw [← r1, ← r3] at D
          have q0 : (0 : Int) < ((pop (A.getD k 0) : Nat) : Int) := by omega
          have q8 : ((pop (A.getD k 0) : Nat) : Int) < 8 := by omega
          clear s s1 s2 p0 p8 hN r1 r3
          generalize pop (A.getD k 0) = q at *
          go_wp2_with fail
          refine (C.out ()).mono ?_
          rintro e w' ⟨rfl, rfl⟩
          go_wp2_with fail
          refine (C.out ()).mono ?_
          rintro e w' ⟨rfl, rfl⟩
          go_wp2_with fail
          refine (D.out ()).mono ?_
          rintro e w' ⟨rfl, h1, h2⟩
          go_wp2
          go_ret2
          exact ⟨rfl, h1, h2⟩
        · have s : pt A k = false := by unfold pt; rw [((HP.out k).2).2 p8]; simp
          have N2 : Hid (∀ j, j < k + 1 → pt A j = false) := fun j hj => by
            by_cases d : j = k
            · subst d; exact s
            · exact hN.out j (by omega)
          have q8 : (8 : Int) ≤ ((pop (A.getD k 0) : Nat) : Int) := by omega
          clear s p0 p8
          generalize pop (A.getD k 0) = q at *
          go_wp2_with fail
          refine (C.out ()).mono ?_
          rintro e w' ⟨rfl, rfl⟩
          go_wp2_with fail
          refine (C.out ()).mono ?_
          rintro e w' ⟨rfl, rfl⟩
          go_wp2
          go_round
          case rel => exact ⟨k + 1, by omega, N2, by go_num⟩
          case measure => simp [intOf]; omega
    · obtain rfl : k = m := by omega
      have NX : Hid (nx k A = fi (em A) k) := nx_else hN.out
      clear hN
      go_wp2
      go_loop [6] (fun i => ∃ j : Nat, (j : Int) ≤ k ∧ Hid (∀ t, t < j → em A t = false) ∧ i = .int .i64 j) (fun i => k - (intOf i).toNat)
      case atStart => exact ⟨0, by omega, fun j hj => by omega, rfl⟩
      case round =>
        obtain ⟨j, hj, hM, rfl⟩ := hrel
        by_cases l2 : (j : Int) < k
        · have C : Hid (∀ _ : Unit, _) := fun _ => TK.out j l2
          by_cases p0 : pop (A.getD j 0) = 0
          · have s : em A j = true := ((HP.out j).1).2 p0
            obtain ⟨r1, r2, r3⟩ := FIN.out j (by rw [NX.out]; exact fi_yes (by omega) s hM.out)
            subst r2
            have hx : A.getD j 0 < 255 := by
              have : A.getD j 0 = 0 := by unfold em at s; simpa using s
              omega
            have D : Hid (∀ _ : Unit, _) := fun _ => FR.out j l2 hx
            rw [← r1, ← r3] at D
            rw [p0] at C
            clear s p0 hx hM r1 r3
            go_wp2_with fail
            refine (C.out ()).mono ?_
            rintro e w' ⟨rfl, rfl⟩
            go_wp2_with fail
            refine (D.out ()).mono ?_
            rintro e w' ⟨rfl, h1, h2⟩
            go_wp2
            go_ret2
            exact ⟨rfl, h1, h2⟩
          · have s : em A j = false := by
              cases c : em A j with
              | false => rfl
              | true => exact absurd (((HP.out j).1).1 c) p0
            have N2 : Hid (∀ t, t < j + 1 → em A t = false) := fun t ht => by
              by_cases d : t = j
              · subst d; exact s
              · exact hM.out t (by omega)
            have q0 : ((((pop (A.getD j 0) : Nat) : Int)) == 0) = false := by simpa using p0
            clear s p0
            generalize pop (A.getD j 0) = q at *
            go_wp2_with fail
            refine (C.out ()).mono ?_
            rintro e w' ⟨rfl, rfl⟩
            go_wp2
            go_round
            case rel => exact ⟨j + 1, by omega, N2, by go_num⟩
            case measure => simp [intOf]; omega
        · obtain rfl : j = k := by omega
          obtain ⟨r1, r2, r3⟩ := FIN0.out (by rw [NX.out]; exact fi_no hM.out)
          subst r1
          subst r2
          subst r3
          go_wp2
          go_ret2
          exact ⟨rfl, HT.out, Fr.refl _ _ _⟩
end Go.Proofs.Ytibajjidigmkhaa
