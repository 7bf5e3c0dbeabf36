/- A pool as it lies in memory; what math/bits' two tables of bytes tell; what pool's New, place, Out and Give answer and leave, for every pool. -/
import Derived.Test.YtibajjidigmkhaaRows
import Derived.Test.YtibajjidigmkhaaFg
import Derived.Test.YtibajjidigmkhaaOm
import Derived.WalkKit
import Derived.ProofKit
import Derived.OpenShut
import Derived.BigQuiet
import Derived.Deep.RegionHeld3
import Derived.Laws.BitsAllLaws
import Derived.Lib.BitFns
namespace Go.Proofs.Ytibajjidigmkhaa
open Go.ChangeShapes Go.WideShapes Go.ChangeAt Go.RowKit
open Om

theorem pop_lib : ∀ x, x < 256 → Lib.onesCount x = pop x := by decide +kernel
theorem lz_lib : ∀ x, x < 255 → Lib.trailingZeros8 (255 - x) = lz x := by decide +kernel

set_option maxHeartbeats 1000000 in
set_option maxRecDepth 100000 in
theorem ones8_any (x : Nat) (w : World) (h : (x : Int) < 256) :
    Calls Try.prog 42 #[.int .u8 (x : Int)] w fun e w' => e = .returned (.int .i64 ((pop x : Nat) : Int)) ∧ w' = w := by
  have e := Lib.pop8_int (x : Int) (by omega) (by omega)
  rw [Int.toNat_natCast, pop_lib x (by omega)] at e
  have E : Hid (wrap64 (Lib.pop8 (x : Int)) = ((pop x : Nat) : Int)) := by
    rw [← e]
    generalize Lib.pop8 (x : Int) = t
    unfold Hid wrap64
    rfl
  have h0 : (0 : Int) ≤ x := by omega
  have h1 : (x : Int) ≤ 255 := by omega
  clear e
  go_enter Try.func42, Try.ntmps42
  go_wp2
  go_ret
  exact ⟨congrArg (fun q => Ending.returned (.int .i64 q)) E.out, rfl⟩

set_option maxHeartbeats 1000000 in
set_option maxRecDepth 100000 in
theorem tz8_any (x : Nat) (w : World) (h : (x : Int) < 255) :
    Calls Try.prog 38 #[.int .u8 ((255 - x : Nat) : Int)] w fun e w' => e = .returned (.int .i64 ((lz x : Nat) : Int)) ∧ w' = w := by
  have e := Lib.ntz8_int ((255 - x : Nat) : Int) (by omega) (by omega)
  rw [Int.toNat_natCast, lz_lib x (by omega)] at e
  have E : Hid (wrap64 (Lib.ntz8 ((255 - x : Nat) : Int)) = ((lz x : Nat) : Int)) := by
    rw [← e]
    generalize Lib.ntz8 ((255 - x : Nat) : Int) = t
    unfold Hid wrap64
    rfl
  have h1 : ((255 - x : Nat) : Int) ≤ 255 := by omega
  clear e h
  generalize 255 - x = y at *
  have h0 : (0 : Int) ≤ y := by omega
  go_enter Try.func38, Try.ntmps38
  go_wp2
  go_ret
  exact ⟨congrArg (fun q => Ending.returned (.int .i64 q)) E.out, rfl⟩

/-- A byte in memory. -/
def bv (x : Nat) : Value := .int .u8 (x : Int)

theorem getD_map_bv (xs : List Nat) (i : Nat) (h : i < xs.length) : (xs.map bv)[i]? = some (.int .u8 ((xs.getD i 0 : Nat) : Int)) := by
  rw [List.getElem?_map, List.getElem?_eq_getElem h, List.getD_eq_getElem?_getD, List.getElem?_eq_getElem h]
  rfl

/-- The pool at block b: its pages' bytes are A, of which the first m count. -/
structure PO (w : World) (b m : Nat) (A : List Nat) : Prop where
  sb : Blk w b (A.map bv ++ [.int .i64 (m : Int)]) 62
  pg : Pg m A

theorem PO.c {w : World} {b m : Nat} {A : List Nat} (h : PO w b m A) : w.cell? ⟨b, 12, none⟩ = some (.int .i64 (m : Int)) := by
  rw [h.sb.cell 12, List.getElem?_append_right (by simp [h.pg.len])]
  simp [h.pg.len]
theorem PO.f {w : World} {b m : Nat} {A : List Nat} (h : PO w b m A) (i : Nat) : w.frozen? ⟨b, i, none⟩ = false := h.sb.free i
theorem PO.heap {w w1 : World} {b m : Nat} {A : List Nat} (h : PO w b m A) (e : w1.heap = w.heap) : PO w1 b m A := ⟨h.sb.heap e, h.pg⟩
theorem PO.keep {B : Nat} {S : List Nat} {w w' : World} {b m : Nat} {A : List Nat} (h : PO w b m A) (k : Fr B S w w') (hb : b < B) (hs : b ∉ S) : PO w' b m A := ⟨h.sb.keep k hb hs, h.pg⟩
theorem PO.at {w : World} {b m : Nat} {A : List Nat} (h : PO w b m A) (i : Nat) (hi : i < 12) : w.cell? ⟨b, i, none⟩ = some (.int .u8 ((A.getD i 0 : Nat) : Int)) := by
  rw [h.sb.cell i, List.getElem?_append_left (by simp [h.pg.len]; exact hi), getD_map_bv A i (by rw [h.pg.len]; exact hi)]

/-- Behind a store into a page. -/
theorem po_store {w : World} {b m : Nat} {A : List Nat} (h : PO w b m A) (p y : Nat) (hp : p < 12) (hy : y < 256) : PO (w.setCell ⟨b, p, none⟩ (.int .u8 (y : Int))) b m (A.set p y) := by
  refine ⟨?_, pg_set h.pg p y hy⟩
  have := h.sb.set p (.int .u8 (y : Int))
  rw [List.set_append_left _ _ (by simp [h.pg.len]; exact hp), show Value.int .u8 (y : Int) = bv y from rfl, ← List.map_set] at this
  exact this

theorem pow8_lt (k : Nat) (h : k < 8) : 2 ^ k < 256 := Nat.lt_of_lt_of_eq (Nat.pow_lt_pow_right (by omega) h) rfl
theorem pow8 (k : Nat) (h : k < 8) : IntKind.u8.wrap ((2 : Int) ^ k) = ((2 ^ k : Nat) : Int) := by
  have hp := pow8_lt k h
  have e : ((2 : Int) ^ k) = ((2 ^ k : Nat) : Int) := by simp
  rw [e, IntKind.wrap_u8']
  generalize 2 ^ k = q at *
  omega
theorem and8 : ∀ x, x < 256 → ∀ j, j < 8 → ((x &&& 2 ^ j != 0) = x.testBit j) := by decide +kernel
theorem andNot8 : ∀ x, x < 256 → ∀ j, j < 8 → x &&& (255 - 2 ^ j) = sb x j false := by decide +kernel

theorem zero_pool : ∃ Z : Array Value, Hid (Z = ((List.replicate 12 0).map bv ++ [Value.int .i64 0]).toArray) ∧ ∀ w, (zeroValue 62).run Try.prog w = .ok (.agg Z) w :=
  ⟨_, rfl, fun w => by kernel_rfl⟩

set_option maxHeartbeats 400000 in
theorem pnew_any (m : Nat) (w : World) (h1 : (1 : Int) ≤ m) (h2 : (m : Int) ≤ 12) :
    Calls Try.prog 9 #[.int .i64 (m : Int)] w fun e w' => e = .returned (.tuple #[.pointer (some ⟨w.heap.size, 0, none⟩), .int .i64 0]) ∧ PO w' w.heap.size m (List.replicate 12 0) ∧ Fr w.heap.size [] w w' := by
  have F : Hid (∀ o, Fr w.heap.size [] w (w.alloc o)) := fun o => (Fr.refl _ _ _).alloc (Nat.le_refl _) o
  have G : Hid (PO (w.alloc (.cells ((List.replicate 12 0).map bv ++ [Value.int .i64 (m : Int)]).toArray 62)) w.heap.size m (List.replicate 12 0)) :=
    ⟨Blk.new w _ _, by simp, fun p => by rw [List.getD_eq_getElem?_getD, List.getElem?_replicate]; split <;> simp, by omega, by omega⟩
  go_enter Try.func9, Try.ntmps9
  go_wp2
  go_ret2
  exact ⟨rfl, G.out, F.out _⟩

theorem pnew_bad (m : Int) (w : World) (h : m < 1 ∨ 12 < m) :
    Calls Try.prog 9 #[.int .i64 m] w fun e w' => e = .returned (.tuple #[.pointer none, .int .i64 2]) ∧ w' = w := by
  rcases h with h | h
  · go_enter Try.func9, Try.ntmps9
    go_wp2
    go_ret2
    exact ⟨rfl, rfl⟩
  · have h2 : (1 : Int) ≤ m := by omega
    go_enter Try.func9, Try.ntmps9
    go_wp2
    go_ret2
    exact ⟨rfl, rfl⟩

theorem ret_place8 {a b c d : Int} (h : a = b) (g : c = d) : Ending.returned (.tuple #[.int .i64 a, .int .u8 c]) = .returned (.tuple #[.int .i64 b, .int .u8 d]) := by rw [h, g]

set_option maxHeartbeats 400000 in
theorem place_any (n : Nat) (w : World) (h1 : (1 : Int) ≤ n) (h2 : (n : Int) ≤ 96) :
    Calls Try.prog 41 #[.int .i64 (n : Int)] w fun e w' => e = .returned (.tuple #[.int .i64 (((n - 1) / 8 : Nat) : Int), .int .u8 ((2 ^ ((n - 1) % 8) : Nat) : Int)]) ∧ ∃ k, w' = w.drewN k := by
  have P : Hid (IntKind.u8.wrap ((2 : Int) ^ ((n - 1) % 8)) = ((2 ^ ((n - 1) % 8) : Nat) : Int)) := pow8 _ (by omega)
  have D : Hid (((n : Int) - 1) / 8 = (((n - 1) / 8 : Nat) : Int)) := by unfold Hid; omega
  go_enter Try.func41, Try.ntmps41
  go_wp2
  go_quiet (fail)
  go_wp2
  go_ret2
  exact ⟨ret_place8 D.out P.out, _, rfl⟩

set_option maxHeartbeats 400000 in
theorem pout_any {b m : Nat} {A : List Nat} (n : Int) (w : World) (h : PO w b m A) :
    Calls Try.prog 20 #[.pointer (some ⟨b, 0, none⟩), .int .i64 n] w fun e w' => e = .returned (.bool (ou m A n)) ∧ ∃ k, w' = w.drewN k := by
  have c1 := h.c
  have hm : (m : Int) ≤ 12 := by have := h.pg.m2; omega
  by_cases l : n < 1
  · rw [show ou m A n = false by unfold ou; rw [decide_eq_false (by omega)]; rfl]
    clear h
    go_enter Try.func20, Try.ntmps20
    go_wp2
    go_ret
    exact ⟨rfl, 0, rfl⟩
  · by_cases u : (m : Int) * 8 < n
    · rw [show ou m A n = false by unfold ou; rw [decide_eq_false (by omega)]; rfl]
      clear h
      go_enter Try.func20, Try.ntmps20
      go_wp2
      go_ret
      exact ⟨rfl, 0, rfl⟩
    · obtain ⟨k, rfl⟩ := Int.eq_ofNat_of_zero_le (show 0 ≤ n by omega)
      have hv : ou m A (k : Int) = (A.getD ((k - 1) / 8) 0).testBit ((k - 1) % 8) := by
        unfold ou bt
        rw [decide_eq_true (by omega), Bool.true_and, show ((k : Int) - 1).toNat = k - 1 by omega]
      rw [hv, ← and8 _ (h.pg.lt _) _ (by omega)]
      have C : Hid (∀ _ : Unit, _) := fun _ => place_any k w (by omega) (by omega)
      have cg := h.at ((k - 1) / 8) (by omega)
      have hj2 : (((k - 1) / 8 : Nat) : Int) < 12 := by omega
      have ha := u8_and_nat (A.getD ((k - 1) / 8) 0) (2 ^ ((k - 1) % 8)) (h.pg.lt _) (pow8_lt _ (by omega))
      have hz : Hid (((((A.getD ((k - 1) / 8) 0 &&& 2 ^ ((k - 1) % 8) : Nat) : Int)) != 0) = ((A.getD ((k - 1) / 8) 0 &&& 2 ^ ((k - 1) % 8)) != 0)) := by
        unfold Hid
        generalize (A.getD ((k - 1) / 8) 0 &&& 2 ^ ((k - 1) % 8)) = z
        cases z <;> rfl
      clear h hv
      generalize 2 ^ ((k - 1) % 8) = p at *
      generalize (k - 1) / 8 = j at *
      generalize A.getD j 0 &&& p = z at *
      generalize A.getD j 0 = x at *
      go_enter Try.func20, Try.ntmps20
      go_wp2_with fail
      refine (C.out ()).mono ?_
      rintro e w' ⟨rfl, k, rfl⟩
      go_wp2
      go_ret
      exact ⟨congrArg (fun q => Ending.returned (.bool q)) hz.out, _, rfl⟩

set_option maxHeartbeats 1000000 in
theorem pgive_any {b m : Nat} {A : List Nat} (n : Int) (w : World) (h : PO w b m A) :
    Calls Try.prog 14 #[.pointer (some ⟨b, 0, none⟩), .int .i64 n] w fun e w' => e = .returned (.int .i64 (gvE m A n)) ∧ PO w' b m (gvA m A n) ∧ Fr w.heap.size [b] w w' := by
  have C : Hid (∀ _ : Unit, _) := fun _ => pout_any n w h
  cases e : ou m A n with
  | false =>
    rw [e] at C
    rw [show gvE m A n = 4 by unfold gvE; rw [e]; rfl, show gvA m A n = A by unfold gvA; rw [e]; rfl]
    have HT : Hid (PO w b m A) := h
    clear h e
    go_enter Try.func14, Try.ntmps14
    go_wp2_with fail
    refine (C.out ()).mono ?_
    rintro e w' ⟨rfl, k, rfl⟩
    go_wp2
    go_ret
    exact ⟨rfl, HT.out.heap rfl, (Fr.refl _ _ _).drewN _⟩
  | true =>
    rw [e] at C
    have hn : 1 ≤ n ∧ n ≤ 8 * m := by
      unfold ou at e
      rw [Bool.and_eq_true] at e
      exact of_decide_eq_true e.1
    have hm : (m : Int) ≤ 12 := by have := h.pg.m2; omega
    obtain ⟨k, rfl⟩ := Int.eq_ofNat_of_zero_le (show 0 ≤ n by omega)
    rw [show gvE m A (k : Int) = 0 by unfold gvE; rw [e]; rfl, show gvA m A (k : Int) = A.set ((k - 1) / 8) (sb (A.getD ((k - 1) / 8) 0) ((k - 1) % 8) false) by unfold gvA; rw [e, show ((k : Int) - 1).toNat = k - 1 by omega]; rfl]
    have D : Hid (∀ q : Nat, _) := fun q => place_any k (w.drewN q) (by omega) (by omega)
    have cg := h.at ((k - 1) / 8) (by omega)
    have fg : w.frozen? ⟨b, (k - 1) / 8, none⟩ = false := h.f _
    have hj2 : (((k - 1) / 8 : Nat) : Int) < 12 := by omega
    have ha := u8_andNot_nat (A.getD ((k - 1) / 8) 0) (2 ^ ((k - 1) % 8)) (h.pg.lt _) (pow8_lt _ (by omega))
    rw [andNot8 _ (h.pg.lt _) _ (by omega)] at ha
    have TS : Hid (∀ w1 : World, w1.heap = w.heap → _) := fun w1 e1 => po_store (h.heap e1) ((k - 1) / 8) (sb (A.getD ((k - 1) / 8) 0) ((k - 1) % 8) false) (by omega) (sb_lt _ (h.pg.lt _) _ (by omega)).2
    clear h e hn hm
    generalize sb (A.getD ((k - 1) / 8) 0) ((k - 1) % 8) false = z at *
    generalize 2 ^ ((k - 1) % 8) = p at *
    generalize (k - 1) / 8 = j at *
    generalize A.getD j 0 = x at *
    go_enter Try.func14, Try.ntmps14
    go_wp2_with fail
    refine (C.out ()).mono ?_
    rintro e w' ⟨rfl, q, rfl⟩
    go_wp2_with fail
    refine (D.out q).mono ?_
    rintro e w' ⟨rfl, q2, rfl⟩
    go_wp2_with fail
    go_region
    all_goals go_wp2
    go_ret
    refine ⟨rfl, TS.out (World.drewN _ _) rfl, (Fr.drewN ?_ _).setCell (Or.inr (by simp)) _⟩
    exact Fr.refl _ _ _
end Go.Proofs.Ytibajjidigmkhaa
