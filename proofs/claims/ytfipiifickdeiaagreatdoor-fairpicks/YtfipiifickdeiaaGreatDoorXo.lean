/- The texts Om Og Oa Ob Hw Hm Ha Hb Hc Hd Fi He of one layer, laid together. -/
import Derived.Test.YtfipiifickdeiaaGreatDoorRows
import Derived.Test.YtfipiifickdeiaaGreatDoorXa
import Derived.WalkKit
import Derived.ProofKit
import Derived.OpenShut
import Derived.BigQuiet
import Derived.Deep.RegionHeld3
import Derived.Laws.BitsAllLaws
import Derived.Lib.BitFns
import Derived.ArgAppend
import Derived.Deep.RegionLaw
import Derived.Deep.DeepCutAuto
import Derived.Deep.CutBlock
import Derived.Deep.OwnRows
namespace Go.Proofs.YtfipiifickdeiaaGreatDoor.Om
/-- Is an object taken (they are counted from 0 here)? -/
def bt (A : List Nat) (i : Nat) : Bool := (A.getD (i / 8) 0).testBit (i % 8)
def lz (x : Nat) : Nat := ((List.range 8).find? fun j => !x.testBit j).getD 0
/-- A byte with one bit set, or not. -/
def sb (x j : Nat) (b : Bool) : Nat := if b = true then x ||| 2 ^ j else x - (if x.testBit j = true then 2 ^ j else 0)
/-- Is a page empty, full, in part? -/
def em (A : List Nat) (p : Nat) : Bool := A.getD p 0 == 0
def fu (A : List Nat) (p : Nat) : Bool := A.getD p 0 == 255
def pt (A : List Nat) (p : Nat) : Bool := !em A p && !fu A p
def fi (f : Nat → Bool) (m : Nat) : Option Nat := (List.range m).find? f
def ct (f : Nat → Bool) (m : Nat) : Nat := ((List.range m).filter f).length
/-- The page that is taken from. -/
def nx (m : Nat) (A : List Nat) : Option Nat := match fi (pt A) m with
  | some p => some p
  | none => fi (em A) m
def tkN (m : Nat) (A : List Nat) : Int := match nx m A with
  | some p => ((p * 8 + lz (A.getD p 0) + 1 : Nat) : Int)
  | none => 0
def tkE (m : Nat) (A : List Nat) : Int := match nx m A with
  | some _ => 0
  | none => 5
def tkA (m : Nat) (A : List Nat) : List Nat := match nx m A with
  | some p => A.set p (sb (A.getD p 0) (lz (A.getD p 0)) true)
  | none => A
def ou (m : Nat) (A : List Nat) (n : Int) : Bool := decide (1 ≤ n ∧ n ≤ 8 * m) && bt A (n - 1).toNat
def gvA (m : Nat) (A : List Nat) (n : Int) : List Nat := if ou m A n = true then A.set ((n - 1).toNat / 8) (sb (A.getD ((n - 1).toNat / 8) 0) ((n - 1).toNat % 8) false) else A
/-- How many objects are free. -/
def fr (m : Nat) (A : List Nat) : Nat := ct (fun i => !bt A i) (8 * m)
/-- The document's list of what is taken. -/
def BL (m : Nat) (A : List Nat) : List Bool := false :: (List.range (8 * m)).map (bt A)
/-- Bytes of pages. -/
structure Pg (m : Nat) (A : List Nat) : Prop where
  len : A.length = 12
  lt : ∀ p, A.getD p 0 < 256
  m1 : 1 ≤ m
  m2 : m ≤ 12
theorem lz_lt : ∀ x, x < 255 → lz x < 8 := by decide +kernel
theorem lz_at : ∀ x, x < 255 → x.testBit (lz x) = false := by decide +kernel
theorem sb_lt : ∀ x, x < 256 → ∀ j, j < 8 → sb x j true < 256 ∧ sb x j false < 256 := by decide +kernel
theorem sb_on : ∀ x, x < 256 → ∀ j, j < 8 → ∀ k, k < 8 → (sb x j true).testBit k = if k = j then true else x.testBit k := by decide +kernel
theorem sb_off : ∀ x, x < 256 → ∀ j, j < 8 → ∀ k, k < 8 → (sb x j false).testBit k = if k = j then false else x.testBit k := by decide +kernel
theorem fi_succ (f : Nat → Bool) (k : Nat) : fi f (k + 1) = match fi f k with
  | some p => some p
  | none => if f k = true then some k else none := by
  unfold fi
  rw [List.range_succ, List.find?_append]
  cases h : (List.range k).find? f with
  | some p => rfl
  | none =>
    by_cases c : f k = true
    · simp [c]
    · simp [c]
theorem fi_some {f : Nat → Bool} {m p : Nat} (h : fi f m = some p) : p < m ∧ f p = true ∧ ∀ j, j < p → f j = false := by
  induction m with
  | zero => simp [fi] at h
  | succ k ih =>
    rw [fi_succ] at h
    cases e : fi f k with
    | some q =>
      rw [e] at h
      simp at h
      subst h
      have := ih e
      exact ⟨by omega, this.2⟩
    | none =>
      rw [e] at h
      by_cases c : f k = true
      · simp [c] at h
        subst h
        refine ⟨by omega, c, fun j hj => ?_⟩
        unfold fi at e
        rw [List.find?_eq_none] at e
        simpa using e j (by simpa using hj)
      · simp [c] at h
theorem fi_none {f : Nat → Bool} {m : Nat} (h : fi f m = none) : ∀ j, j < m → f j = false := by
  unfold fi at h
  rw [List.find?_eq_none] at h
  intro j hj
  simpa using h j (by simpa using hj)
theorem ct_succ (f : Nat → Bool) (k : Nat) : ct f (k + 1) = ct f k + (if f k = true then 1 else 0) := by
  unfold ct
  rw [List.range_succ, List.filter_append, List.length_append]
  by_cases c : f k = true
  · simp [c]
  · simp [c]
theorem pt_lt {m : Nat} {A : List Nat} (h : Pg m A) {p : Nat} (k : fu A p = false) : A.getD p 0 < 255 := by
  have := h.lt p
  unfold fu at k
  have : A.getD p 0 ≠ 255 := by simpa using k
  omega
theorem nx_some {m : Nat} {A : List Nat} (h : Pg m A) {p : Nat} (e : nx m A = some p) : p < m ∧ A.getD p 0 < 255 := by
  unfold nx at e
  cases g : fi (pt A) m with
  | some q =>
    rw [g] at e
    simp at e
    subst e
    obtain ⟨h1, h2, _⟩ := fi_some g
    unfold pt at h2
    simp at h2
    exact ⟨h1, pt_lt h h2.2⟩
  | none =>
    rw [g] at e
    simp at e
    obtain ⟨h1, h2, _⟩ := fi_some e
    unfold em at h2
    have : A.getD p 0 = 0 := by simpa using h2
    exact ⟨h1, by omega⟩
theorem getD_set (A : List Nat) (p y i : Nat) (hp : p < A.length) : (A.set p y).getD i 0 = if i = p then y else A.getD i 0 := by
  rw [List.getD_eq_getElem?_getD, List.getElem?_set]
  by_cases e : p = i
  · subst e
    simp [hp]
  · rw [if_neg e, if_neg (fun g => e g.symm), List.getD_eq_getElem?_getD]
theorem pg_set {m : Nat} {A : List Nat} (h : Pg m A) (p y : Nat) (hy : y < 256) : Pg m (A.set p y) := by
  refine ⟨by simp [h.len], fun i => ?_, h.m1, h.m2⟩
  rw [List.getD_eq_getElem?_getD, List.getElem?_set]
  by_cases e : p = i
  · subst e
    by_cases l : p < A.length
    · simp [l, hy]
    · simp [l]
  · rw [if_neg e, ← List.getD_eq_getElem?_getD]
    exact h.lt i
theorem pg_take {m : Nat} {A : List Nat} (h : Pg m A) : Pg m (tkA m A) := by
  unfold tkA
  cases e : nx m A with
  | none => exact h
  | some p =>
    obtain ⟨h1, h2⟩ := nx_some h e
    exact pg_set h _ _ (sb_lt _ (h.lt p) _ (lz_lt _ h2)).1
/-- What is taken behind the turn of one bit. -/
theorem bt_set {m : Nat} {A : List Nat} (h : Pg m A) (k : Nat) (hk : k < 8 * m) (b : Bool) (i : Nat) : bt (A.set (k / 8) (sb (A.getD (k / 8) 0) (k % 8) b)) i = if i = k then b else bt A i := by
  have := h.m2
  have := h.len
  unfold bt
  rw [getD_set _ _ _ _ (by omega)]
  by_cases e : i / 8 = k / 8
  · rw [if_pos e]
    have e2 : (sb (A.getD (k / 8) 0) (k % 8) b).testBit (i % 8) = if i % 8 = k % 8 then b else (A.getD (k / 8) 0).testBit (i % 8) := by
      cases b with
      | true => exact sb_on _ (h.lt _) _ (by omega) _ (by omega)
      | false => exact sb_off _ (h.lt _) _ (by omega) _ (by omega)
    rw [e2, e]
    by_cases g : i % 8 = k % 8
    · rw [if_pos g, if_pos (by omega)]
    · rw [if_neg g, if_neg (by omega)]
  · rw [if_neg e, if_neg (by intro g; exact e (by rw [g]))]
theorem bl_len (m : Nat) (A : List Nat) : (BL m A).length = 8 * m + 1 := by simp [BL]
theorem bl_at (m : Nat) (A : List Nat) (i : Nat) (hi : i < 8 * m) : (BL m A)[i + 1]? = some (bt A i) := by
  simp [BL, hi]
theorem bl_set {m : Nat} {A : List Nat} (h : Pg m A) (k : Nat) (hk : k < 8 * m) (b : Bool) : BL m (A.set (k / 8) (sb (A.getD (k / 8) 0) (k % 8) b)) = (BL m A).set (k + 1) b := by
  apply List.ext_getElem?
  intro i
  cases i with
  | zero => simp [BL]
  | succ i =>
    by_cases hi : i < 8 * m
    · rw [bl_at _ _ _ hi, bt_set h k hk, List.getElem?_set]
      by_cases e : i = k
      · subst e
        simp [bl_len, hk]
      · rw [if_neg e, if_neg (by omega), bl_at _ _ _ hi]
    · rw [List.getElem?_eq_none (by rw [bl_len]; omega), List.getElem?_eq_none (by rw [List.length_set, bl_len]; omega)]
end Go.Proofs.YtfipiifickdeiaaGreatDoor.Om
namespace Go.Proofs.YtfipiifickdeiaaGreatDoor.Sta
open Om
theorem bt_page (A : List Nat) (p k : Nat) (h : k < 8) : bt A (8 * p + k) = (A.getD p 0).testBit k := by
  unfold bt
  rw [show (8 * p + k) / 8 = p by omega, show (8 * p + k) % 8 = k by omega]
theorem ct_congr {f g : Nat → Bool} {k : Nat} (h : ∀ j, j < k → f j = g j) : ct f k = ct g k := by
  induction k with
  | zero => rfl
  | succ k ih => rw [ct_succ, ct_succ, ih (fun j hj => h j (by omega)), h k (by omega)]
theorem ct_parts {A : List Nat} {k : Nat} (h : ∀ j, j < k → pt A j = false) : ct (em A) k + ct (fu A) k = k := by
  induction k with
  | zero => rfl
  | succ k ih =>
    have i := ih (fun j hj => h j (by omega))
    have hk := h k (by omega)
    rw [ct_succ, ct_succ]
    unfold pt at hk
    cases e : em A k with
    | true =>
      have : fu A k = false := by unfold em at e; unfold fu; rw [show A.getD k 0 = 0 by simpa using e]; rfl
      rw [this]
      simp
      omega
    | false =>
      rw [e] at hk
      have : fu A k = true := by simpa using hk
      rw [this]
      simp
      omega
theorem once_some {m : Nat} {A : List Nat} (h : Pg m A) {p : Nat} (e : nx m A = some p) :
    (1 : Int) ≤ tkN m A ∧ tkN m A ≤ 8 * m ∧ ou m A (tkN m A) = false ∧ ou m (tkA m A) (tkN m A) = true ∧ (¬ (((ct (em (tkA m A)) m : Nat) : Int) < ((ct (em A) m : Nat) : Int)) ∨ ¬ ((0 : Int) < ((m - ct (em A) m - ct (fu A) m : Nat) : Int))) := by
  obtain ⟨hp, hx⟩ := nx_some h e
  have hl := lz_lt _ hx
  have n1 : tkN m A = ((8 * p + lz (A.getD p 0) + 1 : Nat) : Int) := by unfold tkN; rw [e]; simp; omega
  have a1 : tkA m A = A.set p (sb (A.getD p 0) (lz (A.getD p 0)) true) := by unfold tkA; rw [e]
  have b1 : bt A (8 * p + lz (A.getD p 0)) = false := by rw [bt_page A p _ hl]; exact lz_at _ hx
  have b2 : bt (tkA m A) (8 * p + lz (A.getD p 0)) = true := by
    have := bt_set h (8 * p + lz (A.getD p 0)) (by omega) true (8 * p + lz (A.getD p 0))
    rw [show (8 * p + lz (A.getD p 0)) / 8 = p by omega, show (8 * p + lz (A.getD p 0)) % 8 = lz (A.getD p 0) by omega] at this
    rw [a1, this, if_pos rfl]
  refine ⟨by omega, by omega, ?_, ?_, ?_⟩
  · unfold ou
    rw [n1, show (((8 * p + lz (A.getD p 0) + 1 : Nat) : Int) - 1).toNat = 8 * p + lz (A.getD p 0) by omega, b1]
    simp
  · unfold ou
    rw [n1, show (((8 * p + lz (A.getD p 0) + 1 : Nat) : Int) - 1).toNat = 8 * p + lz (A.getD p 0) by omega, b2, decide_eq_true (by omega)]
    rfl
  · unfold nx at e
    cases g : fi (pt A) m with
    | none =>
      have := ct_parts (fi_none g)
      right
      omega
    | some q =>
      rw [g] at e
      simp at e
      subst e
      left
      have hq := (fi_some g).2.1
      have hz : em A q = false := by
        unfold pt at hq
        simp at hq
        exact hq.1
      have hlen := h.len
      have hm2 := h.m2
      rw [a1, ct_congr (g := em A) fun j hj => ?_]
      · omega
      · unfold em
        rw [getD_set _ _ _ _ (by omega)]
        by_cases d : j = q
        · subst d
          rw [if_pos rfl]
          unfold em at hz
          rw [hz]
          have t := sb_on _ (h.lt j) _ hl _ hl
          rw [if_pos rfl] at t
          have : sb (A.getD j 0) (lz (A.getD j 0)) true ≠ 0 := fun c => by rw [c] at t; simp at t
          simpa using this
        · rw [if_neg d]
end Go.Proofs.YtfipiifickdeiaaGreatDoor.Sta
namespace Go.Proofs.YtfipiifickdeiaaGreatDoor.Sta
open Go.ChangeShapes Go.WideShapes Go.ChangeAt Go.RowKit
open Om
/-- A byte in memory. -/
def bv (x : Nat) : Value := .int .u8 (x : Int)
theorem getD_map_bv (xs : List Nat) (i : Nat) (h : i < xs.length) : (xs.map bv)[i]? = some (.int .u8 ((xs.getD i 0 : Nat) : Int)) := by
  rw [List.getElem?_map, List.getElem?_eq_getElem h, List.getD_eq_getElem?_getD, List.getElem?_eq_getElem h]
  rfl
/-- The pool at block b: its pages' bytes are A, of which the first m count. -/
structure PO (w : World) (b m : Nat) (A : List Nat) : Prop where
  sb : Blk w b (A.map bv ++ [.int .i64 (m : Int)]) 228
  pg : Pg m A
theorem PO.c {w : World} {b m : Nat} {A : List Nat} (h : PO w b m A) : w.cell? ⟨b, 12, none⟩ = some (.int .i64 (m : Int)) := by
  rw [h.sb.cell 12, List.getElem?_append_right (by simp [h.pg.len])]
  simp [h.pg.len]
theorem PO.f {w : World} {b m : Nat} {A : List Nat} (h : PO w b m A) (i : Nat) : w.frozen? ⟨b, i, none⟩ = false := h.sb.free i
theorem PO.heap {w w1 : World} {b m : Nat} {A : List Nat} (h : PO w b m A) (e : w1.heap = w.heap) : PO w1 b m A := ⟨h.sb.heap e, h.pg⟩
theorem PO.keep {B : Nat} {S : List Nat} {w w' : World} {b m : Nat} {A : List Nat} (h : PO w b m A) (k : Fr B S w w') (hb : b < B) (hs : b ∉ S) : PO w' b m A := ⟨h.sb.keep k hb hs, h.pg⟩
theorem PO.at {w : World} {b m : Nat} {A : List Nat} (h : PO w b m A) (i : Nat) (hi : i < 12) : w.cell? ⟨b, i, none⟩ = some (.int .u8 ((A.getD i 0 : Nat) : Int)) := by
  rw [h.sb.cell i, List.getElem?_append_left (by simp [h.pg.len]; exact hi), getD_map_bv A i (by rw [h.pg.len]; exact hi)]
set_option maxHeartbeats 400000 in
theorem pnew_any (m : Nat) (w : World) (h1 : (1 : Int) ≤ m) (h2 : (m : Int) ≤ 12) :
    Calls Tryz.prog 51 #[.int .i64 (m : Int)] w fun e w' => e = .returned (.tuple #[.pointer (some ⟨w.heap.size, 0, none⟩), .int .i64 0]) ∧ PO w' w.heap.size m (List.replicate 12 0) ∧ Fr w.heap.size [] w w' := by
  have F : Hid (∀ o, Fr w.heap.size [] w (w.alloc o)) := fun o => (Fr.refl _ _ _).alloc (Nat.le_refl _) o
  have G : Hid (PO (w.alloc (.cells ((List.replicate 12 0).map bv ++ [Value.int .i64 (m : Int)]).toArray 228)) w.heap.size m (List.replicate 12 0)) :=
    ⟨Blk.new w _ _, by simp, fun p => by rw [List.getD_eq_getElem?_getD, List.getElem?_replicate]; split <;> simp, by omega, by omega⟩
  go_enter Tryz.func51, Tryz.ntmps51
  go_wp2
  go_ret2
  exact ⟨rfl, G.out, F.out _⟩
end Go.Proofs.YtfipiifickdeiaaGreatDoor.Sta
namespace Go.Proofs.YtfipiifickdeiaaGreatDoor.Sta
open Go.ChangeShapes Go.WideShapes Go.ChangeAt Go.RowKit
open Om
/- The calls of a pool that is not there. -/
end Go.Proofs.YtfipiifickdeiaaGreatDoor.Sta
namespace Go.Proofs.YtfipiifickdeiaaGreatDoor.Sta
open Go.ChangeShapes Go.WideShapes Go.ChangeAt Go.RowKit
/-- A list as it lies: nil, or a part of a block, with room behind it. -/
def Lv (w : World) (v : Value) (xs : List Int) : Prop :=
  (v = .slice none 0 0 ∧ xs = []) ∨ ∃ (g off cap : Nat) (cur : List Value), v = .slice (some ⟨g, off, none⟩) xs.length cap ∧ xs.length ≤ cap ∧ Blk w g cur 3 ∧ off + cap ≤ cur.length ∧ ∀ j, j < xs.length → cur[off + j]? = some (.int .i64 (xs.getD j 0))
/-- Its block. -/
def vb (v : Value) : List Nat := match v with
  | .slice (some a) _ _ => [a.block]
  | _ => []
/-- None within the other's room. -/
def Ap (v u : Value) : Prop := ∀ (g off n cap g2 off2 n2 cap2 : Nat), v = .slice (some ⟨g, off, none⟩) n cap → u = .slice (some ⟨g2, off2, none⟩) n2 cap2 → g ≠ g2 ∨ off + cap ≤ off2 ∨ off2 + cap2 ≤ off
theorem Ap.symm {v u : Value} (h : Ap v u) : Ap u v := fun g off n cap g2 off2 n2 cap2 e1 e2 => by
  rcases h g2 off2 n2 cap2 g off n cap e2 e1 with h | h | h
  · exact Or.inl fun e => h e.symm
  · exact Or.inr (Or.inr h)
  · exact Or.inr (Or.inl h)
theorem Lv.row {w : World} {v : Value} {xs : List Int} (h : Lv w v xs) : Row w v xs := by
  rcases h with ⟨rfl, rfl⟩ | ⟨g, off, cap, cur, rfl, _, hb, _, hc⟩
  · exact Or.inl ⟨rfl, none, 0, rfl⟩
  · exact Or.inr ⟨g, off, cap, rfl, hb.lt, fun i hi => by rw [hb.cell]; exact hc i hi⟩
theorem Lv.shape {w : World} {v : Value} {xs : List Int} (h : Lv w v xs) : ∃ a cap, v = .slice a xs.length cap := h.row.shape
theorem Lv.keep {B : Nat} {S : List Nat} {w w' : World} {v : Value} {xs : List Int} (h : Lv w v xs) (f : Fr B S w w') (hB : w.heap.size ≤ B) (hS : ∀ g ∈ vb v, g ∉ S) : Lv w' v xs := by
  rcases h with h | ⟨g, off, cap, cur, rfl, h1, hb, h2⟩
  · exact Or.inl h
  · exact Or.inr ⟨g, off, cap, cur, rfl, h1, hb.keep f (Nat.lt_of_lt_of_le hb.lt hB) (hS g (by simp [vb])), h2⟩
theorem Lv.heap {w w1 : World} {v : Value} {xs : List Int} (h : Lv w v xs) (e : w1.heap = w.heap) : Lv w1 v xs := by
  rcases h with h | ⟨g, off, cap, cur, rfl, h1, hb, h2⟩
  · exact Or.inl h
  · exact Or.inr ⟨g, off, cap, cur, rfl, h1, hb.heap e, h2⟩
theorem Lv.not {w : World} {v : Value} {xs : List Int} (h : Lv w v xs) {k : Nat} {cs : List Value} {t : TypeId} (b : Blk w k cs t) (ht : t ≠ 3) : k ∉ vb v := by
  rcases h with ⟨rfl, _⟩ | ⟨g, off, cap, cur, rfl, _, hb, _⟩
  · simp [vb]
  · simp only [vb, List.mem_singleton]
    exact b.ne hb ht
theorem Lv.lt {w : World} {v : Value} {xs : List Int} (h : Lv w v xs) : ∀ g ∈ vb v, g < w.heap.size := by
  rcases h with ⟨rfl, _⟩ | ⟨g, off, cap, cur, rfl, _, hb, _⟩
  · simp [vb]
  · simpa [vb] using hb.lt
theorem lv_own {w : World} {base : Nat} {v : Value} {xs : List Int} (h : w.ownsRow base 3 1 v xs.length (xs.map (Value.int .i64))) : Lv w v xs ∧ ∀ g ∈ vb v, base ≤ g := by
  rcases h.2 with ⟨rfl, e⟩ | ⟨g, cap, cur, rfl, hg, hh, hn, hc, hz, ht⟩
  · exact ⟨Or.inl ⟨rfl, List.eq_nil_of_length_eq_zero e⟩, by simp [vb]⟩
  · refine ⟨Or.inr ⟨g, 0, cap, cur.toList, rfl, hn, by unfold Blk; rw [Array.toArray_toList]; exact hh, by rw [Array.length_toList, hz]; omega, fun j hj => ?_⟩, by simpa [vb] using hg⟩
    have := congrArg (fun l => l[j]?) ht
    simp only [Nat.mul_one] at this
    rw [List.getElem?_take, if_pos hj] at this
    rw [Nat.zero_add, this, getD_map_int xs j hj]
/-- Writes within the room of a list alone. -/
structure Wr (w w' : World) (g off cap : Nat) (cur cur' : List Value) : Prop where
  was : Blk w g cur 3
  now : Blk w' g cur' 3
  len : cur'.length = cur.length
  out : ∀ k, k < off ∨ off + cap ≤ k → cur'[k]? = cur[k]?
  fr : Fr w.heap.size [g] w w'
theorem Wr.other {w w' : World} {g off cap n : Nat} {cur cur' : List Value} (h : Wr w w' g off cap cur cur') {u : Value} {ys : List Int} (k : Lv w u ys) (a : Ap (.slice (some ⟨g, off, none⟩) n cap) u) : Lv w' u ys := by
  rcases k with k | ⟨g2, off2, cap2, cur2, rfl, h1, hb, h2, h3⟩
  · exact Or.inl k
  · by_cases e : g2 = g
    · subst e
      have ec : cur2 = cur := by
        have := (show w.heap[g2]? = _ from hb).symm.trans h.was
        simpa using this
      subst ec
      refine Or.inr ⟨g2, off2, cap2, cur', rfl, h1, h.now, by rw [h.len]; exact h2, fun j hj => ?_⟩
      rw [h.out _ ?_]
      · exact h3 j hj
      · rcases a g2 off n cap g2 off2 _ cap2 rfl rfl with q | q | q
        · exact absurd rfl q
        · exact Or.inr (by omega)
        · exact Or.inl (by omega)
    · exact Or.inr ⟨g2, off2, cap2, cur2, rfl, h1, hb.keep h.fr hb.lt (by simpa using e), h2, h3⟩
/-- What append of one number does. -/
def App (w : World) (v : Value) (xs : List Int) (y : Int) (v' : Value) (w' : World) : Prop :=
  (∃ (g off cap : Nat), v = .slice (some ⟨g, off, none⟩) xs.length cap ∧ xs.length < cap ∧ v' = .slice (some ⟨g, off, none⟩) (xs.length + 1) cap ∧ w' = w.setCell ⟨g, off + xs.length, none⟩ (.int .i64 y))
  ∨ (w'.ownsRow w.heap.size 3 1 v' (xs.length + 1) ((xs ++ [y]).map (Value.int .i64)) ∧ w.grownBy w' none)
theorem setCell_at {w : World} {g : Nat} {cur : List Value} {t : TypeId} (_h : Blk w g cur t) (i : Nat) (u : Value) : Fr w.heap.size [g] w (w.setCell ⟨g, i, none⟩ u) := (Fr.refl _ _ _).setCell (Or.inr (by simp)) u
theorem app_wr {w : World} {xs : List Int} {y : Int} {g off cap : Nat} {cur : List Value} (hb : Blk w g cur 3) (hl : xs.length < cap) :
    Wr w (w.setCell ⟨g, off + xs.length, none⟩ (.int .i64 y)) g off cap cur (cur.set (off + xs.length) (.int .i64 y)) := by
  refine ⟨hb, hb.set _ _, by simp, fun k hk => ?_, setCell_at hb _ _⟩
  rw [List.getElem?_set_ne (by omega)]
/-- The list itself, and all others, behind an append. -/
theorem app_self {w w' : World} {v v' : Value} {xs : List Int} {y : Int} (h : Lv w v xs) (a : App w v xs y v' w') : Lv w' v' (xs ++ [y]) := by
  rcases a with ⟨g, off, cap, rfl, hl, rfl, rfl⟩ | ⟨own, _⟩
  · rcases h with ⟨e, _⟩ | ⟨g2, off2, cap2, cur, e, h1, hb, h2, h3⟩
    · simp at e
    · simp only [Value.slice.injEq, Option.some.injEq, Addr.mk.injEq] at e
      obtain ⟨⟨rfl, rfl, _⟩, _, rfl⟩ := e
      refine Or.inr ⟨g, off, cap, _, by simp, by simp; omega, hb.set _ _, by simpa using h2, fun j hj => ?_⟩
      simp at hj
      by_cases e : j = xs.length
      · subst e
        rw [List.getElem?_set_self (by omega)]
        simp
      · rw [List.getElem?_set_ne (by omega), h3 j (by omega)]
        rw [List.getD_eq_getElem?_getD, List.getD_eq_getElem?_getD, List.getElem?_append_left (by omega)]
  · exact (lv_own (xs := xs ++ [y]) (by simpa using own)).1
theorem app_other {w w' : World} {v v' u : Value} {xs ys : List Int} {y : Int} (h : Lv w v xs) (a : App w v xs y v' w') (k : Lv w u ys) (p : Ap v u) : Lv w' u ys ∧ Ap v' u := by
  rcases a with ⟨g, off, cap, rfl, hl, rfl, rfl⟩ | ⟨own, gr⟩
  · rcases h with ⟨e, _⟩ | ⟨g2, off2, cap2, cur, e, h1, hb, h2, h3⟩
    · simp at e
    · simp only [Value.slice.injEq, Option.some.injEq, Addr.mk.injEq] at e
      obtain ⟨⟨rfl, rfl, _⟩, _, rfl⟩ := e
      refine ⟨(app_wr hb hl).other k p, fun g3 off3 n3 cap3 g4 off4 n4 cap4 e1 e2 => ?_⟩
      simp only [Value.slice.injEq, Option.some.injEq, Addr.mk.injEq] at e1
      obtain ⟨⟨rfl, rfl, _⟩, _, rfl⟩ := e1
      exact p _ _ _ _ _ _ _ _ rfl e2
  · have f : Fr w.heap.size [] w w' := (Fr.refl _ _ _).grown gr (Nat.le_refl _) (by simp)
    refine ⟨k.keep f (Nat.le_refl _) (by simp), fun g3 off3 n3 cap3 g4 off4 n4 cap4 e1 e2 => Or.inl ?_⟩
    have l1 := (lv_own (xs := xs ++ [y]) (by simpa using own)).2 g3 (by rw [e1]; simp [vb])
    have l2 := k.lt g4 (by rw [e2]; simp [vb])
    omega
theorem app_fr {w w' : World} {v v' : Value} {xs : List Int} {y : Int} (a : App w v xs y v' w') : Fr w.heap.size (vb v) w w' ∧ ∀ g ∈ vb v', g ∈ vb v ∨ w.heap.size ≤ g := by
  rcases a with ⟨g, off, cap, rfl, hl, rfl, rfl⟩ | ⟨own, gr⟩
  · exact ⟨(Fr.refl _ _ _).setCell (Or.inr (by simp [vb])) _, fun g hg => Or.inl hg⟩
  · refine ⟨((Fr.refl w.heap.size [] w).grown gr (Nat.le_refl _) (by simp)).mono (Nat.le_refl _) (by simp), fun g hg => Or.inr ?_⟩
    exact (lv_own (xs := xs ++ [y]) (by simpa using own)).2 g hg
/- Tables of lists. -/
def nv : Value := .slice none 0 0
structure Ls (w : World) (V : List Value) (K : List (List Int)) : Prop where
  len : V.length = K.length
  lv : ∀ i, i < K.length → Lv w (V.getD i nv) (K.getD i [])
  apart : ∀ i j, i < K.length → j < K.length → i ≠ j → Ap (V.getD i nv) (V.getD j nv)
theorem getD_set' {α : Type} (V : List α) (c i : Nat) (v d : α) (hc : c < V.length) : (V.set c v).getD i d = if i = c then v else V.getD i d := by
  rw [List.getD_eq_getElem?_getD, List.getElem?_set]
  by_cases e : c = i
  · subst e
    simp [hc]
  · rw [if_neg e, if_neg (fun g => e g.symm), List.getD_eq_getElem?_getD]
theorem Ls.turn {w w' : World} {V : List Value} {K : List (List Int)} (h : Ls w V K) {c : Nat} (hc : c < K.length) {v' : Value} {l' : List Int} (self : Lv w' v' l')
    (other : ∀ (u : Value) (ys : List Int), Lv w u ys → Ap (V.getD c nv) u → Lv w' u ys ∧ Ap v' u) : Ls w' (V.set c v') (K.set c l') := by
  have hl := h.len
  refine ⟨by simp [hl], fun i hi => ?_, fun i j hi hj hn => ?_⟩
  · simp at hi
    rw [getD_set' V c i v' nv (by omega), getD_set' K c i l' [] hc]
    by_cases e : i = c
    · rw [if_pos e, if_pos e]
      exact self
    · rw [if_neg e, if_neg e]
      exact (other _ _ (h.lv i hi) (h.apart c i hc hi (fun q => e q.symm))).1
  · simp at hi hj
    rw [getD_set' V c i v' nv (by omega), getD_set' V c j v' nv (by omega)]
    by_cases e : i = c
    · subst e
      rw [if_pos rfl, if_neg (fun q => hn q.symm)]
      exact (other _ _ (h.lv j hj) (h.apart i j hc hj hn)).2
    · rw [if_neg e]
      by_cases e2 : j = c
      · subst e2
        rw [if_pos rfl]
        exact ((other _ _ (h.lv i hi) (h.apart j i hc hi (fun q => e q.symm))).2).symm
      · rw [if_neg e2]
        exact h.apart i j hi hj hn
theorem Ls.keep {B : Nat} {S : List Nat} {w w' : World} {V : List Value} {K : List (List Int)} (h : Ls w V K) (f : Fr B S w w') (hB : w.heap.size ≤ B) (hS : ∀ i, i < K.length → ∀ g ∈ vb (V.getD i nv), g ∉ S) : Ls w' V K :=
  ⟨h.len, fun i hi => (h.lv i hi).keep f hB (hS i hi), h.apart⟩
theorem Ls.heap {w w1 : World} {V : List Value} {K : List (List Int)} (h : Ls w V K) (e : w1.heap = w.heap) : Ls w1 V K := ⟨h.len, fun i hi => (h.lv i hi).heap e, h.apart⟩
theorem Ls.append {w w' : World} {V : List Value} {K : List (List Int)} (h : Ls w V K) {c : Nat} (hc : c < K.length) {v' : Value} {y : Int} (a : App w (V.getD c nv) (K.getD c []) y v' w') : Ls w' (V.set c v') (K.set c (K.getD c [] ++ [y])) :=
  h.turn hc (app_self (h.lv c hc) a) fun _ _ k p => app_other (h.lv c hc) a k p
/-- The object: a pool, and the table of lists. -/
structure St (tS : TypeId) (w : World) (b pb lb n : Nat) (V : List Value) (K : List (List Int)) : Prop where
  sb : Blk w b [.pointer (some ⟨pb, 0, none⟩), .slice (some ⟨lb, 0, none⟩) n n] tS
  sl : Blk w lb V 22
  ls : Ls w V K
  kn : K.length = n
  n1 : 1 ≤ n
  n2 : n ≤ 64
/-- The blocks of the lists. -/
def bl (V : List Value) : List Nat := V.flatMap vb
theorem bl_get {V : List Value} {i : Nat} {g : Nat} (h : g ∈ vb (V.getD i nv)) : g ∈ bl V := by
  rw [List.getD_eq_getElem?_getD] at h
  cases e : V[i]? with
  | none => rw [e] at h; simp [nv, vb] at h
  | some v =>
    rw [e] at h
    exact List.mem_flatMap.2 ⟨v, List.mem_of_getElem? e, h⟩
theorem bl_mem {V : List Value} {g : Nat} (h : g ∈ bl V) : ∃ i, i < V.length ∧ g ∈ vb (V.getD i nv) := by
  obtain ⟨v, hv, hg⟩ := List.mem_flatMap.1 h
  obtain ⟨i, hi, e⟩ := List.mem_iff_getElem.1 hv
  refine ⟨i, hi, ?_⟩
  rw [List.getD_eq_getElem?_getD, List.getElem?_eq_getElem hi, Option.getD_some, e]
  exact hg
theorem bl_set {V : List Value} {c : Nat} {v : Value} {S : List Nat} (hS : ∀ g ∈ vb v, g ∈ S) {g : Nat} (h : g ∈ bl (V.set c v)) : g ∈ bl V ∨ g ∈ S := by
  obtain ⟨u, hu, hg⟩ := List.mem_flatMap.1 h
  rcases List.mem_or_eq_of_mem_set hu with q | q
  · exact Or.inl (List.mem_flatMap.2 ⟨u, q, hg⟩)
  · subst q
    exact Or.inr (hS g hg)
theorem St.c0 {tS : TypeId} {w : World} {b pb lb n : Nat} {V : List Value} {K : List (List Int)} (h : St tS w b pb lb n V K) : w.cell? ⟨b, 0, none⟩ = some (.pointer (some ⟨pb, 0, none⟩)) := h.sb.cell 0
theorem St.c1 {tS : TypeId} {w : World} {b pb lb n : Nat} {V : List Value} {K : List (List Int)} (h : St tS w b pb lb n V K) : w.cell? ⟨b, 1, none⟩ = some (.slice (some ⟨lb, 0, none⟩) n n) := h.sb.cell 1
theorem St.vl {tS : TypeId} {w : World} {b pb lb n : Nat} {V : List Value} {K : List (List Int)} (h : St tS w b pb lb n V K) : V.length = n := h.ls.len.trans h.kn
theorem St.cv {tS : TypeId} {w : World} {b pb lb n : Nat} {V : List Value} {K : List (List Int)} (h : St tS w b pb lb n V K) {i : Nat} (hi : i < n) : w.cell? ⟨lb, i, none⟩ = some (V.getD i nv) := by
  rw [h.sl.cell, List.getD_eq_getElem?_getD, List.getElem?_eq_getElem (by rw [h.vl]; exact hi)]
  rfl
theorem St.lv {tS : TypeId} {w : World} {b pb lb n : Nat} {V : List Value} {K : List (List Int)} (h : St tS w b pb lb n V K) {i : Nat} (hi : i < n) : Lv w (V.getD i nv) (K.getD i []) := h.ls.lv i (by rw [h.kn]; exact hi)
theorem St.heap {tS : TypeId} {w w1 : World} {b pb lb n : Nat} {V : List Value} {K : List (List Int)} (h : St tS w b pb lb n V K) (e : w1.heap = w.heap) : St tS w1 b pb lb n V K := ⟨h.sb.heap e, h.sl.heap e, h.ls.heap e, h.kn, h.n1, h.n2⟩
theorem St.keep {tS : TypeId} {B : Nat} {S : List Nat} {w w' : World} {b pb lb n : Nat} {V : List Value} {K : List (List Int)} (h : St tS w b pb lb n V K) (f : Fr B S w w') (hB : w.heap.size ≤ B) (h1 : b ∉ S) (h2 : lb ∉ S) (h3 : ∀ g ∈ bl V, g ∉ S) : St tS w' b pb lb n V K :=
  ⟨h.sb.keep f (Nat.lt_of_lt_of_le h.sb.lt hB) h1, h.sl.keep f (Nat.lt_of_lt_of_le h.sl.lt hB) h2, h.ls.keep f hB fun _ _ g hg => h3 g (bl_get hg), h.kn, h.n1, h.n2⟩
/-- A block of another type is none of the lists'. -/
theorem St.not {tS : TypeId} {w : World} {b pb lb n : Nat} {V : List Value} {K : List (List Int)} (h : St tS w b pb lb n V K) {k : Nat} {cs : List Value} {t : TypeId} (q : Blk w k cs t) (ht : t ≠ 3) : k ∉ bl V := fun hm => by
  obtain ⟨i, hi, hg⟩ := bl_mem hm
  exact (h.lv (by rw [← h.vl]; exact hi)).not q ht hg
theorem St.bl_lt {tS : TypeId} {w : World} {b pb lb n : Nat} {V : List Value} {K : List (List Int)} (h : St tS w b pb lb n V K) {g : Nat} (hg : g ∈ bl V) : g < w.heap.size := by
  obtain ⟨i, hi, hm⟩ := bl_mem hg
  exact (h.lv (by rw [← h.vl]; exact hi)).lt g hm
/-- Behind the store of a list's new cut. -/
theorem St.store {tS : TypeId} {w w1 : World} {b pb lb n : Nat} {V : List Value} {K : List (List Int)} (h : St tS w b pb lb n V K) (ht : tS ≠ 3) (ht2 : tS ≠ 22) {S : List Nat} (f : Fr w.heap.size S w w1) (hS : ∀ g ∈ S, g ∈ bl V) {c : Nat} {v' : Value} {l' : List Int}
    (ls : Ls w1 (V.set c v') (K.set c l')) : St tS (w1.setCell ⟨lb, c, none⟩ v') b pb lb n (V.set c v') (K.set c l') := by
  have nb : b ∉ S := fun e => h.not h.sb ht (hS b e)
  have nl : lb ∉ S := fun e => h.not h.sl (by decide) (hS lb e)
  have s1 := h.sb.keep f h.sb.lt nb
  have s2 := h.sl.keep f h.sl.lt nl
  refine ⟨s1.other (s1.ne s2 ht2) _, s2.set c v', ?_, by simp [h.kn], h.n1, h.n2⟩
  refine ls.keep ((Fr.refl w1.heap.size [lb] w1).setCell (Or.inr (by simp)) v') (Nat.le_refl _) fun i hi g hg => ?_
  have := (ls.lv i hi).not s2 (by decide)
  simp
  intro e
  subst e
  exact this hg
theorem St.store_fr {w w1 : World} {S T : List Nat} (f : Fr w.heap.size S w w1) (hS : ∀ g ∈ S, g ∈ T) (lb c : Nat) (v : Value) : Fr w.heap.size (lb :: T) w (w1.setCell ⟨lb, c, none⟩ v) :=
  (f.mono (Nat.le_refl _) (fun k _ hk hs => hk (List.mem_cons_of_mem _ (hS k hs)))).setCell (Or.inr (by simp)) v
end Go.Proofs.YtfipiifickdeiaaGreatDoor.Sta
namespace Go.Proofs.YtfipiifickdeiaaGreatDoor.Hm
open Sta
open Om
def ks (K : List (List Int)) (i : Nat) : List Int := K.getD i []
def isc (n : Nat) (c : Int) : Bool := decide (0 ≤ c ∧ c < n)
def kp (K : List (List Int)) (x : Int) : Bool := K.any fun l => decide (x ∈ l)
def hs (m : Nat) (A : List Nat) (K : List (List Int)) (x : Int) : Bool := ou m A x && !kp K x
/-- One object more, as far as the pool has one. -/
def f1 (m : Nat) (s : List Nat × List Int) : List Nat × List Int := if tkE m s.1 = 0 then (tkA m s.1, s.2 ++ [tkN m s.1]) else s
def fk (m : Nat) (s : List Nat × List Int) : Nat → List Nat × List Int
  | 0 => s
  | k + 1 => f1 m (fk m s k)
def al (m : Nat) (A : List Nat) (l : List Int) : List Nat × List Int := if l = [] then fk m (A, l) 2 else (A, l)
def alE (m n : Nat) (A : List Nat) (K : List (List Int)) (c : Int) : Int := if isc n c = true then if (al m A (ks K c.toNat)).2 = [] then 5 else 0 else 3
def alN (m n : Nat) (A : List Nat) (K : List (List Int)) (c : Int) : Int := if isc n c = true then (al m A (ks K c.toNat)).2.getLastD 0 else 0
def alA (m n : Nat) (A : List Nat) (K : List (List Int)) (c : Int) : List Nat := if isc n c = true then (al m A (ks K c.toNat)).1 else A
def alK (m n : Nat) (A : List Nat) (K : List (List Int)) (c : Int) : List (List Int) := if isc n c = true then K.set c.toNat (al m A (ks K c.toNat)).2.dropLast else K
/-- Back to the pool, one behind the other. -/
def gvs (m : Nat) (A : List Nat) (xs : List Int) : List Nat := xs.foldl (gvA m) A
def gs (m : Nat) (A : List Nat) (l : List Int) : List Nat × List Int := if l.length = 4 then (gvs m A (l.take 2), l.drop 2) else (A, l)
def giE (m n : Nat) (A : List Nat) (K : List (List Int)) (c x : Int) : Int := if isc n c = true then if hs m A K x = true then 0 else 4 else 3
def giA (m n : Nat) (A : List Nat) (K : List (List Int)) (c x : Int) : List Nat := if isc n c = true then if hs m A K x = true then (gs m A (ks K c.toNat)).1 else A else A
def giK (m n : Nat) (A : List Nat) (K : List (List Int)) (c x : Int) : List (List Int) := if isc n c = true then if hs m A K x = true then K.set c.toNat ((gs m A (ks K c.toNat)).2 ++ [x]) else K else K
def drA (m n : Nat) (A : List Nat) (K : List (List Int)) (c : Int) : List Nat := if isc n c = true then gvs m A (ks K c.toNat) else A
def drK (n : Nat) (K : List (List Int)) (c : Int) : List (List Int) := if isc n c = true then K.set c.toNat [] else K
theorem ks_set (K : List (List Int)) (c i : Nat) (l : List Int) (hc : c < K.length) : ks (K.set c l) i = if i = c then l else ks K i := getD_set' K c i l [] hc
theorem tkE_zero {m : Nat} {A : List Nat} (h : tkE m A = 0) : ∃ p, nx m A = some p := by
  unfold tkE at h
  cases e : nx m A with
  | some p => exact ⟨p, rfl⟩
  | none => rw [e] at h; simp at h
theorem ou_take {m : Nat} {A : List Nat} (h : Pg m A) (e : tkE m A = 0) (x : Int) : ou m (tkA m A) x = (decide (x = tkN m A) || ou m A x) := by
  obtain ⟨p, hp⟩ := tkE_zero e
  obtain ⟨hpm, hx⟩ := nx_some h hp
  have hl := lz_lt _ hx
  have n1 : tkN m A = ((8 * p + lz (A.getD p 0) + 1 : Nat) : Int) := by unfold tkN; rw [hp]; simp; omega
  have a1 : tkA m A = A.set p (sb (A.getD p 0) (lz (A.getD p 0)) true) := by unfold tkA; rw [hp]
  have b := bt_set h (8 * p + lz (A.getD p 0)) (by omega) true
  rw [show (8 * p + lz (A.getD p 0)) / 8 = p by omega, show (8 * p + lz (A.getD p 0)) % 8 = lz (A.getD p 0) by omega, ← a1] at b
  unfold ou
  by_cases r : 1 ≤ x ∧ x ≤ 8 * m
  · rw [decide_eq_true r, Bool.true_and, Bool.true_and, b]
    by_cases q : x = tkN m A
    · rw [if_pos (by omega), decide_eq_true q]
      rfl
    · rw [if_neg (by omega), decide_eq_false q]
      rfl
  · rw [decide_eq_false r]
    have : x ≠ tkN m A := by
      have := once_some h hp
      omega
    rw [decide_eq_false this]
    rfl
/-- Each object that is kept is taken in the pool, and kept once. -/
structure Kv (m : Nat) (A : List Nat) (K : List (List Int)) : Prop where
  pg : Pg m A
  kl : ∀ i, (ks K i).length ≤ 4
  nd : ∀ i, (ks K i).Nodup
  ap : ∀ i j x, i ≠ j → x ∈ ks K i → x ∉ ks K j
  ou : ∀ i x, x ∈ ks K i → ou m A x = true
theorem Kv.turn {m : Nat} {A A2 : List Nat} {K : List (List Int)} (h : Kv m A K) {c : Nat} (hc : c < K.length) {l : List Int} (pg : Pg m A2) (hl : l.length ≤ 4) (nd : l.Nodup)
    (ap : ∀ j x, j ≠ c → x ∈ l → x ∉ ks K j) (o1 : ∀ x ∈ l, Om.ou m A2 x = true) (o2 : ∀ j x, j ≠ c → x ∈ ks K j → Om.ou m A2 x = true) : Kv m A2 (K.set c l) := by
  refine ⟨pg, fun i => ?_, fun i => ?_, fun i j x hn hx => ?_, fun i x hx => ?_⟩
  · rw [ks_set K c i l hc]
    by_cases e : i = c
    · rw [if_pos e]; exact hl
    · rw [if_neg e]; exact h.kl i
  · rw [ks_set K c i l hc]
    by_cases e : i = c
    · rw [if_pos e]; exact nd
    · rw [if_neg e]; exact h.nd i
  · rw [ks_set K c i l hc] at hx
    rw [ks_set K c j l hc]
    by_cases e : i = c
    · rw [if_pos e] at hx
      rw [if_neg (by omega)]
      exact ap j x (by omega) hx
    · rw [if_neg e] at hx
      by_cases e2 : j = c
      · rw [if_pos e2]
        exact fun q => ap i x e q hx
      · rw [if_neg e2]
        exact h.ap i j x hn hx
  · rw [ks_set K c i l hc] at hx
    by_cases e : i = c
    · rw [if_pos e] at hx
      exact o1 x hx
    · rw [if_neg e] at hx
      exact o2 i x e hx
/-- What a core keeps behind a fetch. -/
structure Fk (m : Nat) (A : List Nat) (K : List (List Int)) (c : Nat) (s : List Nat × List Int) : Prop where
  pg : Pg m s.1
  nd : s.2.Nodup
  ap : ∀ j x, j ≠ c → x ∈ s.2 → x ∉ ks K j
  o1 : ∀ x ∈ s.2, Om.ou m s.1 x = true
  o2 : ∀ x, Om.ou m A x = true → Om.ou m s.1 x = true
theorem Fk.one {m : Nat} {A : List Nat} {K : List (List Int)} {c : Nat} {s : List Nat × List Int} (hK : Kv m A K) (h : Fk m A K c s) : Fk m A K c (f1 m s) := by
  unfold f1
  by_cases e : tkE m s.1 = 0
  · rw [if_pos e]
    obtain ⟨p, hp⟩ := tkE_zero e
    have o := (once_some h.pg hp).2.2.1
    have hou := ou_take h.pg e
    refine ⟨pg_take h.pg, ?_, fun j x hj hx => ?_, fun x hx => ?_, fun x hx => ?_⟩
    · rw [List.nodup_append]
      refine ⟨h.nd, by simp, fun a ha b hb => ?_⟩
      simp at hb
      subst hb
      intro q
      subst q
      rw [h.o1 _ ha] at o
      cases o
    · rcases List.mem_append.1 hx with q | q
      · exact h.ap j x hj q
      · simp at q
        subst q
        intro r
        rw [h.o2 _ (hK.ou j _ r)] at o
        cases o
    · show Om.ou m (tkA m s.1) x = true
      rw [hou]
      rcases List.mem_append.1 hx with q | q
      · rw [h.o1 x q]; simp
      · simp at q
        rw [decide_eq_true q]; rfl
    · show Om.ou m (tkA m s.1) x = true
      rw [hou, h.o2 x hx]
      simp
  · rw [if_neg e]
    exact h
theorem f1_len {m : Nat} {s : List Nat × List Int} : (f1 m s).2.length ≤ s.2.length + 1 := by
  unfold f1
  by_cases e : tkE m s.1 = 0
  · rw [if_pos e]; simp
  · rw [if_neg e]; omega
theorem Kv.fk0 {m : Nat} {A : List Nat} {K : List (List Int)} (h : Kv m A K) (c : Nat) : Fk m A K c (A, ks K c) :=
  ⟨h.pg, h.nd c, fun j x hj hx => h.ap c j x (fun q => hj q.symm) hx, fun x hx => h.ou c x hx, fun _ hx => hx⟩
theorem Kv.al {m : Nat} {A : List Nat} {K : List (List Int)} (h : Kv m A K) (c : Nat) : Fk m A K c (al m A (ks K c)) ∧ (al m A (ks K c)).2.length ≤ 4 := by
  unfold Hm.al
  have k0 := h.fk0 c
  by_cases e : ks K c = []
  · rw [if_pos e]
    refine ⟨((k0.one h).one h), ?_⟩
    show (f1 m (f1 m (A, ks K c))).2.length ≤ 4
    have h1 := f1_len (m := m) (s := f1 m (A, ks K c))
    have h2 := f1_len (m := m) (s := (A, ks K c))
    rw [e] at h1 h2 ⊢
    simp at h2
    omega
  · rw [if_neg e]
    exact ⟨k0, h.kl c⟩
theorem kv_new (m n : Nat) (h : Pg m (List.replicate 12 0)) : Kv m (List.replicate 12 0) (List.replicate n []) := by
  have e : ∀ i, ks (List.replicate n []) i = [] := fun i => by
    unfold ks
    rw [List.getD_eq_getElem?_getD, List.getElem?_replicate]
    split <;> rfl
  exact ⟨h, fun i => by rw [e]; simp, fun i => by rw [e]; exact List.nodup_nil, fun i j x _ hx => by rw [e] at hx; simp at hx, fun i x hx => by rw [e] at hx; simp at hx⟩
end Go.Proofs.YtfipiifickdeiaaGreatDoor.Hm
namespace Go.Proofs.YtfipiifickdeiaaGreatDoor.Sta
open Go.ChangeShapes Go.WideShapes Go.ChangeAt Go.RowKit
open Om Hm
/-- The stash at block b: its pool at pb, its table of lists at lb. -/
structure SH (w : World) (b pb lb n m : Nat) (A : List Nat) (V : List Value) (K : List (List Int)) : Prop where
  st : St 161 w b pb lb n V K
  po : PO w pb m A
theorem SH.heap {w w1 : World} {b pb lb n m : Nat} {A : List Nat} {V : List Value} {K : List (List Int)} (h : SH w b pb lb n m A V K) (e : w1.heap = w.heap) : SH w1 b pb lb n m A V K := ⟨h.st.heap e, h.po.heap e⟩
theorem SH.keep {B : Nat} {S : List Nat} {w w' : World} {b pb lb n m : Nat} {A : List Nat} {V : List Value} {K : List (List Int)} (h : SH w b pb lb n m A V K) (f : Fr B S w w') (hB : w.heap.size ≤ B) (h0 : pb ∉ S) (h1 : b ∉ S) (h2 : lb ∉ S) (h3 : ∀ g ∈ bl V, g ∉ S) : SH w' b pb lb n m A V K :=
  ⟨h.st.keep f hB h1 h2 h3, h.po.keep f (Nat.lt_of_lt_of_le h.po.sb.lt hB) h0⟩
/-- Behind a call of the pool. -/
theorem SH.pool {w w' : World} {b pb lb n m : Nat} {A A2 : List Nat} {V : List Value} {K : List (List Int)} (h : SH w b pb lb n m A V K) (p : PO w' pb m A2) (f : Fr w.heap.size [pb] w w') : SH w' b pb lb n m A2 V K := by
  have n1 := h.st.sb.ne h.po.sb (by decide)
  have n2 := h.st.sl.ne h.po.sb (by decide)
  have n3 := h.st.not h.po.sb (by decide)
  exact ⟨h.st.keep f (Nat.le_refl _) (by simpa using n1) (by simpa using n2) (fun g hg => by simp; exact fun e => n3 (e ▸ hg)), p⟩
/-- What a call of a stash leaves. -/
structure SC (w w' : World) (b pb lb n m : Nat) (V : List Value) (A' : List Nat) (K' : List (List Int)) : Prop where
  ex : ∃ V', SH w' b pb lb n m A' V' K' ∧ ∀ g ∈ bl V', g ∈ bl V ∨ w.heap.size ≤ g
  fr : Fr w.heap.size (lb :: pb :: bl V) w w'
theorem SC.refl {w : World} {b pb lb n m : Nat} {A : List Nat} {V : List Value} {K : List (List Int)} (h : SH w b pb lb n m A V K) : SC w w b pb lb n m V A K := ⟨⟨V, h, fun _ hg => Or.inl hg⟩, Fr.refl _ _ _⟩
theorem SC.sm {w w' w2 : World} {b pb lb n m : Nat} {V : List Value} {A' : List Nat} {K' : List (List Int)} (h : SC w w' b pb lb n m V A' K') (e : Sm w2 w') : SC w w2 b pb lb n m V A' K' := by
  obtain ⟨V', h1, h2⟩ := h.ex
  obtain ⟨e1, e2, e3, e4⟩ := e
  have f := h.fr
  exact ⟨⟨V', h1.heap e1, h2⟩, e2.trans f.os, e3.trans f.tape, e4.trans f.output, by rw [e1]; exact f.size, fun k hk hs => by rw [e1]; exact f.block k hk hs⟩
theorem SC.from {w w1 w' : World} {b pb lb n m : Nat} {V : List Value} {A' : List Nat} {K' : List (List Int)} (e : Sm w1 w) (h : SC w1 w' b pb lb n m V A' K') : SC w w' b pb lb n m V A' K' := by
  obtain ⟨V', h1, h2⟩ := h.ex
  exact ⟨⟨V', h1, by rw [← e.1]; exact h2⟩, by rw [← e.1]; exact e.fr h.fr⟩
theorem SC.trans {w w1 w2 : World} {b pb lb n m : Nat} {V V1 : List Value} {A2 : List Nat} {K2 : List (List Int)} (f : Fr w.heap.size (lb :: pb :: bl V) w w1) (hV : ∀ g ∈ bl V1, g ∈ bl V ∨ w.heap.size ≤ g) (k : SC w1 w2 b pb lb n m V1 A2 K2) : SC w w2 b pb lb n m V A2 K2 := by
  obtain ⟨V2, h1, h2⟩ := k.ex
  have hz := f.size
  refine ⟨⟨V2, h1, fun g hg => ?_⟩, f.trans (k.fr.mono hz fun q hq hs hm => ?_)⟩
  · rcases h2 g hg with r | r
    · exact hV g r
    · exact Or.inr (by omega)
  · simp only [List.mem_cons] at hs hm
    rcases hm with r | r | r
    · exact hs (Or.inl r)
    · exact hs (Or.inr (Or.inl r))
    · rcases hV q r with t | t
      · exact hs (Or.inr (Or.inr t))
      · omega
/-- Behind 'kept[c] = append(kept[c], y)'. -/
theorem SH.append {w : World} {b pb lb n m : Nat} {A : List Nat} {V : List Value} {K : List (List Int)} (h : SH w b pb lb n m A V K) {c : Nat} {y : Int} (hc : c < n) :
    ∀ (o : Obj) (wA : World), Sm wA (w.alloc o) → ∀ (v2 : Value) (w2 : World), App wA (V.getD c nv) (K.getD c []) y v2 w2 →
      (w2.cell? ⟨b, 1, none⟩ = some (.slice (some ⟨lb, 0, none⟩) n n) ∧ w2.cell? ⟨lb, c, none⟩ = some (V.getD c nv) ∧ w2.frozen? ⟨lb, c, none⟩ = false) ∧ ∀ w3 : World, Sm w3 w2 → SC w (w3.setCell ⟨lb, c, none⟩ v2) b pb lb n m V A (K.set c (K.getD c [] ++ [y])) := by
  intro o wA e v2 w2 hA
  have fb : Fr w.heap.size [] w (w.alloc o) := (Fr.refl _ _ _).alloc (Nat.le_refl _) o
  have fa : Fr w.heap.size [] w wA := ⟨e.2.1.trans fb.os, e.2.2.1.trans fb.tape, e.2.2.2.trans fb.output, by rw [e.1]; exact fb.size, fun k hk hs => by rw [e.1]; exact fb.block k hk hs⟩
  have h2 := h.keep fa (Nat.le_refl _) (by simp) (by simp) (by simp) (by simp)
  have ls := h2.st.ls.append (c := c) (by rw [h.st.kn]; exact hc) hA
  obtain ⟨f1, g1⟩ := app_fr hA
  have nb : b ∉ vb (V.getD c nv) := (h2.st.lv hc).not h2.st.sb (by decide)
  have nl : lb ∉ vb (V.getD c nv) := (h2.st.lv hc).not h2.st.sl (by decide)
  have np : pb ∉ vb (V.getD c nv) := (h2.st.lv hc).not h2.po.sb (by decide)
  have s1 := h2.st.sb.keep f1 h2.st.sb.lt nb
  have s2 := h2.st.sl.keep f1 h2.st.sl.lt nl
  refine ⟨⟨s1.cell 1, (f1.cell (p := ⟨lb, c, none⟩) h2.st.sl.lt nl).trans (h2.st.cv hc), s2.free c⟩, fun w3 e3 => ?_⟩
  have f2 : Fr w.heap.size (vb (V.getD c nv)) w w2 := (fa.mono (Nat.le_refl _) (by simp)).trans (f1.less fa.size)
  have f3 : Fr w.heap.size (vb (V.getD c nv)) w w3 := ⟨e3.2.1.trans f2.os, e3.2.2.1.trans f2.tape, e3.2.2.2.trans f2.output, by rw [e3.1]; exact f2.size, fun k hk hs => by rw [e3.1]; exact f2.block k hk hs⟩
  have hv : ∀ g ∈ vb (V.getD c nv), g ∈ bl V := fun g hg => bl_get hg
  have st := h.st.store (by decide) (by decide) f3 hv (ls.heap e3.1)
  refine ⟨⟨_, ⟨st, ?_⟩, fun g hg => ?_⟩, (St.store_fr f3 hv lb c v2).mono (Nat.le_refl _) fun k _ hk hm => ?_⟩
  · have p3 := h.po.keep f3 h.po.sb.lt np
    exact p3.keep ((Fr.refl w3.heap.size [lb] w3).setCell (Or.inr (by simp)) v2) p3.sb.lt (by simp; exact fun q => (h.po.sb.ne h.st.sl (by decide)) q)
  · rcases bl_set (S := vb v2) (fun _ q => q) hg with q | q
    · exact Or.inl q
    · rcases g1 g q with r | r
      · exact Or.inl (hv g r)
      · exact Or.inr (Nat.le_trans fa.size r)
  · simp only [List.mem_cons] at hk hm
    rcases hm with r | r
    · exact hk (Or.inl r)
    · exact hk (Or.inr (Or.inr r))
end Go.Proofs.YtfipiifickdeiaaGreatDoor.Sta
namespace Go.Proofs.YtfipiifickdeiaaGreatDoor.Sta
open Go.ChangeShapes Go.WideShapes Go.ChangeAt Go.RowKit
open Om Hm
/-- What a core keeps; none of no core. -/
def kc (n : Nat) (K : List (List Int)) (c : Int) : List Int := if isc n c = true then ks K c.toNat else []
/- The calls of a stash that is not there. -/
end Go.Proofs.YtfipiifickdeiaaGreatDoor.Sta
namespace Go.Proofs.YtfipiifickdeiaaGreatDoor.Sta
open Go.ChangeShapes Go.WideShapes Go.ChangeAt Go.RowKit
open Om Hm
theorem fr_sm {B : Nat} {S : List Nat} {w w2 w3 : World} (f : Fr B S w w2) (e : Sm w3 w2) : Fr B S w w3 :=
  ⟨e.2.1.trans f.os, e.2.2.1.trans f.tape, e.2.2.2.trans f.output, by rw [e.1]; exact f.size, fun k hk hs => by rw [e.1]; exact f.block k hk hs⟩
/-- Behind 'kept[c] = v'', where what was done ahead of it touched the lists' own memory alone. -/
theorem SH.set {w w2 : World} {b pb lb n m : Nat} {A : List Nat} {V : List Value} {K : List (List Int)} (h : SH w b pb lb n m A V K) {c : Nat} (hc : c < n) {S : List Nat} (f : Fr w.heap.size S w w2) (hS : ∀ g ∈ S, g ∈ bl V) {v' : Value} {l' : List Int}
    (ls : Ls w2 (V.set c v') (K.set c l')) (hv : ∀ g ∈ vb v', g ∈ bl V ∨ w.heap.size ≤ g) :
    (w2.cell? ⟨b, 1, none⟩ = some (.slice (some ⟨lb, 0, none⟩) n n) ∧ w2.cell? ⟨lb, c, none⟩ = some (V.getD c nv) ∧ w2.frozen? ⟨lb, c, none⟩ = false) ∧ ∀ w3 : World, Sm w3 w2 → SC w (w3.setCell ⟨lb, c, none⟩ v') b pb lb n m V A (K.set c l') := by
  have nb : b ∉ S := fun e => h.st.not h.st.sb (by decide) (hS b e)
  have nl : lb ∉ S := fun e => h.st.not h.st.sl (by decide) (hS lb e)
  have np : pb ∉ S := fun e => h.st.not h.po.sb (by decide) (hS pb e)
  have s1 := h.st.sb.keep f h.st.sb.lt nb
  have s2 := h.st.sl.keep f h.st.sl.lt nl
  refine ⟨⟨s1.cell 1, (f.cell (p := ⟨lb, c, none⟩) h.st.sl.lt nl).trans (h.st.cv hc), s2.free c⟩, fun w3 e3 => ?_⟩
  have f3 := fr_sm f e3
  have st := h.st.store (by decide) (by decide) f3 hS (ls.heap e3.1)
  refine ⟨⟨_, ⟨st, ?_⟩, fun g hg => ?_⟩, (St.store_fr f3 hS lb c v').mono (Nat.le_refl _) fun k _ hk hm => ?_⟩
  · have p3 := h.po.keep f3 h.po.sb.lt np
    exact p3.keep ((Fr.refl w3.heap.size [lb] w3).setCell (Or.inr (by simp)) v') p3.sb.lt (by simp; exact fun q => (h.po.sb.ne h.st.sl (by decide)) q)
  · rcases bl_set (S := vb v') (fun _ q => q) hg with q | q
    · exact Or.inl q
    · exact hv g q
  · simp only [List.mem_cons] at hk hm
    rcases hm with r | r
    · exact hk (Or.inl r)
    · exact hk (Or.inr (Or.inr r))
theorem SC.pool {w w1 : World} {b pb lb n m : Nat} {A A2 : List Nat} {V : List Value} {K : List (List Int)} (h : SH w b pb lb n m A V K) (p : PO w1 pb m A2) (f : Fr w.heap.size [pb] w w1) : SC w w1 b pb lb n m V A2 K :=
  ⟨⟨V, h.pool p f, fun _ hg => Or.inl hg⟩, f.mono (Nat.le_refl _) (fun k _ hk => by
    simp only [List.mem_cons] at hk
    simp only [List.mem_singleton]
    exact fun r => hk (Or.inr (Or.inl r)))⟩
end Go.Proofs.YtfipiifickdeiaaGreatDoor.Sta
namespace Go.Proofs.YtfipiifickdeiaaGreatDoor.Sta
open Go.ChangeShapes Go.WideShapes Go.ChangeAt Go.RowKit
open Om Hm
end Go.Proofs.YtfipiifickdeiaaGreatDoor.Sta
namespace Go.Proofs.YtfipiifickdeiaaGreatDoor.Sta
open Go.ChangeShapes Go.WideShapes Go.ChangeAt Go.RowKit
end Go.Proofs.YtfipiifickdeiaaGreatDoor.Sta
namespace Go.Proofs.YtfipiifickdeiaaGreatDoor.Sta
open Go.ChangeShapes Go.WideShapes Go.ChangeAt Go.RowKit
open Om Hm
theorem Tryz.infoL : (Tryz.prog.info? 22).map (fun i => (i.zero, i.size, i.bytes)) = some (some (.slice none 0 0), 1, 24) := by kernel_rfl
theorem made_nil (n : Nat) : madeCells #[Value.slice none 0 0] n = (List.replicate n nv).toArray := by
  apply Array.ext
  · simp [size_madeCells]
  · intro i h1 h2
    simp [madeCells, Nat.mod_one, nv]
/-- The table when k lists have their room. -/
def Vk (s n k : Nat) : List Value := (List.range n).map fun i => if i < k then .slice (some ⟨s, i * 4, none⟩) 0 4 else nv
theorem vk_zero (s n : Nat) : Vk s n 0 = List.replicate n nv := by
  unfold Vk
  apply List.ext_getElem?
  intro i
  rw [List.getElem?_map, List.getElem?_replicate]
  by_cases h : i < n
  · rw [List.getElem?_range h, if_pos h]
    rfl
  · rw [List.getElem?_eq_none (by simpa using h), if_neg h]
    rfl
theorem vk_len (s n k : Nat) : (Vk s n k).length = n := by simp [Vk]
theorem vk_at (s n k i : Nat) (h : i < n) : (Vk s n k)[i]? = some (if i < k then .slice (some ⟨s, i * 4, none⟩) 0 4 else nv) := by
  unfold Vk
  rw [List.getElem?_map, List.getElem?_range h]
  rfl
theorem vk_set (s n k : Nat) (_h : k < n) : (Vk s n k).set k (.slice (some ⟨s, k * 4, none⟩) 0 4) = Vk s n (k + 1) := by
  apply List.ext_getElem?
  intro i
  by_cases hi : i < n
  · rw [List.getElem?_set, vk_at s n k i hi, vk_at s n (k + 1) i hi]
    by_cases e : k = i
    · subst e
      rw [if_pos rfl, if_pos (by rw [vk_len]; exact hi), if_pos (by omega)]
    · rw [if_neg e]
      by_cases c : i < k
      · rw [if_pos c, if_pos (by omega)]
      · rw [if_neg c, if_neg (by omega)]
  · rw [List.getElem?_eq_none (by rw [List.length_set, vk_len]; omega), List.getElem?_eq_none (by rw [vk_len]; omega)]
set_option maxHeartbeats 1000000 in
theorem rooms_any (n : Nat) (w : World) (h1 : (1 : Int) ≤ n) (h2 : (n : Int) ≤ 64) :
    Calls Tryz.prog 52 #[.int .i64 (n : Int)] w fun e w' => e = .returned (.slice (some ⟨w.heap.size + 1, 0, none⟩) n n) ∧ Blk w' (w.heap.size + 1) (Vk w.heap.size n n) 22 ∧ Blk w' w.heap.size ((List.replicate (n * 4) (0 : Int)).map (Value.int .i64)) 3 ∧ Fr w.heap.size [] w w' := by
  obtain ⟨q, hq⟩ : ∃ q, n * 4 = q := ⟨_, rfl⟩
  have hqI : (n : Int) * 4 = (q : Int) := by omega
  have hqH : Hid ((q : Int) = n * 4) := by unfold Hid; omega
  have hmk := run_make_row' (P := Tryz.prog) 22 3 (.int .i64 0) 8 Tryz.underlying22 Tryz.info3 rfl .i64 .i64 q (by omega) (by omega)
  rw [made_int] at hmk
  have hmk2 := run_make_row' (P := Tryz.prog) 158 22 (.slice none 0 0) 24 Tryz.underlying158 Tryz.infoL rfl .i64 .i64 n (by omega) (by omega)
  rw [made_nil] at hmk2
  rw [hq]
  obtain ⟨s, hs⟩ : ∃ s, w.heap.size = s := ⟨_, rfl⟩
  have HS : Hid (w.heap.size = s) := hs
  obtain ⟨Z, hZ⟩ : ∃ Z : List Value, (List.replicate q (0 : Int)).map (Value.int .i64) = Z := ⟨_, rfl⟩
  rw [hZ] at hmk ⊢
  have B0 : Hid (Blk ((w.alloc (.cells Z.toArray 3)).alloc (.cells (List.replicate n nv).toArray 22)) (s + 1) (Vk s n 0) 22 ∧ Blk ((w.alloc (.cells Z.toArray 3)).alloc (.cells (List.replicate n nv).toArray 22)) s Z 3 ∧ Fr s [] w ((w.alloc (.cells Z.toArray 3)).alloc (.cells (List.replicate n nv).toArray 22))) := by
    subst hs
    refine ⟨?_, (Blk.new w Z 3).alloc _, ((Fr.refl _ _ _).alloc (Nat.le_refl _) _).alloc (by simp) _⟩
    rw [vk_zero]
    have := Blk.new (w.alloc (.cells Z.toArray 3)) (List.replicate n nv) 22
    simpa using this
  rw [hs]
  generalize List.replicate n nv = Y at *
  clear hq hZ
  go_enter Tryz.func52, Tryz.ntmps52
  go_wp2
  go_loopw [14] (fun i wr => ∃ k : Nat, (k : Int) ≤ n ∧ i = .int .i64 k ∧ Blk wr (s + 1) (Vk s n k) 22 ∧ Blk wr s Z 3 ∧ Fr s [] w wr) (fun i _ => n - (intOf i).toNat)
  case atStart => exact ⟨0, by omega, rfl, B0.out⟩
  case round =>
    obtain ⟨k, hk, rfl, b1, b2, f1⟩ := hrel
    by_cases l : (k : Int) < n
    · have cc := b1.cell k
      rw [vk_at s n k k (by omega), if_neg (by omega)] at cc
      have ff := b1.free k
      have BS : Hid (∀ v, v = Value.slice (some ⟨s, k * 4, none⟩) 0 4 → Blk (wr.setCell ⟨s + 1, k, none⟩ v) (s + 1) (Vk s n (k + 1)) 22 ∧ Blk (wr.setCell ⟨s + 1, k, none⟩ v) s Z 3 ∧ Fr s [] w (wr.setCell ⟨s + 1, k, none⟩ v)) := fun v hv => by
        subst hv
        refine ⟨?_, b2.other (by simp) _, f1.setCell (Or.inl (by simp)) _⟩
        rw [← vk_set s n k (by omega)]
        exact b1.set k _
      have m1 : (k : Int) * 4 + 4 ≤ q := by have := hqH.out; omega
      have m2 : (k : Int) * 4 ≤ q := by omega
      clear b1 b2 f1
      go_wp2
      go_roundw
      case rel => exact ⟨k + 1, by omega, by go_num, BS.out _ rfl⟩
      case measure => simp [intOf]; omega
    · obtain rfl : k = n := by omega
      go_wp2
      go_ret
      exact ⟨rfl, b1, b2, f1⟩
theorem ls_rooms {w : World} {s n : Nat} (h : Blk w s ((List.replicate (n * 4) (0 : Int)).map (Value.int .i64)) 3) : Ls w (Vk s n n) (List.replicate n []) := by
  have e : ∀ i, i < n → (Vk s n n).getD i nv = .slice (some ⟨s, i * 4, none⟩) 0 4 := fun i hi => by
    rw [List.getD_eq_getElem?_getD, vk_at s n n i hi, if_pos hi]
    rfl
  have e2 : ∀ i, (List.replicate n ([] : List Int)).getD i [] = [] := fun i => by
    rw [List.getD_eq_getElem?_getD, List.getElem?_replicate]
    split <;> rfl
  refine ⟨by simp [vk_len], fun i hi => ?_, fun i j hi hj hn => ?_⟩
  · simp at hi
    rw [e i hi, e2]
    exact Or.inr ⟨s, i * 4, 4, _, rfl, by simp, h, by simp; omega, fun j hj => by simp at hj⟩
  · simp at hi hj
    rw [e i hi, e j hj]
    intro g off n cap g2 off2 n2 cap2 h1 h2
    simp only [Value.slice.injEq, Option.some.injEq, Addr.mk.injEq] at h1 h2
    obtain ⟨⟨rfl, rfl, _⟩, _, rfl⟩ := h1
    obtain ⟨⟨rfl, rfl, _⟩, _, rfl⟩ := h2
    exact Or.inr (by omega)
theorem bl_vk {s n k g : Nat} (h : g ∈ bl (Vk s n k)) : g = s := by
  obtain ⟨v, hv, hg⟩ := List.mem_flatMap.1 h
  obtain ⟨i, _, e⟩ := List.mem_map.1 hv
  by_cases c : i < k
  · rw [if_pos c] at e
    subst e
    simpa [vb] using hg
  · rw [if_neg c] at e
    subst e
    simp [vb, nv] at hg
set_option maxHeartbeats 400000 in
theorem snew_any (n m : Nat) (w : World) (h1 : (1 : Int) ≤ n) (h2 : (n : Int) ≤ 64) (h3 : (1 : Int) ≤ m) (h4 : (m : Int) ≤ 12) :
    Calls Tryz.prog 26 #[.int .i64 (n : Int), .int .i64 (m : Int)] w fun e w' => ∃ b pb lb V, e = .returned (.tuple #[.pointer (some ⟨b, 0, none⟩), .int .i64 0]) ∧ SH w' b pb lb n m (List.replicate 12 0) V (List.replicate n []) ∧ (w.heap.size ≤ b ∧ w.heap.size ≤ pb ∧ w.heap.size ≤ lb ∧ ∀ g ∈ bl V, w.heap.size ≤ g) ∧ Fr w.heap.size [] w w' := by
  have C : Hid (∀ _ : Unit, _) := fun _ => pnew_any m w h3 h4
  have D : Hid (∀ w1, _) := fun w1 => rooms_any n w1 h1 h2
  have FIN : Hid (∀ u1 u2 : World, PO u1 w.heap.size m (List.replicate 12 0) → Fr w.heap.size [] w u1 → Blk u2 (u1.heap.size + 1) (Vk u1.heap.size n n) 22 → Blk u2 u1.heap.size ((List.replicate (n * 4) (0 : Int)).map (Value.int .i64)) 3 → Fr u1.heap.size [] u1 u2 →
      SH (u2.alloc (.cells #[.pointer (some ⟨w.heap.size, 0, none⟩), .slice (some ⟨u1.heap.size + 1, 0, none⟩) n n] 161)) u2.heap.size w.heap.size (u1.heap.size + 1) n m (List.replicate 12 0) (Vk u1.heap.size n n) (List.replicate n []) ∧ (w.heap.size ≤ u2.heap.size ∧ w.heap.size ≤ w.heap.size ∧ w.heap.size ≤ u1.heap.size + 1 ∧ ∀ g ∈ bl (Vk u1.heap.size n n), w.heap.size ≤ g) ∧ Fr w.heap.size [] w (u2.alloc (.cells #[.pointer (some ⟨w.heap.size, 0, none⟩), .slice (some ⟨u1.heap.size + 1, 0, none⟩) n n] 161))) := fun u1 u2 p f a b g => by
    have s1 := f.size
    have s2 := g.size
    have l1 := p.sb.lt
    refine ⟨⟨⟨?_, a.alloc _, ls_rooms (b.alloc _), by simp, by omega, by omega⟩, ?_⟩, ⟨by omega, by omega, by omega, fun q hq => by rw [bl_vk hq]; omega⟩, (f.trans (g.less s1)).alloc (by omega) _⟩
    · exact Blk.new u2 [.pointer (some ⟨w.heap.size, 0, none⟩), .slice (some ⟨u1.heap.size + 1, 0, none⟩) n n] 161
    · exact (p.keep g l1 (by simp)).keep ((Fr.refl u2.heap.size [] u2).alloc (Nat.le_refl _) _) (by omega) (by simp)
  go_enter Tryz.func26, Tryz.ntmps26
  go_wp2_with fail
  refine (C.out ()).mono ?_
  rintro e u1 ⟨rfl, p1, f1⟩
  have P1 : Hid (PO u1 w.heap.size m (List.replicate 12 0) ∧ Fr w.heap.size [] w u1) := ⟨p1, f1⟩
  clear p1 f1
  go_wp2_with fail
  refine (D.out _).mono ?_
  rintro e u2 ⟨rfl, a2, b2, f2⟩
  have FF : Hid (_ ∧ _) := FIN.out u1 u2 P1.out.1 P1.out.2 a2 b2 f2
  clear a2 b2 f2
  go_wp2
  go_ret2
  exact ⟨_, _, _, _, rfl, FF.out⟩
/-- A stash; nothing below block s has turned. -/
structure SW (w wr : World) (s b pb lb n m : Nat) (A : List Nat) (V : List Value) (K : List (List Int)) : Prop where
  h : SH wr b pb lb n m A V K
  bel : Below s w wr
  up : s ≤ b ∧ s ≤ pb ∧ s ≤ lb ∧ ∀ g ∈ bl V, s ≤ g
theorem SW.le {w wr : World} {s b pb lb n m : Nat} {A : List Nat} {V : List Value} {K : List (List Int)} (h : SW w wr s b pb lb n m A V K) : s ≤ wr.heap.size := by
  have := h.h.st.sb.lt
  have := h.up.1
  omega
theorem SW.act {w wr w1 : World} {s b pb lb n m : Nat} {A A2 : List Nat} {V : List Value} {K K2 : List (List Int)} (h : SW w wr s b pb lb n m A V K) (k : SC wr w1 b pb lb n m V A2 K2) : ∃ V2, SW w w1 s b pb lb n m A2 V2 K2 := by
  obtain ⟨V2, h2, hV⟩ := k.ex
  have hl := h.le
  obtain ⟨u1, u2, u3, u4⟩ := h.up
  refine ⟨V2, h2, h.bel.trans ((k.fr.less hl).below fun g hg => ?_), u1, u2, u3, fun g hg => ?_⟩
  · simp only [List.mem_cons] at hg
    rcases hg with e | e | e
    · omega
    · omega
    · exact u4 g e
  · rcases hV g hg with e | e
    · exact u4 g e
    · omega
theorem SW.sm {w wr w1 : World} {s b pb lb n m : Nat} {A : List Nat} {V : List Value} {K : List (List Int)} (h : SW w wr s b pb lb n m A V K) (e : Sm w1 wr) : SW w w1 s b pb lb n m A V K := ⟨h.h.heap e.1, e.below h.bel, h.up⟩
theorem SW.keep {w wr w1 : World} {s b pb lb n m : Nat} {A : List Nat} {V : List Value} {K : List (List Int)} (h : SW w wr s b pb lb n m A V K) (f : Below wr.heap.size wr w1) : SW w w1 s b pb lb n m A V K :=
  ⟨h.h.keep (Fr.of_below f) (Nat.le_refl _) (by simp) (by simp) (by simp) (by simp), h.bel.trans (f.mono h.le), h.up⟩
end Go.Proofs.YtfipiifickdeiaaGreatDoor.Sta
