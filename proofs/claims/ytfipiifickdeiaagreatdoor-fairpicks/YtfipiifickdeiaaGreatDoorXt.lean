/- The texts Tm Ta Tb Tc of one layer, laid together. -/
import Derived.Test.YtfipiifickdeiaaGreatDoorRows
import Derived.Test.YtfipiifickdeiaaGreatDoorXs
import Derived.WalkKit
import Derived.ProofKit
import Derived.OpenShut
import Derived.BigQuiet
import Derived.Laws.ResultCell
namespace Go.Proofs.YtfipiifickdeiaaGreatDoor.Tm
open Slt
open Mm Sl
structure Th where
  prio : Int
  mask : Nat
  cpu : Int
  forced : Bool
  sleeps : Bool
  timer : Int
/-- A thread as it is at first; none. -/
def zt : Th := ⟨0, 0, 0, false, false, 0⟩
def nw (p : Int) (m : Nat) : Th := ⟨p, m, 0, false, false, 0⟩
/-- One of them turned. -/
def sx (X : Nat → Th) (i : Nat) (t : Th) : Nat → Th := fun j => if j = i then t else X j
def lo (O : Nat → Bool) (i : Nat) : List Nat := (List.range i).filter fun j => O (j + 1)
def hi (O : Nat → Bool) (i : Nat) : List Nat := (List.range' (i + 1) (31 - i)).filter fun j => O (j + 1)
/- What the calls answer, and what is there then. -/
def can (c m : Nat) : Bool := decide (m ≠ 0) && decide (nt m (up (c : Int)) = 0)
def spB (c : Nat) (p : Int) (m : Nat) : Bool := decide (0 ≤ p ∧ p < 8) && can c m
def spN (c : Nat) (O : Nat → Bool) (p : Int) (m : Nat) : Int := if spB c p m = true then tN (ff 32 O) else 0
def spE (c : Nat) (O : Nat → Bool) (p : Int) (m : Nat) : Int := if spB c p m = true then tE (ff 32 O) else 2
def spO (c : Nat) (O : Nat → Bool) (p : Int) (m : Nat) : Nat → Bool := if spB c p m = true then tO O (ff 32 O) else O
def tX (X : Nat → Th) (t : Th) : Option Nat → (Nat → Th) | some i => sx X i t | none => X
def spX (c : Nat) (O : Nat → Bool) (X : Nat → Th) (p : Int) (m : Nat) : Nat → Th := if spB c p m = true then tX X (nw p m) (ff 32 O) else X
def exX (O : Nat → Bool) (X : Nat → Th) (n : Int) : Nat → Th := if hs 32 O n = true then sx X (n.toNat - 1) zt else X
def gtX (O : Nat → Bool) (X : Nat → Th) (n : Int) : Th := if hs 32 O n = true then X (n.toNat - 1) else zt
def amE (c : Nat) (O : Nat → Bool) (n : Int) (m : Nat) : Int := if hs 32 O n = true then (if can c m = true then 0 else 2) else 4
def amX (c : Nat) (O : Nat → Bool) (X : Nat → Th) (n : Int) (m : Nat) : Nat → Th := if hs 32 O n = true ∧ can c m = true then sx X (n.toNat - 1) { X (n.toNat - 1) with mask := m } else X
def plE (c : Nat) (O : Nat → Bool) (n u : Int) : Int := if hs 32 O n = true then (if 0 ≤ u ∧ u < c then 0 else 3) else 4
def plX (c : Nat) (O : Nat → Bool) (X : Nat → Th) (n u : Int) (f : Bool) : Nat → Th := if hs 32 O n = true ∧ (0 ≤ u ∧ u < c) then sx X (n.toNat - 1) { X (n.toNat - 1) with cpu := u, forced := f } else X
def slE (O : Nat → Bool) (X : Nat → Th) (n : Int) : Int := if hs 32 O n = true then (if (X (n.toNat - 1)).sleeps = true then 6 else 0) else 4
def slX (O : Nat → Bool) (X : Nat → Th) (n t : Int) : Nat → Th := if hs 32 O n = true ∧ (X (n.toNat - 1)).sleeps = false then sx X (n.toNat - 1) { X (n.toNat - 1) with sleeps := true, timer := t } else X
def wkE (O : Nat → Bool) (X : Nat → Th) (n : Int) : Int := if hs 32 O n = true then (if (X (n.toNat - 1)).sleeps = true then 0 else 6) else 4
def wkX (O : Nat → Bool) (X : Nat → Th) (n : Int) : Nat → Th := if hs 32 O n = true ∧ (X (n.toNat - 1)).sleeps = true then sx X (n.toNat - 1) { X (n.toNat - 1) with sleeps := false, timer := 0 } else X
end Go.Proofs.YtfipiifickdeiaaGreatDoor.Tm
namespace Go.Proofs.YtfipiifickdeiaaGreatDoor.Thr
open Slt
open Go.ChangeShapes Go.WideShapes Go.ChangeAt Go.RowKit
open Mm Sl Tm
/-- The six cells of a thread. -/
def Six (cs : List Value) (o : Nat) (t : Th) : Prop :=
  cs[o]? = some (.int .i64 t.prio) ∧ cs[o + 1]? = some (.int .u64 (t.mask : Int)) ∧ cs[o + 2]? = some (.int .i64 t.cpu) ∧ cs[o + 3]? = some (.bool t.forced) ∧ cs[o + 4]? = some (.bool t.sleeps) ∧ cs[o + 5]? = some (.int .i64 t.timer)
/-- The cells of a table. -/
structure Cs (cs : List Value) (s c : Nat) (X : Nat → Th) : Prop where
  len : cs.length = 194
  p : cs[0]? = some (.pointer (some ⟨s + 1, 0, none⟩))
  m : cs[1]? = some (.int .u64 ((up (c : Int) : Nat) : Int))
  t : ∀ i, i < 32 → Six cs (2 + i * 6) (X i)
/-- The table whose first block is s. -/
structure TT (w : World) (s c : Nat) (O : Nat → Bool) (X : Nat → Th) : Prop where
  sl : ∃ W, T w (s + 1) s 32 W O
  bk : ∃ cs, Blk w (s + 2) cs 123 ∧ Cs cs s c X
  c1 : 1 ≤ c
  c2 : c ≤ 64
theorem TT.hi {w : World} {s c : Nat} {O : Nat → Bool} {X : Nat → Th} (h : TT w s c O X) : s + 3 ≤ w.heap.size := by
  obtain ⟨cs, hb, _⟩ := h.bk
  have := hb.lt
  omega
theorem TT.heap {w w1 : World} {s c : Nat} {O : Nat → Bool} {X : Nat → Th} (h : TT w s c O X) (e : w1.heap = w.heap) : TT w1 s c O X := by
  obtain ⟨W, hw⟩ := h.sl
  obtain ⟨cs, hb, hc⟩ := h.bk
  exact ⟨⟨W, hw.heap e⟩, ⟨cs, hb.heap e, hc⟩, h.c1, h.c2⟩
theorem TT.keep {B : Nat} {S : List Nat} {w w' : World} {s c : Nat} {O : Nat → Bool} {X : Nat → Th} (h : TT w s c O X) (f : Fr B S w w') (hB : s + 3 ≤ B) (hS : ∀ k, s ≤ k → k < s + 3 → k ∉ S) : TT w' s c O X := by
  obtain ⟨W, hw⟩ := h.sl
  obtain ⟨cs, hb, hc⟩ := h.bk
  exact ⟨⟨W, hw.keep f ⟨by omega, by omega⟩ ⟨hS _ (by omega) (by omega), hS _ (by omega) (by omega)⟩⟩, ⟨cs, hb.keep f (by omega) (hS _ (by omega) (by omega)), hc⟩, h.c1, h.c2⟩
theorem TT.below {w w' : World} {s c : Nat} {O : Nat → Bool} {X : Nat → Th} (h : TT w s c O X) (f : Below w.heap.size w w') : TT w' s c O X := h.keep (Fr.of_below f) h.hi fun _ _ _ => by simp
theorem TT.k0 {w : World} {s c : Nat} {O : Nat → Bool} {X : Nat → Th} (h : TT w s c O X) : w.cell? ⟨s + 2, 0, none⟩ = some (.pointer (some ⟨s + 1, 0, none⟩)) := by
  obtain ⟨cs, hb, hc⟩ := h.bk
  rw [hb.cell, hc.p]
theorem TT.k1 {w : World} {s c : Nat} {O : Nat → Bool} {X : Nat → Th} (h : TT w s c O X) : w.cell? ⟨s + 2, 1, none⟩ = some (.int .u64 ((up (c : Int) : Nat) : Int)) := by
  obtain ⟨cs, hb, hc⟩ := h.bk
  rw [hb.cell, hc.m]
theorem TT.free {w : World} {s c : Nat} {O : Nat → Bool} {X : Nat → Th} (h : TT w s c O X) (k : Nat) : w.frozen? ⟨s + 2, k, none⟩ = false := by
  obtain ⟨cs, hb, hc⟩ := h.bk
  exact hb.free k
set_option maxRecDepth 100000 in
set_option maxHeartbeats 400000 in
/-- The numbers of a new table. -/
theorem slnew_any (m : Nat) (w : World) (h1 : (1 : Int) ≤ m) (h2 : (m : Int) ≤ 1024) :
    Calls Tryz.prog 47 #[.int .i64 (m : Int)] w fun e w' => e = .returned (.tuple #[.pointer (some ⟨w.heap.size + 1, 0, none⟩), .int .i64 0]) ∧ (∃ W, T w' (w.heap.size + 1) w.heap.size m W fun _ => false) ∧ Below w.heap.size w w' ∧ w'.heap.size = w.heap.size + 2 := by
  obtain ⟨n, hn⟩ : ∃ n, (m + 63) / 64 = n := ⟨_, rfl⟩
  have G := wd_new m (by omega) (by omega)
  rw [hn] at G
  have hq : ((m : Int) + 64 - 1).tdiv 64 = (n : Int) := by rw [Int.tdiv_eq_ediv_of_nonneg (by omega)]; omega
  have hmk := run_make_row' (P := Tryz.prog) 211 23 (.int .u64 0) 8 Tryz.underlying211 Tryz.infoW rfl .i64 .i64 n (by omega) (by omega)
  have F : Hid (∀ o1 o2, Below w.heap.size w ((w.alloc o1).alloc o2)) := fun o1 o2 => ((Below.refl _ _).alloc (Nat.le_refl _) o1).alloc (by simp) o2
  have HG : Hid (Wd m (List.replicate n 0) fun _ => false) := G
  clear G
  go_enter Tryz.func47, Tryz.ntmps47
  go_wp2
  go_ret2
  refine ⟨rfl, ⟨List.replicate n 0, ?_, ?_, HG.out⟩, F.out _ _, by simp⟩
  · have := Blk.new (w.alloc (Obj.cells (madeCells #[Value.int IntKind.u64 0] n) 23)) [.slice (some ⟨w.heap.size, 0, none⟩) n n, .int .i64 (m : Int)] 213
    simpa using this
  · rw [made_word]
    exact (Blk.new w _ 23).alloc _
theorem rep_at (L : List Value) (hL : L.length = 6) : ∀ n i j, i < n → j < 6 → (List.replicate n L).flatten[i * 6 + j]? = L[j]?
  | 0, i, j, h, _ => by omega
  | n + 1, i, j, h, hj => by
    rw [List.replicate_succ, List.flatten_cons]
    cases i with
    | zero => rw [List.getElem?_append_left (by omega), Nat.zero_mul, Nat.zero_add]
    | succ i => rw [List.getElem?_append_right (by omega), show (i + 1) * 6 + j - L.length = i * 6 + j by omega]; exact rep_at L hL n i j (by omega) hj
def z6 : List Value := [.int .i64 0, .int .u64 0, .int .i64 0, .bool false, .bool false, .int .i64 0]
theorem zeros : Tryz.zeroCells123.toList = .pointer none :: .int .u64 0 :: (List.replicate 32 z6).flatten := by kernel_rfl
theorem cs_new (s c : Nat) : Cs ((Tryz.zeroCells123.setIfInBounds 0 (.pointer (some ⟨s + 1, 0, none⟩))).setIfInBounds 1 (.int .u64 ((up (c : Int) : Nat) : Int))).toList s c fun _ => zt := by
  rw [Array.toList_setIfInBounds, Array.toList_setIfInBounds, zeros]
  simp only [List.set_cons_zero, List.set_cons_succ]
  refine ⟨by rfl, rfl, rfl, fun i hi => ?_⟩
  have g : ∀ j, j < 6 → (.pointer (some ⟨s + 1, 0, none⟩) :: .int .u64 ((up (c : Int) : Nat) : Int) :: (List.replicate 32 z6).flatten : List Value)[2 + i * 6 + j]? = z6[j]? := fun j hj => by
    rw [show 2 + i * 6 + j = i * 6 + j + 1 + 1 by omega, List.getElem?_cons_succ, List.getElem?_cons_succ]
    exact rep_at z6 rfl 32 i j hi hj
  exact ⟨g 0 (by omega), g 1 (by omega), g 2 (by omega), g 3 (by omega), g 4 (by omega), g 5 (by omega)⟩
set_option maxRecDepth 100000 in
set_option maxHeartbeats 400000 in
theorem thnew_any (c : Nat) (w : World) (h1 : (1 : Int) ≤ c) (h2 : (c : Int) ≤ 64) :
    Calls Tryz.prog 19 #[.int .i64 (c : Int)] w fun e w' => e = .returned (.tuple #[.pointer (some ⟨w.heap.size + 2, 0, none⟩), .int .i64 0]) ∧ TT w' w.heap.size c (fun _ => false) (fun _ => zt) ∧ Below w.heap.size w w' ∧ w'.heap.size = w.heap.size + 3 := by
  have C1 : Hid (∀ _ : Unit, _) := fun _ => slnew_any 32 w (by decide) (by decide)
  have C2 : Hid (∀ w, _) := fun w => kupto_any (c : Int) w
  obtain ⟨s, hs⟩ : ∃ s, w.heap.size = s := ⟨_, rfl⟩
  rw [hs] at C1 ⊢
  clear hs
  go_enter Tryz.func19, Tryz.ntmps19
  go_wp2_with fail
  refine (C1.out ()).mono ?_
  rintro e w1 ⟨rfl, ⟨W1, q1⟩, f1, z1⟩
  have Q1 : Hid (T w1 (s + 1) s 32 W1 fun _ => false) := q1
  have F1 : Hid (Below s w w1) := f1
  have Z1 : Hid (w1.heap.size = s + 2) := z1
  clear q1 f1 z1
  go_wp2_with fail
  refine (C2.out _).mono ?_
  rintro e w2 ⟨rfl, rfl⟩
  go_wp2
  go_ret2
  rw [← Z1.out]
  refine ⟨rfl, ⟨⟨W1, ?_⟩, ⟨_, ?_, cs_new s c⟩, by omega, by omega⟩, F1.out.alloc (by have := Z1.out; omega) _, by simp [Z1.out]⟩
  · exact Q1.out.keep (B := w2.heap.size) (S := []) ((Fr.refl _ _ _).alloc (Nat.le_refl _) _) ⟨Q1.out.sb.lt, Q1.out.sg.lt⟩ ⟨by simp, by simp⟩
  · have := Blk.new w2 ((Tryz.zeroCells123.setIfInBounds 0 (.pointer (some ⟨s + 1, 0, none⟩))).setIfInBounds 1 (.int .u64 ((up (c : Int) : Nat) : Int))).toList 123
    rw [Array.toArray_toList, Z1.out] at this
    exact this
set_option maxRecDepth 100000 in
theorem thlist_any {s c : Nat} {O : Nat → Bool} {X : Nat → Th} (w : World) (h : TT w s c O X) (ht : Tab w) (h0 : 0 < w.heap.size) :
    Calls Tryz.prog 246 #[.pointer (some ⟨s + 2, 0, none⟩)] w fun e w' => ∃ v, e = .returned v ∧ Gt w w' v (li 32 O) := by
  have C1 : Hid (∀ _ : Unit, _) := fun _ => h.sl.elim fun W hw => list_any w hw ht h0
  have k0 := h.k0
  clear h ht h0
  go_enter Tryz.func246, Tryz.ntmps246
  go_wp2_with fail
  refine (C1.out ()).mono ?_
  rintro e w1 ⟨v, rfl, g⟩
  obtain ⟨a, cap, rfl⟩ := own_shape g.own
  have G : Hid (Gt w w1 _ (li 32 O)) := g
  clear g k0
  go_wp2
  go_ret
  exact ⟨_, rfl, G.out⟩
/-- The world with a new thread's cells. -/
def wz (w : World) : World := w.alloc (.cells #[.int .i64 0, .int .u64 0, .int .i64 0, .bool false, .bool false, .int .i64 0] 120)
end Go.Proofs.YtfipiifickdeiaaGreatDoor.Thr
namespace Go.Proofs.YtfipiifickdeiaaGreatDoor.Thr
open Slt
open Go.ChangeShapes Go.WideShapes Go.ChangeAt Go.RowKit
open Mm Sl Tm
end Go.Proofs.YtfipiifickdeiaaGreatDoor.Thr
namespace Go.Proofs.YtfipiifickdeiaaGreatDoor.Thr
open Slt
open Go.ChangeShapes Go.WideShapes Go.ChangeAt Go.RowKit
open Mm Sl Tm
end Go.Proofs.YtfipiifickdeiaaGreatDoor.Thr
