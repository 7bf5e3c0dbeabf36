/- The texts Tm Ta Tb Tc of one layer, laid together. -/
import Derived.Test.YtmlilgbochbbiaaGreatDoorRows
import Derived.Test.YtmlilgbochbbiaaGreatDoorXs
import Derived.WalkKit
import Derived.ProofKit
import Derived.OpenShut
import Derived.BigQuiet
import Derived.Laws.ResultCell
namespace Go.Proofs.YtmlilgbochbbiaaGreatDoor.Tm
open Slt
open Mm Sl
structure Th where
  prio : Int
  mask : Nat
  cpu : Int
  forced : Bool
  sleeps : Bool
  timer : Int
/-- A thread as it is at first; none. -/
def zt : Th := ⟨0, 0, 0, false, false, 0⟩
def nw (p : Int) (m : Nat) : Th := ⟨p, m, 0, false, false, 0⟩
/-- One of them turned. -/
def sx (X : Nat → Th) (i : Nat) (t : Th) : Nat → Th := fun j => if j = i then t else X j
theorem sx_same (X : Nat → Th) (i : Nat) (t : Th) : sx X i t i = t := if_pos rfl
theorem sx_other (X : Nat → Th) {i j : Nat} (h : j ≠ i) (t : Th) : sx X i t j = X j := if_neg h
/-- The numbers that are given out, one less, rising; those below one; those above it. -/
def dn (O : Nat → Bool) : List Nat := (List.range 32).filter fun i => O (i + 1)
def lo (O : Nat → Bool) (i : Nat) : List Nat := (List.range i).filter fun j => O (j + 1)
def hi (O : Nat → Bool) (i : Nat) : List Nat := (List.range' (i + 1) (31 - i)).filter fun j => O (j + 1)
theorem dn_at (O : Nat → Bool) {i : Nat} (h : i < 32) : dn O = lo O i ++ (if O (i + 1) = true then i :: hi O i else hi O i) := by
  have e : List.range 32 = List.range i ++ i :: List.range' (i + 1) (31 - i) := by
    rw [List.range_eq_range', List.range_eq_range', ← List.range'_succ, show 31 - i + 1 = 32 - i by omega]
    have := List.range'_append_1 (s := 0) (m := i) (n := 32 - i)
    rw [Nat.zero_add, show i + (32 - i) = 32 by omega] at this
    exact this.symm
  unfold dn lo hi
  rw [e, List.filter_append, List.filter_cons]
theorem hs_some {O : Nat → Bool} {n : Int} (h : hs 32 O n = true) : ∃ i : Nat, i < 32 ∧ n = (i : Int) + 1 ∧ n.toNat - 1 = i ∧ O (i + 1) = true := by
  unfold hs at h
  rw [Bool.and_eq_true] at h
  have h1 := of_decide_eq_true h.1
  have e : n.toNat = n.toNat - 1 + 1 := by omega
  exact ⟨n.toNat - 1, by omega, by omega, rfl, by rw [← e]; exact h.2⟩
/-- The lowest one that is free. -/
theorem ff_is {O : Nat → Bool} : (ff 32 O = none ∧ (dn O).length = 32) ∨ ∃ i, ff 32 O = some i ∧ i < 32 ∧ O (i + 1) = false ∧ lo O i = List.range i ∧ (dn O).length < 32 := by
  cases e : ff 32 O with
  | none =>
    refine Or.inl ⟨rfl, ?_⟩
    unfold ff at e
    rw [List.find?_eq_none] at e
    have : dn O = List.range 32 := by
      unfold dn
      rw [List.filter_eq_self]
      intro j hj
      simpa using e j hj
    rw [this]
    simp
  | some i =>
    unfold ff at e
    rw [List.find?_range_eq_some] at e
    obtain ⟨h1, h2, h3⟩ := e
    have h2' : i < 32 := List.mem_range.1 h2
    have ho : O (i + 1) = false := by simpa using h1
    refine Or.inr ⟨i, rfl, h2', ho, ?_, ?_⟩
    · unfold lo
      rw [List.filter_eq_self]
      intro j hj
      have := h3 j (by simpa using hj)
      simpa using this
    · rw [dn_at O h2', if_neg (by rw [ho]; simp), List.length_append]
      have a := List.length_filter_le (fun j => O (j + 1)) (List.range i)
      have b := List.length_filter_le (fun j => O (j + 1)) (List.range' (i + 1) (31 - i))
      rw [List.length_range] at a
      rw [List.length_range'] at b
      unfold lo hi
      omega
/- What the calls answer, and what is there then. -/
def can (c m : Nat) : Bool := decide (m ≠ 0) && decide (nt m (up (c : Int)) = 0)
def spB (c : Nat) (p : Int) (m : Nat) : Bool := decide (0 ≤ p ∧ p < 8) && can c m
def spN (c : Nat) (O : Nat → Bool) (p : Int) (m : Nat) : Int := if spB c p m = true then tN (ff 32 O) else 0
def spE (c : Nat) (O : Nat → Bool) (p : Int) (m : Nat) : Int := if spB c p m = true then tE (ff 32 O) else 2
def spO (c : Nat) (O : Nat → Bool) (p : Int) (m : Nat) : Nat → Bool := if spB c p m = true then tO O (ff 32 O) else O
def tX (X : Nat → Th) (t : Th) : Option Nat → (Nat → Th) | some i => sx X i t | none => X
def spX (c : Nat) (O : Nat → Bool) (X : Nat → Th) (p : Int) (m : Nat) : Nat → Th := if spB c p m = true then tX X (nw p m) (ff 32 O) else X
def exX (O : Nat → Bool) (X : Nat → Th) (n : Int) : Nat → Th := if hs 32 O n = true then sx X (n.toNat - 1) zt else X
def gtX (O : Nat → Bool) (X : Nat → Th) (n : Int) : Th := if hs 32 O n = true then X (n.toNat - 1) else zt
def amE (c : Nat) (O : Nat → Bool) (n : Int) (m : Nat) : Int := if hs 32 O n = true then (if can c m = true then 0 else 2) else 4
def amX (c : Nat) (O : Nat → Bool) (X : Nat → Th) (n : Int) (m : Nat) : Nat → Th := if hs 32 O n = true ∧ can c m = true then sx X (n.toNat - 1) { X (n.toNat - 1) with mask := m } else X
def plE (c : Nat) (O : Nat → Bool) (n u : Int) : Int := if hs 32 O n = true then (if 0 ≤ u ∧ u < c then 0 else 3) else 4
def plX (c : Nat) (O : Nat → Bool) (X : Nat → Th) (n u : Int) (f : Bool) : Nat → Th := if hs 32 O n = true ∧ (0 ≤ u ∧ u < c) then sx X (n.toNat - 1) { X (n.toNat - 1) with cpu := u, forced := f } else X
def slE (O : Nat → Bool) (X : Nat → Th) (n : Int) : Int := if hs 32 O n = true then (if (X (n.toNat - 1)).sleeps = true then 6 else 0) else 4
def slX (O : Nat → Bool) (X : Nat → Th) (n t : Int) : Nat → Th := if hs 32 O n = true ∧ (X (n.toNat - 1)).sleeps = false then sx X (n.toNat - 1) { X (n.toNat - 1) with sleeps := true, timer := t } else X
def wkE (O : Nat → Bool) (X : Nat → Th) (n : Int) : Int := if hs 32 O n = true then (if (X (n.toNat - 1)).sleeps = true then 0 else 6) else 4
def wkX (O : Nat → Bool) (X : Nat → Th) (n : Int) : Nat → Th := if hs 32 O n = true ∧ (X (n.toNat - 1)).sleeps = true then sx X (n.toNat - 1) { X (n.toNat - 1) with sleeps := false, timer := 0 } else X
end Go.Proofs.YtmlilgbochbbiaaGreatDoor.Tm
namespace Go.Proofs.YtmlilgbochbbiaaGreatDoor.Thr
open Slt
open Go.ChangeShapes Go.WideShapes Go.ChangeAt Go.RowKit
open Mm Sl Tm
/-- The six cells of a thread. -/
def Six (cs : List Value) (o : Nat) (t : Th) : Prop :=
  cs[o]? = some (.int .i64 t.prio) ∧ cs[o + 1]? = some (.int .u64 (t.mask : Int)) ∧ cs[o + 2]? = some (.int .i64 t.cpu) ∧ cs[o + 3]? = some (.bool t.forced) ∧ cs[o + 4]? = some (.bool t.sleeps) ∧ cs[o + 5]? = some (.int .i64 t.timer)
/-- The cells of a table. -/
structure Cs (cs : List Value) (s c : Nat) (X : Nat → Th) : Prop where
  len : cs.length = 194
  p : cs[0]? = some (.pointer (some ⟨s + 1, 0, none⟩))
  m : cs[1]? = some (.int .u64 ((up (c : Int) : Nat) : Int))
  t : ∀ i, i < 32 → Six cs (2 + i * 6) (X i)
theorem Cs.upd {cs cs' : List Value} {s c i : Nat} {X : Nat → Th} {t : Th} (h : Cs cs s c X) (hl : cs'.length = cs.length) (ho : ∀ k, (k < 2 + i * 6 ∨ 2 + i * 6 + 6 ≤ k) → cs'[k]? = cs[k]?) (h6 : Six cs' (2 + i * 6) t) : Cs cs' s c (sx X i t) := by
  refine ⟨hl.trans h.len, (ho 0 (by omega)).trans h.p, (ho 1 (by omega)).trans h.m, fun j hj => ?_⟩
  by_cases e : j = i
  · subst e
    rw [sx_same]
    exact h6
  · rw [sx_other X e]
    obtain ⟨a0, a1, a2, a3, a4, a5⟩ := h.t j hj
    exact ⟨(ho _ (by omega)).trans a0, (ho _ (by omega)).trans a1, (ho _ (by omega)).trans a2, (ho _ (by omega)).trans a3, (ho _ (by omega)).trans a4, (ho _ (by omega)).trans a5⟩
/-- The table whose first block is s. -/
structure TT (w : World) (s c : Nat) (O : Nat → Bool) (X : Nat → Th) : Prop where
  sl : ∃ W, T w (s + 1) s 32 W O
  bk : ∃ cs, Blk w (s + 2) cs 150 ∧ Cs cs s c X
  c1 : 1 ≤ c
  c2 : c ≤ 64
theorem TT.hi {w : World} {s c : Nat} {O : Nat → Bool} {X : Nat → Th} (h : TT w s c O X) : s + 3 ≤ w.heap.size := by
  obtain ⟨cs, hb, _⟩ := h.bk
  have := hb.lt
  omega
theorem TT.keep {B : Nat} {S : List Nat} {w w' : World} {s c : Nat} {O : Nat → Bool} {X : Nat → Th} (h : TT w s c O X) (f : Fr B S w w') (hB : s + 3 ≤ B) (hS : ∀ k, s ≤ k → k < s + 3 → k ∉ S) : TT w' s c O X := by
  obtain ⟨W, hw⟩ := h.sl
  obtain ⟨cs, hb, hc⟩ := h.bk
  exact ⟨⟨W, hw.keep f ⟨by omega, by omega⟩ ⟨hS _ (by omega) (by omega), hS _ (by omega) (by omega)⟩⟩, ⟨cs, hb.keep f (by omega) (hS _ (by omega) (by omega)), hc⟩, h.c1, h.c2⟩
theorem TT.below {w w' : World} {s c : Nat} {O : Nat → Bool} {X : Nat → Th} (h : TT w s c O X) (f : Below w.heap.size w w') : TT w' s c O X := h.keep (Fr.of_below f) h.hi fun _ _ _ => by simp
theorem TT.k0 {w : World} {s c : Nat} {O : Nat → Bool} {X : Nat → Th} (h : TT w s c O X) : w.cell? ⟨s + 2, 0, none⟩ = some (.pointer (some ⟨s + 1, 0, none⟩)) := by
  obtain ⟨cs, hb, hc⟩ := h.bk
  rw [hb.cell, hc.p]
theorem TT.k1 {w : World} {s c : Nat} {O : Nat → Bool} {X : Nat → Th} (h : TT w s c O X) : w.cell? ⟨s + 2, 1, none⟩ = some (.int .u64 ((up (c : Int) : Nat) : Int)) := by
  obtain ⟨cs, hb, hc⟩ := h.bk
  rw [hb.cell, hc.m]
theorem TT.free {w : World} {s c : Nat} {O : Nat → Bool} {X : Nat → Th} (h : TT w s c O X) (k : Nat) : w.frozen? ⟨s + 2, k, none⟩ = false := by
  obtain ⟨cs, hb, hc⟩ := h.bk
  exact hb.free k
/-- The cells of a thread. -/
theorem TT.six {w : World} {s c i : Nat} {O : Nat → Bool} {X : Nat → Th} (h : TT w s c O X) (hi : i < 32) :
    w.cell? ⟨s + 2, 2 + i * 6, none⟩ = some (.int .i64 (X i).prio) ∧ w.cell? ⟨s + 2, 2 + i * 6 + 1, none⟩ = some (.int .u64 ((X i).mask : Int)) ∧ w.cell? ⟨s + 2, 2 + i * 6 + 2, none⟩ = some (.int .i64 (X i).cpu) ∧ w.cell? ⟨s + 2, 2 + i * 6 + 3, none⟩ = some (.bool (X i).forced) ∧ w.cell? ⟨s + 2, 2 + i * 6 + 4, none⟩ = some (.bool (X i).sleeps) ∧ w.cell? ⟨s + 2, 2 + i * 6 + 5, none⟩ = some (.int .i64 (X i).timer) := by
  obtain ⟨cs, hb, hc⟩ := h.bk
  obtain ⟨a0, a1, a2, a3, a4, a5⟩ := hc.t i hi
  exact ⟨(hb.cell _).trans a0, (hb.cell _).trans a1, (hb.cell _).trans a2, (hb.cell _).trans a3, (hb.cell _).trans a4, (hb.cell _).trans a5⟩
set_option maxRecDepth 100000 in
set_option maxHeartbeats 400000 in
theorem canbe_any {s c : Nat} {O : Nat → Bool} {X : Nat → Th} (m : Nat) (w : World) (hm : m < 18446744073709551616) (h : TT w s c O X) :
    Calls Tryz.prog 205 #[.pointer (some ⟨s + 2, 0, none⟩), .int .u64 (m : Int)] w fun e w' => e = .returned (.bool (can c m)) ∧ w' = w := by
  have C1 : Hid (∀ w, _) := fun w => kmany_any m w hm
  have k1 := h.k1
  by_cases h0 : m = 0
  · subst h0
    rw [show can c 0 = false from rfl]
    rw [show (ls 0).length = 0 by rw [ls_zero]; rfl] at C1
    clear h k1 hm
    go_enter Tryz.func205, Tryz.ntmps205
    go_wp2_with fail
    refine (C1.out _).mono ?_
    rintro e w' ⟨rfl, rfl⟩
    go_wp2
    go_ret
    exact ⟨rfl, rfl⟩
  · have C2 : Hid (∀ w, _) := fun w => kwithin_any m (up (c : Int)) w hm (up_lt _)
    have hp : (0 : Int) < ((ls m).length : Int) := by
      have : (ls m).length ≠ 0 := fun e => h0 (ls_nil m hm (List.eq_nil_of_length_eq_zero e))
      omega
    have hl := ls_le m
    rw [show can c m = (((nt m (up (c : Int)) : Nat) : Int) == 0) by
      unfold can
      rw [decide_eq_true h0, Bool.true_and]
      by_cases e : nt m (up (c : Int)) = 0
      · rw [e]; rfl
      · rw [decide_eq_false e]; symm; rw [beq_eq_false_iff_ne]; omega]
    generalize nt m (up (c : Int)) = P at *
    generalize up (c : Int) = U at *
    generalize (ls m).length = n at *
    clear h hm h0
    go_enter Tryz.func205, Tryz.ntmps205
    go_wp2_with fail
    refine (C1.out _).mono ?_
    rintro e w' ⟨rfl, rfl⟩
    go_wp2_with fail
    refine (C2.out _).mono ?_
    rintro e w' ⟨rfl, rfl⟩
    go_wp2
    go_ret
    exact ⟨rfl, rfl⟩
set_option maxRecDepth 100000 in
set_option maxHeartbeats 400000 in
/-- The numbers of a new table. -/
theorem slnew_any (m : Nat) (w : World) (h1 : (1 : Int) ≤ m) (h2 : (m : Int) ≤ 1024) :
    Calls Tryz.prog 60 #[.int .i64 (m : Int)] w fun e w' => e = .returned (.tuple #[.pointer (some ⟨w.heap.size + 1, 0, none⟩), .int .i64 0]) ∧ (∃ W, T w' (w.heap.size + 1) w.heap.size m W fun _ => false) ∧ Below w.heap.size w w' ∧ w'.heap.size = w.heap.size + 2 := by
  obtain ⟨n, hn⟩ : ∃ n, (m + 63) / 64 = n := ⟨_, rfl⟩
  have G := wd_new m (by omega) (by omega)
  rw [hn] at G
  have hq : ((m : Int) + 64 - 1).tdiv 64 = (n : Int) := by rw [Int.tdiv_eq_ediv_of_nonneg (by omega)]; omega
  have hmk := run_make_row' (P := Tryz.prog) 232 48 (.int .u64 0) 8 Tryz.underlying232 Tryz.infoW rfl .i64 .i64 n (by omega) (by omega)
  have F : Hid (∀ o1 o2, Below w.heap.size w ((w.alloc o1).alloc o2)) := fun o1 o2 => ((Below.refl _ _).alloc (Nat.le_refl _) o1).alloc (by simp) o2
  have HG : Hid (Wd m (List.replicate n 0) fun _ => false) := G
  clear G
  go_enter Tryz.func60, Tryz.ntmps60
  go_wp2
  go_ret2
  refine ⟨rfl, ⟨List.replicate n 0, ?_, ?_, HG.out⟩, F.out _ _, by simp⟩
  · have := Blk.new (w.alloc (Obj.cells (madeCells #[Value.int IntKind.u64 0] n) 48)) [.slice (some ⟨w.heap.size, 0, none⟩) n n, .int .i64 (m : Int)] 234
    simpa using this
  · rw [made_word]
    exact (Blk.new w _ 48).alloc _
theorem rep_at (L : List Value) (hL : L.length = 6) : ∀ n i j, i < n → j < 6 → (List.replicate n L).flatten[i * 6 + j]? = L[j]?
  | 0, i, j, h, _ => by omega
  | n + 1, i, j, h, hj => by
    rw [List.replicate_succ, List.flatten_cons]
    cases i with
    | zero => rw [List.getElem?_append_left (by omega), Nat.zero_mul, Nat.zero_add]
    | succ i => rw [List.getElem?_append_right (by omega), show (i + 1) * 6 + j - L.length = i * 6 + j by omega]; exact rep_at L hL n i j (by omega) hj
def z6 : List Value := [.int .i64 0, .int .u64 0, .int .i64 0, .bool false, .bool false, .int .i64 0]
theorem zeros : Tryz.zeroCells150.toList = .pointer none :: .int .u64 0 :: (List.replicate 32 z6).flatten := by kernel_rfl
theorem cs_new (s c : Nat) : Cs ((Tryz.zeroCells150.setIfInBounds 0 (.pointer (some ⟨s + 1, 0, none⟩))).setIfInBounds 1 (.int .u64 ((up (c : Int) : Nat) : Int))).toList s c fun _ => zt := by
  rw [Array.toList_setIfInBounds, Array.toList_setIfInBounds, zeros]
  simp only [List.set_cons_zero, List.set_cons_succ]
  refine ⟨by rfl, rfl, rfl, fun i hi => ?_⟩
  have g : ∀ j, j < 6 → (.pointer (some ⟨s + 1, 0, none⟩) :: .int .u64 ((up (c : Int) : Nat) : Int) :: (List.replicate 32 z6).flatten : List Value)[2 + i * 6 + j]? = z6[j]? := fun j hj => by
    rw [show 2 + i * 6 + j = i * 6 + j + 1 + 1 by omega, List.getElem?_cons_succ, List.getElem?_cons_succ]
    exact rep_at z6 rfl 32 i j hi hj
  exact ⟨g 0 (by omega), g 1 (by omega), g 2 (by omega), g 3 (by omega), g 4 (by omega), g 5 (by omega)⟩
set_option maxRecDepth 100000 in
set_option maxHeartbeats 400000 in
theorem thnew_any (c : Nat) (w : World) (h1 : (1 : Int) ≤ c) (h2 : (c : Int) ≤ 64) :
    Calls Tryz.prog 38 #[.int .i64 (c : Int)] w fun e w' => e = .returned (.tuple #[.pointer (some ⟨w.heap.size + 2, 0, none⟩), .int .i64 0]) ∧ TT w' w.heap.size c (fun _ => false) (fun _ => zt) ∧ Below w.heap.size w w' ∧ w'.heap.size = w.heap.size + 3 := by
  have C1 : Hid (∀ _ : Unit, _) := fun _ => slnew_any 32 w (by decide) (by decide)
  have C2 : Hid (∀ w, _) := fun w => kupto_any (c : Int) w
  obtain ⟨s, hs⟩ : ∃ s, w.heap.size = s := ⟨_, rfl⟩
  rw [hs] at C1 ⊢
  clear hs
  go_enter Tryz.func38, Tryz.ntmps38
  go_wp2_with fail
  refine (C1.out ()).mono ?_
  rintro e w1 ⟨rfl, ⟨W1, q1⟩, f1, z1⟩
  have Q1 : Hid (T w1 (s + 1) s 32 W1 fun _ => false) := q1
  have F1 : Hid (Below s w w1) := f1
  have Z1 : Hid (w1.heap.size = s + 2) := z1
  clear q1 f1 z1
  go_wp2_with fail
  refine (C2.out _).mono ?_
  rintro e w2 ⟨rfl, rfl⟩
  go_wp2
  go_ret2
  rw [← Z1.out]
  refine ⟨rfl, ⟨⟨W1, ?_⟩, ⟨_, ?_, cs_new s c⟩, by omega, by omega⟩, F1.out.alloc (by have := Z1.out; omega) _, by simp [Z1.out]⟩
  · exact Q1.out.keep (B := w2.heap.size) (S := []) ((Fr.refl _ _ _).alloc (Nat.le_refl _) _) ⟨Q1.out.sb.lt, Q1.out.sg.lt⟩ ⟨by simp, by simp⟩
  · have := Blk.new w2 ((Tryz.zeroCells150.setIfInBounds 0 (.pointer (some ⟨s + 1, 0, none⟩))).setIfInBounds 1 (.int .u64 ((up (c : Int) : Nat) : Int))).toList 150
    rw [Array.toArray_toList, Z1.out] at this
    exact this
set_option maxRecDepth 100000 in
set_option maxHeartbeats 400000 in
theorem thfind_any {s c : Nat} {O : Nat → Bool} {X : Nat → Th} (n : Int) (w : World) (h : TT w s c O X) :
    Calls Tryz.prog 208 #[.pointer (some ⟨s + 2, 0, none⟩), .int .i64 n] w fun e w' => e = .returned (if hs 32 O n = true then .tuple #[.pointer (some ⟨s + 2, 2 + (n.toNat - 1) * 6, none⟩), .int .i64 0] else .tuple #[.pointer none, .int .i64 4]) ∧ w' = w := by
  have C1 : Hid (∀ _ : Unit, _) := fun _ => h.sl.elim fun W hw => has_any n w hw
  have k0 := h.k0
  cases e : hs 32 O n with
  | false =>
    rw [e] at C1
    rw [if_neg (by simp)]
    clear h e
    go_enter Tryz.func208, Tryz.ntmps208
    go_wp2_with fail
    refine (C1.out ()).mono ?_
    rintro e w' ⟨rfl, rfl⟩
    go_wp2
    go_ret2
    exact ⟨rfl, rfl⟩
  | true =>
    rw [e] at C1
    rw [if_pos rfl]
    obtain ⟨i, hi, rfl, e2, _⟩ := hs_some e
    rw [e2]
    have hi2 : (i : Int) < 32 := by omega
    clear h e e2
    go_enter Tryz.func208, Tryz.ntmps208
    go_wp2_with fail
    refine (C1.out ()).mono ?_
    rintro e w' ⟨rfl, rfl⟩
    go_wp2
    go_ret2
    exact ⟨rfl, rfl⟩
/-- A thread as a value. -/
def thv (t : Th) : Value := .agg #[.int .i64 t.prio, .int .u64 (t.mask : Int), .int .i64 t.cpu, .bool t.forced, .bool t.sleeps, .int .i64 t.timer]
/-- The world with a new thread's cells. -/
def wz (w : World) : World := w.alloc (.cells #[.int .i64 0, .int .u64 0, .int .i64 0, .bool false, .bool false, .int .i64 0] 147)
theorem wz_below (w : World) : Below w.heap.size w (wz w) := (Below.refl _ _).alloc (Nat.le_refl _) _
theorem wz_blk (w : World) : Blk (wz w) w.heap.size z6 147 := Blk.new w _ _
theorem blk_six {w : World} {z : Nat} {t : TypeId} (h : Blk w z z6 t) (v0 v1 v2 v3 v4 v5 : Value) : Blk ((((((w.setCell ⟨z, 0, none⟩ v0).setCell ⟨z, 1, none⟩ v1).setCell ⟨z, 2, none⟩ v2).setCell ⟨z, 3, none⟩ v3).setCell ⟨z, 4, none⟩ v4).setCell ⟨z, 5, none⟩ v5) z [v0, v1, v2, v3, v4, v5] t :=
  (((((h.set 0 v0).set 1 v1).set 2 v2).set 3 v3).set 4 v4).set 5 v5
theorem fr_six {B : Nat} {S : List Nat} {a w : World} {g o : Nat} (h : Fr B S a w) (hp : B ≤ g ∨ g ∈ S) (v0 v1 v2 v3 v4 v5 : Value) : Fr B S a ((((((w.setCell ⟨g, o, none⟩ v0).setCell ⟨g, o + 1, none⟩ v1).setCell ⟨g, o + 2, none⟩ v2).setCell ⟨g, o + 3, none⟩ v3).setCell ⟨g, o + 4, none⟩ v4).setCell ⟨g, o + 5, none⟩ v5) :=
  (((((h.setCell (p := ⟨g, o, none⟩) hp v0).setCell (p := ⟨g, o + 1, none⟩) hp v1).setCell (p := ⟨g, o + 2, none⟩) hp v2).setCell (p := ⟨g, o + 3, none⟩) hp v3).setCell (p := ⟨g, o + 4, none⟩) hp v4).setCell (p := ⟨g, o + 5, none⟩) hp v5
/-- What a call answers whose first result is a thread. -/
theorem get_ret {w : World} {z : Nat} {t : Th} {e : Int} {tmps : Array Value} (h : Blk w z [.int .i64 t.prio, .int .u64 (t.mask : Int), .int .i64 t.cpu, .bool t.forced, .bool t.sleeps, .int .i64 t.timer] 147) (h4 : tmps.getD 4 undef = .pointer (some ⟨z, 0, none⟩)) (h5 : tmps.getD 5 undef = .int .i64 e) :
    (results Tryz.f137 tmps).run Tryz.prog w = .ok (.tuple #[thv t, .int .i64 e]) w := by
  have q0 : w.cell? ⟨z, 0, none⟩ = some (.int .i64 t.prio) := h.cell 0
  have q1 : w.cell? ⟨z, 1, none⟩ = some (.int .u64 (t.mask : Int)) := h.cell 1
  have q2 : w.cell? ⟨z, 2, none⟩ = some (.int .i64 t.cpu) := h.cell 2
  have q3 : w.cell? ⟨z, 3, none⟩ = some (.bool t.forced) := h.cell 3
  have q4 : w.cell? ⟨z, 4, none⟩ = some (.bool t.sleeps) := h.cell 4
  have q5 : w.cell? ⟨z, 5, none⟩ = some (.int .i64 t.timer) := h.cell 5
  rw [results_cell_tmp (p := 4) (u := 5) (ty := 147) rfl, h4, h5]
  simp [go_sem, q0, q1, q2, q3, q4, q5, thv]
set_option maxRecDepth 100000 in
set_option maxHeartbeats 400000 in
theorem thget_any {s c : Nat} {O : Nat → Bool} {X : Nat → Th} (n : Int) (w : World) (h : TT w s c O X) :
    Calls Tryz.prog 137 #[.pointer (some ⟨s + 2, 0, none⟩), .int .i64 n] w fun e w' => e = .returned (.tuple #[thv (gtX O X n), .int .i64 (if hs 32 O n = true then 0 else 4)]) ∧ Below w.heap.size w w' := by
  obtain ⟨wa, hwa⟩ : ∃ wa, wz w = wa := ⟨_, rfl⟩
  have HWA : Hid (w.alloc (.cells #[.int .i64 0, .int .u64 0, .int .i64 0, .bool false, .bool false, .int .i64 0] 147) = wa) := hwa
  have hb := wz_below w
  have hk := wz_blk w
  rw [hwa] at hb hk
  have h1 := h.below hb
  have C1 : Hid (∀ _ : Unit, _) := fun _ => thfind_any n wa h1
  have BL : Hid (Fr w.heap.size [] w wa) := Fr.of_below hb
  obtain ⟨z, hz⟩ : ∃ z, w.heap.size = z := ⟨_, rfl⟩
  have HZ : Hid (w.heap.size = z) := hz
  rw [hz] at hk BL ⊢
  have KB : Hid (∀ v0 v1 v2 v3 v4 v5 : Value, _) := blk_six hk
  have z0 : wa.cell? ⟨z, 0, none⟩ = some (.int .i64 0) := hk.cell 0
  have z1 : wa.cell? ⟨z, 1, none⟩ = some (.int .u64 0) := hk.cell 1
  have z2 : wa.cell? ⟨z, 2, none⟩ = some (.int .i64 0) := hk.cell 2
  have z3 : wa.cell? ⟨z, 3, none⟩ = some (.bool false) := hk.cell 3
  have z4 : wa.cell? ⟨z, 4, none⟩ = some (.bool false) := hk.cell 4
  have z5 : wa.cell? ⟨z, 5, none⟩ = some (.int .i64 0) := hk.cell 5
  have f0 := hk.free 0
  have f1 := hk.free 1
  have f2 := hk.free 2
  have f3 := hk.free 3
  have f4 := hk.free 4
  have f5 := hk.free 5
  clear hwa hb hk h hz
  cases e : hs 32 O n with
  | false =>
    rw [e, if_neg (by simp)] at C1
    rw [show gtX O X n = zt by unfold gtX; rw [e]; rfl, if_neg (by simp)]
    clear h1 e
    go_enter Tryz.func137, Tryz.ntmps137
    go_wp2_with fail
    rw [HWA.out, HZ.out]
    refine (C1.out ()).mono ?_
    rintro e w' ⟨rfl, rfl⟩
    go_wp2
    exact bodyPost_ret (get_ret (t := zt) (KB.out _ _ _ _ _ _) rfl rfl) rfl ⟨rfl, (fr_six BL.out (Or.inl (Nat.le_refl _)) _ _ _ _ _ _).below (by simp)⟩
  | true =>
    rw [e, if_pos rfl] at C1
    rw [show gtX O X n = X (n.toNat - 1) by unfold gtX; rw [e]; rfl, if_pos rfl]
    obtain ⟨i, hi, rfl, e2, _⟩ := hs_some e
    rw [e2] at C1 ⊢
    obtain ⟨a0, a1, a2, a3, a4, a5⟩ := h1.six hi
    clear h1 e e2
    go_enter Tryz.func137, Tryz.ntmps137
    go_wp2_with fail
    rw [HWA.out, HZ.out]
    refine (C1.out ()).mono ?_
    rintro e w' ⟨rfl, rfl⟩
    go_wp2
    exact bodyPost_ret (get_ret (t := X i) (KB.out _ _ _ _ _ _) rfl rfl) rfl ⟨rfl, (fr_six BL.out (Or.inl (Nat.le_refl _)) _ _ _ _ _ _).below (by simp)⟩
end Go.Proofs.YtmlilgbochbbiaaGreatDoor.Thr
namespace Go.Proofs.YtmlilgbochbbiaaGreatDoor.Thr
open Slt
open Go.ChangeShapes Go.WideShapes Go.ChangeAt Go.RowKit
open Mm Sl Tm
theorem set_at (cs : List Value) (o j k : Nat) (v : Value) (h : o + j < cs.length) : (cs.set (o + j) v)[o + k]? = if k = j then some v else cs[o + k]? := by
  rw [List.getElem?_set]
  by_cases e : k = j
  · subst e
    rw [if_pos rfl, if_pos h, if_pos rfl]
  · rw [if_neg (by omega), if_neg e]
theorem set_out (cs : List Value) (o j k : Nat) (v : Value) (hj : j < 6) (h : k < o ∨ o + 6 ≤ k) : (cs.set (o + j) v)[k]? = cs[k]? := by
  rw [List.getElem?_set, if_neg (by omega)]
theorem six_mask {cs : List Value} {o : Nat} {t : Th} (h : Six cs o t) (hl : o + 5 < cs.length) (m : Nat) : Six (cs.set (o + 1) (.int .u64 (m : Int))) o { t with mask := m } := by
  obtain ⟨a0, a1, a2, a3, a4, a5⟩ := h
  have g := fun k => set_at cs o 1 k (.int .u64 (m : Int)) (by omega)
  exact ⟨(g 0).trans a0, g 1, (g 2).trans a2, (g 3).trans a3, (g 4).trans a4, (g 5).trans a5⟩
theorem six_cpu {cs : List Value} {o : Nat} {t : Th} (h : Six cs o t) (hl : o + 5 < cs.length) (u : Int) : Six (cs.set (o + 2) (.int .i64 u)) o { t with cpu := u } := by
  obtain ⟨a0, a1, a2, a3, a4, a5⟩ := h
  have g := fun k => set_at cs o 2 k (.int .i64 u) (by omega)
  exact ⟨(g 0).trans a0, (g 1).trans a1, g 2, (g 3).trans a3, (g 4).trans a4, (g 5).trans a5⟩
theorem six_forced {cs : List Value} {o : Nat} {t : Th} (h : Six cs o t) (hl : o + 5 < cs.length) (u : Bool) : Six (cs.set (o + 3) (.bool u)) o { t with forced := u } := by
  obtain ⟨a0, a1, a2, a3, a4, a5⟩ := h
  have g := fun k => set_at cs o 3 k (.bool u) (by omega)
  exact ⟨(g 0).trans a0, (g 1).trans a1, (g 2).trans a2, g 3, (g 4).trans a4, (g 5).trans a5⟩
theorem six_sleeps {cs : List Value} {o : Nat} {t : Th} (h : Six cs o t) (hl : o + 5 < cs.length) (u : Bool) : Six (cs.set (o + 4) (.bool u)) o { t with sleeps := u } := by
  obtain ⟨a0, a1, a2, a3, a4, a5⟩ := h
  have g := fun k => set_at cs o 4 k (.bool u) (by omega)
  exact ⟨(g 0).trans a0, (g 1).trans a1, (g 2).trans a2, (g 3).trans a3, g 4, (g 5).trans a5⟩
theorem six_timer {cs : List Value} {o : Nat} {t : Th} (h : Six cs o t) (hl : o + 5 < cs.length) (u : Int) : Six (cs.set (o + 5) (.int .i64 u)) o { t with timer := u } := by
  obtain ⟨a0, a1, a2, a3, a4, a5⟩ := h
  have g := fun k => set_at cs o 5 k (.int .i64 u) (by omega)
  exact ⟨(g 0).trans a0, (g 1).trans a1, (g 2).trans a2, (g 3).trans a3, (g 4).trans a4, g 5⟩
theorem six_prio {cs : List Value} {o : Nat} {t : Th} (h : Six cs o t) (hl : o + 5 < cs.length) (u : Int) : Six (cs.set o (.int .i64 u)) o { t with prio := u } := by
  obtain ⟨a0, a1, a2, a3, a4, a5⟩ := h
  have g := fun k => set_at cs o 0 k (.int .i64 u) (by omega)
  exact ⟨g 0, (g 1).trans a1, (g 2).trans a2, (g 3).trans a3, (g 4).trans a4, (g 5).trans a5⟩
theorem sx_sx (X : Nat → Th) (i : Nat) (t u : Th) : sx (sx X i t) i u = sx X i u := by
  funext j
  unfold sx
  split <;> rfl
/-- Behind a store into a field of a thread. -/
theorem tt_set {w : World} {s c i : Nat} {O : Nat → Bool} {X : Nat → Th} (h : TT w s c O X) (hi : i < 32) (j : Nat) (hj : j < 6) (v : Value) (t : Th) (h6 : ∀ cs, Six cs (2 + i * 6) (X i) → 2 + i * 6 + 5 < cs.length → Six (cs.set (2 + i * 6 + j) v) (2 + i * 6) t) : TT (w.setCell ⟨s + 2, 2 + i * 6 + j, none⟩ v) s c O (sx X i t) := by
  obtain ⟨W, hw⟩ := h.sl
  obtain ⟨cs, hb, hc⟩ := h.bk
  refine ⟨⟨W, hw.keep (B := w.heap.size) (S := [s + 2]) ((Fr.refl _ _ _).setCell (Or.inr (by simp)) v) ⟨hw.sb.lt, hw.sg.lt⟩ ⟨by simp, by simp⟩⟩, ⟨_, hb.set (2 + i * 6 + j) v, ?_⟩, h.c1, h.c2⟩
  exact hc.upd (List.length_set ..) (fun k hk => set_out cs _ j k v hj hk) (h6 cs (hc.t i hi) (by rw [hc.len]; omega))
theorem tt_two {w : World} {s c i : Nat} {O : Nat → Bool} {X : Nat → Th} (h : TT w s c O X) (hi : i < 32) (j k : Nat) (hj : j < 6) (hk : k < 6) (v v2 : Value) (t t2 : Th) (h6 : ∀ cs, Six cs (2 + i * 6) (X i) → 2 + i * 6 + 5 < cs.length → Six (cs.set (2 + i * 6 + j) v) (2 + i * 6) t) (g6 : ∀ cs, Six cs (2 + i * 6) t → 2 + i * 6 + 5 < cs.length → Six (cs.set (2 + i * 6 + k) v2) (2 + i * 6) t2) : TT ((w.setCell ⟨s + 2, 2 + i * 6 + j, none⟩ v).setCell ⟨s + 2, 2 + i * 6 + k, none⟩ v2) s c O (sx X i t2) := by
  have := tt_set (tt_set h hi j hj v t h6) hi k hk v2 t2 (by rw [sx_same]; exact g6)
  rwa [sx_sx] at this
theorem tt_six {w : World} {s c i : Nat} {O : Nat → Bool} {X : Nat → Th} (h : TT w s c O X) (hi : i < 32) (t : Th) : TT ((((((w.setCell ⟨s + 2, 2 + i * 6, none⟩ (.int .i64 t.prio)).setCell ⟨s + 2, 2 + i * 6 + 1, none⟩ (.int .u64 (t.mask : Int))).setCell ⟨s + 2, 2 + i * 6 + 2, none⟩ (.int .i64 t.cpu)).setCell ⟨s + 2, 2 + i * 6 + 3, none⟩ (.bool t.forced)).setCell ⟨s + 2, 2 + i * 6 + 4, none⟩ (.bool t.sleeps)).setCell ⟨s + 2, 2 + i * 6 + 5, none⟩ (.int .i64 t.timer)) s c O (sx X i t) := by
  have h0 := tt_set h hi 0 (by omega) (.int .i64 t.prio) _ fun _ h6 hl => six_prio h6 hl t.prio
  have h1 := tt_set h0 hi 1 (by omega) (.int .u64 (t.mask : Int)) _ fun _ h6 hl => six_mask h6 hl t.mask
  have h2 := tt_set h1 hi 2 (by omega) (.int .i64 t.cpu) _ fun _ h6 hl => six_cpu h6 hl t.cpu
  have h3 := tt_set h2 hi 3 (by omega) (.bool t.forced) _ fun _ h6 hl => six_forced h6 hl t.forced
  have h4 := tt_set h3 hi 4 (by omega) (.bool t.sleeps) _ fun _ h6 hl => six_sleeps h6 hl t.sleeps
  have h5 := tt_set h4 hi 5 (by omega) (.int .i64 t.timer) _ fun _ h6 hl => six_timer h6 hl t.timer
  simp only [sx_sx, sx_same] at h5
  exact h5
/-- Behind what turned the numbers alone. -/
theorem tt_nums {w w2 : World} {s c : Nat} {O O' : Nat → Bool} {X : Nat → Th} (h : TT w s c O X) (f : Fr w.heap.size [s + 1, s] w w2) (t2 : ∃ W, T w2 (s + 1) s 32 W O') : TT w2 s c O' X := by
  obtain ⟨cs, hb, hc⟩ := h.bk
  exact ⟨t2, ⟨cs, hb.keep f hb.lt (by simp), hc⟩, h.c1, h.c2⟩
theorem fr_nums {s : Nat} {w w' : World} {B : Nat} (f : Fr B [s + 1, s] w w') : Fr B [s, s + 1, s + 2] w w' := f.mono (Nat.le_refl _) fun k _ hk e => hk (by simp at e ⊢; omega)
set_option maxRecDepth 100000 in
set_option maxHeartbeats 400000 in
theorem thspawn_any {s c : Nat} {O : Nat → Bool} {X : Nat → Th} (p : Int) (m : Nat) (w : World) (hm : m < 18446744073709551616) (h : TT w s c O X) (ht : Tab w) :
    Calls Tryz.prog 133 #[.pointer (some ⟨s + 2, 0, none⟩), .int .i64 p, .int .u64 (m : Int)] w fun e w' => e = .returned (.tuple #[.int .i64 (spN c O p m), .int .i64 (spE c O p m)]) ∧ TT w' s c (spO c O p m) (spX c O X p m) ∧ Fr w.heap.size [s, s + 1, s + 2] w w' := by
  have HT : Hid (TT w s c O X) := h
  have C1 : Hid (∀ _ : Unit, _) := fun _ => canbe_any m w hm h
  by_cases hb : spB c p m = true
  · rw [show spN c O p m = tN (ff 32 O) from if_pos hb, show spE c O p m = tE (ff 32 O) from if_pos hb, show spO c O p m = tO O (ff 32 O) from if_pos hb, show spX c O X p m = tX X (nw p m) (ff 32 O) from if_pos hb]
    unfold spB at hb
    rw [Bool.and_eq_true] at hb
    obtain ⟨hp, hc⟩ := hb
    have hp := of_decide_eq_true hp
    obtain ⟨p0, p1⟩ := hp
    rw [hc] at C1
    have C2 : Hid (∀ _ : Unit, _) := fun _ => h.sl.elim fun W hw => take_any w hw ht
    have k0 := h.k0
    rcases ff_is (O := O) with ⟨e, _⟩ | ⟨i, e, hi, _⟩
    · rw [e] at C2 ⊢
      rw [show tN none = 0 from rfl, show tE none = 5 from rfl, show tO O none = O from rfl] at C2
      rw [show tN none = 0 from rfl, show tE none = 5 from rfl, show tO O none = O from rfl, show tX X (nw p m) none = X from rfl]
      clear h ht hm hc e
      go_enter Tryz.func133, Tryz.ntmps133
      go_wp2_with fail
      refine (C1.out ()).mono ?_
      rintro e w' ⟨rfl, rfl⟩
      go_wp2_with fail
      refine (C2.out ()).mono ?_
      rintro e w2 ⟨rfl, t2, g2⟩
      have R : Hid (TT w2 s c O X ∧ Fr w'.heap.size [s, s + 1, s + 2] w' w2) := ⟨tt_nums HT.out g2 t2, fr_nums g2⟩
      clear t2 g2
      go_wp2
      go_ret2
      exact ⟨rfl, R.out⟩
    · rw [e] at C2 ⊢
      rw [show tN (some i) = (i : Int) + 1 from rfl, show tE (some i) = 0 from rfl, show tO O (some i) = st O (i + 1) true from rfl] at C2
      rw [show tN (some i) = (i : Int) + 1 from rfl, show tE (some i) = 0 from rfl, show tO O (some i) = st O (i + 1) true from rfl, show tX X (nw p m) (some i) = sx X i (nw p m) from rfl]
      have hi2 : (i : Int) < 32 := by omega
      have HI : Hid (i < 32) := hi
      generalize st O (i + 1) true = O2 at *
      clear h ht hm hc e
      go_enter Tryz.func133, Tryz.ntmps133
      go_wp2_with fail
      refine (C1.out ()).mono ?_
      rintro e w' ⟨rfl, rfl⟩
      go_wp2_with fail
      refine (C2.out ()).mono ?_
      rintro e w2 ⟨rfl, t2, g2⟩
      have r1 := tt_nums HT.out g2 t2
      have R2 : Hid (Fr w'.heap.size [s, s + 1, s + 2] w' w2) := fr_nums g2
      obtain ⟨a0, a1, a2, a3, a4, a5⟩ := r1.six HI.out
      have f0 := r1.free (2 + i * 6)
      have f1 := r1.free (2 + i * 6 + 1)
      have f2 := r1.free (2 + i * 6 + 2)
      have f3 := r1.free (2 + i * 6 + 3)
      have f4 := r1.free (2 + i * 6 + 4)
      have f5 := r1.free (2 + i * 6 + 5)
      have R1 : Hid (TT w2 s c O2 X) := r1
      clear t2 g2 r1
      go_wp2
      go_ret2
      exact ⟨rfl, tt_six R1.out HI.out (nw p m), fr_six R2.out (Or.inr (by simp)) _ _ _ _ _ _⟩
  · rw [show spN c O p m = 0 from if_neg hb, show spE c O p m = 2 from if_neg hb, show spO c O p m = O from if_neg hb, show spX c O X p m = X from if_neg hb]
    by_cases h1 : p < 0
    · clear h ht hm hb
      go_enter Tryz.func133, Tryz.ntmps133
      go_wp2
      go_ret2
      exact ⟨rfl, HT.out, Fr.refl _ _ _⟩
    · by_cases h2 : 8 ≤ p
      · clear h ht hm hb
        go_enter Tryz.func133, Tryz.ntmps133
        go_wp2
        go_ret2
        exact ⟨rfl, HT.out, Fr.refl _ _ _⟩
      · have hc : can c m = false := by
          cases e : can c m with
          | false => rfl
          | true => exact absurd (by unfold spB; rw [e, decide_eq_true (by omega)]; rfl) hb
        rw [hc] at C1
        clear h ht hm hb hc
        go_enter Tryz.func133, Tryz.ntmps133
        go_wp2_with fail
        refine (C1.out ()).mono ?_
        rintro e w' ⟨rfl, rfl⟩
        go_wp2
        go_ret2
        exact ⟨rfl, HT.out, Fr.refl _ _ _⟩
end Go.Proofs.YtmlilgbochbbiaaGreatDoor.Thr
namespace Go.Proofs.YtmlilgbochbbiaaGreatDoor.Thr
open Slt
open Go.ChangeShapes Go.WideShapes Go.ChangeAt Go.RowKit
open Mm Sl Tm
theorem up_has {c : Nat} (h : c ≤ 64) (u : Int) : tb (up (c : Int)) u = decide (0 ≤ u ∧ u < c) := by
  by_cases e : 0 ≤ u ∧ u < 64
  · rw [tb_some _ _ e, bit_up]
    have : u.toNat < 64 := by omega
    by_cases g : u < c
    · rw [decide_eq_true (by omega), decide_eq_true (by omega)]
    · rw [decide_eq_false (by omega), decide_eq_false (by omega)]
  · rw [tb_none _ _ e, decide_eq_false (by omega)]
set_option maxRecDepth 100000 in
set_option maxHeartbeats 400000 in
theorem thplace_any {s c : Nat} {O : Nat → Bool} {X : Nat → Th} (n u : Int) (f : Bool) (w : World) (h : TT w s c O X) :
    Calls Tryz.prog 223 #[.pointer (some ⟨s + 2, 0, none⟩), .int .i64 n, .int .i64 u, .bool f] w fun e w' => e = .returned (.int .i64 (plE c O n u)) ∧ TT w' s c O (plX c O X n u f) ∧ Fr w.heap.size [s, s + 1, s + 2] w w' := by
  have C1 : Hid (∀ _ : Unit, _) := fun _ => thfind_any n w h
  have C2 : Hid (∀ _ : Unit, _) := fun _ => khas_any (up (c : Int)) u w (up_lt _)
  rw [up_has h.c2] at C2
  have HT : Hid (TT w s c O X) := h
  have k1 := h.k1
  cases e : hs 32 O n with
  | false =>
    rw [e, if_neg (by simp)] at C1
    rw [show plE c O n u = 4 by unfold plE; rw [e]; rfl, show plX c O X n u f = X by unfold plX; rw [e]; simp]
    clear h e k1
    go_enter Tryz.func223, Tryz.ntmps223
    go_wp2_with fail
    refine (C1.out ()).mono ?_
    rintro e w' ⟨rfl, rfl⟩
    go_wp2
    go_ret
    exact ⟨rfl, HT.out, Fr.refl _ _ _⟩
  | true =>
    rw [e, if_pos rfl] at C1
    by_cases e3 : 0 ≤ u ∧ u < c
    · rw [decide_eq_true e3] at C2
      rw [show plE c O n u = 0 by unfold plE; rw [e, if_pos rfl, if_pos e3], show plX c O X n u f = sx X (n.toNat - 1) { X (n.toNat - 1) with cpu := u, forced := f } from if_pos ⟨e, e3⟩]
      obtain ⟨i, hi, rfl, e2, _⟩ := hs_some e
      rw [e2] at C1 ⊢
      obtain ⟨a0, a1, a2, a3, a4, a5⟩ := h.six hi
      have f2 := h.free (2 + i * 6 + 2)
      have f3 := h.free (2 + i * 6 + 3)
      generalize up (c : Int) = U at *
      clear h e e2 e3
      go_enter Tryz.func223, Tryz.ntmps223
      go_wp2_with fail
      refine (C1.out ()).mono ?_
      rintro e w' ⟨rfl, rfl⟩
      go_wp2_with fail
      refine (C2.out ()).mono ?_
      rintro e w' ⟨rfl, rfl⟩
      go_wp2
      go_ret
      exact ⟨rfl, tt_two HT.out hi 2 3 (by omega) (by omega) _ _ _ _ (fun _ h6 hl => six_cpu h6 hl u) (fun _ h6 hl => six_forced h6 hl f), ((Fr.refl _ _ _).setCell (Or.inr (by simp)) _).setCell (Or.inr (by simp)) _⟩
    · rw [decide_eq_false e3] at C2
      rw [show plE c O n u = 3 by unfold plE; rw [e, if_pos rfl, if_neg e3], show plX c O X n u f = X from if_neg fun g => e3 g.2]
      generalize up (c : Int) = U at *
      clear h e e3
      go_enter Tryz.func223, Tryz.ntmps223
      go_wp2_with fail
      refine (C1.out ()).mono ?_
      rintro e w' ⟨rfl, rfl⟩
      go_wp2_with fail
      refine (C2.out ()).mono ?_
      rintro e w' ⟨rfl, rfl⟩
      go_wp2
      go_ret
      exact ⟨rfl, HT.out, Fr.refl _ _ _⟩
end Go.Proofs.YtmlilgbochbbiaaGreatDoor.Thr
