/- A table of threads as it lies in memory; what thread's New, canBe, find, Get and List answer and leave. -/
import Derived.Test.YtghnpmkibnggeaaDoorRows
import Derived.Test.YtghnpmkibnggeaaDoorFw
import Derived.Test.YtghnpmkibnggeaaDoorFg
import Derived.Test.YtghnpmkibnggeaaDoorSb
import Derived.Test.YtghnpmkibnggeaaDoorTm
import Derived.Test.YtghnpmkibnggeaaDoorKc
import Derived.WalkKit
import Derived.ProofKit
import Derived.OpenShut
import Derived.BigQuiet
import Derived.Laws.ResultCell
namespace Go.Proofs.YtghnpmkibnggeaaDoor
open Go.ChangeShapes Go.WideShapes Go.ChangeAt Go.RowKit
open Mm Sl Tm

/-- The six cells of a thread. -/
def Six (cs : List Value) (o : Nat) (t : Th) : Prop :=
  cs[o]? = some (.int .i64 t.prio) ∧ cs[o + 1]? = some (.int .u64 (t.mask : Int)) ∧ cs[o + 2]? = some (.int .i64 t.cpu) ∧ cs[o + 3]? = some (.bool t.forced) ∧ cs[o + 4]? = some (.bool t.sleeps) ∧ cs[o + 5]? = some (.int .i64 t.timer)

/-- The cells of a table. -/
structure Cs (cs : List Value) (s c : Nat) (X : Nat → Th) : Prop where
  len : cs.length = 194
  p : cs[0]? = some (.pointer (some ⟨s + 1, 0, none⟩))
  m : cs[1]? = some (.int .u64 ((up (c : Int) : Nat) : Int))
  t : ∀ i, i < 32 → Six cs (2 + i * 6) (X i)

theorem Cs.upd {cs cs' : List Value} {s c i : Nat} {X : Nat → Th} {t : Th} (h : Cs cs s c X) (hl : cs'.length = cs.length) (ho : ∀ k, (k < 2 + i * 6 ∨ 2 + i * 6 + 6 ≤ k) → cs'[k]? = cs[k]?) (h6 : Six cs' (2 + i * 6) t) : Cs cs' s c (sx X i t) := by
  refine ⟨hl.trans h.len, (ho 0 (by omega)).trans h.p, (ho 1 (by omega)).trans h.m, fun j hj => ?_⟩
  by_cases e : j = i
  · subst e
    rw [sx_same]
    exact h6
  · rw [sx_other X e]
    obtain ⟨a0, a1, a2, a3, a4, a5⟩ := h.t j hj
    exact ⟨(ho _ (by omega)).trans a0, (ho _ (by omega)).trans a1, (ho _ (by omega)).trans a2, (ho _ (by omega)).trans a3, (ho _ (by omega)).trans a4, (ho _ (by omega)).trans a5⟩

/-- The table whose first block is s. -/
structure TT (w : World) (s c : Nat) (O : Nat → Bool) (X : Nat → Th) : Prop where
  sl : ∃ W, T w (s + 1) s 32 W O
  bk : ∃ cs, Blk w (s + 2) cs 87 ∧ Cs cs s c X
  c1 : 1 ≤ c
  c2 : c ≤ 64

theorem TT.hi {w : World} {s c : Nat} {O : Nat → Bool} {X : Nat → Th} (h : TT w s c O X) : s + 3 ≤ w.heap.size := by
  obtain ⟨cs, hb, _⟩ := h.bk
  have := hb.lt
  omega
theorem TT.heap {w w1 : World} {s c : Nat} {O : Nat → Bool} {X : Nat → Th} (h : TT w s c O X) (e : w1.heap = w.heap) : TT w1 s c O X := by
  obtain ⟨W, hw⟩ := h.sl
  obtain ⟨cs, hb, hc⟩ := h.bk
  exact ⟨⟨W, hw.heap e⟩, ⟨cs, hb.heap e, hc⟩, h.c1, h.c2⟩
theorem TT.keep {B : Nat} {S : List Nat} {w w' : World} {s c : Nat} {O : Nat → Bool} {X : Nat → Th} (h : TT w s c O X) (f : Fr B S w w') (hB : s + 3 ≤ B) (hS : ∀ k, s ≤ k → k < s + 3 → k ∉ S) : TT w' s c O X := by
  obtain ⟨W, hw⟩ := h.sl
  obtain ⟨cs, hb, hc⟩ := h.bk
  exact ⟨⟨W, hw.keep f ⟨by omega, by omega⟩ ⟨hS _ (by omega) (by omega), hS _ (by omega) (by omega)⟩⟩, ⟨cs, hb.keep f (by omega) (hS _ (by omega) (by omega)), hc⟩, h.c1, h.c2⟩
theorem TT.below {w w' : World} {s c : Nat} {O : Nat → Bool} {X : Nat → Th} (h : TT w s c O X) (f : Below w.heap.size w w') : TT w' s c O X := h.keep (Fr.of_below f) h.hi fun _ _ _ => by simp
theorem TT.k0 {w : World} {s c : Nat} {O : Nat → Bool} {X : Nat → Th} (h : TT w s c O X) : w.cell? ⟨s + 2, 0, none⟩ = some (.pointer (some ⟨s + 1, 0, none⟩)) := by
  obtain ⟨cs, hb, hc⟩ := h.bk
  rw [hb.cell, hc.p]
theorem TT.k1 {w : World} {s c : Nat} {O : Nat → Bool} {X : Nat → Th} (h : TT w s c O X) : w.cell? ⟨s + 2, 1, none⟩ = some (.int .u64 ((up (c : Int) : Nat) : Int)) := by
  obtain ⟨cs, hb, hc⟩ := h.bk
  rw [hb.cell, hc.m]
theorem TT.free {w : World} {s c : Nat} {O : Nat → Bool} {X : Nat → Th} (h : TT w s c O X) (k : Nat) : w.frozen? ⟨s + 2, k, none⟩ = false := by
  obtain ⟨cs, hb, hc⟩ := h.bk
  exact hb.free k
/-- The cells of a thread. -/
theorem TT.six {w : World} {s c i : Nat} {O : Nat → Bool} {X : Nat → Th} (h : TT w s c O X) (hi : i < 32) :
    w.cell? ⟨s + 2, 2 + i * 6, none⟩ = some (.int .i64 (X i).prio) ∧ w.cell? ⟨s + 2, 2 + i * 6 + 1, none⟩ = some (.int .u64 ((X i).mask : Int)) ∧ w.cell? ⟨s + 2, 2 + i * 6 + 2, none⟩ = some (.int .i64 (X i).cpu) ∧ w.cell? ⟨s + 2, 2 + i * 6 + 3, none⟩ = some (.bool (X i).forced) ∧ w.cell? ⟨s + 2, 2 + i * 6 + 4, none⟩ = some (.bool (X i).sleeps) ∧ w.cell? ⟨s + 2, 2 + i * 6 + 5, none⟩ = some (.int .i64 (X i).timer) := by
  obtain ⟨cs, hb, hc⟩ := h.bk
  obtain ⟨a0, a1, a2, a3, a4, a5⟩ := hc.t i hi
  exact ⟨(hb.cell _).trans a0, (hb.cell _).trans a1, (hb.cell _).trans a2, (hb.cell _).trans a3, (hb.cell _).trans a4, (hb.cell _).trans a5⟩

set_option maxRecDepth 100000 in
set_option maxHeartbeats 400000 in
theorem canbe_any {s c : Nat} {O : Nat → Bool} {X : Nat → Th} (m : Nat) (w : World) (hm : m < 18446744073709551616) (h : TT w s c O X) :
    Calls Tryd.prog 47 #[.pointer (some ⟨s + 2, 0, none⟩), .int .u64 (m : Int)] w fun e w' => e = .returned (.bool (can c m)) ∧ w' = w := by
  have C1 : Hid (∀ w, _) := fun w => kmany_any m w hm
  have k1 := h.k1
  by_cases h0 : m = 0
  · subst h0
    rw [show can c 0 = false from rfl]
    rw [show (ls 0).length = 0 by rw [ls_zero]; rfl] at C1
    clear h k1 hm
    go_enter Tryd.func47, Tryd.ntmps47
    go_wp2_with fail
    refine (C1.out _).mono ?_
    rintro e w' ⟨rfl, rfl⟩
    go_wp2
    go_ret
    exact ⟨rfl, rfl⟩
  · have C2 : Hid (∀ w, _) := fun w => kwithin_any m (up (c : Int)) w hm (up_lt _)
    have hp : (0 : Int) < ((ls m).length : Int) := by
      have : (ls m).length ≠ 0 := fun e => h0 (ls_nil m hm (List.eq_nil_of_length_eq_zero e))
      omega
    have hl := ls_le m
    rw [show can c m = (((nt m (up (c : Int)) : Nat) : Int) == 0) by
      unfold can
      rw [decide_eq_true h0, Bool.true_and]
      by_cases e : nt m (up (c : Int)) = 0
      · rw [e]; rfl
      · rw [decide_eq_false e]; symm; rw [beq_eq_false_iff_ne]; omega]
    generalize nt m (up (c : Int)) = P at *
    generalize up (c : Int) = U at *
    generalize (ls m).length = n at *
    clear h hm h0
    go_enter Tryd.func47, Tryd.ntmps47
    go_wp2_with fail
    refine (C1.out _).mono ?_
    rintro e w' ⟨rfl, rfl⟩
    go_wp2_with fail
    refine (C2.out _).mono ?_
    rintro e w' ⟨rfl, rfl⟩
    go_wp2
    go_ret
    exact ⟨rfl, rfl⟩

set_option maxRecDepth 100000 in
set_option maxHeartbeats 400000 in
/-- The numbers of a new table. -/
theorem slnew_any (m : Nat) (w : World) (h1 : (1 : Int) ≤ m) (h2 : (m : Int) ≤ 1024) :
    Calls Tryd.prog 37 #[.int .i64 (m : Int)] w fun e w' => e = .returned (.tuple #[.pointer (some ⟨w.heap.size + 1, 0, none⟩), .int .i64 0]) ∧ (∃ W, T w' (w.heap.size + 1) w.heap.size m W fun _ => false) ∧ Below w.heap.size w w' ∧ w'.heap.size = w.heap.size + 2 := by
  obtain ⟨n, hn⟩ : ∃ n, (m + 63) / 64 = n := ⟨_, rfl⟩
  have G := wd_new m (by omega) (by omega)
  rw [hn] at G
  have hq : ((m : Int) + 64 - 1).tdiv 64 = (n : Int) := by rw [Int.tdiv_eq_ediv_of_nonneg (by omega)]; omega
  have hmk := run_make_row' (P := Tryd.prog) 101 32 (.int .u64 0) 8 Tryd.underlying101 Tryd.infoW rfl .i64 .i64 n (by omega) (by omega)
  have F : Hid (∀ o1 o2, Below w.heap.size w ((w.alloc o1).alloc o2)) := fun o1 o2 => ((Below.refl _ _).alloc (Nat.le_refl _) o1).alloc (by simp) o2
  have HG : Hid (Wd m (List.replicate n 0) fun _ => false) := G
  clear G
  go_enter Tryd.func37, Tryd.ntmps37
  go_wp2
  go_ret2
  refine ⟨rfl, ⟨List.replicate n 0, ?_, ?_, HG.out⟩, F.out _ _, by simp⟩
  · have := Blk.new (w.alloc (Obj.cells (madeCells #[Value.int IntKind.u64 0] n) 32)) [.slice (some ⟨w.heap.size, 0, none⟩) n n, .int .i64 (m : Int)] 103
    simpa using this
  · rw [made_word]
    exact (Blk.new w _ 32).alloc _

theorem rep_at (L : List Value) (hL : L.length = 6) : ∀ n i j, i < n → j < 6 → (List.replicate n L).flatten[i * 6 + j]? = L[j]?
  | 0, i, j, h, _ => by omega
  | n + 1, i, j, h, hj => by
    rw [List.replicate_succ, List.flatten_cons]
    cases i with
    | zero => rw [List.getElem?_append_left (by omega), Nat.zero_mul, Nat.zero_add]
    | succ i => rw [List.getElem?_append_right (by omega), show (i + 1) * 6 + j - L.length = i * 6 + j by omega]; exact rep_at L hL n i j (by omega) hj

def z6 : List Value := [.int .i64 0, .int .u64 0, .int .i64 0, .bool false, .bool false, .int .i64 0]
theorem zeros : Tryd.zeroCells87.toList = .pointer none :: .int .u64 0 :: (List.replicate 32 z6).flatten := by kernel_rfl
theorem cs_new (s c : Nat) : Cs ((Tryd.zeroCells87.setIfInBounds 0 (.pointer (some ⟨s + 1, 0, none⟩))).setIfInBounds 1 (.int .u64 ((up (c : Int) : Nat) : Int))).toList s c fun _ => zt := by
  rw [Array.toList_setIfInBounds, Array.toList_setIfInBounds, zeros]
  simp only [List.set_cons_zero, List.set_cons_succ]
  refine ⟨by rfl, rfl, rfl, fun i hi => ?_⟩
  have g : ∀ j, j < 6 → (.pointer (some ⟨s + 1, 0, none⟩) :: .int .u64 ((up (c : Int) : Nat) : Int) :: (List.replicate 32 z6).flatten : List Value)[2 + i * 6 + j]? = z6[j]? := fun j hj => by
    rw [show 2 + i * 6 + j = i * 6 + j + 1 + 1 by omega, List.getElem?_cons_succ, List.getElem?_cons_succ]
    exact rep_at z6 rfl 32 i j hi hj
  exact ⟨g 0 (by omega), g 1 (by omega), g 2 (by omega), g 3 (by omega), g 4 (by omega), g 5 (by omega)⟩

set_option maxRecDepth 100000 in
set_option maxHeartbeats 400000 in
theorem thnew_any (c : Nat) (w : World) (h1 : (1 : Int) ≤ c) (h2 : (c : Int) ≤ 64) :
    Calls Tryd.prog 9 #[.int .i64 (c : Int)] w fun e w' => e = .returned (.tuple #[.pointer (some ⟨w.heap.size + 2, 0, none⟩), .int .i64 0]) ∧ TT w' w.heap.size c (fun _ => false) (fun _ => zt) ∧ Below w.heap.size w w' ∧ w'.heap.size = w.heap.size + 3 := by
  have C1 : Hid (∀ _ : Unit, _) := fun _ => slnew_any 32 w (by decide) (by decide)
  have C2 : Hid (∀ w, _) := fun w => kupto_any (c : Int) w
  obtain ⟨s, hs⟩ : ∃ s, w.heap.size = s := ⟨_, rfl⟩
  rw [hs] at C1 ⊢
  clear hs
  go_enter Tryd.func9, Tryd.ntmps9
  go_wp2_with fail
  refine (C1.out ()).mono ?_
  rintro e w1 ⟨rfl, ⟨W1, q1⟩, f1, z1⟩
  have Q1 : Hid (T w1 (s + 1) s 32 W1 fun _ => false) := q1
  have F1 : Hid (Below s w w1) := f1
  have Z1 : Hid (w1.heap.size = s + 2) := z1
  clear q1 f1 z1
  go_wp2_with fail
  refine (C2.out _).mono ?_
  rintro e w2 ⟨rfl, rfl⟩
  go_wp2
  go_ret2
  rw [← Z1.out]
  refine ⟨rfl, ⟨⟨W1, ?_⟩, ⟨_, ?_, cs_new s c⟩, by omega, by omega⟩, F1.out.alloc (by have := Z1.out; omega) _, by simp [Z1.out]⟩
  · exact Q1.out.keep (B := w2.heap.size) (S := []) ((Fr.refl _ _ _).alloc (Nat.le_refl _) _) ⟨Q1.out.sb.lt, Q1.out.sg.lt⟩ ⟨by simp, by simp⟩
  · have := Blk.new w2 ((Tryd.zeroCells87.setIfInBounds 0 (.pointer (some ⟨s + 1, 0, none⟩))).setIfInBounds 1 (.int .u64 ((up (c : Int) : Nat) : Int))).toList 87
    rw [Array.toArray_toList, Z1.out] at this
    exact this

set_option maxRecDepth 100000 in
set_option maxHeartbeats 400000 in
theorem thfind_any {s c : Nat} {O : Nat → Bool} {X : Nat → Th} (n : Int) (w : World) (h : TT w s c O X) :
    Calls Tryd.prog 46 #[.pointer (some ⟨s + 2, 0, none⟩), .int .i64 n] w fun e w' => e = .returned (if hs 32 O n = true then .tuple #[.pointer (some ⟨s + 2, 2 + (n.toNat - 1) * 6, none⟩), .int .i64 0] else .tuple #[.pointer none, .int .i64 4]) ∧ w' = w := by
  have C1 : Hid (∀ _ : Unit, _) := fun _ => h.sl.elim fun W hw => has_any n w hw
  have k0 := h.k0
  cases e : hs 32 O n with
  | false =>
    rw [e] at C1
    rw [if_neg (by simp)]
    clear h e
    go_enter Tryd.func46, Tryd.ntmps46
    go_wp2_with fail
    refine (C1.out ()).mono ?_
    rintro e w' ⟨rfl, rfl⟩
    go_wp2
    go_ret2
    exact ⟨rfl, rfl⟩
  | true =>
    rw [e] at C1
    rw [if_pos rfl]
    obtain ⟨i, hi, rfl, e2, _⟩ := hs_some e
    rw [e2]
    have hi2 : (i : Int) < 32 := by omega
    clear h e e2
    go_enter Tryd.func46, Tryd.ntmps46
    go_wp2_with fail
    refine (C1.out ()).mono ?_
    rintro e w' ⟨rfl, rfl⟩
    go_wp2
    go_ret2
    exact ⟨rfl, rfl⟩

set_option maxRecDepth 100000 in
theorem thnew_bad (c : Int) (w : World) (h : c < 1 ∨ 64 < c) :
    Calls Tryd.prog 9 #[.int .i64 c] w fun e w' => e = .returned (.tuple #[.pointer none, .int .i64 2]) ∧ w' = w := by
  rcases h with h | h
  · go_enter Tryd.func9, Tryd.ntmps9
    go_wp2
    go_ret2
    exact ⟨rfl, rfl⟩
  · have h2 : (1 : Int) ≤ c := by omega
    go_enter Tryd.func9, Tryd.ntmps9
    go_wp2
    go_ret2
    exact ⟨rfl, rfl⟩

set_option maxRecDepth 100000 in
theorem thlist_any {s c : Nat} {O : Nat → Bool} {X : Nat → Th} (w : World) (h : TT w s c O X) (ht : Tab w) (h0 : 0 < w.heap.size) :
    Calls Tryd.prog 14 #[.pointer (some ⟨s + 2, 0, none⟩)] w fun e w' => ∃ v, e = .returned v ∧ Gt w w' v (li 32 O) := by
  have C1 : Hid (∀ _ : Unit, _) := fun _ => h.sl.elim fun W hw => list_any w hw ht h0
  have k0 := h.k0
  clear h ht h0
  go_enter Tryd.func14, Tryd.ntmps14
  go_wp2_with fail
  refine (C1.out ()).mono ?_
  rintro e w1 ⟨v, rfl, g⟩
  obtain ⟨a, cap, rfl⟩ := own_shape g.own
  have G : Hid (Gt w w1 _ (li 32 O)) := g
  clear g k0
  go_wp2
  go_ret
  exact ⟨_, rfl, G.out⟩

/-- A thread as a value. -/
def thv (t : Th) : Value := .agg #[.int .i64 t.prio, .int .u64 (t.mask : Int), .int .i64 t.cpu, .bool t.forced, .bool t.sleeps, .int .i64 t.timer]

/-- The world with a new thread's cells. -/
def wz (w : World) : World := w.alloc (.cells #[.int .i64 0, .int .u64 0, .int .i64 0, .bool false, .bool false, .int .i64 0] 40)
theorem wz_below (w : World) : Below w.heap.size w (wz w) := (Below.refl _ _).alloc (Nat.le_refl _) _
theorem wz_blk (w : World) : Blk (wz w) w.heap.size z6 40 := Blk.new w _ _

theorem blk_six {w : World} {z : Nat} {t : TypeId} (h : Blk w z z6 t) (v0 v1 v2 v3 v4 v5 : Value) : Blk ((((((w.setCell ⟨z, 0, none⟩ v0).setCell ⟨z, 1, none⟩ v1).setCell ⟨z, 2, none⟩ v2).setCell ⟨z, 3, none⟩ v3).setCell ⟨z, 4, none⟩ v4).setCell ⟨z, 5, none⟩ v5) z [v0, v1, v2, v3, v4, v5] t :=
  (((((h.set 0 v0).set 1 v1).set 2 v2).set 3 v3).set 4 v4).set 5 v5
theorem fr_six {B : Nat} {S : List Nat} {a w : World} {g o : Nat} (h : Fr B S a w) (hp : B ≤ g ∨ g ∈ S) (v0 v1 v2 v3 v4 v5 : Value) : Fr B S a ((((((w.setCell ⟨g, o, none⟩ v0).setCell ⟨g, o + 1, none⟩ v1).setCell ⟨g, o + 2, none⟩ v2).setCell ⟨g, o + 3, none⟩ v3).setCell ⟨g, o + 4, none⟩ v4).setCell ⟨g, o + 5, none⟩ v5) :=
  (((((h.setCell (p := ⟨g, o, none⟩) hp v0).setCell (p := ⟨g, o + 1, none⟩) hp v1).setCell (p := ⟨g, o + 2, none⟩) hp v2).setCell (p := ⟨g, o + 3, none⟩) hp v3).setCell (p := ⟨g, o + 4, none⟩) hp v4).setCell (p := ⟨g, o + 5, none⟩) hp v5

/-- What a call answers whose first result is a thread. -/
theorem get_ret {w : World} {z : Nat} {t : Th} {e : Int} {tmps : Array Value} (h : Blk w z [.int .i64 t.prio, .int .u64 (t.mask : Int), .int .i64 t.cpu, .bool t.forced, .bool t.sleeps, .int .i64 t.timer] 40) (h4 : tmps.getD 4 undef = .pointer (some ⟨z, 0, none⟩)) (h5 : tmps.getD 5 undef = .int .i64 e) :
    (results Tryd.f16 tmps).run Tryd.prog w = .ok (.tuple #[thv t, .int .i64 e]) w := by
  have q0 : w.cell? ⟨z, 0, none⟩ = some (.int .i64 t.prio) := h.cell 0
  have q1 : w.cell? ⟨z, 1, none⟩ = some (.int .u64 (t.mask : Int)) := h.cell 1
  have q2 : w.cell? ⟨z, 2, none⟩ = some (.int .i64 t.cpu) := h.cell 2
  have q3 : w.cell? ⟨z, 3, none⟩ = some (.bool t.forced) := h.cell 3
  have q4 : w.cell? ⟨z, 4, none⟩ = some (.bool t.sleeps) := h.cell 4
  have q5 : w.cell? ⟨z, 5, none⟩ = some (.int .i64 t.timer) := h.cell 5
  rw [results_cell_tmp (p := 4) (u := 5) (ty := 40) rfl, h4, h5]
  simp [go_sem, q0, q1, q2, q3, q4, q5, thv]

set_option maxRecDepth 100000 in
set_option maxHeartbeats 400000 in
theorem thget_any {s c : Nat} {O : Nat → Bool} {X : Nat → Th} (n : Int) (w : World) (h : TT w s c O X) :
    Calls Tryd.prog 16 #[.pointer (some ⟨s + 2, 0, none⟩), .int .i64 n] w fun e w' => e = .returned (.tuple #[thv (gtX O X n), .int .i64 (if hs 32 O n = true then 0 else 4)]) ∧ Below w.heap.size w w' := by
  obtain ⟨wa, hwa⟩ : ∃ wa, wz w = wa := ⟨_, rfl⟩
  have HWA : Hid (w.alloc (.cells #[.int .i64 0, .int .u64 0, .int .i64 0, .bool false, .bool false, .int .i64 0] 40) = wa) := hwa
  have hb := wz_below w
  have hk := wz_blk w
  rw [hwa] at hb hk
  have h1 := h.below hb
  have C1 : Hid (∀ _ : Unit, _) := fun _ => thfind_any n wa h1
  have BL : Hid (Fr w.heap.size [] w wa) := Fr.of_below hb
  obtain ⟨z, hz⟩ : ∃ z, w.heap.size = z := ⟨_, rfl⟩
  have HZ : Hid (w.heap.size = z) := hz
  rw [hz] at hk BL ⊢
  have KB : Hid (∀ v0 v1 v2 v3 v4 v5 : Value, _) := blk_six hk
  have z0 : wa.cell? ⟨z, 0, none⟩ = some (.int .i64 0) := hk.cell 0
  have z1 : wa.cell? ⟨z, 1, none⟩ = some (.int .u64 0) := hk.cell 1
  have z2 : wa.cell? ⟨z, 2, none⟩ = some (.int .i64 0) := hk.cell 2
  have z3 : wa.cell? ⟨z, 3, none⟩ = some (.bool false) := hk.cell 3
  have z4 : wa.cell? ⟨z, 4, none⟩ = some (.bool false) := hk.cell 4
  have z5 : wa.cell? ⟨z, 5, none⟩ = some (.int .i64 0) := hk.cell 5
  have f0 := hk.free 0
  have f1 := hk.free 1
  have f2 := hk.free 2
  have f3 := hk.free 3
  have f4 := hk.free 4
  have f5 := hk.free 5
  clear hwa hb hk h hz
  cases e : hs 32 O n with
  | false =>
    rw [e, if_neg (by simp)] at C1
    rw [show gtX O X n = zt by unfold gtX; rw [e]; rfl, if_neg (by simp)]
    clear h1 e
    go_enter Tryd.func16, Tryd.ntmps16
    go_wp2_with fail
    rw [HWA.out, HZ.out]
    refine (C1.out ()).mono ?_
    rintro e w' ⟨rfl, rfl⟩
    go_wp2
    exact bodyPost_ret (get_ret (t := zt) (KB.out _ _ _ _ _ _) rfl rfl) rfl ⟨rfl, (fr_six BL.out (Or.inl (Nat.le_refl _)) _ _ _ _ _ _).below (by simp)⟩
  | true =>
    rw [e, if_pos rfl] at C1
    rw [show gtX O X n = X (n.toNat - 1) by unfold gtX; rw [e]; rfl, if_pos rfl]
    obtain ⟨i, hi, rfl, e2, _⟩ := hs_some e
    rw [e2] at C1 ⊢
    obtain ⟨a0, a1, a2, a3, a4, a5⟩ := h1.six hi
    clear h1 e e2
    go_enter Tryd.func16, Tryd.ntmps16
    go_wp2_with fail
    rw [HWA.out, HZ.out]
    refine (C1.out ()).mono ?_
    rintro e w' ⟨rfl, rfl⟩
    go_wp2
    exact bodyPost_ret (get_ret (t := X i) (KB.out _ _ _ _ _ _) rfl rfl) rfl ⟨rfl, (fr_six BL.out (Or.inl (Nat.le_refl _)) _ _ _ _ _ _).below (by simp)⟩
end Go.Proofs.YtghnpmkibnggeaaDoor
