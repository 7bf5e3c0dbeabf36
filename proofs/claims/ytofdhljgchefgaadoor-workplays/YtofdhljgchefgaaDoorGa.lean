/- Lists of works as they lie in memory: the table of numbers, the queues of the cores and the one that is no core's, the map of where each is; what work's on, list, Where, Has, Load, List and forget answer and leave. -/
import Derived.Test.YtofdhljgchefgaaDoorRows
import Derived.Test.YtofdhljgchefgaaDoorCq
import Derived.Test.YtofdhljgchefgaaDoorWf
import Derived.WalkKit
import Derived.ProofKit
import Derived.OpenShut
import Derived.BigQuiet
namespace Go.Proofs.YtofdhljgchefgaaDoor
open Go.ChangeShapes Go.WideShapes Go.ChangeAt Go.RowKit
open Fm Sl Cm

theorem zero3 (w : World) : (zeroValue 3).run Tryd.prog w = .ok (.int .i64 0) w := by kernel_rfl
theorem look3 {w : World} {b m : Nat} {f : Int → Option Int} (h : MQ 3 w b m f) {id : Int} (hi : (Lit.int .i64 id).wf = true) : (Instr.lookup 64 (.map (some b)) (.int .i64 id) true).run Tryd.prog w = .ok (.tuple #[.int .i64 ((f id).getD 0), .bool (f id).isSome]) w :=
  mq_look (tm := 64) Tryd.underlying3 Tryd.underlying64 zero3 h hi
theorem wf_small (c : Int) (h0 : -1 ≤ c) (h : c ≤ 64) : (Lit.int .i64 c).wf = true := by
  simp [Lit.wf, IntKind.min, IntKind.max, IntKind.signed, IntKind.bits]
  omega

/-- Where a list's ring lies; the last one is no core's. -/
def ga (s n c : Nat) : Nat := if c = n then s + 2 else s + 7 + 2 * c
theorem ga_core {s n c : Nat} (h : c < n) : ga s n c = s + 7 + 2 * c := if_neg (by omega)
theorem ga_free (s n : Nat) : ga s n n = s + 2 := if_pos rfl
def gz (s n : Nat) : List Nat := List.range' s (7 + 2 * n)
theorem mem_gz (s n k : Nat) : k ∈ gz s n ↔ s ≤ k ∧ k < s + (7 + 2 * n) := by unfold gz; rw [List.mem_range'_1]
theorem ga_in {s n c : Nat} (h : c ≤ n) : s + 2 ≤ ga s n c ∧ ga s n c + 1 < s + (7 + 2 * n) ∧ (ga s n c + 1 < s + 4 ∨ s + 7 ≤ ga s n c) := by
  by_cases e : c = n
  · subst e
    rw [ga_free]
    omega
  · rw [ga_core (by omega)]
    omega
theorem ga_sep {s n c d : Nat} (hc : c ≤ n) (hd : d ≤ n) (h : d ≠ c) : ga s n d + 1 < ga s n c ∨ ga s n c + 1 < ga s n d := by
  by_cases e : c = n
  · subst e
    rw [ga_free, ga_core (by omega)]
    omega
  · rw [ga_core (c := c) (by omega)]
    by_cases f : d = n
    · subst f
      rw [ga_free]
      omega
    · rw [ga_core (by omega)]
      omega

/-- Lists of works at s + 6: numbers at s + 1, the free list at s + 3, the table at s + 4, the map at s + 5. -/
structure GB (w : World) (s n : Nat) (K : Ks) (W : List Nat) (O : Nat → Bool) (m : Nat) (f : Int → Option Int) : Prop where
  st : Blk w (s + 6) [.pointer (some ⟨s + 1, 0, none⟩), .slice (some ⟨s + 4, 0, none⟩) n n, .pointer (some ⟨s + 3, 0, none⟩), .map (some (s + 5))] 66
  tb : Blk w (s + 4) (qtab (ga s n) n) 60
  sl : T w (s + 1) s 32 W O
  mp : MQ 3 w (s + 5) m f
  qs : QS w (ga s n) (n + 1) K
  kn : K.length = n + 1
  n1 : 1 ≤ n
  n2 : n ≤ 64

section
variable {w w' : World} {s n : Nat} {K : Ks} {W : List Nat} {O : Nat → Bool} {m : Nat} {f : Int → Option Int}
theorem GB.hi (h : GB w s n K W O m f) : s + (7 + 2 * n) ≤ w.heap.size := by
  have := (h.qs (n - 1) (by omega)).lt
  have := h.n1
  rw [ga_core (by omega)] at *
  omega
theorem GB.c0 (h : GB w s n K W O m f) : w.cell? ⟨s + 6, 0, none⟩ = some (.pointer (some ⟨s + 1, 0, none⟩)) := h.st.cell 0
theorem GB.c1 (h : GB w s n K W O m f) : w.cell? ⟨s + 6, 1, none⟩ = some (.slice (some ⟨s + 4, 0, none⟩) n n) := h.st.cell 1
theorem GB.c2 (h : GB w s n K W O m f) : w.cell? ⟨s + 6, 2, none⟩ = some (.pointer (some ⟨ga s n n + 1, 0, none⟩)) := by rw [ga_free]; exact h.st.cell 2
theorem GB.c3 (h : GB w s n K W O m f) : w.cell? ⟨s + 6, 3, none⟩ = some (.map (some (s + 5))) := h.st.cell 3
theorem GB.cq (h : GB w s n K W O m f) {c : Nat} (hc : c < n) : w.cell? ⟨s + 4, c, none⟩ = some (.pointer (some ⟨ga s n c + 1, 0, none⟩)) := by
  rw [h.tb.cell c, qtab_get _ _ _ hc]
theorem GB.heap {w1 : World} (h : GB w s n K W O m f) (e : w1.heap = w.heap) : GB w1 s n K W O m f := ⟨h.st.heap e, h.tb.heap e, h.sl.heap e, h.mp.same (by rw [e]), h.qs.heap e, h.kn, h.n1, h.n2⟩
theorem GB.keep {B : Nat} {S : List Nat} (h : GB w s n K W O m f) (k : Fr B S w w') (hB : w.heap.size ≤ B) (hS : ∀ k, s ≤ k → k < s + (7 + 2 * n) → k ∉ S) : GB w' s n K W O m f := by
  have hi := h.hi
  refine ⟨h.st.keep k (by omega) (hS _ (by omega) (by omega)), h.tb.keep k (by omega) (hS _ (by omega) (by omega)), h.sl.keep k ⟨by omega, by omega⟩ ⟨hS _ (by omega) (by omega), hS _ (by omega) (by omega)⟩, h.mp.keep k (by omega) (hS _ (by omega) (by omega)), h.qs.keep k hB fun c hc => ?_, h.kn, h.n1, h.n2⟩
  obtain ⟨h1, h2, _⟩ := ga_in (s := s) (n := n) (c := c) (by omega)
  exact ⟨hS _ (by omega) (by omega), hS _ (by omega) (by omega)⟩
/-- One queue has turned. -/
theorem GB.put (h : GB w s n K W O m f) {c : Nat} (hc : c ≤ n) {X : List Int} (q : QB w' (ga s n c) X) (k : Fr w.heap.size [ga s n c + 1, ga s n c] w w') : GB w' s n (K.set c X) W O m f ∧ Fr w.heap.size (gz s n) w w' := by
  have hi := h.hi
  obtain ⟨h1, h2, h3⟩ := ga_in (s := s) (n := n) (c := c) hc
  have nz : ∀ k, (k < s + 2 ∨ (s + 4 ≤ k ∧ k < s + 7)) → k ∉ [ga s n c + 1, ga s n c] := fun k hk e => by simp at e; omega
  refine ⟨⟨h.st.keep k (by omega) (nz _ (by omega)), h.tb.keep k (by omega) (nz _ (by omega)), h.sl.keep k ⟨by omega, by omega⟩ ⟨nz _ (by omega), nz _ (by omega)⟩, h.mp.keep k (by omega) (nz _ (by omega)), h.qs.put (by rw [h.kn]; omega) (fun d hd e => ga_sep hc (by omega) e) q k, by simp [h.kn], h.n1, h.n2⟩, k.mono (Nat.le_refl _) fun k _ hk e => hk ((mem_gz s _ k).2 (by simp at e; omega))⟩
/-- The numbers have turned. -/
theorem GB.slot (h : GB w s n K W O m f) {W' : List Nat} {O' : Nat → Bool} (q : T w' (s + 1) s 32 W' O') (k : Fr w.heap.size [s + 1, s] w w') : GB w' s n K W' O' m f ∧ Fr w.heap.size (gz s n) w w' := by
  have hi := h.hi
  have nz : ∀ k, s + 2 ≤ k → k ∉ [s + 1, s] := fun k hk e => by simp at e; omega
  refine ⟨⟨h.st.keep k (by omega) (nz _ (by omega)), h.tb.keep k (by omega) (nz _ (by omega)), q, h.mp.keep k (by omega) (nz _ (by omega)), h.qs.keep k (Nat.le_refl _) fun c hc => ?_, h.kn, h.n1, h.n2⟩, k.mono (Nat.le_refl _) fun k _ hk e => hk ((mem_gz s _ k).2 (by simp at e; omega))⟩
  obtain ⟨h1, _, _⟩ := ga_in (s := s) (n := n) (c := c) (by omega)
  exact ⟨nz _ (by omega), nz _ (by omega)⟩
/-- The map has turned. -/
theorem GB.map (h : GB w s n K W O m f) {m' : Nat} {f' : Int → Option Int} (q : MQ 3 w' (s + 5) m' f') (k : Fr w.heap.size [s + 5] w w') : GB w' s n K W O m' f' ∧ Fr w.heap.size (gz s n) w w' := by
  have hi := h.hi
  refine ⟨⟨h.st.keep k (by omega) (by simp), h.tb.keep k (by omega) (by simp), h.sl.keep k ⟨by omega, by omega⟩ ⟨by simp, by simp⟩, q, h.qs.keep k (Nat.le_refl _) fun c hc => ?_, h.kn, h.n1, h.n2⟩, k.mono (Nat.le_refl _) fun k _ hk e => hk ((mem_gz s _ k).2 (by simp at e; omega))⟩
  obtain ⟨_, _, h3⟩ := ga_in (s := s) (n := n) (c := c) (by omega)
  exact ⟨by simp; omega, by simp; omega⟩
end

/-- Lists of n cores. -/
def GX (w : World) (s n : Nat) (K : Ks) : Prop := ∃ W O, GB w s n K W O (cnt (oc K)) (wq n K) ∧ Al K ∧ ∀ i, 1 ≤ i → i ≤ 32 → O i = oc K i
theorem GX.heap {w w1 : World} {s n : Nat} {K : Ks} (h : GX w s n K) (e : w1.heap = w.heap) : GX w1 s n K := by
  obtain ⟨W, O, b, a, o⟩ := h
  exact ⟨W, O, b.heap e, a, o⟩
theorem GX.keep {B : Nat} {S : List Nat} {w w' : World} {s n : Nat} {K : Ks} (h : GX w s n K) (f : Fr B S w w') (hB : w.heap.size ≤ B) (hS : ∀ k, s ≤ k → k < s + (7 + 2 * n) → k ∉ S) : GX w' s n K := by
  obtain ⟨W, O, b, a, o⟩ := h
  exact ⟨W, O, b.keep f hB hS, a, o⟩
theorem GX.below {w w' : World} {s n : Nat} {K : Ks} (h : GX w s n K) (f : Below w.heap.size w w') : GX w' s n K := h.keep (Fr.of_below f) (Nat.le_refl _) (by simp)
theorem GX.hi {w : World} {s n : Nat} {K : Ks} (h : GX w s n K) : s + (7 + 2 * n) ≤ w.heap.size := by
  obtain ⟨W, O, b, a, o⟩ := h
  exact b.hi
theorem GX.al {w : World} {s n : Nat} {K : Ks} (h : GX w s n K) : Al K := by
  obtain ⟨W, O, b, a, o⟩ := h
  exact a
theorem GX.kn {w : World} {s n : Nat} {K : Ks} (h : GX w s n K) : K.length = n + 1 := by
  obtain ⟨W, O, b, a, o⟩ := h
  exact b.kn

/-- The queue of a core. -/
theorem gon_yes {w : World} {t tb n a : Nat} (c : Nat) (hc : (c : Int) < n) (c1 : w.cell? ⟨t, 1, none⟩ = some (.slice (some ⟨tb, 0, none⟩) n n)) (cw : w.cell? ⟨tb, c, none⟩ = some (.pointer (some ⟨a, 0, none⟩))) :
    Calls Tryd.prog 52 #[.pointer (some ⟨t, 0, none⟩), .int .i64 (c : Int)] w fun e w' => e = .returned (.tuple #[.pointer (some ⟨a, 0, none⟩), .int .i64 0]) ∧ w' = w := by
  go_enter Tryd.func52, Tryd.ntmps52
  go_wp2
  go_ret2
  exact ⟨rfl, rfl⟩
theorem gon_no {w : World} {t tb n : Nat} (c : Int) (hc : isc n c = false) (c1 : w.cell? ⟨t, 1, none⟩ = some (.slice (some ⟨tb, 0, none⟩) n n)) :
    Calls Tryd.prog 52 #[.pointer (some ⟨t, 0, none⟩), .int .i64 c] w fun e w' => e = .returned (.tuple #[.pointer none, .int .i64 3]) ∧ w' = w := by
  rcases isc_false hc with q | ⟨q, q2⟩
  · clear hc
    go_enter Tryd.func52, Tryd.ntmps52
    go_wp2
    go_ret2
    exact ⟨rfl, rfl⟩
  · clear hc
    go_enter Tryd.func52, Tryd.ntmps52
    go_wp2
    go_ret2
    exact ⟨rfl, rfl⟩
theorem gon_nil {w : World} (c : Int) :
    Calls Tryd.prog 52 #[.pointer none, .int .i64 c] w fun e w' => e = .returned (.tuple #[.pointer none, .int .i64 1]) ∧ w' = w := by
  go_enter Tryd.func52, Tryd.ntmps52
  go_wp2
  go_ret2
  exact ⟨rfl, rfl⟩

/-- The queue of a list. -/
theorem glist_yes {w : World} {s n k : Nat} {K : Ks} {W : List Nat} {O : Nat → Bool} {m : Nat} {f : Int → Option Int} (c : Int) (h : GB w s n K W O m f) (hp : pc n c = some k) :
    Calls Tryd.prog 45 #[.pointer (some ⟨s + 6, 0, none⟩), .int .i64 c] w fun e w' => e = .returned (.tuple #[.pointer (some ⟨ga s n k + 1, 0, none⟩), .int .i64 0]) ∧ w' = w := by
  unfold pc at hp
  by_cases e : c = -1
  · rw [if_pos e] at hp
    obtain rfl : n = k := by injection hp
    have c2 := h.c2
    subst e
    generalize ga s n n + 1 = a at *
    clear h hp
    go_enter Tryd.func45, Tryd.ntmps45
    go_wp2
    go_ret2
    exact ⟨rfl, rfl⟩
  · rw [if_neg e] at hp
    cases i : isc n c with
    | false =>
      rw [i, if_neg (by decide)] at hp
      cases hp
    | true =>
      rw [i, if_pos rfl] at hp
      obtain ⟨q, rfl, hq, hq2⟩ := isc_nat i
      obtain rfl : q = k := by injection hp
      have C : Hid (∀ _ : Unit, _) := fun _ => gon_yes q hq2 h.c1 (h.cq hq)
      have e2 : ((q : Int) == -1) = false := by simp
      generalize ga s n q + 1 = a at *
      clear h hp i e
      go_enter Tryd.func45, Tryd.ntmps45
      go_wp2_with fail
      refine (C.out ()).mono ?_
      rintro e w' ⟨rfl, rfl⟩
      go_wp2
      go_ret2
      exact ⟨rfl, rfl⟩
theorem glist_no {w : World} {s n : Nat} {K : Ks} {W : List Nat} {O : Nat → Bool} {m : Nat} {f : Int → Option Int} (c : Int) (h : GB w s n K W O m f) (hp : pc n c = none) :
    Calls Tryd.prog 45 #[.pointer (some ⟨s + 6, 0, none⟩), .int .i64 c] w fun e w' => e = .returned (.tuple #[.pointer none, .int .i64 3]) ∧ w' = w := by
  unfold pc at hp
  by_cases e : c = -1
  · rw [if_pos e] at hp
    cases hp
  · rw [if_neg e] at hp
    cases i : isc n c with
    | true =>
      rw [i, if_pos rfl] at hp
      cases hp
    | false =>
      have C : Hid (∀ _ : Unit, _) := fun _ => gon_no c i h.c1
      have e2 : (c == -1) = false := by simpa using e
      clear h hp i e
      go_enter Tryd.func45, Tryd.ntmps45
      go_wp2_with fail
      refine (C.out ()).mono ?_
      rintro e w' ⟨rfl, rfl⟩
      go_wp2
      go_ret2
      exact ⟨rfl, rfl⟩
theorem glist_nil {w : World} (c : Int) :
    Calls Tryd.prog 45 #[.pointer none, .int .i64 c] w fun e w' => e = .returned (.tuple #[.pointer none, .int .i64 1]) ∧ w' = w := by
  have C : Hid (∀ _ : Unit, _) := fun _ => gon_nil (w := w) c
  go_enter Tryd.func45, Tryd.ntmps45
  go_wp2_with fail
  refine (C.out ()).mono ?_
  rintro e w' ⟨rfl, rfl⟩
  go_wp2
  go_ret2
  exact ⟨rfl, rfl⟩

set_option maxHeartbeats 400000 in
theorem gwhere_any {w : World} {s n : Nat} {K : Ks} (id : Int) (hi : (Lit.int .i64 id).wf = true) (h : GX w s n K) :
    Calls Tryd.prog 13 #[.pointer (some ⟨s + 6, 0, none⟩), .int .i64 id] w fun e w' => e = .returned (.tuple #[.int .i64 (whN n K id), .bool (haB K id)]) ∧ w' = w := by
  obtain ⟨W, O, b, a, o⟩ := h
  have c3 := b.c3
  have l := look3 b.mp hi
  rw [wq_some] at l
  unfold whN haB
  generalize (wq n K id).getD 0 = x at *
  generalize (onc K id).isSome = y at *
  clear b a o hi
  go_enter Tryd.func13, Tryd.ntmps13
  go_wp2
  go_ret2
  exact ⟨rfl, rfl⟩
theorem ghas_any {w : World} {s n : Nat} {K : Ks} (id : Int) (hi : (Lit.int .i64 id).wf = true) (h : GX w s n K) :
    Calls Tryd.prog 15 #[.pointer (some ⟨s + 6, 0, none⟩), .int .i64 id] w fun e w' => e = .returned (.bool (haB K id)) ∧ w' = w := by
  have C : Hid (∀ _ : Unit, _) := fun _ => gwhere_any id hi h
  generalize whN n K id = x at *
  generalize haB K id = y at *
  clear h hi
  go_enter Tryd.func15, Tryd.ntmps15
  go_wp2_with fail
  refine (C.out ()).mono ?_
  rintro e w' ⟨rfl, rfl⟩
  go_wp2
  go_ret
  exact ⟨rfl, rfl⟩

set_option maxHeartbeats 400000 in
theorem gload_any {w : World} {s n : Nat} {K : Ks} (c : Int) (h : GX w s n K) :
    Calls Tryd.prog 19 #[.pointer (some ⟨s + 6, 0, none⟩), .int .i64 c] w fun e w' => e = .returned (.int .i64 ((wlL n K c).length : Int)) ∧ w' = w := by
  obtain ⟨W, O, b, a, o⟩ := h
  unfold wlL
  cases e : pc n c with
  | none =>
    have C : Hid (∀ _ : Unit, _) := fun _ => glist_no c b e
    have D : Hid (∀ w, _) := fun w => nil_len w
    show Calls _ _ _ _ fun e w' => e = .returned (.int .i64 0) ∧ w' = w
    clear b a o e
    go_enter Tryd.func19, Tryd.ntmps19
    go_wp2_with fail
    refine (C.out ()).mono ?_
    rintro e w' ⟨rfl, rfl⟩
    go_wp2_with fail
    refine (D.out _).mono ?_
    rintro e w' ⟨rfl, rfl⟩
    go_wp2
    go_ret
    exact ⟨rfl, rfl⟩
  | some k =>
    have C : Hid (∀ _ : Unit, _) := fun _ => glist_yes c b e
    have D : Hid (∀ _ : Unit, _) := fun _ => qlen_any (b.qs k (by have := pc_lt e; omega))
    show Calls _ _ _ _ fun e w' => e = .returned (.int .i64 ((ks K k).length : Int)) ∧ w' = w
    generalize (ks K k).length = l at *
    clear b a o e
    go_enter Tryd.func19, Tryd.ntmps19
    go_wp2_with fail
    refine (C.out ()).mono ?_
    rintro e w' ⟨rfl, rfl⟩
    go_wp2_with fail
    refine (D.out ()).mono ?_
    rintro e w' ⟨rfl, rfl⟩
    go_wp2
    go_ret
    exact ⟨rfl, rfl⟩

set_option maxHeartbeats 400000 in
theorem glist_any {w : World} {s n : Nat} {K : Ks} (c : Int) (h : GX w s n K) :
    Calls Tryd.prog 17 #[.pointer (some ⟨s + 6, 0, none⟩), .int .i64 c] w fun e w' => ∃ v, e = .returned v ∧ w'.ownsRow w.heap.size 3 1 v (wlL n K c).length ((wlL n K c).map (Value.int .i64)) ∧ Below w.heap.size w w' := by
  obtain ⟨W, O, b, a, o⟩ := h
  unfold wlL
  cases e : pc n c with
  | none =>
    have C : Hid (∀ _ : Unit, _) := fun _ => glist_no c b e
    have D : Hid (∀ w, _) := fun w => nil_list w
    have F : Hid (w.ownsRow w.heap.size 3 1 (.slice none 0 0) ([] : List Int).length (([] : List Int).map (Value.int .i64)) ∧ Below w.heap.size w w) := ⟨World.ownsRow_nil _ _ _ _, Below.refl _ _⟩
    clear b a o e
    go_enter Tryd.func17, Tryd.ntmps17
    go_wp2_with fail
    refine (C.out ()).mono ?_
    rintro e w' ⟨rfl, rfl⟩
    go_wp2_with fail
    refine (D.out _).mono ?_
    rintro e w' ⟨rfl, rfl⟩
    go_wp2
    go_ret
    exact ⟨_, rfl, F.out⟩
  | some k =>
    have C : Hid (∀ _ : Unit, _) := fun _ => glist_yes c b e
    have D : Hid (∀ _ : Unit, _) := fun _ => qlist_any (b.qs k (by have := pc_lt e; omega))
    clear b a o e
    go_enter Tryd.func17, Tryd.ntmps17
    go_wp2_with fail
    refine (C.out ()).mono ?_
    rintro e w' ⟨rfl, rfl⟩
    go_wp2_with fail
    refine (D.out ()).mono ?_
    rintro e w2 ⟨v, rfl, q⟩
    have F : Hid _ := q
    clear q
    go_wp2
    go_ret
    exact ⟨_, rfl, F.out⟩

/-- A number that has left its queue is free: what forget does of it. -/
theorem forget_yes {w : World} {s n : Nat} {K K' : Ks} {W : List Nat} {O : Nat → Bool} (id : Int) (b : GB w s n K' W O (cnt (oc K)) (wq n K)) (a : Al K) (a' : Al K') (o : ∀ i, 1 ≤ i → i ≤ 32 → O i = oc K i) {c : Nat} (hc : onc K id = some c) (e' : ∀ j, onc K' j = if j = id then none else onc K j) :
    Calls Tryd.prog 54 #[.pointer (some ⟨s + 6, 0, none⟩), .int .i64 id] w fun e w' => e = .returned (.int .i64 0) ∧ GX w' s n K' ∧ Fr w.heap.size (gz s n) w w' := by
  have hr := a.rg c id (onc_spec hc)
  have hi := wf_small id (by omega) (by omega)
  obtain ⟨w1, r1, M1, f1⟩ := mq_del (tm := 64) Tryd.underlying64 b.mp hi (by rw [wq_some, hc]; rfl) 0
  obtain ⟨b1, v1⟩ := b.map M1 f1
  have c3 := b.c3
  have d0 := b1.c0
  have t1 : ((id.toNat : Nat) : Int) = id := by omega
  have h1 : oc K id.toNat = true := by unfold oc; rw [t1, hc]; rfl
  have h2 : oc K' id.toNat = false := by unfold oc; rw [t1, e', if_pos rfl]; rfl
  have h3 : ∀ j, j ≠ id.toNat → oc K j = oc K' j := fun j hj => by unfold oc; rw [e', if_neg (by omega)]
  have hs1 : hs 32 O id = true := by rw [hs_is a o]; unfold haB; rw [hc]; rfl
  have ST : Hid (Calls Tryd.prog 58 #[.pointer (some ⟨s + 1, 0, none⟩), .int .i64 id] w1 fun e w' => e = .returned (.int .i64 0) ∧ GX w' s n K' ∧ Fr w.heap.size (gz s n) w w') := by
    refine (sgive_any id w1 b1.sl).mono ?_
    rintro e w3 ⟨rfl, ⟨W', q3⟩, f3⟩
    obtain ⟨b3, v3⟩ := b1.slot q3 f3
    refine ⟨by unfold gE; rw [if_pos hs1], ⟨W', gO 32 O id, ?_, a', fun i i1 i2 => ?_⟩, v1.trans (v3.less v1.size)⟩
    · have e3 : cnt (oc K) = cnt (oc K') + 1 := cnt_in (by omega) (by omega) h3 h1 h2
      have e4 : (fun j => if j = id then none else wq n K j) = wq n K' := funext fun j => by
        unfold wq
        rw [e']
        split <;> rfl
      rw [e3, Nat.add_sub_cancel, e4] at b3
      exact b3
    · unfold gO
      rw [if_pos hs1]
      unfold st
      by_cases q : i = id.toNat
      · rw [if_pos q, q, h2]
      · rw [if_neg q, o i i1 i2, h3 i q]
  clear M1 f1 b1 v1 b a a' o hc hr hi h1 h2 h3 hs1 t1 e'
  go_enter Tryd.func54, Tryd.ntmps54
  go_wp2_with fail
  refine ST.out.mono ?_
  rintro e w3 ⟨rfl, FF⟩
  have FH : Hid _ := FF
  clear FF
  go_wp2
  go_ret
  exact ⟨rfl, FH.out⟩
end Go.Proofs.YtofdhljgchefgaaDoor
