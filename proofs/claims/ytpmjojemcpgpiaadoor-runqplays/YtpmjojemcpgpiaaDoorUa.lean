/- Queues of cores as they lie in memory, with the map of where each thing is; what runq's isCore, Where, Load, List and Prio answer. -/
import Derived.Test.YtpmjojemcpgpiaaDoorRows
import Derived.Test.YtpmjojemcpgpiaaDoorQe
import Derived.Test.YtpmjojemcpgpiaaDoorUm
import Derived.WalkKit
import Derived.ProofKit
import Derived.OpenShut
import Derived.BigQuiet
import Derived.Maps.OwnSet
namespace Go.Proofs.YtpmjojemcpgpiaaDoor
open Go.ChangeShapes Go.WideShapes Go.ChangeAt Go.RowKit
open Fm Qm

theorem law3 : Maps.Keyed Tryd.prog 3 := Maps.int_keyed Tryd.underlying3
theorem zero3 (w : World) : (zeroValue 3).run Tryd.prog w = .ok (.int .i64 0) w := by kernel_rfl

/-- The map at block b, of at most n entries, says of each thing which core it is on. -/
def MP (w : World) (b n : Nat) (f : Int → Option Nat) : Prop :=
  ∃ D : DataW Unit, w.ownsMap Tryd.prog 3 (plainElem Tryd.prog 3) b n D ∧ ∀ id, (Lit.int .i64 id).wf = true → Maps.has D (.int .i64 id) = (f id).isSome ∧ D.atKey (.int .i64 id) (.lit (.int .i64 0)) = .lit (.int .i64 (((f id).map fun c : Nat => (c : Int)).getD 0))

theorem MP.lt {w : World} {b n : Nat} {f : Int → Option Nat} (h : MP w b n f) : b < w.heap.size := by obtain ⟨D, o, _⟩ := h; exact o.lt
theorem MP.same {w w' : World} {b n : Nat} {f : Int → Option Nat} (h : MP w b n f) (e : w'.heap[b]? = w.heap[b]?) : MP w' b n f := by
  obtain ⟨D, ⟨es, clock, hb, rest⟩, k⟩ := h
  exact ⟨D, ⟨es, clock, e.trans hb, rest⟩, k⟩
theorem MP.keep {B : Nat} {S : List Nat} {w w' : World} {b n : Nat} {f : Int → Option Nat} (h : MP w b n f) (k : Fr B S w w') (hb : b < B) (hs : b ∉ S) : MP w' b n f := h.same (k.block b hb hs)
theorem MP.blk {w : World} {b n : Nat} {f : Int → Option Nat} (h : MP w b n f) {g : Nat} {cs : List Value} {t : TypeId} (k : Blk w g cs t) : b ≠ g := by
  intro e
  subst e
  obtain ⟨D, ⟨es, clock, hb, _⟩, _⟩ := h
  have := (show w.heap[b]? = _ from k).symm.trans hb
  cases this

theorem mp_look {w : World} {b n : Nat} {f : Int → Option Nat} (h : MP w b n f) {id : Int} (hw : (Lit.int .i64 id).wf = true) :
    (Instr.lookup 47 (.map (some b)) (.int .i64 id) true).run Tryd.prog w = .ok (.tuple #[.int .i64 (((f id).map fun c : Nat => (c : Int)).getD 0), .bool (f id).isSome]) w := by
  obtain ⟨D, o, k⟩ := h
  obtain ⟨v, ps, hrun, hv⟩ := o.look_ok law3 Tryd.underlying47 (zero3 w) (plainElem_int Tryd.underlying3 (by decide)) (Maps.keyOf_int_mk Tryd.underlying3 hw)
  obtain ⟨k1, k2⟩ := k id hw
  rw [k2] at hv
  obtain ⟨c, rfl, hc, _⟩ := plainElem_int_inv Tryd.underlying3 hv
  have e := congrArg Prod.fst hc
  simp only [DataW.lit.injEq, Lit.int.injEq, true_and] at e
  rw [hrun, k1, e]

theorem mp_put {w : World} {b n : Nat} {f : Int → Option Nat} (h : MP w b n f) (hn : n ≤ 100000) {id : Int} (hw : (Lit.int .i64 id).wf = true) (c : Nat) (hc : c ≤ 64) :
    ∃ w', (Instr.mapUpdate 47 (.map (some b)) (.int .i64 id) (.int .i64 (c : Int))).run Tryd.prog w = .ok () w' ∧ MP w' b (n + 1) (setO f id (some c)) ∧ w.grownBy w' (some b) := by
  obtain ⟨D, o, k⟩ := h
  have hwc : (Lit.int .i64 (c : Int)).wf = true := by
    simp [Lit.wf, IntKind.min, IntKind.max, IntKind.signed, IntKind.bits]
    omega
  obtain ⟨w', hrun, r1, r2⟩ := o.update law3 Tryd.underlying47 (by unfold maxLen; omega) (Maps.keyOf_int_mk Tryd.underlying3 hw) (plainElem_int Tryd.underlying3 hwc)
  refine ⟨w', hrun, ⟨_, r1, fun j hj => ?_⟩, r2⟩
  unfold setO
  by_cases e : j = id
  · subst e
    rw [if_pos rfl]
    have kl : WideAt.IsKeyLit (Lit.int .i64 j) := trivial
    exact ⟨Maps.has_put_same o.isMap kl _, Maps.atKey_put_same o.isMap kl _ _⟩
  · rw [if_neg e]
    have ne : (Lit.int .i64 j) ≠ Lit.int .i64 id := fun q => e (by cases q; rfl)
    rw [Maps.has_put_other ne, Maps.atKey_put_other ne]
    exact k j hj

/-- Where core c's queue lies; the pointers to all. -/
def qa (s c : Nat) : Nat := s + 3 + 17 * c
def qp (s c : Nat) : Value := .pointer (some ⟨s + 3 + 17 * c, 0, none⟩)
def rz (s n : Nat) : List Nat := List.range' s (3 + 17 * n)
theorem mem_rz (s n k : Nat) : k ∈ rz s n ↔ s ≤ k ∧ k < s + (3 + 17 * n) := by unfold rz; rw [List.mem_range'_1]

/-- The queues of n cores, the table of them at block s, the struct at s + 2. -/
structure RB (w : World) (s n : Nat) (K : Ks) : Prop where
  st : Blk w (s + 2) [.slice (some ⟨s, 0, none⟩) n n, .map (some (s + 1))] 49
  tb : Blk w s ((List.range n).map (qp s)) 50
  qs : ∀ c, c < n → PQ w (qa s c) 32 (K c)
  n1 : 1 ≤ n
  n2 : n ≤ 64
structure RR (w : World) (s n m : Nat) (K : Ks) : Prop where
  rb : RB w s n K
  mp : MP w (s + 1) m (onc n K)
  al : Al n K

theorem RB.hi {w : World} {s n : Nat} {K : Ks} (h : RB w s n K) : s + (3 + 17 * n) ≤ w.heap.size := by
  have := (h.qs (n - 1) (by have := h.n1; omega)).hi
  have := h.n1
  unfold qa at *
  omega
theorem RB.c0 {w : World} {s n : Nat} {K : Ks} (h : RB w s n K) : w.cell? ⟨s + 2, 0, none⟩ = some (.slice (some ⟨s, 0, none⟩) n n) := h.st.cell 0
theorem RB.c1 {w : World} {s n : Nat} {K : Ks} (h : RB w s n K) : w.cell? ⟨s + 2, 1, none⟩ = some (.map (some (s + 1))) := h.st.cell 1
theorem RB.cq {w : World} {s n : Nat} {K : Ks} (h : RB w s n K) {c : Nat} (hc : c < n) : w.cell? ⟨s, c, none⟩ = some (.pointer (some ⟨qa s c, 0, none⟩)) := by
  rw [h.tb.cell c, List.getElem?_map, List.getElem?_range hc]
  rfl
theorem RB.keep {B : Nat} {S : List Nat} {w w' : World} {s n : Nat} {K : Ks} (h : RB w s n K) (f : Fr B S w w') (hB : s + (3 + 17 * n) ≤ B) (hS : ∀ k, s ≤ k → k < s + (3 + 17 * n) → k ≠ s + 1 → k ∉ S) : RB w' s n K := by
  have := h.n1
  refine ⟨h.st.keep f (by omega) (hS _ (by omega) (by omega) (by omega)), h.tb.keep f (by omega) (hS _ (by omega) (by omega) (by omega)), fun c hc => ?_, h.n1, h.n2⟩
  exact (h.qs c hc).keep f (by unfold qa; omega) fun k h1 h2 => hS k (by unfold qa at h1; omega) (by unfold qa at h2; omega) (by unfold qa at h1; omega)
/-- One core's queue has turned. -/
theorem RB.put {w w' : World} {s n c : Nat} {K : Ks} {X : Its} (h : RB w s n K) (hc : c < n) (q : PQ w' (qa s c) 32 X) (f : Fr w.heap.size (zn (qa s c)) w w') : RB w' s n (up K c X) := by
  have hi := h.hi
  have nz : ∀ k, k < qa s c ∨ qa s c + 17 ≤ k → k ∉ zn (qa s c) := fun k hk e => by have := (mem_zn _ _).1 e; omega
  refine ⟨h.st.keep f (by have := h.st.lt; omega) (nz _ (by unfold qa; omega)), h.tb.keep f (by have := h.tb.lt; omega) (nz _ (by unfold qa; omega)), fun d hd => ?_, h.n1, h.n2⟩
  by_cases e : d = c
  · subst e
    rw [up_same]
    exact q
  · rw [up_other _ e]
    exact (h.qs d hd).keep f (h.qs d hd).hi fun k h1 h2 => nz k (by unfold qa at *; omega)
theorem fr_rz {w w' : World} {s n c : Nat} (hc : c < n) (f : Fr w.heap.size (zn (qa s c)) w w') : Fr w.heap.size (rz s n) w w' :=
  f.mono (Nat.le_refl _) fun k _ hk e => hk ((mem_rz s n k).2 (by have := (mem_zn _ _).1 e; unfold qa at this; omega))
theorem RR.mp_zn {w w' : World} {s c m : Nat} {f : Int → Option Nat} (h : MP w (s + 1) m f) (k : Fr w.heap.size (zn (qa s c)) w w') : MP w' (s + 1) m f :=
  h.keep k h.lt fun e => by have := (mem_zn _ _).1 e; unfold qa at this; omega
theorem RR.below {w w' : World} {s n m : Nat} {K : Ks} (h : RR w s n m K) (f : Below w.heap.size w w') : RR w' s n m K :=
  ⟨h.rb.keep (Fr.of_below f) h.rb.hi (fun _ _ _ _ => by simp), h.mp.keep (Fr.of_below f) h.mp.lt (by simp), h.al⟩
theorem RR.heap {w w1 : World} {s n m : Nat} {K : Ks} (h : RR w s n m K) (e : w1.heap = w.heap) : RR w1 s n m K :=
  ⟨⟨h.rb.st.heap e, h.rb.tb.heap e, fun c hc => (h.rb.qs c hc).heap e, h.rb.n1, h.rb.n2⟩, h.mp.same (by rw [e]), h.al⟩

theorem isc_yes {w : World} {s n : Nat} {K : Ks} (c : Nat) (hc : (c : Int) < n) (h : RB w s n K) :
    Calls Tryd.prog 35 #[.pointer (some ⟨s + 2, 0, none⟩), .int .i64 (c : Int)] w fun e w' => e = .returned (.bool true) ∧ w' = w := by
  have c0 := h.c0
  clear h
  go_enter Tryd.func35, Tryd.ntmps35
  go_wp2
  go_ret
  exact ⟨rfl, rfl⟩
theorem isc_no {w : World} {s n : Nat} {K : Ks} (c : Int) (hc : ¬ isC n c) (h : RB w s n K) :
    Calls Tryd.prog 35 #[.pointer (some ⟨s + 2, 0, none⟩), .int .i64 c] w fun e w' => e = .returned (.bool false) ∧ w' = w := by
  have c0 := h.c0
  clear h
  unfold isC at hc
  by_cases c1 : c < 0
  · clear hc
    go_enter Tryd.func35, Tryd.ntmps35
    go_wp2
    go_ret
    exact ⟨rfl, rfl⟩
  · have c2 : (n : Int) ≤ c := by omega
    have c3 : decide (c < (n : Int)) = false := decide_eq_false (by omega)
    clear hc
    go_enter Tryd.func35, Tryd.ntmps35
    go_wp2
    go_ret
    exact ⟨rfl, rfl⟩

set_option maxRecDepth 100000 in
set_option maxHeartbeats 1000000 in
theorem where_any {w : World} {s n m : Nat} {K : Ks} (id : Int) (hw : (Lit.int .i64 id).wf = true) (h : RR w s n m K) :
    Calls Tryd.prog 8 #[.pointer (some ⟨s + 2, 0, none⟩), .int .i64 id] w fun e w' => e = .returned (.tuple #[.int .i64 (whN n K id), .bool (whB n K id)]) ∧ w' = w := by
  have c1 := h.rb.c1
  have hl := mp_look h.mp hw
  unfold whN whB
  generalize ((onc n K id).map fun c : Nat => (c : Int)).getD 0 = a at *
  generalize (onc n K id).isSome = b at *
  clear h hw
  go_enter Tryd.func8, Tryd.ntmps8
  go_wp2
  go_ret2
  exact ⟨rfl, rfl⟩

/-- How many things a core has. -/
def loN (n : Nat) (K : Ks) (c : Int) : Int := if isC n c then ((K c.toNat).length : Int) else 0
/-- Its things, in order. -/
def liL (n : Nat) (K : Ks) (c : Int) : List Int := if isC n c then cat (K c.toNat) else []

set_option maxRecDepth 100000 in
set_option maxHeartbeats 1000000 in
theorem load_any {w : World} {s n m : Nat} {K : Ks} (c : Int) (h : RR w s n m K) :
    Calls Tryd.prog 12 #[.pointer (some ⟨s + 2, 0, none⟩), .int .i64 c] w fun e w' => e = .returned (.int .i64 (loN n K c)) ∧ w' = w := by
  by_cases hc : isC n c
  · rw [show loN n K c = ((K c.toNat).length : Int) from if_pos hc]
    obtain ⟨k, rfl⟩ : ∃ k : Nat, c = (k : Int) := ⟨c.toNat, by unfold isC at hc; omega⟩
    have hk : (k : Int) < n := hc.2
    rw [Int.toNat_natCast]
    have C : Hid (∀ _ : Unit, _) := fun _ => isc_yes k hk h.rb
    have D : Hid (∀ _ : Unit, _) := fun _ => plen_any w (h.rb.qs k (by omega))
    have c0 := h.rb.c0
    have cq := h.rb.cq (c := k) (by omega)
    generalize (K k).length = l at *
    clear h hc
    go_enter Tryd.func12, Tryd.ntmps12
    go_wp2_with fail
    refine (C.out ()).mono ?_
    rintro e w' ⟨rfl, rfl⟩
    go_wp2_with fail
    refine (D.out ()).mono ?_
    rintro e w' ⟨rfl, rfl⟩
    go_wp2
    go_ret
    exact ⟨rfl, rfl⟩
  · rw [show loN n K c = 0 from if_neg hc]
    have C : Hid (∀ _ : Unit, _) := fun _ => isc_no c hc h.rb
    clear h hc
    go_enter Tryd.func12, Tryd.ntmps12
    go_wp2_with fail
    refine (C.out ()).mono ?_
    rintro e w' ⟨rfl, rfl⟩
    go_wp2
    go_ret
    exact ⟨rfl, rfl⟩
end Go.Proofs.YtpmjojemcpgpiaaDoor
