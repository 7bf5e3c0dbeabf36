/- Threads of the program in a list that a loop gathers by append. -/
import Derived.Test.YtghnpmkibnggeaaDoorRows
import Derived.Test.YtghnpmkibnggeaaDoorFz
import Derived.Test.YtghnpmkibnggeaaDoorTa
import Derived.WalkKit
import Derived.ProofKit
import Derived.OpenShut
import Derived.BigQuiet
namespace Go.Proofs.YtghnpmkibnggeaaDoor
open Go.ChangeShapes Go.WideShapes Go.ChangeAt Go.RowKit
open Mm Sl Tm

theorem Tryd.infoPt : (Tryd.prog.info? 40).map (fun i => (i.zero, i.size, i.bytes)) = some (some (.agg #[.int .i64 0, .int .u64 0, .int .i64 0, .bool false, .bool false, .int .i64 0]), 6, 40) := by kernel_rfl

def t6 (t : Th) : List Value := [.int .i64 t.prio, .int .u64 (t.mask : Int), .int .i64 t.cpu, .bool t.forced, .bool t.sleeps, .int .i64 t.timer]
def f6 (L : List Th) : List Value := L.flatMap t6
theorem f6_cons (x : Th) (Y : List Th) : f6 (x :: Y) = t6 x ++ f6 Y := rfl
theorem f6_app (X Y : List Th) : f6 (X ++ Y) = f6 X ++ f6 Y := by unfold f6; rw [List.flatMap_append]
theorem f6_at (Y : List Th) (k j : Nat) (h : k < Y.length) (hj : j < 6) : (f6 Y)[k * 6 + j]? = (t6 (Y.getD k zt))[j]? := by
  induction Y generalizing k with
  | nil => simp at h
  | cons x r ih =>
    rw [f6_cons]
    cases k with
    | zero => rw [List.getElem?_append_left (by show 0 * 6 + j < 6; omega), Nat.zero_mul, Nat.zero_add]; rfl
    | succ k =>
      rw [List.getElem?_append_right (by show 6 ≤ (k + 1) * 6 + j; omega), show (k + 1) * 6 + j - (t6 x).length = k * 6 + j by show (k + 1) * 6 + j - 6 = _; omega, ih k (by simpa using h)]
      rfl

/-- What has been gathered so far: v owns it; nothing that was there has turned. -/
structure WG (w wr : World) (v : Value) (L : List Th) : Prop where
  own : wr.ownsRow w.heap.size 40 6 v L.length (f6 L)
  bel : Below w.heap.size w wr

theorem wg_start (w : World) : WG w w (.slice none 0 0) [] := ⟨World.ownsRow_nil _ _ _ _, Below.refl _ _⟩
theorem wg_app {w wr wq w1 : World} {v v' : Value} {L : List Th} {t : Th} {o1 o2 : Obj} (g : WG w wr v L) (hb : Below wr.heap.size wr wq)
    (hown' : w1.ownsRow w.heap.size 40 6 v' (L.length + 1) (f6 L ++ t6 t)) (hgrow : ((wq.alloc o1).alloc o2).grownBy w1 v.ownBlock) : WG w w1 v' (L ++ [t]) := by
  have hs := g.bel.size
  have hs2 := hb.size
  refine ⟨?_, (((g.bel.trans (hb.mono hs)).alloc (by omega) o1).alloc (by simp; omega) o2).grown hgrow (by simp; omega) (fun j hj => ?_)⟩
  · rw [f6_app, List.length_append]
    simpa [f6] using hown'
  · rcases g.own.2 with ⟨e, _⟩ | ⟨g', cap, cur, e, hb, _⟩
    · rw [e] at hj; cases hj
    · rw [e] at hj
      simp [Value.ownBlock] at hj
      omega
theorem wg_own {w wr wq : World} {v : Value} {L : List Th} (g : WG w wr v L) (hb : Below wr.heap.size wr wq) : wq.ownsRow w.heap.size 40 6 v L.length (f6 L) :=
  owng_keep g.own (Fr.of_below hb) fun k e => ⟨owng_lt g.own e, by simp⟩
/-- The cells of the k-th. -/
theorem own6_at {w : World} {base : Nat} {a : Option Addr} {n m cap : Nat} (L : List Th) (hm : L.length = m) (h : w.ownsRow base 40 6 (.slice a n cap) m (f6 L)) {k : Nat} (hk : k < m) : ∃ g, a = some ⟨g, 0, none⟩ ∧ g < w.heap.size ∧ ∀ j, j < 6 → w.cell? ⟨g, k * 6 + j, none⟩ = (t6 (L.getD k zt))[j]? := by
  subst hm
  rcases h.2 with ⟨e, e2⟩ | ⟨g, cap', cur, e, _, hh, hc, _⟩
  · omega
  · simp only [Value.slice.injEq] at e
    obtain ⟨rfl, rfl, rfl⟩ := e
    exact ⟨g, rfl, lt_of_block hh, fun j hj => by rw [h.cellAt _ (by omega), f6_at L k j hk hj]⟩

/-- The threads that there are, in order. -/
def ths (O : Nat → Bool) (X : Nat → Th) : List Th := (dn O).map X
theorem ths_len (O : Nat → Bool) (X : Nat → Th) : (ths O X).length = (dn O).length := by simp [ths]
theorem ths_get (O : Nat → Bool) (X : Nat → Th) {k : Nat} (h : k < (dn O).length) : (ths O X).getD k zt = X ((dn O).getD k 0) := by
  unfold ths
  rw [List.getD_eq_getElem?_getD, List.getElem?_map, List.getD_eq_getElem?_getD, List.getElem?_eq_getElem h]
  rfl
theorem ths_take (O : Nat → Bool) (X : Nat → Th) {k : Nat} (h : k < (dn O).length) : (ths O X).take (k + 1) = (ths O X).take k ++ [X ((dn O).getD k 0)] := by
  have h2 : k < (ths O X).length := by rw [ths_len]; exact h
  rw [List.take_succ_eq_append_getElem h2, ← ths_get O X h, List.getD_eq_getElem?_getD, List.getElem?_eq_getElem h2]
  rfl
theorem li_get (O : Nat → Bool) {k : Nat} (h : k < (dn O).length) : (li 32 O).getD k 0 = (((dn O).getD k 0 : Nat) : Int) + 1 := by
  rw [li_dn, List.getD_eq_getElem?_getD, List.getElem?_map, List.getD_eq_getElem?_getD, List.getElem?_eq_getElem h]
  simp
/-- What Get answers of the k-th. -/
theorem gt_kth (O : Nat → Bool) (X : Nat → Th) {k : Nat} (h : k < (dn O).length) : hs 32 O ((((dn O).getD k 0 : Nat) : Int) + 1) = true ∧ gtX O X ((((dn O).getD k 0 : Nat) : Int) + 1) = X ((dn O).getD k 0) := by
  obtain ⟨h1, h2⟩ := dn_get h
  have h3 := hs_of h1 h2
  refine ⟨h3, ?_⟩
  unfold gtX
  rw [if_pos h3]
  congr 1
end Go.Proofs.YtghnpmkibnggeaaDoor
