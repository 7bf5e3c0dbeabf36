/- The maps that audit's by makes: of each key how many things have it, and the last of them. -/
import Derived.Test.YtfdmcbcomknebaaGreatDoorRows
import Derived.Test.YtfdmcbcomknebaaGreatDoorAu0
import Derived.WalkKit
import Derived.ProofKit
import Derived.Maps.OwnSet
import Derived.DeepKeys5
namespace Go.Proofs.YtfdmcbcomknebaaGreatDoor.Aud
open Go.ChangeShapes Go.WideShapes Go.ChangeAt Go.RowKit

def qv (n : Int) (x : Tr) : Value := .agg #[.int .i64 n, .int .i64 x.a, .int .i64 x.b, .int .i64 x.c]
def qd (n : Int) (x : Tr) : DataW Unit := .agg [.lit (.int .i64 n), .lit (.int .i64 x.a), .lit (.int .i64 x.b), .lit (.int .i64 x.c)]
def quad : Value → Option (DataW Unit × List MemPlace)
  | .agg cs => match cs.toList with
    | [.int .i64 n, .int .i64 a, .int .i64 b, .int .i64 c] => some (qd n ⟨a, b, c⟩, [])
    | _ => none
  | _ => none
theorem quad_mk (n : Int) (x : Tr) : quad (qv n x) = some (qd n x, []) := rfl
theorem quad_inv {v : Value} {n : Int} {x : Tr} {ps : List MemPlace} (h : quad v = some (qd n x, ps)) : v = qv n x := by
  unfold quad at h
  split at h
  · rename_i cs
    split at h
    · rename_i m a b c e
      simp only [qd, Option.some.injEq, Prod.mk.injEq, DataW.agg.injEq, List.cons.injEq, DataW.lit.injEq, Lit.int.injEq, true_and, and_true] at h
      obtain ⟨⟨h0, h1, h2, h3⟩, _⟩ := h
      unfold qv
      congr 1
      apply Array.toList_inj.1
      rw [e, h0, h1, h2, h3]
    · cases h
  · cases h

/-- The types of such a map, and its keys. -/
structure KT (K : Type) where
  kt : TypeId
  te : TypeId
  tm : TypeId
  kv : K → Value
  ok : K → Prop
  keyed : Maps.Keyed Tryz.prog kt
  key : ∀ k, ok k → ∃ l, keyOf Tryz.prog kt (kv k) = some l
  inj : ∀ k j, kv k = kv j → k = j
  map : Tryz.prog.underlying tm = some (.map kt te)
  zero : ∀ w, (zeroValue te).run Tryz.prog w = .ok (qv 0 tz) w

section
variable {K : Type} [DecidableEq K] {T : KT K} {κ : Tr → K} {w w' : World} {b : Nat} {L : List Tr}
/-- The map at block b says of each key how many of a list have it, and which one is the last. -/
def BM (T : KT K) (κ : Tr → K) (w : World) (b : Nat) (L : List Tr) : Prop :=
  ∃ D : DataW Unit, w.ownsMap Tryz.prog T.kt quad b (ds κ L) D ∧ Maps.size D = ds κ L ∧ ∀ k l, T.ok k → keyOf Tryz.prog T.kt (T.kv k) = some l → Maps.has D l = decide (0 < cn κ L k) ∧ D.atKey l (qd 0 tz) = qd (cn κ L k) (la κ L k)

theorem BM.lt (h : BM T κ w b L) : b < w.heap.size := by obtain ⟨D, o, _⟩ := h; exact o.lt
theorem BM.same (h : BM T κ w b L) (e : w'.heap[b]? = w.heap[b]?) : BM T κ w' b L := by
  obtain ⟨D, ⟨es, clock, hb, rest⟩, k⟩ := h
  exact ⟨D, ⟨es, clock, e.trans hb, rest⟩, k⟩
theorem BM.keep {B : Nat} {S : List Nat} (h : BM T κ w b L) (k : Fr B S w w') (hb : b < B) (hs : b ∉ S) : BM T κ w' b L := h.same (k.block b hb hs)
theorem BM.below (h : BM T κ w b L) (k : Below w.heap.size w w') : BM T κ w' b L := h.keep (Fr.of_below k) h.lt (by simp)
theorem BM.heap (h : BM T κ w b L) (k : w'.heap = w.heap) : BM T κ w' b L := h.same (by rw [k])
theorem bm_tight {n : Nat} {D : DataW Unit} {kt : TypeId} (h : w.ownsMap Tryz.prog kt quad b n D) : w.ownsMap Tryz.prog kt quad b (Maps.size D) D := by
  obtain ⟨es, clock, hb, F, _, rfl⟩ := h
  refine ⟨es, clock, hb, F, ?_, rfl⟩
  rw [Maps.size_eq, length_read]
  exact Nat.le_refl _
theorem bm_new (T : KT K) (κ : Tr → K) (w : World) : BM T κ (w.alloc (.map #[] 0)) w.heap.size [] :=
  ⟨_, World.ownsMap_made w Tryz.prog T.kt _, rfl, fun _ _ _ _ => ⟨rfl, rfl⟩⟩
theorem bm_look (h : BM T κ w b L) {k : K} (hk : T.ok k) :
    (Instr.lookup T.tm (.map (some b)) (T.kv k) false).run Tryz.prog w = .ok (qv (cn κ L k) (la κ L k)) w := by
  obtain ⟨D, o, _, f⟩ := h
  obtain ⟨l, hl⟩ := T.key k hk
  obtain ⟨v, ps, hrun, hv⟩ := o.lookup T.keyed T.map (T.zero w) (quad_mk 0 tz) hl
  rw [(f k l hk hl).2] at hv
  rw [hrun, quad_inv hv]
theorem bm_len (h : BM T κ w b L) (ty : TypeId) : (Builtin.len_ #[T.tm] ty #[.map (some b)]).run Tryz.prog w = .ok (.int .i64 (ds κ L : Nat)) w := by
  obtain ⟨D, o, e, _⟩ := h
  rw [o.len T.map ty, e]
/-- One more thing. -/
theorem bm_put (h : BM T κ w b L) (hn : L.length ≤ 100000) (x : Tr) (hk : T.ok (κ x)) :
    ∃ w', (Instr.mapUpdate T.tm (.map (some b)) (T.kv (κ x)) (qv (cn κ L (κ x) + 1) x)).run Tryz.prog w = .ok () w' ∧ BM T κ w' b (L ++ [x]) ∧ Fr w.heap.size [b] w w' := by
  obtain ⟨D, o, s, f⟩ := h
  obtain ⟨l, hl⟩ := T.key _ hk
  have dl := ds_le κ L
  obtain ⟨w', hrun, r1, r2⟩ := o.store T.keyed T.map (by unfold maxLen; omega) hl (quad_mk (cn κ L (κ x) + 1) x)
  have sz : Maps.size (D.put l (qd (cn κ L (κ x) + 1) x)) = ds κ (L ++ [x]) := by
    rw [Maps.size_put (o.tidy T.keyed), (f _ l hk hl).1, s, ds_snoc]
    by_cases q : 0 < cn κ L (κ x)
    · rw [if_pos (by simpa using q), if_neg (by omega)]; rfl
    · rw [if_neg (by simpa using q), if_pos (by omega)]
  have il := T.keyed.key hl
  refine ⟨w', hrun, ⟨_, sz ▸ bm_tight r1, sz, fun j m hj hm => ?_⟩, ?_⟩
  · by_cases e : κ x = j
    · subst e
      rw [hl] at hm
      cases hm
      rw [cn_snoc, la_snoc, if_pos rfl, if_pos rfl]
      exact ⟨(Maps.has_put_same o.isMap il _).trans (by simp), (Maps.atKey_put_same o.isMap il _ _).trans (by simp)⟩
    · have ne : m ≠ l := fun q => by
        subst q
        exact e (T.inj _ _ (T.keyed.inj hl hm))
      rw [cn_snoc, la_snoc, if_neg e, if_neg e, Maps.has_put_other ne, Maps.atKey_put_other ne]
      exact f j m hj hm
  · have g := r2.grown
    exact ⟨g.os, g.tape, g.output, g.size, fun k hk hs => g.block k hk (fun e => hs (by cases e; simp))⟩
end

theorem aud_laid : laidOutB Tryz.prog = true := by kernel_rfl
def TP : KT Int where
  kt := 3
  te := 132
  tm := 124
  kv := fun k => .int .i64 k
  ok := fun k => (Lit.int .i64 k).wf = true
  keyed := Maps.int_keyed Tryz.underlying3
  key := fun k hk => ⟨_, Maps.keyOf_int_mk Tryz.underlying3 hk⟩
  inj := fun k j h => by cases h; rfl
  map := Tryz.underlying124
  zero := fun w => by kernel_rfl
def TT : KT Int where
  kt := 3
  te := 136
  tm := 127
  kv := fun k => .int .i64 k
  ok := fun k => (Lit.int .i64 k).wf = true
  keyed := Maps.int_keyed Tryz.underlying3
  key := fun k hk => ⟨_, Maps.keyOf_int_mk Tryz.underlying3 hk⟩
  inj := fun k j h => by cases h; rfl
  map := Tryz.underlying127
  zero := fun w => by kernel_rfl
theorem sl_key (k : Int × Int) (h : (Lit.int .i64 k.1).wf = true ∧ (Lit.int .i64 k.2).wf = true) : ∃ l, keyOf Tryz.prog 141 (.agg #[.int .i64 k.1, .int .i64 k.2]) = some l := by
  have hkt : Tryz.prog.keyType 141 = true := by kernel_rfl
  obtain ⟨m, hm⟩ : ∃ m, Tryz.prog.types.size = m + 1 := ⟨Tryz.prog.types.size - 1, by kernel_rfl⟩
  have hf : (Value.agg #[.int .i64 k.1, .int .i64 k.2]).formed Tryz.prog 141 = true := by
    simp [Value.formed, Tryz.underlying141]
    kernel_rfl
  have hc : Tryz.prog.cellsOf 141 = 2 := by kernel_rfl
  have h3 : Tryz.prog.cellsOf 3 = 1 := by kernel_rfl
  unfold keyOf
  rw [Tryz.underlying141]
  simp only
  rw [hkt, hf, hm]
  unfold Program.keyLits
  rw [Tryz.underlying141]
  simp [Value.cells, hc, h3, Program.keyLits, Tryz.underlying3, h.1, h.2]
def TS : KT (Int × Int) where
  kt := 141
  te := 136
  tm := 138
  kv := fun k => .agg #[.int .i64 k.1, .int .i64 k.2]
  ok := fun k => (Lit.int .i64 k.1).wf = true ∧ (Lit.int .i64 k.2).wf = true
  keyed := Maps.Keyed.of_law (deep_law_laid aud_laid (m := 2) (by omega) (of_decide_eq_true (by kernel_rfl)) (by kernel_rfl) (by rw [Tryz.underlying141]))
  key := sl_key
  inj := fun k j h => by
    obtain ⟨a, b⟩ := k
    obtain ⟨c, d⟩ := j
    simp at h
    rw [h.1, h.2]
  map := Tryz.underlying138
  zero := fun w => by kernel_rfl
end Go.Proofs.YtfdmcbcomknebaaGreatDoor.Aud
