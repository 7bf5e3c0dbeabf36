/- A model's list of works: a new one, by the lowest number; one that is dropped. -/
import Derived.Test.YtaebebgoijgolaaGreatRows
import Derived.Test.YtaebebgoijgolaaGreatMde
import Derived.WalkKit
import Derived.ProofKit
import Derived.OpenShut
import Derived.BigQuiet
import Derived.Deep.RegionLaw
import Derived.Deep.RegionHeld3
import Derived.ArgAppend
namespace Go.Proofs.YtaebebgoijgolaaGreat
open Go.ChangeShapes Go.WideShapes Go.ChangeAt Go.RowKit
set_option linter.unusedVariables false
set_option linter.unusedSimpArgs false
set_option maxRecDepth 100000

set_option maxHeartbeats 1000000 in
theorem lowest_nil (w : World) (p : Addr) (m : Int) (a : Option Addr) (c : Nat) (hp : p.block < w.heap.size) (h : w.cell? p = some (.slice a 0 c)) : Calls Tryz.prog 89 #[.agg (lc p m).toArray] w fun e w' => e = .returned (.int .i64 1) ∧ Below w.heap.size w w' := by
  have BE : Hid (Below w.heap.size w (w.alloc (.cells (lc p m).toArray 87))) := (Below.refl _ _).alloc (Nat.le_refl _) _
  have k1 : (w.alloc (.cells (lc p m).toArray 87)).cell? p = some (.slice a 0 c) := (World.cell?_of_block (Below.heap_alloc _ _ _ hp)).trans h
  unfold lc at *
  clear h
  go_enter Tryz.func89, Tryz.ntmps89
  go_wp2
  refine wp_loop_rounds 1 ?_
  rw [rounds_succ]
  go_wp2
  go_ret
  exact ⟨rfl, BE.out⟩

theorem MO.from {t : TypeId} {B : Nat} {S : List Nat} {w w1 w' : World} {m : Nat} {cs : List Value} {u : Value} {xs : List Int} (h : MO t w1.heap.size S w1 w' m cs u xs) (b : Below w.heap.size w w1) : MO t w.heap.size S w w' m cs u xs :=
  ⟨h.blk, ((Fr.of_below b).mono (Nat.le_refl _) (by simp)).trans (h.fr.less b.size), own_base h.own b.size⟩

set_option maxHeartbeats 4000000 in
theorem add_first (w : World) (t : TypeId) (m i : Nat) (cs : List Value) (h : Blk w m cs t) (ht : t ≠ 3) (hi : cs[i]? = some (.slice none 0 0)) :
    Calls Tryz.prog 63 #[.agg (lc ⟨m, i, none⟩ 32).toArray, .func (.func 64) #[] #[]] w fun e w' => e = .returned (.tuple #[.int .i64 1, .int .i64 0]) ∧ ∃ u, MO t w.heap.size [m] w w' m (cs.set i u) u [1] := by
  have hm := h.lt
  have W0 : Below w.heap.size w (w.alloc (.cells (lc ⟨m, i, none⟩ 32).toArray 87)) := (Below.refl _ _).alloc (Nat.le_refl _) _
  have L0 := box_list w ⟨m, i, none⟩ 32
  have CI : Hid (∀ w, _) := fun w => itself_any 1 w
  have CL : Hid (∀ V : World, Sm V (w.alloc (.cells (lc ⟨m, i, none⟩ 32).toArray 87)) → Calls Tryz.prog 89 #[.agg (lc ⟨m, i, none⟩ 32).toArray] V fun e w' => e = .returned (.int .i64 1) ∧ Below V.heap.size V w') := fun V hV => lowest_nil V ⟨m, i, none⟩ 32 none 0 (by rw [hV.1]; simp; omega) (by
    rw [World.cell?_of_block (w := w) (by rw [hV.1]; exact Below.heap_alloc _ _ _ hm), h.cell]; exact hi)
  have CP : Hid (∀ V : World, Below w.heap.size w V → Calls Tryz.prog 90 #[.agg (lc ⟨m, i, none⟩ 32).toArray, .int .i64 1] V fun e w' => e = .returned (.tuple #[]) ∧ (∀ b ds d, Blk V b ds d → b ≠ m → Blk w' b ds d) ∧ Hid (∃ u, MO t w.heap.size [m] w w' m (cs.set i u) u [1])) := fun V hV => by
    refine (put_first 1 V t m i 32 cs ((hV.block m hm).trans h) ht hi).mono ?_
    rintro e w' ⟨rfl, u, h⟩
    exact ⟨rfl, fun b ds d q ne => q.keep h.fr q.lt (by simpa using ne), u, h.from (B := 0) hV⟩
  have k1 : (w.alloc (.cells (lc ⟨m, i, none⟩ 32).toArray 87)).cell? ⟨m, i, none⟩ = some (.slice none 0 0) := (World.cell?_of_block (Below.heap_alloc _ _ _ hm)).trans ((h.cell i).trans hi)
  obtain ⟨wl, hwl⟩ : ∃ wl, wl = w.alloc (.cells (lc ⟨m, i, none⟩ 32).toArray 87) := ⟨_, rfl⟩
  rw [← hwl] at W0 L0 CL k1
  have HWL : Hid (w.alloc (.cells (lc ⟨m, i, none⟩ 32).toArray 87) = wl) := hwl.symm
  have l0 : wl.cell? ⟨w.heap.size, 0, none⟩ = some (.pointer (some ⟨m, i, none⟩)) := L0.cell 0
  have l1 : wl.cell? ⟨w.heap.size, 1, none⟩ = some (.func (.func 64) #[] #[]) := L0.cell 1
  have l2 : wl.cell? ⟨w.heap.size, 2, none⟩ = some (.int .i64 32) := L0.cell 2
  have KP : Hid (∀ (V v1 : World), Below V.heap.size V v1 → Sm V wl → Below w.heap.size w v1 ∧ Blk v1 w.heap.size (lc ⟨m, i, none⟩ 32) 87) := fun V v1 b hV => ⟨W0.trans (hV.from (b.mono (by rw [hV.1]; exact W0.size))), ((hV.from b).block _ (by rw [hV.1]; exact L0.lt)).trans L0⟩
  have NE : Hid (w.heap.size ≠ m) := (by omega : w.heap.size ≠ m)
  clear hwl h hm hi W0 L0
  unfold lc at CP CL HWL ⊢
  go_enter Tryz.func63, Tryz.ntmps63
  go_wp2
  rw [HWL.out]
  go_region
  go_wp2_with fail
  refine (CL.out _ ?_).mono ?_
  · exact ⟨rfl, rfl, rfl, rfl⟩
  rintro e v1 ⟨rfl, b1⟩
  have K1 := KP.out _ v1 b1 ⟨rfl, rfl, rfl, rfl⟩
  have j0 : v1.cell? ⟨w.heap.size, 0, none⟩ = some (.pointer (some ⟨m, i, none⟩)) := K1.2.cell 0
  have j1 : v1.cell? ⟨w.heap.size, 1, none⟩ = some (.func (.func 64) #[] #[]) := K1.2.cell 1
  have j2 : v1.cell? ⟨w.heap.size, 2, none⟩ = some (.int .i64 32) := K1.2.cell 2
  have B1 : Hid (∀ V, Sm V v1 → Below w.heap.size w V) := fun V hV => hV.below K1.1
  have K1 : Hid (Blk v1 w.heap.size (lc ⟨m, i, none⟩ 32) 87) := K1.2
  clear CL KP HWL l0 l1 l2 k1 b1
  go_wp2_with fail
  go_region_held3 (fun w' => w'.cell? ⟨w.heap.size, 0, none⟩ = some (.pointer (some ⟨m, i, none⟩)) ∧ w'.cell? ⟨w.heap.size, 1, none⟩ = some (.func (.func 64) #[] #[]) ∧ w'.cell? ⟨w.heap.size, 2, none⟩ = some (.int .i64 32)) (go_keep) (first | (go_at_call 64; refine (CI.out _).mono ?_; rintro e v2 ⟨rfl, rfl⟩) | (go_at_call 90; refine (CP.out _ ?_).mono ?_; (exact B1.out _ ⟨rfl, rfl, rfl, rfl⟩); rintro e v2 ⟨rfl, QQ, FF⟩; have K2 := QQ _ _ _ (K1.out.heap rfl) NE.out; have jj : v2.cell? ⟨w.heap.size, 0, none⟩ = some (.pointer (some ⟨m, i, none⟩)) := K2.cell 0; have jk : v2.cell? ⟨w.heap.size, 1, none⟩ = some (.func (.func 64) #[] #[]) := K2.cell 1; have jl : v2.cell? ⟨w.heap.size, 2, none⟩ = some (.int .i64 32) := K2.cell 2))
  go_wp2
  go_ret2
  exact ⟨rfl, FF.out⟩
end Go.Proofs.YtaebebgoijgolaaGreat
