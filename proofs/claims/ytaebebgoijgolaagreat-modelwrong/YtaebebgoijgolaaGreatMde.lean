/- A model's list of works: a first number comes in, the only one goes. -/
import Derived.Test.YtaebebgoijgolaaGreatRows
import Derived.Test.YtaebebgoijgolaaGreatMdd
import Derived.WalkKit
import Derived.ProofKit
import Derived.OpenShut
import Derived.BigQuiet
import Derived.Deep.RegionLaw
import Derived.Deep.RegionHeld3
import Derived.ArgAppend
namespace Go.Proofs.YtaebebgoijgolaaGreat
open Go.ChangeShapes Go.WideShapes Go.ChangeAt Go.RowKit
set_option linter.unusedVariables false
set_option linter.unusedSimpArgs false
set_option maxRecDepth 100000

set_option maxHeartbeats 1000000 in
theorem insert_first (x : Int) (w : World) (v c : Nat) (h : w.cell? ⟨v, 0, none⟩ = some (.int .i64 x)) (hv : v < w.heap.size) : Calls Tryz.prog 105 #[.slice none 0 0, .int .i64 0, .slice (some ⟨v, 0, none⟩) 1 c] w fun e w' => ∃ u, e = .returned u ∧ OG iv 3 w w' u [x] := by
  have r : SL w (.slice (some ⟨v, 0, none⟩) 1 c) [x] := ⟨Or.inr ⟨v, 0, c, rfl, hv, fun i hi => by
    obtain rfl : i = 0 := by simpa using hi
    exact h⟩, fun a cap e h => by subst h; cases e⟩
  obtain ⟨u, w2, R, G⟩ := app_any (og_start iv 3 w) (Below.refl _ _) r (by simp)
  rw [List.nil_append] at G
  have R1 : Hid (_ = _) := R
  have G1 : Hid (OG iv 3 w w2 u [x]) := G
  clear R G r
  go_enter Tryz.func105, Tryz.ntmps105
  go_wp2_with (at_builtin; refine wpList_runh rfl (.tmp 23) (.tmp 24) 27 rfl rfl rfl R1.out ?_)
  go_ret
  exact ⟨_, rfl, G1.out⟩

/-- What a machine's block is behind a list of it has turned. -/
structure MO (t : TypeId) (B : Nat) (S : List Nat) (w w' : World) (m : Nat) (cs : List Value) (u : Value) (xs : List Int) : Prop where
  blk : Blk w' m cs t
  fr : Fr w.heap.size S w w'
  own : w'.ownsRow B 3 1 u xs.length (xs.map iv)

theorem put_end {t : TypeId} {w V w1 w2 : World} {m i : Nat} {cs : List Value} {u : Value} {x : Int} (hb : Blk w m cs t) (ht : t ≠ 3) (b1 : Below w.heap.size w w1) (hV : Sm V w1) (g : OG iv 3 V w2 u [x]) :
    MO t w.heap.size [m] w (w2.setCell ⟨m, i, none⟩ u) m (cs.set i u) u [x] := by
  have b2 : Below w.heap.size w w2 := b1.trans (hV.from (g.bel.mono (by rw [hV.1]; exact b1.size)))
  have k2 : Blk w2 m cs t := (b2.block m hb.lt).trans hb
  have o2 := own_base g.own (by rw [hV.1]; exact b1.size : w.heap.size ≤ V.heap.size)
  refine ⟨k2.set i u, (Fr.of_below b2).mono (Nat.le_refl _) (by simp) |>.setCell (p := ⟨m, i, none⟩) (Or.inr (by simp)) u, own_other o2 (fun k e q => ?_) i u⟩
  subst q
  exact owng_ne o2 k2 (Ne.symm ht) e rfl

set_option maxHeartbeats 4000000 in
theorem put_first (x : Int) (w : World) (t : TypeId) (m i : Nat) (n : Int) (cs : List Value) (h : Blk w m cs t) (ht : t ≠ 3) (hi : cs[i]? = some (.slice none 0 0)) :
    Calls Tryz.prog 90 #[.agg (lc ⟨m, i, none⟩ n).toArray, .int .i64 x] w fun e w' => e = .returned (.tuple #[]) ∧ ∃ u, MO t w.heap.size [m] w w' m (cs.set i u) u [x] := by
  have hm := h.lt
  have W0 : Below w.heap.size w (w.alloc (.cells (lc ⟨m, i, none⟩ n).toArray 87)) := (Below.refl _ _).alloc (Nat.le_refl _) _
  have L0 := box_list w ⟨m, i, none⟩ n
  have CI : Hid (∀ w, _) := fun w => itself_any x w
  have CP : Hid (∀ V : World, Sm V (w.alloc (.cells (lc ⟨m, i, none⟩ n).toArray 87)) → Calls Tryz.prog 73 #[.agg (lc ⟨m, i, none⟩ n).toArray, .int .i64 x] V fun e w' => e = .returned (.tuple #[.int .i64 0, .bool false]) ∧ Below V.heap.size V w') := fun V hV => place_nil x V ⟨m, i, none⟩ n none 0 (by rw [hV.1]; simp; omega) (by
    rw [World.cell?_of_block (w := w) (by rw [hV.1]; exact Below.heap_alloc _ _ _ hm), h.cell]; exact hi)
  have FIN : Hid (∀ (u1 v1 w4 : World) (a : Option Addr) (c : Nat), Below w.heap.size w u1 → Sm v1 (u1.alloc (.cells #[.int .i64 x] 3)) → OG iv 3 v1 w4 (.slice a 1 c) [x] → w4.cell? ⟨m, i, none⟩ = some (.slice none 0 0) ∧ w4.frozen? ⟨m, i, none⟩ = false ∧ MO t w.heap.size [m] w (w4.setCell ⟨m, i, none⟩ (.slice a 1 c)) m (cs.set i (.slice a 1 c)) (.slice a 1 c) [x]) := fun u1 v1 w4 a c b1 hV g => by
    have b2 : Below w.heap.size w (u1.alloc (.cells #[.int .i64 x] 3)) := b1.alloc b1.size _
    have b3 : Below w.heap.size w w4 := b2.trans (hV.from (g.bel.mono (by rw [hV.1]; exact b2.size)))
    have k2 : Blk w4 m cs t := (b3.block m hm).trans h
    exact ⟨(k2.cell i).trans hi, k2.free i, put_end h ht b2 hV g⟩
  have CM : Hid (∀ u1 : World, Below w.heap.size w u1 → u1.cell? ⟨m, i, none⟩ = some (.slice none 0 0)) := fun u1 b1 => by
    have k2 : Blk u1 m cs t := (b1.block m hm).trans h
    exact (k2.cell i).trans hi
  have hms : Hid (m < w.heap.size) := hm
  obtain ⟨wl, hwl⟩ : ∃ wl, wl = w.alloc (.cells (lc ⟨m, i, none⟩ n).toArray 87) := ⟨_, rfl⟩
  rw [← hwl] at W0 L0 CP
  have HWL : Hid (w.alloc (.cells (lc ⟨m, i, none⟩ n).toArray 87) = wl) := hwl.symm
  have l0 : wl.cell? ⟨w.heap.size, 0, none⟩ = some (.pointer (some ⟨m, i, none⟩)) := L0.cell 0
  have l1 : wl.cell? ⟨w.heap.size, 1, none⟩ = some (.func (.func 64) #[] #[]) := L0.cell 1
  have l2 : wl.cell? ⟨w.heap.size, 2, none⟩ = some (.int .i64 n) := L0.cell 2
  have KP : Hid (∀ (V v1 : World), Below V.heap.size V v1 → Sm V wl → Below w.heap.size w v1 ∧ Blk v1 w.heap.size (lc ⟨m, i, none⟩ n) 87) := fun V v1 b hV => ⟨W0.trans (hV.from (b.mono (by rw [hV.1]; exact W0.size))), ((hV.from b).block _ (by rw [hV.1]; exact L0.lt)).trans L0⟩
  clear hwl h hm hi W0 L0
  unfold lc at CP HWL ⊢
  go_enter Tryz.func90, Tryz.ntmps90
  go_wp2
  rw [HWL.out]
  go_region_held3 (fun w' => w'.cell? ⟨w.heap.size, 0, none⟩ = some (.pointer (some ⟨m, i, none⟩)) ∧ w'.cell? ⟨w.heap.size, 1, none⟩ = some (.func (.func 64) #[] #[]) ∧ w'.cell? ⟨w.heap.size, 2, none⟩ = some (.int .i64 n)) (go_keep) (first | (go_at_call 64; refine (CI.out _).mono ?_; rintro e v1 ⟨rfl, rfl⟩) | (go_at_call 73; refine (CP.out _ ?_).mono ?_; (exact ⟨rfl, rfl, rfl, rfl⟩); rintro e v1 ⟨rfl, b1⟩; have K1 := KP.out _ v1 b1 ⟨rfl, rfl, rfl, rfl⟩; have j0 : v1.cell? ⟨w.heap.size, 0, none⟩ = some (.pointer (some ⟨m, i, none⟩)) := K1.2.cell 0; have j1 : v1.cell? ⟨w.heap.size, 1, none⟩ = some (.func (.func 64) #[] #[]) := K1.2.cell 1; have j2 : v1.cell? ⟨w.heap.size, 2, none⟩ = some (.int .i64 n) := K1.2.cell 2))
  go_wp2_with fail
  have IV : Hid (∀ V : World, Sm V (v1.alloc (.cells #[.int .i64 x] 3)) → Calls Tryz.prog 105 #[.slice none 0 0, .int .i64 0, .slice (some ⟨v1.heap.size, 0, none⟩) 1 1] V fun e w4 => ∃ a c, e = .returned (.slice a 1 c) ∧ w4.cell? ⟨w.heap.size, 0, none⟩ = some (.pointer (some ⟨m, i, none⟩)) ∧ w4.cell? ⟨m, i, none⟩ = some (.slice none 0 0) ∧ w4.frozen? ⟨m, i, none⟩ = false ∧ Hid (MO t w.heap.size [m] w (w4.setCell ⟨m, i, none⟩ (.slice a 1 c)) m (cs.set i (.slice a 1 c)) (.slice a 1 c) [x])) := fun V hV => by
    have hb : Blk V v1.heap.size [.int .i64 x] 3 := (Blk.new v1 [.int .i64 x] 3).heap hV.1
    refine (insert_first x V v1.heap.size 1 (hb.cell 0) hb.lt).mono ?_
    rintro e w4 ⟨u, rfl, g⟩
    obtain ⟨a, c, rfl⟩ := own_shape g.own
    obtain ⟨q1, q2, q3⟩ := FIN.out v1 V w4 a c K1.1 hV g
    exact ⟨a, c, rfl, (g.bel.cell (by show w.heap.size < _; rw [hV.1]; simp; have := K1.2.lt; omega)).trans (((K1.2.alloc _).heap hV.1).cell 0), q1, q2, q3⟩
  have j3 := CM.out v1 K1.1
  have p0 : (v1.alloc (.cells #[.int .i64 x] 3)).cell? ⟨w.heap.size, 0, none⟩ = some (.pointer (some ⟨m, i, none⟩)) := Lib.cell?_alloc_some _ j0
  have p3 : (v1.alloc (.cells #[.int .i64 x] 3)).cell? ⟨m, i, none⟩ = some (.slice none 0 0) := Lib.cell?_alloc_some _ j3
  clear FIN CM CI CP KP HWL l0 l1 l2 b1 K1 j1 j2
  go_region_with (first | (go_at_call 105; refine (IV.out _ ?_).mono ?_; (exact ⟨rfl, rfl, rfl, rfl⟩); rintro e w4 ⟨p, c, rfl, q0, q1, q2, FF⟩))
  all_goals (go_wp2; go_end0; exact ⟨rfl, _, FF.out⟩)
end Go.Proofs.YtaebebgoijgolaaGreat
