/- A model's next state, over what its machine does. -/
import Derived.Test.YtaebebgoijgolaaGreatRows
import Derived.Test.YtaebebgoijgolaaGreatMdk
import Derived.WalkKit
import Derived.ProofKit
import Derived.OpenShut
import Derived.BigQuiet
import Derived.Defers
import Derived.Recover
import Derived.Laws.EntriesVeiled
import Derived.WalkSmall
namespace Go.Proofs.YtaebebgoijgolaaGreat
open Go.ChangeShapes Go.WideShapes Go.ChangeAt Go.RowKit
set_option linter.unusedVariables false
set_option linter.unusedSimpArgs false
set_option maxRecDepth 100000

theorem N4.below {w u u' : World} {S E : List Value} {y : Int} (h : N4 w u S E y) (f : Below u.heap.size u u') : N4 w u' S E y := ⟨h.b0.below f, h.b1.below f, h.b2.below f, h.b3.below f, h.be.trans (f.mono h.be.size), Nat.le_trans h.sz f.size⟩
theorem N4.fr {w u u' : World} {S E : List Value} {y : Int} (h : N4 w u S E y) (f : Fr (w.heap.size + 4) [] u u') : N4 w u' S E y :=
  ⟨h.b0.keep f (by omega) (by simp), h.b1.keep f (by omega) (by simp), h.b2.keep f (by omega) (by simp), h.b3.keep f (by omega) (by simp), h.be.trans ((f.less (by omega)).below (by simp)), Nat.le_trans h.sz f.size⟩

/-- What is there when a machine is to follow. -/
theorem fo_of {w u u1 : World} {S E : List Value} {y c on : Int} {k0 k r : Value} {xs ys : List Int} {B : Nat} (hn : N4 w u S E y) (b : Below u.heap.size u u1) (ok : u1.ownsRow u.heap.size 3 1 k xs.length (xs.map iv)) (or : u1.ownsRow B 3 1 r ys.length (ys.map iv)) (ap : ∀ g, k.ownBlock = some g → g < B) (hB : u.heap.size ≤ B) (nn : k0 = .slice none 0 0 → k = .slice none 0 0) :
    N4 w (u1.alloc (.cells (mc c on k r 0 0 0 0 0).toArray 45)) S E y ∧ FO w (u1.alloc (.cells (mc c on k r 0 0 0 0 0).toArray 45)) u1.heap.size c on k0 k r xs ys := by
  have b1 : Below u1.heap.size u1 (u1.alloc (.cells (mc c on k r 0 0 0 0 0).toArray 45)) := (Below.refl _ _).alloc (Nat.le_refl _) _
  have n1 := hn.below b
  refine ⟨n1.below b1, ⟨(n1.below b1).be, Blk.new _ _ _, n1.sz, own_base (owns_below ok b1) hn.sz, own_base (owns_below or b1) (Nat.le_trans hn.sz hB), nn, fun g e g' e' q => ?_⟩⟩
  have h1 := ap g e
  have h2 : B ≤ g' := by
    rcases or.2 with ⟨h, _⟩ | ⟨g2, cap, cur, h, hb, _⟩
    · rw [h] at e'; cases e'
    · rw [h] at e'; simp [Value.ownBlock] at e'; omega
  omega

theorem OL.shape {h : Nat} {w : World} {v : Value} {xs : List Int} (q : OL h w v xs) : ∃ a cap, v = .slice a xs.length cap := by
  rcases q with ⟨a, cap, rfl, rfl, _⟩ | q
  · exact ⟨a, cap, rfl⟩
  · exact own_shape q

/-- The end: both results are laid, and what was there stays. -/
theorem next_fin {w v : World} {S E : List Value} {y : Int} {c on : Int} {k r : Value} {xs ys : List Int} (hn : N4 w v S E y) (hk : OL (w.heap.size + 4) v k xs) (hr : OL (w.heap.size + 4) v r ys) (v' : World) (f : Fr v.heap.size [w.heap.size + 1 + 1, w.heap.size + 1 + 1 + 1] v v') : Below w.heap.size w v' ∧ SL v' k xs ∧ SL v' r ys := by
  refine ⟨hn.be.trans ((f.less hn.be.size).below (by simp; omega)), (hk.keep fun j h1 h2 => f.block j h2 (by simp; omega)).sl, (hr.keep fun j h1 h2 => f.block j h2 (by simp; omega)).sl⟩

set_option maxHeartbeats 4000000 in
theorem next_ret (w : World) (c on : Int) (k r : Value) (xs ys xs' : List Int) (hk : SL w k xs) (hr : SL w r ys) (lx : xs.length ≤ 1000) (ly : ys.length ≤ 1000) (h1 : 1 ≤ c) (h2 : c ≤ 64) (hn : (ys.length : Int) = c) (e0 e1 e2 e3 e4 : Int) (l : Value)
    (F : ∀ (V : World) (m : Nat) (k' r' : Value), FO w V m c on k k' r' xs ys → Calls Tryz.prog 10 #[mp m, .agg (ev e0 e1 e2 e3 e4).toArray, l] V fun e w' => e = .returned (.tuple #[]) ∧ ∃ k2 r2 t0 t1 t2 t3 t4, Blk w' m (mc c on k2 r2 t0 t1 t2 t3 t4) 45 ∧ Fr (w.heap.size + 4) [] V w' ∧ OL (w.heap.size + 4) w' k2 xs' ∧ OL (w.heap.size + 4) w' r2 ys) :
    Calls Tryz.prog 5 #[.agg (sc c on k r).toArray, .agg (ev e0 e1 e2 e3 e4).toArray, l] w fun e w' => ∃ k2 r2, e = .returned (.tuple #[.agg (sc c on k2 r2).toArray, .int .i64 0]) ∧ Below w.heap.size w w' ∧ SL w' k2 xs' ∧ SL w' r2 ys := by
  have NN := n4_is w (sc c on k r) (ev e0 e1 e2 e3 e4) 0
  have CO : Hid (∀ _ : Unit, _) := fun _ => copied_any (c := c) (on := on) (hk.below NN.be) (hr.below NN.be) lx ly
  obtain ⟨a, cap, rfl⟩ := hr.shape
  obtain ⟨u, hu⟩ : ∃ u, u = n4 w (sc c on k (.slice a ys.length cap)) (ev e0 e1 e2 e3 e4) 0 := ⟨_, rfl⟩
  rw [← hu] at NN CO
  have HU : Hid (n4 w (sc c on k (.slice a ys.length cap)) (ev e0 e1 e2 e3 e4) 0 = u) := hu.symm
  have N0 : Hid (N4 w u _ _ _) := NN
  have FF : Hid (∀ V : World, _) := fun V => F V
  have d1 : ¬ c < 1 := by omega
  have d2 : ¬ 64 < c := by omega
  have d3 : decide (c < 1) = false := decide_eq_false d1
  have d4 : decide (64 < c) = false := decide_eq_false d2
  have d5 : ((ys.length : Int) == c) = true := by simpa using hn
  have p0 : u.cell? ⟨w.heap.size, 0, none⟩ = some (.int .i64 c) := NN.b0.cell 0
  have p12 : u.cell? ⟨w.heap.size, 12, none⟩ = some (.slice a ys.length cap) := NN.b0.cell 12
  have p1 : u.cell? ⟨w.heap.size, 1, none⟩ = some _ := NN.b0.cell 1
  have p2 : u.cell? ⟨w.heap.size, 2, none⟩ = some _ := NN.b0.cell 2
  have p3 : u.cell? ⟨w.heap.size, 3, none⟩ = some _ := NN.b0.cell 3
  have p4 : u.cell? ⟨w.heap.size, 4, none⟩ = some _ := NN.b0.cell 4
  have p5 : u.cell? ⟨w.heap.size, 5, none⟩ = some _ := NN.b0.cell 5
  have p6 : u.cell? ⟨w.heap.size, 6, none⟩ = some _ := NN.b0.cell 6
  have p7 : u.cell? ⟨w.heap.size, 7, none⟩ = some _ := NN.b0.cell 7
  have p8 : u.cell? ⟨w.heap.size, 8, none⟩ = some _ := NN.b0.cell 8
  have p9 : u.cell? ⟨w.heap.size, 9, none⟩ = some _ := NN.b0.cell 9
  have p10 : u.cell? ⟨w.heap.size, 10, none⟩ = some _ := NN.b0.cell 10
  have p11 : u.cell? ⟨w.heap.size, 11, none⟩ = some _ := NN.b0.cell 11
  have hmf : ∀ (fn : Fn) (first cap : Array Value) (w : World), (Instr.makeFunc fn first cap).run Tryz.prog w = .ok (.func fn first cap) w := fun _ _ _ _ => rfl
  unfold n4 z13 at HU
  unfold sc ev at HU
  unfold sc at CO
  unfold sc ev
  unfold ev at FF
  clear hk hr hu NN F h1 h2 hn
  go_enter_defers Tryz.func5, Tryz.ntmps5
  go_wp2_with fail
  rw [HU.out]
  refine (CO.out ()).mono ?_
  rintro e u1 ⟨k1, r1, B, rfl, b1, o1, o2, o3, o4, o5⟩
  obtain ⟨a1, cap1, rfl⟩ := own_shape o1
  obtain ⟨a2, cap2, rfl⟩ := own_shape o2
  have FO1 := fo_of (c := c) (on := on) N0.out b1 o1 o2 o3 o4 o5
  obtain ⟨V, hV⟩ : ∃ V, V = u1.alloc (.cells (mc c on (.slice a1 xs.length cap1) (.slice a2 ys.length cap2) 0 0 0 0 0).toArray 45) := ⟨_, rfl⟩
  rw [← hV] at FO1
  have hV : V = u1.alloc (.cells #[.int .i64 c, .int .u64 on, .int .i64 0, .slice none 0 0, .slice none 0 0, .slice none 0 0, .slice a1 xs.length cap1, .slice none 0 0, .slice none 0 0, .bool false, .bool false, .int .i64 0, .slice a2 ys.length cap2, .int .i64 0, .int .i64 0, .int .i64 0, .int .i64 0, .int .i64 0] 45) := hV
  have HW : Hid (u1.alloc (.cells #[.int .i64 c, .int .u64 on, .int .i64 0, .slice none 0 0, .slice none 0 0, .slice none 0 0, .slice a1 xs.length cap1, .slice none 0 0, .slice none 0 0, .bool false, .bool false, .int .i64 0, .slice a2 ys.length cap2, .int .i64 0, .int .i64 0, .int .i64 0, .int .i64 0, .int .i64 0] 45) = V) := hV.symm
  have q0 : V.cell? ⟨w.heap.size + 1, 0, none⟩ = some (.int .i64 e0) := FO1.1.b1.cell 0
  have q1 : V.cell? ⟨w.heap.size + 1, 1, none⟩ = some (.int .i64 e1) := FO1.1.b1.cell 1
  have q2 : V.cell? ⟨w.heap.size + 1, 2, none⟩ = some (.int .i64 e2) := FO1.1.b1.cell 2
  have q3 : V.cell? ⟨w.heap.size + 1, 3, none⟩ = some (.int .u64 e3) := FO1.1.b1.cell 3
  have q4 : V.cell? ⟨w.heap.size + 1, 4, none⟩ = some (.int .i64 e4) := FO1.1.b1.cell 4
  rw [hV] at q0 q1 q2 q3 q4
  have G1 : Hid (N4 w V _ _ _ ∧ FO w V _ c on _ _ _ xs ys) := FO1
  clear FO1 hV b1 o1 o2 o3 o4 o5 N0 HU CO p0 p12 p1 p2 p3 p4 p5 p6 p7 p8 p9 p10 p11
  go_wp2_with fail
  rw [HW.out]
  clear q0 q1 q2 q3 q4 HW
  refine (FF.out _ _ _ _ G1.out.2).mono ?_
  rintro e v ⟨rfl, k2, r2, t0, t1, t2, t3, t4, kb, fr, hk, hr⟩
  have N1 := G1.out.1.fr fr
  obtain ⟨b2, cap3, rfl⟩ := hk.shape
  obtain ⟨b3, cap4, rfl⟩ := hr.shape
  have nm : Hid (u1.heap.size ≠ w.heap.size + 1 + 1 ∧ u1.heap.size ≠ w.heap.size + 1 + 1 + 1) := ⟨by have := G1.out.2.hm; omega, by have := G1.out.2.hm; omega⟩
  have FIN : Hid (∀ v' : World, Fr v.heap.size [w.heap.size + 1 + 1, w.heap.size + 1 + 1 + 1] v v' → Below w.heap.size w v' ∧ SL v' (.slice b2 xs'.length cap3) xs' ∧ SL v' (.slice b3 ys.length cap4) ys) := fun v' f => next_fin (c := c) (on := on) N1 hk hr v' f
  have m0 : v.cell? ⟨u1.heap.size, 0, none⟩ = some _ := kb.cell 0
  have m1 : v.cell? ⟨u1.heap.size, 1, none⟩ = some _ := kb.cell 1
  have m2 : v.cell? ⟨u1.heap.size, 2, none⟩ = some _ := kb.cell 2
  have m3 : v.cell? ⟨u1.heap.size, 3, none⟩ = some _ := kb.cell 3
  have m4 : v.cell? ⟨u1.heap.size, 4, none⟩ = some _ := kb.cell 4
  have m5 : v.cell? ⟨u1.heap.size, 5, none⟩ = some _ := kb.cell 5
  have m6 : v.cell? ⟨u1.heap.size, 6, none⟩ = some _ := kb.cell 6
  have m7 : v.cell? ⟨u1.heap.size, 7, none⟩ = some _ := kb.cell 7
  have m8 : v.cell? ⟨u1.heap.size, 8, none⟩ = some _ := kb.cell 8
  have m9 : v.cell? ⟨u1.heap.size, 9, none⟩ = some _ := kb.cell 9
  have m10 : v.cell? ⟨u1.heap.size, 10, none⟩ = some _ := kb.cell 10
  have m11 : v.cell? ⟨u1.heap.size, 11, none⟩ = some _ := kb.cell 11
  have m12 : v.cell? ⟨u1.heap.size, 12, none⟩ = some _ := kb.cell 12
  have x0 : v.cell? ⟨w.heap.size + 1 + 1, 0, none⟩ = some _ := N1.b2.cell 0
  have y0 : v.frozen? ⟨w.heap.size + 1 + 1, 0, none⟩ = false := N1.b2.free 0
  have x1 : v.cell? ⟨w.heap.size + 1 + 1, 1, none⟩ = some _ := N1.b2.cell 1
  have y1 : v.frozen? ⟨w.heap.size + 1 + 1, 1, none⟩ = false := N1.b2.free 1
  have x2 : v.cell? ⟨w.heap.size + 1 + 1, 2, none⟩ = some _ := N1.b2.cell 2
  have y2 : v.frozen? ⟨w.heap.size + 1 + 1, 2, none⟩ = false := N1.b2.free 2
  have x3 : v.cell? ⟨w.heap.size + 1 + 1, 3, none⟩ = some _ := N1.b2.cell 3
  have y3 : v.frozen? ⟨w.heap.size + 1 + 1, 3, none⟩ = false := N1.b2.free 3
  have x4 : v.cell? ⟨w.heap.size + 1 + 1, 4, none⟩ = some _ := N1.b2.cell 4
  have y4 : v.frozen? ⟨w.heap.size + 1 + 1, 4, none⟩ = false := N1.b2.free 4
  have x5 : v.cell? ⟨w.heap.size + 1 + 1, 5, none⟩ = some _ := N1.b2.cell 5
  have y5 : v.frozen? ⟨w.heap.size + 1 + 1, 5, none⟩ = false := N1.b2.free 5
  have x6 : v.cell? ⟨w.heap.size + 1 + 1, 6, none⟩ = some _ := N1.b2.cell 6
  have y6 : v.frozen? ⟨w.heap.size + 1 + 1, 6, none⟩ = false := N1.b2.free 6
  have x7 : v.cell? ⟨w.heap.size + 1 + 1, 7, none⟩ = some _ := N1.b2.cell 7
  have y7 : v.frozen? ⟨w.heap.size + 1 + 1, 7, none⟩ = false := N1.b2.free 7
  have x8 : v.cell? ⟨w.heap.size + 1 + 1, 8, none⟩ = some _ := N1.b2.cell 8
  have y8 : v.frozen? ⟨w.heap.size + 1 + 1, 8, none⟩ = false := N1.b2.free 8
  have x9 : v.cell? ⟨w.heap.size + 1 + 1, 9, none⟩ = some _ := N1.b2.cell 9
  have y9 : v.frozen? ⟨w.heap.size + 1 + 1, 9, none⟩ = false := N1.b2.free 9
  have x10 : v.cell? ⟨w.heap.size + 1 + 1, 10, none⟩ = some _ := N1.b2.cell 10
  have y10 : v.frozen? ⟨w.heap.size + 1 + 1, 10, none⟩ = false := N1.b2.free 10
  have x11 : v.cell? ⟨w.heap.size + 1 + 1, 11, none⟩ = some _ := N1.b2.cell 11
  have y11 : v.frozen? ⟨w.heap.size + 1 + 1, 11, none⟩ = false := N1.b2.free 11
  have x12 : v.cell? ⟨w.heap.size + 1 + 1, 12, none⟩ = some _ := N1.b2.cell 12
  have y12 : v.frozen? ⟨w.heap.size + 1 + 1, 12, none⟩ = false := N1.b2.free 12
  have z0 : v.cell? ⟨w.heap.size + 1 + 1 + 1, 0, none⟩ = some (.int .i64 0) := N1.b3.cell 0
  have z1 : v.frozen? ⟨w.heap.size + 1 + 1 + 1, 0, none⟩ = false := N1.b3.free 0
  have B2 : Hid (Blk v (w.heap.size + 1 + 1) z13 32) := N1.b2
  have B3 : Hid (Blk v (w.heap.size + 1 + 1 + 1) [.int .i64 0] 33) := N1.b3
  clear kb N1 hk hr G1 FF fr
  go_wp2
  refine leaves_cons (f := 8) (args := #[.pointer (some ⟨w.heap.size + 1 + 1, 0, none⟩), .pointer (some ⟨w.heap.size + 1 + 1 + 1, 0, none⟩)]) (by simp) (by simp [go_sem]) ?_
  refine (catch_idle ⟨w.heap.size + 1 + 1, 0, none⟩ ⟨w.heap.size + 1 + 1 + 1, 0, none⟩ _).mono ?_
  rintro e u' w'' ⟨rfl, rfl, rfl⟩
  exact ⟨_, cc_ret ((blk13z B2.out rfl _ _ _ _ _ _ _ _ _ _ _ _ _).other (by simp) _) rfl ((oth13 B3.out (by simp) _ _ _ _ _ _ _ _ _ _ _ _ _).set 0 _) rfl rfl, _, _, rfl, FIN.out _ ((fr13 (Fr.refl _ _ _) (by simp) _ _ _ _ _ _ _ _ _ _ _ _ _).st _ 0 _ (by simp))⟩

set_option maxHeartbeats 4000000 in
theorem next_pan (w : World) (c on : Int) (k r : Value) (xs ys : List Int) (hk : SL w k xs) (hr : SL w r ys) (lx : xs.length ≤ 1000) (ly : ys.length ≤ 1000) (h1 : 1 ≤ c) (h2 : c ≤ 64) (hn : (ys.length : Int) = c) (e0 e1 e2 e3 e4 : Int) (l : Value)
    (F : ∀ (V : World) (m : Nat) (k' r' : Value), FO w V m c on k k' r' xs ys → Calls Tryz.prog 10 #[mp m, .agg (ev e0 e1 e2 e3 e4).toArray, l] V fun e w' => e = .panicked bad ∧ Fr (w.heap.size + 4) [] V w') :
    Calls Tryz.prog 5 #[.agg (sc c on k r).toArray, .agg (ev e0 e1 e2 e3 e4).toArray, l] w fun e w' => e = .returned (.tuple #[.agg z13.toArray, .int .i64 6]) ∧ Below w.heap.size w w' := by
  have NN := n4_is w (sc c on k r) (ev e0 e1 e2 e3 e4) 0
  have CO : Hid (∀ _ : Unit, _) := fun _ => copied_any (c := c) (on := on) (hk.below NN.be) (hr.below NN.be) lx ly
  obtain ⟨a, cap, rfl⟩ := hr.shape
  obtain ⟨u, hu⟩ : ∃ u, u = n4 w (sc c on k (.slice a ys.length cap)) (ev e0 e1 e2 e3 e4) 0 := ⟨_, rfl⟩
  rw [← hu] at NN CO
  have HU : Hid (n4 w (sc c on k (.slice a ys.length cap)) (ev e0 e1 e2 e3 e4) 0 = u) := hu.symm
  have N0 : Hid (N4 w u _ _ _) := NN
  have FF : Hid (∀ V : World, _) := fun V => F V
  have d1 : ¬ c < 1 := by omega
  have d2 : ¬ 64 < c := by omega
  have d3 : decide (c < 1) = false := decide_eq_false d1
  have d4 : decide (64 < c) = false := decide_eq_false d2
  have d5 : ((ys.length : Int) == c) = true := by simpa using hn
  have p0 : u.cell? ⟨w.heap.size, 0, none⟩ = some (.int .i64 c) := NN.b0.cell 0
  have p12 : u.cell? ⟨w.heap.size, 12, none⟩ = some (.slice a ys.length cap) := NN.b0.cell 12
  have p1 : u.cell? ⟨w.heap.size, 1, none⟩ = some _ := NN.b0.cell 1
  have p2 : u.cell? ⟨w.heap.size, 2, none⟩ = some _ := NN.b0.cell 2
  have p3 : u.cell? ⟨w.heap.size, 3, none⟩ = some _ := NN.b0.cell 3
  have p4 : u.cell? ⟨w.heap.size, 4, none⟩ = some _ := NN.b0.cell 4
  have p5 : u.cell? ⟨w.heap.size, 5, none⟩ = some _ := NN.b0.cell 5
  have p6 : u.cell? ⟨w.heap.size, 6, none⟩ = some _ := NN.b0.cell 6
  have p7 : u.cell? ⟨w.heap.size, 7, none⟩ = some _ := NN.b0.cell 7
  have p8 : u.cell? ⟨w.heap.size, 8, none⟩ = some _ := NN.b0.cell 8
  have p9 : u.cell? ⟨w.heap.size, 9, none⟩ = some _ := NN.b0.cell 9
  have p10 : u.cell? ⟨w.heap.size, 10, none⟩ = some _ := NN.b0.cell 10
  have p11 : u.cell? ⟨w.heap.size, 11, none⟩ = some _ := NN.b0.cell 11
  have hmf : ∀ (fn : Fn) (first cap : Array Value) (w : World), (Instr.makeFunc fn first cap).run Tryz.prog w = .ok (.func fn first cap) w := fun _ _ _ _ => rfl
  unfold n4 z13 at HU
  unfold sc ev at HU
  unfold sc at CO
  unfold sc ev
  unfold ev at FF
  clear hk hr hu NN F h1 h2 hn
  go_enter_defers Tryz.func5, Tryz.ntmps5
  go_wp2_with fail
  rw [HU.out]
  refine (CO.out ()).mono ?_
  rintro e u1 ⟨k1, r1, B, rfl, b1, o1, o2, o3, o4, o5⟩
  obtain ⟨a1, cap1, rfl⟩ := own_shape o1
  obtain ⟨a2, cap2, rfl⟩ := own_shape o2
  have FO1 := fo_of (c := c) (on := on) N0.out b1 o1 o2 o3 o4 o5
  obtain ⟨V, hV⟩ : ∃ V, V = u1.alloc (.cells (mc c on (.slice a1 xs.length cap1) (.slice a2 ys.length cap2) 0 0 0 0 0).toArray 45) := ⟨_, rfl⟩
  rw [← hV] at FO1
  have hV : V = u1.alloc (.cells #[.int .i64 c, .int .u64 on, .int .i64 0, .slice none 0 0, .slice none 0 0, .slice none 0 0, .slice a1 xs.length cap1, .slice none 0 0, .slice none 0 0, .bool false, .bool false, .int .i64 0, .slice a2 ys.length cap2, .int .i64 0, .int .i64 0, .int .i64 0, .int .i64 0, .int .i64 0] 45) := hV
  have HW : Hid (u1.alloc (.cells #[.int .i64 c, .int .u64 on, .int .i64 0, .slice none 0 0, .slice none 0 0, .slice none 0 0, .slice a1 xs.length cap1, .slice none 0 0, .slice none 0 0, .bool false, .bool false, .int .i64 0, .slice a2 ys.length cap2, .int .i64 0, .int .i64 0, .int .i64 0, .int .i64 0, .int .i64 0] 45) = V) := hV.symm
  have q0 : V.cell? ⟨w.heap.size + 1, 0, none⟩ = some (.int .i64 e0) := FO1.1.b1.cell 0
  have q1 : V.cell? ⟨w.heap.size + 1, 1, none⟩ = some (.int .i64 e1) := FO1.1.b1.cell 1
  have q2 : V.cell? ⟨w.heap.size + 1, 2, none⟩ = some (.int .i64 e2) := FO1.1.b1.cell 2
  have q3 : V.cell? ⟨w.heap.size + 1, 3, none⟩ = some (.int .u64 e3) := FO1.1.b1.cell 3
  have q4 : V.cell? ⟨w.heap.size + 1, 4, none⟩ = some (.int .i64 e4) := FO1.1.b1.cell 4
  rw [hV] at q0 q1 q2 q3 q4
  have G1 : Hid (N4 w V _ _ _ ∧ FO w V _ c on _ _ _ xs ys) := FO1
  clear FO1 hV b1 o1 o2 o3 o4 o5 N0 HU CO p0 p12 p1 p2 p3 p4 p5 p6 p7 p8 p9 p10 p11
  go_wp2_with fail
  rw [HW.out]
  clear q0 q1 q2 q3 q4 HW
  refine (FF.out _ _ _ _ G1.out.2).mono ?_
  rintro e v ⟨rfl, fr⟩
  have N1 : Hid (N4 w v _ _ _) := G1.out.1.fr fr
  clear G1 FF fr
  go_wp2
  refine leaves_cons (f := 8) (args := #[.pointer (some ⟨w.heap.size + 1 + 1, 0, none⟩), .pointer (some ⟨w.heap.size + 1 + 1 + 1, 0, none⟩)]) (by simp) (by simp [go_sem]) ?_
  refine (catch_pan (w.heap.size + 1 + 1) (w.heap.size + 1 + 1 + 1) _ _ (by omega) _ _ [] _ N1.out.b2 rfl N1.out.b3).mono ?_
  rintro e u' w'' ⟨rfl, rfl, k2, k3, f⟩
  exact ⟨_, cc_ret k2 rfl k3 rfl rfl, rfl, N1.out.be.trans ((f.less N1.out.be.size).below (by simp; omega))⟩

end Go.Proofs.YtaebebgoijgolaaGreat
