/- A model's state that is copied; two states that are alike; a new one. -/
import Derived.Test.YtaebebgoijgolaaGreatRows
import Derived.Test.YtaebebgoijgolaaGreatMda
import Derived.Laws.ResultCell
import Derived.WalkKit
import Derived.ProofKit
import Derived.OpenShut
import Derived.BigQuiet
import Derived.Deep.RegionHeld3
namespace Go.Proofs.YtaebebgoijgolaaGreat
open Go.ChangeShapes Go.WideShapes Go.ChangeAt Go.RowKit
set_option linter.unusedVariables false
set_option linter.unusedSimpArgs false
set_option maxRecDepth 100000

/-- The cells of a state that has works and readers alone. -/
def sc (c on : Int) (k r : Value) : List Value := [.int .i64 c, .int .u64 on, .int .i64 0, .slice none 0 0, .slice none 0 0, .slice none 0 0, k, .slice none 0 0, .slice none 0 0, .bool false, .bool false, .int .i64 0, r]

theorem SL.below {w w' : World} {v : Value} {xs : List Int} (h : SL w v xs) (f : Below w.heap.size w w') : SL w' v xs := ⟨h.1.below f, h.2⟩
theorem SL.shape {w : World} {v : Value} {xs : List Int} (h : SL w v xs) : ∃ a cap, v = .slice a xs.length cap := h.1.shape


def z13 : List Value := sc 0 0 (.slice none 0 0) (.slice none 0 0)

theorem sc_one (c on : Int) (a : Option Addr) (n cap : Nat) (b : Option Addr) (m cap' : Nat) : ∀ v ∈ sc c on (.slice a n cap) (.slice b m cap'), v.oneCell' = true := by
  intro v hv
  simp only [sc, List.mem_cons, List.not_mem_nil, or_false] at hv
  rcases hv with h | h | h | h | h | h | h | h | h | h | h | h | h <;> subst h <;> rfl

theorem blk13 {w : World} {z o : Nat} {t : TypeId} {cs ds es : List Value} (h : Blk w z (ds ++ cs ++ es) t) (ho : ds.length = o) (hl : cs.length = 13) (v0 v1 v2 v3 v4 v5 v6 v7 v8 v9 v10 v11 v12 : Value) :
    Blk (((((((((((((w.setCell ⟨z, o, none⟩ v0).setCell ⟨z, o + 1, none⟩ v1).setCell ⟨z, o + 2, none⟩ v2).setCell ⟨z, o + 3, none⟩ v3).setCell ⟨z, o + 4, none⟩ v4).setCell ⟨z, o + 5, none⟩ v5).setCell ⟨z, o + 6, none⟩ v6).setCell ⟨z, o + 7, none⟩ v7).setCell ⟨z, o + 8, none⟩ v8).setCell ⟨z, o + 9, none⟩ v9).setCell ⟨z, o + 10, none⟩ v10).setCell ⟨z, o + 11, none⟩ v11).setCell ⟨z, o + 12, none⟩ v12) z (ds ++ [v0, v1, v2, v3, v4, v5, v6, v7, v8, v9, v10, v11, v12] ++ es) t := by
  have h1 := ((((((((((((h.set o v0).set (o + 1) v1).set (o + 2) v2).set (o + 3) v3).set (o + 4) v4).set (o + 5) v5).set (o + 6) v6).set (o + 7) v7).set (o + 8) v8).set (o + 9) v9).set (o + 10) v10).set (o + 11) v11).set (o + 12) v12
  match cs, hl with
  | [_, _, _, _, _, _, _, _, _, _, _, _, _], _ =>
    subst ho
    simpa [List.set_append] using h1
theorem blk13z {w : World} {z : Nat} {t : TypeId} {cs : List Value} (h : Blk w z cs t) (hl : cs.length = 13) (v0 v1 v2 v3 v4 v5 v6 v7 v8 v9 v10 v11 v12 : Value) :
    Blk (((((((((((((w.setCell ⟨z, 0, none⟩ v0).setCell ⟨z, 1, none⟩ v1).setCell ⟨z, 2, none⟩ v2).setCell ⟨z, 3, none⟩ v3).setCell ⟨z, 4, none⟩ v4).setCell ⟨z, 5, none⟩ v5).setCell ⟨z, 6, none⟩ v6).setCell ⟨z, 7, none⟩ v7).setCell ⟨z, 8, none⟩ v8).setCell ⟨z, 9, none⟩ v9).setCell ⟨z, 10, none⟩ v10).setCell ⟨z, 11, none⟩ v11).setCell ⟨z, 12, none⟩ v12) z [v0, v1, v2, v3, v4, v5, v6, v7, v8, v9, v10, v11, v12] t := by
  have := blk13 (ds := []) (es := []) (o := 0) (cs := cs) (by simpa using h) rfl hl v0 v1 v2 v3 v4 v5 v6 v7 v8 v9 v10 v11 v12
  simpa using this
theorem bel13 {B : Nat} {a w : World} {g o : Nat} (h : Below B a w) (hp : B ≤ g) (v0 v1 v2 v3 v4 v5 v6 v7 v8 v9 v10 v11 v12 : Value) :
    Below B a (((((((((((((w.setCell ⟨g, o, none⟩ v0).setCell ⟨g, o + 1, none⟩ v1).setCell ⟨g, o + 2, none⟩ v2).setCell ⟨g, o + 3, none⟩ v3).setCell ⟨g, o + 4, none⟩ v4).setCell ⟨g, o + 5, none⟩ v5).setCell ⟨g, o + 6, none⟩ v6).setCell ⟨g, o + 7, none⟩ v7).setCell ⟨g, o + 8, none⟩ v8).setCell ⟨g, o + 9, none⟩ v9).setCell ⟨g, o + 10, none⟩ v10).setCell ⟨g, o + 11, none⟩ v11).setCell ⟨g, o + 12, none⟩ v12) := by
  have q : ∀ {w : World} (i : Nat) (v : Value), Below B a w → Below B a (w.setCell ⟨g, i, none⟩ v) := fun i v h => ((Fr.of_below h).setCell (p := ⟨g, i, none⟩) (Or.inl hp) v).below (by simp)
  exact q _ _ (q _ _ (q _ _ (q _ _ (q _ _ (q _ _ (q _ _ (q _ _ (q _ _ (q _ _ (q _ _ (q _ _ (q _ _ h))))))))))))
theorem bel1 {B : Nat} {a w : World} (h : Below B a w) {g : Nat} (hp : B ≤ g) (i : Nat) (v : Value) : Below B a (w.setCell ⟨g, i, none⟩ v) := ((Fr.of_below h).setCell (p := ⟨g, i, none⟩) (Or.inl hp) v).below (by simp)
theorem Blk.below {w w' : World} {b : Nat} {cs : List Value} {t : TypeId} (h : Blk w b cs t) (f : Below w.heap.size w w') : Blk w' b cs t := (f.block b h.lt).trans h

theorem size_st : (Tryz.prog.info? 32).map (·.size) = some 13 := by kernel_rfl

/-- What is said while a state is copied. -/
structure CI (w u : World) (cs : List Value) : Prop where
  b0 : Blk u w.heap.size cs 32
  b1 : Blk u (w.heap.size + 1) z13 32
  be : Below w.heap.size w u
theorem CI.set {w u : World} {cs : List Value} (h : CI w u cs) (i : Nat) (v : Value) : CI w (u.setCell ⟨w.heap.size, i, none⟩ v) (cs.set i v) :=
  ⟨h.b0.set i v, h.b1.other (by simp) v, bel1 h.be (Nat.le_refl _) i v⟩
theorem CI.below {w u u' : World} {cs : List Value} (h : CI w u cs) (f : Below u.heap.size u u') : CI w u' cs := ⟨h.b0.below f, h.b1.below f, h.be.trans (f.mono h.be.size)⟩
theorem ci_start (w : World) (cs : List Value) : CI w ((w.alloc (.cells cs.toArray 32)).alloc (.cells z13.toArray 32)) cs :=
  ⟨(Blk.new w cs _).alloc _, by have := Blk.new (w.alloc (.cells cs.toArray 32)) z13 32; simpa using this, ((Below.refl _ _).alloc (Nat.le_refl _) _).alloc (by simp) _⟩

/-- A list of numbers in memory of its own, from w's on. -/
structure OK3 (w u : World) (v : Value) (xs : List Int) : Prop where
  own : u.ownsRow (w.heap.size + 2) 3 1 v xs.length (xs.map iv)
theorem OK3.shape {w u : World} {v : Value} {xs : List Int} (h : OK3 w u v xs) : ∃ a cap, v = .slice a xs.length cap := own_shape h.own
theorem owns_below {w w' : World} {base : Nat} {t : TypeId} {v : Value} {n : Nat} {xs : List Value} (h : w.ownsRow base t 1 v n xs) (f : Below w.heap.size w w') : w'.ownsRow base t 1 v n xs := owns_keep h (Fr.of_below f) (Nat.le_refl _) (by simp)
theorem OK3.below {w u u' : World} {v : Value} {xs : List Int} (h : OK3 w u v xs) (f : Below u.heap.size u u') : OK3 w u' v xs := ⟨owns_below h.own f⟩
theorem OK3.set {w u : World} {v : Value} {xs : List Int} (h : OK3 w u v xs) (i : Nat) (x : Value) (g : Nat) (hg : g < w.heap.size + 2) : OK3 w (u.setCell ⟨g, i, none⟩ x) v xs :=
  ⟨owns_keep h.own ((Fr.refl u.heap.size [g] u).setCell (p := ⟨g, i, none⟩) (Or.inr (by simp)) x) (Nat.le_refl _) (by simpa using hg)⟩
theorem ok3_of {w u u' : World} {v : Value} {xs : List Int} {cs : List Value} (g : OG iv 3 u u' v xs) (h : CI w u cs) : OK3 w u' v xs := ⟨own_base g.own (by have := h.b1.lt; omega)⟩

theorem own_other {w : World} {B : Nat} {v : Value} {n : Nat} {xs : List Value} {g : Nat} (h : w.ownsRow B 3 1 v n xs) (hg : ∀ k, v.ownBlock = some k → k ≠ g) (i : Nat) (x : Value) : (w.setCell ⟨g, i, none⟩ x).ownsRow B 3 1 v n xs := by
  refine ⟨h.1, ?_⟩
  rcases h.2 with hn | ⟨k, cap, cur, hv, hb, hk, rest⟩
  · exact Or.inl hn
  · refine Or.inr ⟨k, cap, cur, hv, hb, ?_, rest⟩
    rw [Below.heap_setCell _ _ _ _ (by show k ≠ g; exact hg k (by rw [hv]; rfl))]
    exact hk
theorem own_hx {w u : World} {B : Nat} {v : Value} {n : Nat} {xs cs : List Value} (h : CI w u cs) (k : u.ownsRow B 3 1 v n xs) : ∀ g, v.ownBlock = some g → g ≠ w.heap.size := fun g e q => by
  subst q
  exact owng_ne k h.b0 (by decide) e rfl
theorem own_hy {w u : World} {B : Nat} {v : Value} {n : Nat} {xs cs : List Value} (h : CI w u cs) (k : u.ownsRow B 3 1 v n xs) : ∀ g, v.ownBlock = some g → g ≠ w.heap.size + 1 := fun g e q => by
  subst q
  exact owng_ne k h.b1 (by decide) e rfl

theorem own13 {w : World} {B o : Nat} {v : Value} {n : Nat} {xs : List Value} {g : Nat} (h : w.ownsRow B 3 1 v n xs) (hg : ∀ k, v.ownBlock = some k → k ≠ g) (v0 v1 v2 v3 v4 v5 v6 v7 v8 v9 v10 v11 v12 : Value) : (((((((((((((w.setCell ⟨g, o, none⟩ v0).setCell ⟨g, o + 1, none⟩ v1).setCell ⟨g, o + 2, none⟩ v2).setCell ⟨g, o + 3, none⟩ v3).setCell ⟨g, o + 4, none⟩ v4).setCell ⟨g, o + 5, none⟩ v5).setCell ⟨g, o + 6, none⟩ v6).setCell ⟨g, o + 7, none⟩ v7).setCell ⟨g, o + 8, none⟩ v8).setCell ⟨g, o + 9, none⟩ v9).setCell ⟨g, o + 10, none⟩ v10).setCell ⟨g, o + 11, none⟩ v11).setCell ⟨g, o + 12, none⟩ v12).ownsRow B 3 1 v n xs := by
  have q : ∀ {w : World} (i : Nat) (x : Value), w.ownsRow B 3 1 v n xs → (w.setCell ⟨g, i, none⟩ x).ownsRow B 3 1 v n xs := fun i x h => own_other h hg i x
  exact q _ _ (q _ _ (q _ _ (q _ _ (q _ _ (q _ _ (q _ _ (q _ _ (q _ _ (q _ _ (q _ _ (q _ _ (q _ _ h))))))))))))

theorem copied_ret {w : World} {z : Nat} {cs : List Value} {tmps : Array Value} (h : Blk w z cs 32) (hl : cs.length = 13) (h2 : tmps.getD 2 undef = .pointer (some ⟨z, 0, none⟩)) :
    (results Tryz.f9 tmps).run Tryz.prog w = .ok (.agg cs.toArray) w :=
  results_cell_row (p := 2) (ty := 32) rfl tmps w z 32 cs.toArray (0, 0) _ h2 h Tryz.underlying32 rfl (by rw [size_st]; simp [hl])

set_option maxHeartbeats 4000000 in
theorem copied_any {w : World} {c on : Int} {k r : Value} {xs ys : List Int} (hk : SL w k xs) (hr : SL w r ys) (lx : xs.length ≤ 1000) (ly : ys.length ≤ 1000) :
    Calls Tryz.prog 9 #[.agg (sc c on k r).toArray] w fun e w' => ∃ k' r' B, e = .returned (.agg (sc c on k' r').toArray) ∧ Below w.heap.size w w' ∧ w'.ownsRow w.heap.size 3 1 k' xs.length (xs.map iv) ∧ w'.ownsRow B 3 1 r' ys.length (ys.map iv) ∧ (∀ g, k'.ownBlock = some g → g < B) ∧ w.heap.size ≤ B ∧ (k = .slice none 0 0 → k' = .slice none 0 0) := by
  have C1 : Hid (∀ w, _) := fun w => clone_t w
  have C2 : Hid (∀ w, _) := fun w => clone_m w
  have C3 : Hid (∀ w, _) := fun w => clone_q w
  have C4 : Hid (∀ w, _) := fun w => clone_nil w
  have CK : Hid (∀ u : World, Below w.heap.size w u → _) := fun u f => clone_any (hk.below f) lx
  have CR : Hid (∀ u : World, Below w.heap.size w u → _) := fun u f => clone_any (hr.below f) ly
  have I0 := ci_start w (sc c on k r)
  unfold sc at I0 ⊢
  clear hk hr
  go_enter Tryz.func9, Tryz.ntmps9
  go_wp2_with fail
  have I1 : Hid (CI w ((w.alloc (.cells #[.int .i64 c, .int .u64 on, .int .i64 0, .slice none 0 0, .slice none 0 0, .slice none 0 0, k, .slice none 0 0, .slice none 0 0, .bool false, .bool false, .int .i64 0, r] 32)).alloc (.cells #[.int .i64 0, .int .u64 0, .int .i64 0, .slice none 0 0, .slice none 0 0, .slice none 0 0, .slice none 0 0, .slice none 0 0, .slice none 0 0, .bool false, .bool false, .int .i64 0, .slice none 0 0] 32)) _) := I0
  clear I0
  generalize (w.alloc (.cells #[.int .i64 c, .int .u64 on, .int .i64 0, .slice none 0 0, .slice none 0 0, .slice none 0 0, k, .slice none 0 0, .slice none 0 0, .bool false, .bool false, .int .i64 0, r] 32)).alloc (.cells #[.int .i64 0, .int .u64 0, .int .i64 0, .slice none 0 0, .slice none 0 0, .slice none 0 0, .slice none 0 0, .slice none 0 0, .slice none 0 0, .bool false, .bool false, .int .i64 0, .slice none 0 0] 32) = u at *
  refine (C1.out _).mono ?_
  rintro e u1 ⟨rfl, rfl⟩
  have c3 : u1.cell? ⟨w.heap.size, 3, none⟩ = some _ := I1.out.b0.cell 3
  have f3 : u1.frozen? ⟨w.heap.size, 3, none⟩ = false := I1.out.b0.free 3
  have c4 : u1.cell? ⟨w.heap.size, 4, none⟩ = some _ := I1.out.b0.cell 4
  go_wp2_with fail
  have I2 : Hid (CI w (u1.setCell ⟨w.heap.size, 3, none⟩ (.slice none 0 0)) _) := I1.out.set 3 _
  clear c3 f3 c4 I1
  generalize u1.setCell ⟨w.heap.size, 3, none⟩ (.slice none 0 0) = u2 at *
  refine (C2.out _).mono ?_
  rintro e u2 ⟨rfl, rfl⟩
  have c4 : u2.cell? ⟨w.heap.size, 4, none⟩ = some _ := I2.out.b0.cell 4
  have f4 : u2.frozen? ⟨w.heap.size, 4, none⟩ = false := I2.out.b0.free 4
  have c5 : u2.cell? ⟨w.heap.size, 5, none⟩ = some _ := I2.out.b0.cell 5
  go_wp2_with fail
  have I3 : Hid (CI w (u2.setCell ⟨w.heap.size, 4, none⟩ (.slice none 0 0)) _) := I2.out.set 4 _
  clear c4 f4 c5 I2
  generalize u2.setCell ⟨w.heap.size, 4, none⟩ (.slice none 0 0) = u3 at *
  refine (C3.out _).mono ?_
  rintro e u3 ⟨rfl, rfl⟩
  have c5 : u3.cell? ⟨w.heap.size, 5, none⟩ = some _ := I3.out.b0.cell 5
  have f5 : u3.frozen? ⟨w.heap.size, 5, none⟩ = false := I3.out.b0.free 5
  have c6 : u3.cell? ⟨w.heap.size, 6, none⟩ = some _ := I3.out.b0.cell 6
  go_wp2_with fail
  have I4 : Hid (CI w (u3.setCell ⟨w.heap.size, 5, none⟩ (.slice none 0 0)) _) := I3.out.set 5 _
  clear c5 f5 c6 I3
  generalize u3.setCell ⟨w.heap.size, 5, none⟩ (.slice none 0 0) = u4 at *
  refine (CK.out _ I4.out.be).mono ?_
  rintro e v4 ⟨k2, rfl, g2, nn⟩
  have NN : Hid (k = .slice none 0 0 → k2 = .slice none 0 0) := nn
  clear nn
  have I4x : Hid (CI w v4 _) := I4.out.below g2.bel
  have K4 : Hid (OK3 w v4 k2 xs) := ok3_of g2 I4.out
  clear I4 g2
  obtain ⟨a2, cap2, rfl⟩ := K4.out.shape
  have c6 : v4.cell? ⟨w.heap.size, 6, none⟩ = some _ := I4x.out.b0.cell 6
  have f6 : v4.frozen? ⟨w.heap.size, 6, none⟩ = false := I4x.out.b0.free 6
  have c7 : v4.cell? ⟨w.heap.size, 7, none⟩ = some _ := I4x.out.b0.cell 7
  go_wp2_with fail
  have I5 : Hid (CI w (v4.setCell ⟨w.heap.size, 6, none⟩ (.slice a2 xs.length cap2)) _) := I4x.out.set 6 _
  have K5 : Hid (OK3 w (v4.setCell ⟨w.heap.size, 6, none⟩ (.slice a2 xs.length cap2)) (.slice a2 xs.length cap2) xs) := K4.out.set _ _ _ (by omega)
  clear c6 f6 c7 I4x K4
  generalize v4.setCell ⟨w.heap.size, 6, none⟩ (.slice a2 xs.length cap2) = u5 at *
  refine (C4.out _).mono ?_
  rintro e u5 ⟨rfl, rfl⟩
  have c7 : u5.cell? ⟨w.heap.size, 7, none⟩ = some _ := I5.out.b0.cell 7
  have f7 : u5.frozen? ⟨w.heap.size, 7, none⟩ = false := I5.out.b0.free 7
  have c8 : u5.cell? ⟨w.heap.size, 8, none⟩ = some _ := I5.out.b0.cell 8
  go_wp2_with fail
  have I6 : Hid (CI w (u5.setCell ⟨w.heap.size, 7, none⟩ (.slice none 0 0)) _) := I5.out.set 7 _
  have K6 : Hid (OK3 w (u5.setCell ⟨w.heap.size, 7, none⟩ (.slice none 0 0)) (.slice a2 xs.length cap2) xs) := K5.out.set _ _ _ (by omega)
  clear c7 f7 c8 I5 K5
  generalize u5.setCell ⟨w.heap.size, 7, none⟩ (.slice none 0 0) = u6 at *
  refine (C4.out _).mono ?_
  rintro e u6 ⟨rfl, rfl⟩
  have c8 : u6.cell? ⟨w.heap.size, 8, none⟩ = some _ := I6.out.b0.cell 8
  have f8 : u6.frozen? ⟨w.heap.size, 8, none⟩ = false := I6.out.b0.free 8
  have c12 : u6.cell? ⟨w.heap.size, 12, none⟩ = some _ := I6.out.b0.cell 12
  go_wp2_with fail
  have I7 : Hid (CI w (u6.setCell ⟨w.heap.size, 8, none⟩ (.slice none 0 0)) _) := I6.out.set 8 _
  have K7 : Hid (OK3 w (u6.setCell ⟨w.heap.size, 8, none⟩ (.slice none 0 0)) (.slice a2 xs.length cap2) xs) := K6.out.set _ _ _ (by omega)
  clear c8 f8 c12 I6 K6
  generalize u6.setCell ⟨w.heap.size, 8, none⟩ (.slice none 0 0) = u7 at *
  refine (CR.out _ I7.out.be).mono ?_
  rintro e v7 ⟨r2, rfl, g2, -⟩
  have I7x : Hid (CI w v7 _) := I7.out.below g2.bel
  have K7x : Hid (OK3 w v7 (.slice a2 xs.length cap2) xs) := K7.out.below g2.bel
  have R7 : Hid (v7.ownsRow u7.heap.size 3 1 r2 ys.length (ys.map iv)) := g2.own
  have S7 : Hid (w.heap.size ≤ u7.heap.size ∧ ∀ g, (Value.slice a2 xs.length cap2).ownBlock = some g → g < u7.heap.size) := ⟨I7.out.be.size, fun g e => owng_lt K7.out.own e⟩
  clear I7 g2 K7
  generalize u7.heap.size = B at *
  obtain ⟨b2, cap3, rfl⟩ := own_shape R7.out
  have I8 := I7x.out.set 12 (.slice b2 ys.length cap3)
  have K8 : Hid (OK3 w (v7.setCell ⟨w.heap.size, 12, none⟩ (.slice b2 ys.length cap3)) (.slice a2 xs.length cap2) xs) := K7x.out.set _ _ _ (by omega)
  have hx := own_hx I7x.out R7.out
  have R8 : Hid ((v7.setCell ⟨w.heap.size, 12, none⟩ (.slice b2 ys.length cap3)).ownsRow B 3 1 (.slice b2 ys.length cap3) ys.length (ys.map iv)) := own_other R7.out hx _ _
  have c12 : v7.cell? ⟨w.heap.size, 12, none⟩ = some _ := I7x.out.b0.cell 12
  have f12 : v7.frozen? ⟨w.heap.size, 12, none⟩ = false := I7x.out.b0.free 12
  have d0 : (v7.setCell ⟨w.heap.size, 12, none⟩ (.slice b2 ys.length cap3)).cell? ⟨w.heap.size, 0, none⟩ = some _ := I8.b0.cell 0
  have e0 : (v7.setCell ⟨w.heap.size, 12, none⟩ (.slice b2 ys.length cap3)).cell? ⟨w.heap.size + 1, 0, none⟩ = some _ := I8.b1.cell 0
  have g0 : (v7.setCell ⟨w.heap.size, 12, none⟩ (.slice b2 ys.length cap3)).frozen? ⟨w.heap.size + 1, 0, none⟩ = false := I8.b1.free 0
  have d1 : (v7.setCell ⟨w.heap.size, 12, none⟩ (.slice b2 ys.length cap3)).cell? ⟨w.heap.size, 1, none⟩ = some _ := I8.b0.cell 1
  have e1 : (v7.setCell ⟨w.heap.size, 12, none⟩ (.slice b2 ys.length cap3)).cell? ⟨w.heap.size + 1, 1, none⟩ = some _ := I8.b1.cell 1
  have g1 : (v7.setCell ⟨w.heap.size, 12, none⟩ (.slice b2 ys.length cap3)).frozen? ⟨w.heap.size + 1, 1, none⟩ = false := I8.b1.free 1
  have d2 : (v7.setCell ⟨w.heap.size, 12, none⟩ (.slice b2 ys.length cap3)).cell? ⟨w.heap.size, 2, none⟩ = some _ := I8.b0.cell 2
  have e2 : (v7.setCell ⟨w.heap.size, 12, none⟩ (.slice b2 ys.length cap3)).cell? ⟨w.heap.size + 1, 2, none⟩ = some _ := I8.b1.cell 2
  have g2 : (v7.setCell ⟨w.heap.size, 12, none⟩ (.slice b2 ys.length cap3)).frozen? ⟨w.heap.size + 1, 2, none⟩ = false := I8.b1.free 2
  have d3 : (v7.setCell ⟨w.heap.size, 12, none⟩ (.slice b2 ys.length cap3)).cell? ⟨w.heap.size, 3, none⟩ = some _ := I8.b0.cell 3
  have e3 : (v7.setCell ⟨w.heap.size, 12, none⟩ (.slice b2 ys.length cap3)).cell? ⟨w.heap.size + 1, 3, none⟩ = some _ := I8.b1.cell 3
  have g3 : (v7.setCell ⟨w.heap.size, 12, none⟩ (.slice b2 ys.length cap3)).frozen? ⟨w.heap.size + 1, 3, none⟩ = false := I8.b1.free 3
  have d4 : (v7.setCell ⟨w.heap.size, 12, none⟩ (.slice b2 ys.length cap3)).cell? ⟨w.heap.size, 4, none⟩ = some _ := I8.b0.cell 4
  have e4 : (v7.setCell ⟨w.heap.size, 12, none⟩ (.slice b2 ys.length cap3)).cell? ⟨w.heap.size + 1, 4, none⟩ = some _ := I8.b1.cell 4
  have g4 : (v7.setCell ⟨w.heap.size, 12, none⟩ (.slice b2 ys.length cap3)).frozen? ⟨w.heap.size + 1, 4, none⟩ = false := I8.b1.free 4
  have d5 : (v7.setCell ⟨w.heap.size, 12, none⟩ (.slice b2 ys.length cap3)).cell? ⟨w.heap.size, 5, none⟩ = some _ := I8.b0.cell 5
  have e5 : (v7.setCell ⟨w.heap.size, 12, none⟩ (.slice b2 ys.length cap3)).cell? ⟨w.heap.size + 1, 5, none⟩ = some _ := I8.b1.cell 5
  have g5 : (v7.setCell ⟨w.heap.size, 12, none⟩ (.slice b2 ys.length cap3)).frozen? ⟨w.heap.size + 1, 5, none⟩ = false := I8.b1.free 5
  have d6 : (v7.setCell ⟨w.heap.size, 12, none⟩ (.slice b2 ys.length cap3)).cell? ⟨w.heap.size, 6, none⟩ = some _ := I8.b0.cell 6
  have e6 : (v7.setCell ⟨w.heap.size, 12, none⟩ (.slice b2 ys.length cap3)).cell? ⟨w.heap.size + 1, 6, none⟩ = some _ := I8.b1.cell 6
  have g6 : (v7.setCell ⟨w.heap.size, 12, none⟩ (.slice b2 ys.length cap3)).frozen? ⟨w.heap.size + 1, 6, none⟩ = false := I8.b1.free 6
  have d7 : (v7.setCell ⟨w.heap.size, 12, none⟩ (.slice b2 ys.length cap3)).cell? ⟨w.heap.size, 7, none⟩ = some _ := I8.b0.cell 7
  have e7 : (v7.setCell ⟨w.heap.size, 12, none⟩ (.slice b2 ys.length cap3)).cell? ⟨w.heap.size + 1, 7, none⟩ = some _ := I8.b1.cell 7
  have g7 : (v7.setCell ⟨w.heap.size, 12, none⟩ (.slice b2 ys.length cap3)).frozen? ⟨w.heap.size + 1, 7, none⟩ = false := I8.b1.free 7
  have d8 : (v7.setCell ⟨w.heap.size, 12, none⟩ (.slice b2 ys.length cap3)).cell? ⟨w.heap.size, 8, none⟩ = some _ := I8.b0.cell 8
  have e8 : (v7.setCell ⟨w.heap.size, 12, none⟩ (.slice b2 ys.length cap3)).cell? ⟨w.heap.size + 1, 8, none⟩ = some _ := I8.b1.cell 8
  have g8 : (v7.setCell ⟨w.heap.size, 12, none⟩ (.slice b2 ys.length cap3)).frozen? ⟨w.heap.size + 1, 8, none⟩ = false := I8.b1.free 8
  have d9 : (v7.setCell ⟨w.heap.size, 12, none⟩ (.slice b2 ys.length cap3)).cell? ⟨w.heap.size, 9, none⟩ = some _ := I8.b0.cell 9
  have e9 : (v7.setCell ⟨w.heap.size, 12, none⟩ (.slice b2 ys.length cap3)).cell? ⟨w.heap.size + 1, 9, none⟩ = some _ := I8.b1.cell 9
  have g9 : (v7.setCell ⟨w.heap.size, 12, none⟩ (.slice b2 ys.length cap3)).frozen? ⟨w.heap.size + 1, 9, none⟩ = false := I8.b1.free 9
  have d10 : (v7.setCell ⟨w.heap.size, 12, none⟩ (.slice b2 ys.length cap3)).cell? ⟨w.heap.size, 10, none⟩ = some _ := I8.b0.cell 10
  have e10 : (v7.setCell ⟨w.heap.size, 12, none⟩ (.slice b2 ys.length cap3)).cell? ⟨w.heap.size + 1, 10, none⟩ = some _ := I8.b1.cell 10
  have g10 : (v7.setCell ⟨w.heap.size, 12, none⟩ (.slice b2 ys.length cap3)).frozen? ⟨w.heap.size + 1, 10, none⟩ = false := I8.b1.free 10
  have d11 : (v7.setCell ⟨w.heap.size, 12, none⟩ (.slice b2 ys.length cap3)).cell? ⟨w.heap.size, 11, none⟩ = some _ := I8.b0.cell 11
  have e11 : (v7.setCell ⟨w.heap.size, 12, none⟩ (.slice b2 ys.length cap3)).cell? ⟨w.heap.size + 1, 11, none⟩ = some _ := I8.b1.cell 11
  have g11 : (v7.setCell ⟨w.heap.size, 12, none⟩ (.slice b2 ys.length cap3)).frozen? ⟨w.heap.size + 1, 11, none⟩ = false := I8.b1.free 11
  have d12 : (v7.setCell ⟨w.heap.size, 12, none⟩ (.slice b2 ys.length cap3)).cell? ⟨w.heap.size, 12, none⟩ = some _ := I8.b0.cell 12
  have e12 : (v7.setCell ⟨w.heap.size, 12, none⟩ (.slice b2 ys.length cap3)).cell? ⟨w.heap.size + 1, 12, none⟩ = some _ := I8.b1.cell 12
  have g12 : (v7.setCell ⟨w.heap.size, 12, none⟩ (.slice b2 ys.length cap3)).frozen? ⟨w.heap.size + 1, 12, none⟩ = false := I8.b1.free 12
  have J8 : Hid (CI w (v7.setCell ⟨w.heap.size, 12, none⟩ (.slice b2 ys.length cap3)) _) := I8
  clear I8 I7x K7x R7 hx
  go_wp2
  exact bodyPost_ret (copied_ret (blk13z J8.out.b1 rfl _ _ _ _ _ _ _ _ _ _ _ _ _) rfl rfl) rfl ⟨.slice a2 xs.length cap2, .slice b2 ys.length cap3, B, rfl, bel13 (o := 0) J8.out.be (by omega) _ _ _ _ _ _ _ _ _ _ _ _ _, own13 (o := 0) (own_base K8.out.own (by omega)) (own_hy J8.out K8.out.own) _ _ _ _ _ _ _ _ _ _ _ _ _, own13 (o := 0) R8.out (own_hy J8.out R8.out) _ _ _ _ _ _ _ _ _ _ _ _ _, S7.out.2, S7.out.1, NN.out⟩
end Go.Proofs.YtaebebgoijgolaaGreat
