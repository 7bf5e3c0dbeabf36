/- The texts Fw Fg Fj Fz Fs Lw of one layer, laid together. -/
import Derived.Test.YtfipiifickdeiaaGreatDoorRows
import Derived.WalkKit
import Derived.ProofKit
import Derived.OpenShut
import Derived.OneCell
import Derived.BigQuiet
import Derived.Laws.CopyOwn
import Derived.Deep.OwnRows
import Derived.ArgAppend
import Derived.Laws.OwnMore
import Derived.Deep.Slices
namespace Go.Proofs.YtfipiifickdeiaaGreatDoor
open Go.ChangeShapes Go.WideShapes Go.ChangeAt Go.RowKit
/-- Below block number B all blocks but those of S are as they were; the streams too; no block has gone. -/
structure Fr (B : Nat) (S : List Nat) (w w' : World) : Prop where
  os : w'.os = w.os
  tape : w'.tape = w.tape
  output : w'.output = w.output
  size : w.heap.size ≤ w'.heap.size
  block : ∀ k, k < B → k ∉ S → w'.heap[k]? = w.heap[k]?
theorem Fr.refl (B : Nat) (S : List Nat) (w : World) : Fr B S w w := ⟨rfl, rfl, rfl, Nat.le_refl _, fun _ _ _ => rfl⟩
theorem Fr.trans {B : Nat} {S : List Nat} {a b c : World} (h : Fr B S a b) (k : Fr B S b c) : Fr B S a c :=
  ⟨k.os.trans h.os, k.tape.trans h.tape, k.output.trans h.output, Nat.le_trans h.size k.size, fun i hi hs => (k.block i hi hs).trans (h.block i hi hs)⟩
theorem Fr.mono {B B' : Nat} {S S' : List Nat} {w w' : World} (h : Fr B S w w') (hB : B' ≤ B) (hS : ∀ k, k < B' → k ∉ S' → k ∉ S) : Fr B' S' w w' :=
  ⟨h.os, h.tape, h.output, h.size, fun k hk hs => h.block k (Nat.lt_of_lt_of_le hk hB) (hS k hk hs)⟩
theorem Fr.less {B B' : Nat} {S : List Nat} {w w' : World} (h : Fr B S w w') (hB : B' ≤ B) : Fr B' S w w' := h.mono hB fun _ _ h => h
theorem Fr.drew {B : Nat} {S : List Nat} {a w : World} (h : Fr B S a w) : Fr B S a w.drew := ⟨h.os, h.tape, h.output, h.size, h.block⟩
theorem Fr.drewN {B : Nat} {S : List Nat} {a w : World} (h : Fr B S a w) (n : Nat) : Fr B S a (w.drewN n) := ⟨h.os, h.tape, h.output, h.size, h.block⟩
theorem Fr.alloc {B : Nat} {S : List Nat} {a w : World} (h : Fr B S a w) (hB : B ≤ w.heap.size) (o : Obj) : Fr B S a (w.alloc o) :=
  h.trans ⟨rfl, rfl, rfl, by simp, fun k hk _ => Below.heap_alloc _ _ _ (by omega)⟩
theorem Fr.setCell {B : Nat} {S : List Nat} {a w : World} (h : Fr B S a w) {p : Addr} (hp : B ≤ p.block ∨ p.block ∈ S) (u : Value) : Fr B S a (w.setCell p u) :=
  h.trans ⟨rfl, rfl, rfl, by simp [World.setCell], fun k hk hs => Below.heap_setCell _ _ _ _ (by rcases hp with h | h; omega; intro e; exact hs (e ▸ h))⟩
theorem Fr.grown {B : Nat} {S : List Nat} {a w w' : World} {row : Option Nat} (h : Fr B S a w) (hg : w.grownBy w' row) (hB : B ≤ w.heap.size) (hr : ∀ k, row = some k → B ≤ k ∨ k ∈ S) : Fr B S a w' :=
  h.trans ⟨hg.os, hg.tape, hg.output, hg.size, fun k hk hs => hg.block k (by omega) (fun e => by rcases hr k e.symm with h | h; omega; exact hs h)⟩
theorem Fr.of_below {B : Nat} {w w' : World} (h : Below B w w') : Fr B [] w w' := ⟨h.os, h.tape, h.output, h.size, fun k hk _ => h.block k hk⟩
theorem Fr.below {B : Nat} {S : List Nat} {w w' : World} (h : Fr B S w w') (hS : ∀ k ∈ S, B ≤ k) : Below B w w' := ⟨h.os, h.tape, h.output, h.size, fun k hk => h.block k hk (fun e => by have := hS k e; omega)⟩
theorem Fr.cell {B : Nat} {S : List Nat} {w w' : World} (h : Fr B S w w') {p : Addr} (hp : p.block < B) (hs : p.block ∉ S) : w'.cell? p = w.cell? p := World.cell?_of_block (w := w) (h.block p.block hp hs)
/-- What a block holds; none of it is frozen. -/
def Blk (w : World) (b : Nat) (cs : List Value) (t : TypeId) : Prop := w.heap[b]? = some (.cells cs.toArray t (0, 0))
theorem Blk.lt {w : World} {b : Nat} {cs : List Value} {t : TypeId} (h : Blk w b cs t) : b < w.heap.size := lt_of_block h
theorem Blk.cell {w : World} {b : Nat} {cs : List Value} {t : TypeId} (h : Blk w b cs t) (i : Nat) : w.cell? ⟨b, i, none⟩ = cs[i]? := by simp [World.cell?, show w.heap[b]? = _ from h]
theorem Blk.free {w : World} {b : Nat} {cs : List Value} {t : TypeId} (h : Blk w b cs t) (i : Nat) : w.frozen? ⟨b, i, none⟩ = false := by
  simp [World.frozen?, show w.heap[b]? = _ from h]
theorem Blk.keep {B : Nat} {S : List Nat} {w w' : World} {b : Nat} {cs : List Value} {t : TypeId} (h : Blk w b cs t) (f : Fr B S w w') (hb : b < B) (hs : b ∉ S) : Blk w' b cs t := (f.block b hb hs).trans h
theorem Blk.heap {w w1 : World} {b : Nat} {cs : List Value} {t : TypeId} (h : Blk w b cs t) (e : w1.heap = w.heap) : Blk w1 b cs t := by unfold Blk; rw [e]; exact h
theorem Blk.drewN {w : World} {b : Nat} {cs : List Value} {t : TypeId} (h : Blk w b cs t) (n : Nat) : Blk (w.drewN n) b cs t := h
theorem Blk.alloc {w : World} {b : Nat} {cs : List Value} {t : TypeId} (h : Blk w b cs t) (o : Obj) : Blk (w.alloc o) b cs t := (Below.heap_alloc _ _ _ h.lt).trans h
theorem Blk.new (w : World) (cs : List Value) (t : TypeId) : Blk (w.alloc (.cells cs.toArray t)) w.heap.size cs t := heap_alloc_new w _
theorem Blk.other {w : World} {b : Nat} {cs : List Value} {t : TypeId} (h : Blk w b cs t) {p : Addr} (hp : b ≠ p.block) (u : Value) : Blk (w.setCell p u) b cs t := (Below.heap_setCell _ _ _ _ hp).trans h
theorem Blk.set {w : World} {b : Nat} {cs : List Value} {t : TypeId} (h : Blk w b cs t) (i : Nat) (u : Value) : Blk (w.setCell ⟨b, i, none⟩ u) b (cs.set i u) t := by
  have hlt := h.lt
  have h' : w.heap[b] = .cells cs.toArray t (0, 0) := by simpa [Array.getElem?_eq_getElem hlt] using (show w.heap[b]? = _ from h)
  show (w.heap.modify b _)[b]? = _
  rw [Array.getElem?_eq_getElem (by simpa using hlt), Array.getElem_modify_self, h']
  simp
theorem Blk.ne {w : World} {b g : Nat} {cs ds : List Value} {t u : TypeId} (h : Blk w b cs t) (k : Blk w g ds u) (n : t ≠ u) : b ≠ g := by
  intro e
  subst e
  have := (show w.heap[b]? = _ from h).symm.trans k
  simp at this
  exact n this.2
/-- A slice's elements, as they lie in memory. -/
def Row (w : World) (v : Value) (xs : List Int) : Prop :=
  (xs = [] ∧ ∃ a cap, v = .slice a 0 cap) ∨ ∃ b off cap, v = .slice (some ⟨b, off, none⟩) xs.length cap ∧ b < w.heap.size ∧ ∀ i, i < xs.length → w.cell? ⟨b, off + i, none⟩ = some (.int .i64 (xs.getD i 0))
theorem Row.keep {B : Nat} {w w' : World} {v : Value} {xs : List Int} (h : Row w v xs) (f : Fr B [] w w') (hB : w.heap.size ≤ B) : Row w' v xs := by
  rcases h with h | ⟨b, off, cap, hv, hb, hc⟩
  · exact Or.inl h
  · refine Or.inr ⟨b, off, cap, hv, Nat.lt_of_lt_of_le hb f.size, fun i hi => ?_⟩
    rw [f.cell (show (⟨b, off + i, none⟩ : Addr).block < B by show b < B; omega) (by simp)]
    exact hc i hi
theorem row_of_owns {w : World} {base : Nat} {t : TypeId} {v : Value} {xs : List Int} (h : w.ownsRow base t 1 v xs.length (xs.map (Value.int .i64))) : Row w v xs := by
  rcases h.2 with ⟨hv, hn⟩ | ⟨b, cap, cur, hv, hb, hh, hn, hc, hz, ht⟩
  · exact Or.inl ⟨List.eq_nil_of_length_eq_zero hn, none, 0, hv⟩
  · subst hv
    refine Or.inr ⟨b, 0, cap, rfl, lt_of_block hh, fun i hi => ?_⟩
    rw [Nat.zero_add, h.cellAt i (by omega), List.getElem?_map, List.getElem?_eq_getElem hi, List.getD_eq_getElem?_getD, List.getElem?_eq_getElem hi]
    rfl
theorem row_of_blk {w : World} {b : Nat} {xs : List Int} {t : TypeId} (h : Blk w b (xs.map (Value.int .i64)) t) (cap : Nat) : Row w (.slice (some ⟨b, 0, none⟩) xs.length cap) xs := by
  refine Or.inr ⟨b, 0, cap, rfl, h.lt, fun i hi => ?_⟩
  rw [Nat.zero_add, h.cell i, List.getElem?_map, List.getElem?_eq_getElem hi, List.getD_eq_getElem?_getD, List.getElem?_eq_getElem hi]
  rfl
/-- A part of a block of whole numbers. -/
theorem row_of_part {w : World} {b : Nat} {xs : List Int} {t : TypeId} (h : Blk w b (xs.map (Value.int .i64)) t) (off n cap : Nat) (hn : off + n ≤ xs.length) : Row w (.slice (some ⟨b, off, none⟩) n cap) ((xs.drop off).take n) := by
  have hl : ((xs.drop off).take n).length = n := by simp; omega
  refine Or.inr ⟨b, off, cap, by rw [hl], h.lt, fun i hi => ?_⟩
  rw [hl] at hi
  rw [h.cell (off + i), List.getElem?_map, List.getElem?_eq_getElem (by omega : off + i < xs.length), List.getD_eq_getElem?_getD, List.getElem?_take, if_pos hi, List.getElem?_drop, List.getElem?_eq_getElem (by omega : off + i < xs.length)]
  rfl
theorem getD_map_int (xs : List Int) (i : Nat) (h : i < xs.length) : (xs.map (Value.int .i64))[i]? = some (.int .i64 (xs.getD i 0)) := by
  rw [List.getElem?_map, List.getElem?_eq_getElem h, List.getD_eq_getElem?_getD, List.getElem?_eq_getElem h]
  rfl
end Go.Proofs.YtfipiifickdeiaaGreatDoor
namespace Go.Proofs.YtfipiifickdeiaaGreatDoor
open Go.ChangeShapes Go.WideShapes Go.ChangeAt Go.RowKit
theorem Row.shape {w : World} {v : Value} {xs : List Int} (h : Row w v xs) : ∃ a cap, v = .slice a xs.length cap := by
  rcases h with ⟨rfl, a, cap, rfl⟩ | ⟨b, off, cap, rfl, _⟩
  · exact ⟨a, cap, rfl⟩
  · exact ⟨_, cap, rfl⟩
/-- What has been gathered so far: v owns it; nothing that was there has turned. -/
structure Gt (w wr : World) (v : Value) (G : List Int) : Prop where
  own : wr.ownsRow w.heap.size 3 1 v G.length (G.map (Value.int .i64))
  bel : Below w.heap.size w wr
theorem gt_app {w wr w1 : World} {v v' : Value} {G : List Int} {x : Int} {o : Obj} (g : Gt w wr v G)
    (hown' : w1.ownsRow w.heap.size 3 1 v' (G.length + 1) (G.map (Value.int .i64) ++ [.int .i64 x])) (hgrow : (wr.alloc o).grownBy w1 v.ownBlock) : Gt w w1 v' (G ++ [x]) := by
  have hs := g.bel.size
  refine ⟨?_, (g.bel.alloc hs o).grown hgrow (by simp; omega) (fun j hj => (g.own.lt j hj).1)⟩
  simpa using hown'
theorem own_shape {w : World} {base : Nat} {t : TypeId} {v : Value} {n : Nat} {xs : List Value} (h : w.ownsRow base t 1 v n xs) : ∃ a cap, v = .slice a n cap := by
  rcases h.2 with ⟨rfl, rfl⟩ | ⟨g, cap, cur, rfl, _⟩
  · exact ⟨none, 0, rfl⟩
  · exact ⟨_, cap, rfl⟩
theorem take_snoc (xs : List Int) (k : Nat) (h : k < xs.length) : xs.take (k + 1) = xs.take k ++ [xs.getD k 0] := by
  rw [List.take_succ_eq_append_getElem h]
  simp [List.getD, h]
theorem fr_own {B : Nat} {S : List Nat} {w0 w w' : World} (h : Below B w0 w) (f : Fr w.heap.size S w w') (hB : B ≤ w.heap.size) (hS : ∀ k ∈ S, B ≤ k) : Below B w0 w' := h.trans ((f.less hB).below hS)
/-- One world but for draws. -/
def Sm (w1 w : World) : Prop := w1.heap = w.heap ∧ w1.os = w.os ∧ w1.tape = w.tape ∧ w1.output = w.output
theorem Sm.below {B : Nat} {w w1 w2 : World} (h : Sm w2 w1) (b : Below B w w1) : Below B w w2 := by
  obtain ⟨e1, e2, e3, e4⟩ := h
  exact ⟨e2.trans b.os, e3.trans b.tape, e4.trans b.output, by rw [e1]; exact b.size, fun k hk => by rw [e1]; exact b.block k hk⟩
theorem Sm.from {B : Nat} {w w1 w2 : World} (h : Sm w1 w) (b : Below B w1 w2) : Below B w w2 := by
  obtain ⟨e1, e2, e3, e4⟩ := h
  exact ⟨b.os.trans e2, b.tape.trans e3, b.output.trans e4, by rw [← e1]; exact b.size, fun k hk => by rw [← e1]; exact b.block k hk⟩
theorem Sm.fr {B : Nat} {S : List Nat} {w w1 w2 : World} (h : Sm w1 w) (b : Fr B S w1 w2) : Fr B S w w2 := by
  obtain ⟨e1, e2, e3, e4⟩ := h
  exact ⟨b.os.trans e2, b.tape.trans e3, b.output.trans e4, by rw [← e1]; exact b.size, fun k hk hs => by rw [← e1]; exact b.block k hk hs⟩
theorem Fr.st {B : Nat} {S : List Nat} {a w : World} (h : Fr B S a w) (g i : Nat) (u : Value) (hg : g ∈ S) : Fr B S a (w.setCell ⟨g, i, none⟩ u) := h.setCell (p := ⟨g, i, none⟩) (Or.inr hg) u
end Go.Proofs.YtfipiifickdeiaaGreatDoor
namespace Go.Proofs.YtfipiifickdeiaaGreatDoor
open Go.ChangeShapes Go.WideShapes Go.ChangeAt Go.RowKit
theorem Tryz.info3 : (Tryz.prog.info? 3).map (fun i => (i.zero, i.size, i.bytes)) = some (some (.int .i64 0), 1, 8) := by kernel_rfl
theorem made_int (n : Nat) : madeCells #[Value.int .i64 0] n = ((List.replicate n (0 : Int)).map (Value.int .i64)).toArray := by
  apply Array.ext
  · simp [size_madeCells]
  · intro i h1 h2
    simp [madeCells, Nat.mod_one]
/-- Where what is copied lies. -/
theorem row_src {w : World} {sp : Option Addr} {c : Nat} {xs : List Int} (h : Row w (.slice sp xs.length c) xs) (hp : 0 < xs.length) :
    ∃ ad, sp = some ad ∧ ∀ j v, (xs.map (Value.int .i64))[j]? = some v → w.cell? (ad.add j) = some v := by
  rcases h with ⟨rfl, _⟩ | ⟨b, off, cap, hv, hb, hc⟩
  · simp at hp
  · simp only [Value.slice.injEq] at hv
    refine ⟨_, hv.1, fun j v hj => ?_⟩
    have hj2 : j < xs.length := by
      have := (List.getElem?_eq_some_iff.1 hj).1
      simpa using this
    rw [getD_map_int xs j hj2] at hj
    have e : (⟨b, off, none⟩ : Addr).add j = ⟨b, off + j, none⟩ := by unfold Addr.add; split <;> simp_all
    rw [e, hc j hj2]
    exact hj
theorem splice_two {α : Type} (Z X Y : List α) (h : Z.length = X.length + Y.length) : splice (splice Z 0 X) X.length Y = X ++ Y := by
  unfold splice
  have e : List.take 0 Z ++ (X ++ List.drop (0 + X.length) Z) = X ++ Z.drop X.length := by simp
  rw [e, List.take_left, List.drop_append]
  have a : X.drop (X.length + Y.length) = [] := List.drop_eq_nil_of_le (by omega)
  have b : (Z.drop X.length).drop (X.length + Y.length - X.length) = [] := by
    rw [List.drop_drop]
    exact List.drop_eq_nil_of_le (by omega)
  rw [a, b]
  simp
theorem info3s : (Tryz.prog.info? 3).map (·.size) = some 1 := by kernel_rfl
theorem ints_one (xs : List Int) : ∀ v ∈ xs.map (Value.int .i64), v.oneCell' = true := by
  intro v hv
  obtain ⟨x, _, rfl⟩ := List.mem_map.1 hv
  rfl
end Go.Proofs.YtfipiifickdeiaaGreatDoor
namespace Go.Proofs.YtfipiifickdeiaaGreatDoor
open Go.ChangeShapes Go.WideShapes Go.ChangeAt Go.RowKit
theorem run_appg {P : Program} (w : World) (t ty e : TypeId) (i0 : TypeInfo) (z : Value) (size bytes : Nat) (ht : P.underlying t = some (.slice e)) (hi : P.info? e = some i0) (hz0 : i0.zero = some z) (hz1 : i0.size = size) (hz2 : i0.bytes = bytes) (hzs : z.cells.size = size) (hsz : 0 < size) (hb : bytes ≤ 1000)
    {v : Value} {n : Nat} {xs : List Value} (hown : w.ownsRow 0 e size v n xs) (ad : Addr) (m c : Nat) (news : List Value) (hl : news.length = m * size) (hn : ∀ j u, news[j]? = some u → w.cell? (ad.add j) = some u) (h1 : ∀ u ∈ news, u.oneCell' = true) (hs : n + m ≤ 3000) :
    ∃ v' w', (Builtin.append_ #[t, t] ty #[v, .slice (some ad) m c]).run P w = .ok v' w' ∧ w'.ownsRow 0 e size v' (n + m) (xs ++ news) ∧ w.grownBy w' v.ownBlock ∧ ∀ g, v'.ownBlock = some g → v.ownBlock = some g ∨ w.heap.size ≤ g := by
  have hby : (n + m) * bytes ≤ 140737488355328 := Nat.le_trans (Nat.mul_le_mul hs hb) (by omega)
  rcases hown.2 with ⟨rfl, rfl⟩ | ⟨g, cap, cur, rfl, _, hg, hnc, hcm, hcs, htake⟩
  · obtain rfl : xs = [] := List.eq_nil_of_length_eq_zero (by have := hown.1; omega)
    obtain ⟨v', w', hrun, r1, r2, _⟩ := run_append_own (P := P) w w.heap.size t ty e i0 z size bytes ht hi hz0 hz1 hz2 hzs hsz (.slice none 0 0) 0 [] (World.ownsRow_nil w _ _ size) ad m c news hl hn h1 (by unfold maxLen; omega) hby (Nat.le_refl _)
    refine ⟨v', w', hrun, ⟨r1.1, ?_⟩, r2, fun g hgo => ?_⟩
    · rcases r1.2 with h | ⟨g, cap, cur, hv, _, rest⟩
      · exact Or.inl h
      · exact Or.inr ⟨g, cap, cur, hv, Nat.zero_le _, rest⟩
    · rcases r1.2 with ⟨rfl, _⟩ | ⟨g', cap, cur, rfl, hb, _⟩
      · cases hgo
      · simp [Value.ownBlock] at hgo
        exact Or.inr (by omega)
  · by_cases room : n + m ≤ cap
    · obtain ⟨w', hrun, r1, r2⟩ := run_append_fits (P := P) w 0 t ty e i0 size ht hi hz1 g n cap xs hown ad m c news hl hn h1 room
      exact ⟨_, w', hrun, r1, r2, fun g' h => Or.inl h⟩
    · obtain ⟨v', w', hrun, r1, r2⟩ := run_append_arg_grows (P := P) w t ty e i0 z size bytes ht hi hz0 hz1 hz2 hzs hsz ⟨g, 0, none⟩ n cap xs hown.1 (fun j u hj => by
          have hj2 := (List.getElem?_eq_some_iff.1 hj).1
          rw [Addr.add_lit, Nat.zero_add, hown.cellAt j (by rw [← hown.1]; exact hj2)]
          exact hj) ad m c news hl hn (by omega) (by unfold maxLen; omega) hby
      refine ⟨v', w', hrun, ⟨r1.1, ?_⟩, ⟨r2.os, r2.tape, r2.output, r2.size, fun k hk _ => r2.block k hk (by simp)⟩, fun g' hgo => ?_⟩
      · rcases r1.2 with h | ⟨g, cap, cur, hv, _, rest⟩
        · exact Or.inl h
        · exact Or.inr ⟨g, cap, cur, hv, Nat.zero_le _, rest⟩
      · rcases r1.2 with ⟨rfl, _⟩ | ⟨g', cap, cur, rfl, hb, _⟩
        · cases hgo
        · simp [Value.ownBlock] at hgo
          exact Or.inr (by omega)
theorem owng_shape {w : World} {base : Nat} {t : TypeId} {size : Nat} {v : Value} {n : Nat} {xs : List Value} (h : w.ownsRow base t size v n xs) : ∃ a cap, v = .slice a n cap := by
  rcases h.2 with ⟨rfl, rfl⟩ | ⟨g, cap, cur, rfl, _⟩
  · exact ⟨none, 0, rfl⟩
  · exact ⟨_, cap, rfl⟩
theorem owng_keep {B : Nat} {S : List Nat} {w w' : World} {base : Nat} {t : TypeId} {size : Nat} {v : Value} {n : Nat} {xs : List Value} (h : w.ownsRow base t size v n xs) (f : Fr B S w w') (hg : ∀ g, v.ownBlock = some g → g < B ∧ g ∉ S) : w'.ownsRow base t size v n xs := by
  refine ⟨h.1, ?_⟩
  rcases h.2 with hn | ⟨g, cap, cur, rfl, h0, hh, rest⟩
  · exact Or.inl hn
  · obtain ⟨g1, g2⟩ := hg g rfl
    exact Or.inr ⟨g, cap, cur, rfl, h0, (f.block g g1 g2).trans hh, rest⟩
theorem owng_lt {w : World} {base : Nat} {t : TypeId} {size : Nat} {v : Value} {n : Nat} {xs : List Value} (h : w.ownsRow base t size v n xs) {g : Nat} (e : v.ownBlock = some g) : g < w.heap.size := by
  rcases h.2 with ⟨rfl, _⟩ | ⟨g', cap, cur, rfl, _, hg, _⟩
  · cases e
  · simp [Value.ownBlock] at e
    subst e
    exact lt_of_block hg
theorem owng_ne {w : World} {base : Nat} {t u : TypeId} {size : Nat} {v : Value} {n : Nat} {xs cs : List Value} {b : Nat} (h : w.ownsRow base t size v n xs) (k : Blk w b cs u) (ne : t ≠ u) {g : Nat} (e : v.ownBlock = some g) : b ≠ g := by
  rcases h.2 with ⟨rfl, _⟩ | ⟨g', cap, cur, rfl, _, hg, _⟩
  · cases e
  · simp [Value.ownBlock] at e
    subst e
    intro q
    subst q
    have := (show w.heap[b]? = _ from k).symm.trans hg
    simp at this
    exact ne this.2.symm
end Go.Proofs.YtfipiifickdeiaaGreatDoor
namespace Go.Proofs.YtfipiifickdeiaaGreatDoor
open Go.ChangeShapes Go.WideShapes Go.ChangeAt Go.RowKit Go.Deep
end Go.Proofs.YtfipiifickdeiaaGreatDoor
namespace Go.Proofs.YtfipiifickdeiaaGreatDoor
open Go.ChangeShapes Go.WideShapes Go.ChangeAt Go.RowKit
/-- How records lie in memory: each as n cells of one value each. -/
structure Lay (α : Type) where
  n : Nat
  f : α → List Value
  z : α
  len : ∀ x, (f x).length = n
  one : ∀ x, ∀ u ∈ f x, u.oneCell' = true
  pos : 0 < n
section
variable {α : Type} {L : Lay α}
def Lay.all (L : Lay α) (Y : List α) : List Value := Y.flatMap L.f
theorem lay_cons (x : α) (Y : List α) : L.all (x :: Y) = L.f x ++ L.all Y := rfl
theorem lay_app (X Y : List α) : L.all (X ++ Y) = L.all X ++ L.all Y := by unfold Lay.all; rw [List.flatMap_append]
theorem lay_one (x : α) : L.all [x] = L.f x := by simp [Lay.all]
theorem lay_at (Y : List α) (k j : Nat) (h : k < Y.length) (hj : j < L.n) : (L.all Y)[k * L.n + j]? = (L.f (Y.getD k L.z))[j]? := by
  induction Y generalizing k with
  | nil => simp at h
  | cons x r ih =>
    have hx := L.len x
    rw [lay_cons]
    cases k with
    | zero => rw [List.getElem?_append_left (by omega), Nat.zero_mul, Nat.zero_add]; rfl
    | succ k =>
      have e : (k + 1) * L.n = k * L.n + L.n := Nat.succ_mul k L.n
      rw [List.getElem?_append_right (by omega), show (k + 1) * L.n + j - (L.f x).length = k * L.n + j by omega, ih k (by simpa using h)]
      rfl
/-- A slice of such records, as they lie in memory. -/
def LRow (L : Lay α) (w : World) (v : Value) (Y : List α) : Prop :=
  (Y = [] ∧ ∃ a cap, v = .slice a 0 cap) ∨ ∃ b off cap, v = .slice (some ⟨b, off, none⟩) Y.length cap ∧ b < w.heap.size ∧ ∀ i, i < Y.length → ∀ j, j < L.n → w.cell? ⟨b, off + i * L.n + j, none⟩ = (L.f (Y.getD i L.z))[j]?
theorem LRow.shape {w : World} {v : Value} {Y : List α} (h : LRow L w v Y) : ∃ a cap, v = .slice a Y.length cap := by
  rcases h with ⟨rfl, a, cap, rfl⟩ | ⟨b, off, cap, rfl, _⟩
  · exact ⟨a, cap, rfl⟩
  · exact ⟨_, cap, rfl⟩
theorem LRow.below {w w' : World} {v : Value} {Y : List α} (h : LRow L w v Y) (f : Below w.heap.size w w') : LRow L w' v Y := by
  rcases h with h | ⟨b, off, cap, hv, hb, hc⟩
  · exact Or.inl h
  · exact Or.inr ⟨b, off, cap, hv, Nat.lt_of_lt_of_le hb f.size, fun i hi j hj => (f.cell (p := ⟨b, off + i * L.n + j, none⟩) hb).trans (hc i hi j hj)⟩
theorem LRow.heap {w w1 : World} {v : Value} {Y : List α} (h : LRow L w v Y) (e : w1.heap = w.heap) : LRow L w1 v Y := by
  rcases h with h | ⟨b, off, cap, hv, hb, hc⟩
  · exact Or.inl h
  · exact Or.inr ⟨b, off, cap, hv, by rw [e]; exact hb, fun i hi j hj => (World.cell?_of_block (w := w) (by rw [e])).trans (hc i hi j hj)⟩
/-- The cells of the k-th. -/
theorem lrow_cell {w : World} {a : Option Addr} {n cap : Nat} {Y : List α} (h : LRow L w (.slice a n cap) Y) {k : Nat} (hk : k < Y.length) :
    ∃ b off, a = some ⟨b, off, none⟩ ∧ b < w.heap.size ∧ ∀ j, j < L.n → w.cell? ⟨b, off + k * L.n + j, none⟩ = (L.f (Y.getD k L.z))[j]? := by
  rcases h with ⟨rfl, _⟩ | ⟨b, off, c, hv, hlt, hc⟩
  · simp at hk
  · simp only [Value.slice.injEq] at hv
    exact ⟨b, off, hv.1, hlt, fun j hj => hc k hk j hj⟩
/-- Where the slice's place is known: the cells of the k-th in any world that has them. -/
theorem lrow_at {w : World} {b off n cap : Nat} {Y : List α} (h : LRow L w (.slice (some ⟨b, off, none⟩) n cap) Y) {k : Nat} (hk : k < Y.length) : ∀ j, j < L.n → w.cell? ⟨b, off + k * L.n + j, none⟩ = (L.f (Y.getD k L.z))[j]? := by
  obtain ⟨b', off', e, _, d⟩ := lrow_cell h hk
  simp only [Option.some.injEq, Addr.mk.injEq, and_true] at e
  obtain ⟨rfl, rfl⟩ := e
  exact d
theorem lrow_new (w : World) (Y : List α) (t : TypeId) (n cap : Nat) (hn : n = Y.length) : LRow L (w.alloc (.cells (L.all Y).toArray t)) (.slice (some ⟨w.heap.size, 0, none⟩) n cap) Y := by
  subst hn
  exact Or.inr ⟨_, 0, cap, rfl, (Blk.new w (L.all Y) t).lt, fun i hi j hj => by rw [Nat.zero_add, (Blk.new w (L.all Y) t).cell, lay_at Y i j hi hj]⟩
/-- What has been gathered so far: v owns it; nothing that was there has turned. -/
structure LG (L : Lay α) (t : TypeId) (w wr : World) (v : Value) (Y : List α) : Prop where
  own : wr.ownsRow w.heap.size t L.n v Y.length (L.all Y)
  bel : Below w.heap.size w wr
theorem lg_start (L : Lay α) (t : TypeId) (w : World) : LG L t w w (.slice none 0 0) [] := ⟨World.ownsRow_nil _ _ _ _, Below.refl _ _⟩
theorem LG.row {t : TypeId} {w wr : World} {v : Value} {Y : List α} (g : LG L t w wr v Y) : LRow L wr v Y := by
  rcases g.own.2 with ⟨hv, hn⟩ | ⟨b, cap, cur, hv, hb, hh, hn, hc, hz, ht⟩
  · exact Or.inl ⟨List.eq_nil_of_length_eq_zero hn, none, 0, hv⟩
  · have o := g.own
    rw [hv] at o
    refine Or.inr ⟨b, 0, cap, hv, lt_of_block hh, fun i hi j hj => ?_⟩
    have e : (i + 1) * L.n ≤ Y.length * L.n := Nat.mul_le_mul_right _ hi
    rw [Nat.succ_mul] at e
    rw [Nat.zero_add, o.cellAt _ (by omega), lay_at Y i j hi hj]
/-- One more: what a new block and an append make of it. -/
theorem lg_app {P : Program} (t ts ty : TypeId) (i0 : TypeInfo) (z : Value) (bytes : Nat) (ht : P.underlying ts = some (.slice t)) (hi : P.info? t = some i0) (hz0 : i0.zero = some z) (hz1 : i0.size = L.n) (hz2 : i0.bytes = bytes) (hzs : z.cells.size = L.n)
    {w wr w1 wb : World} {v : Value} {Y : List α} (x : α) (g : LG L t w wr v Y) (e : Below wr.heap.size wr w1) (hb : Sm wb (w1.alloc (.cells (L.f x).toArray t))) (hl : Y.length + 1 ≤ maxLen) (hr : (Y.length + 1) * bytes ≤ 140737488355328) :
    ∃ v' w2, (Builtin.append_ #[ts, ts] ty #[v, .slice (some ⟨w1.heap.size, 0, none⟩) 1 1]).run P wb = .ok v' w2 ∧ LG L t w w2 v' (Y ++ [x]) := by
  have hs := g.bel.size
  have he := e.size
  have nb : Blk wb w1.heap.size (L.f x) t := (Blk.new w1 _ _).heap hb.1
  have bel : Below w.heap.size w wb := hb.below ((g.bel.trans (e.mono hs)).alloc (by omega) _)
  have o0 : (w1.alloc (.cells (L.f x).toArray t)).ownsRow w.heap.size t L.n v Y.length (L.all Y) := (owng_keep g.own (Fr.of_below e) fun k q => ⟨owng_lt g.own q, by simp⟩).alloc _
  have o1 : wb.ownsRow w.heap.size t L.n v Y.length (L.all Y) := ⟨o0.1, by rw [hb.1]; exact o0.2⟩
  have hsz : wb.heap.size = w1.heap.size + 1 := by rw [hb.1]; simp
  obtain ⟨v', w2, hrun, r1, r2, _⟩ := run_append_own (P := P) wb w.heap.size ts ty t i0 z L.n bytes ht hi hz0 hz1 hz2 hzs L.pos v Y.length (L.all Y) o1 ⟨w1.heap.size, 0, none⟩ 1 1 (L.f x) (by rw [L.len, Nat.one_mul]) (fun j u hj => by
    rw [Addr.add_lit, Nat.zero_add, nb.cell]
    exact hj) (L.one x) hl hr (by omega)
  refine ⟨v', w2, hrun, ?_, bel.grown r2 (by omega) (fun j hj => ?_)⟩
  · rw [lay_app, lay_one, List.length_append]
    exact r1
  · rcases g.own.2 with ⟨q, _⟩ | ⟨g', cap, cur, q, hb, _⟩
    · rw [q] at hj; cases hj
    · rw [q] at hj
      simp [Value.ownBlock] at hj
      omega
theorem take_one' (Y : List α) (z : α) {k : Nat} (h : k < Y.length) : Y.take (k + 1) = Y.take k ++ [Y.getD k z] := by
  rw [List.take_succ_eq_append_getElem h]
  simp [List.getD, h]
/-- One more behind it. -/
theorem lown_app {P : Program} (w : World) (t ts ty : TypeId) (i0 : TypeInfo) (z : Value) (bytes : Nat) (ht : P.underlying ts = some (.slice t)) (hi : P.info? t = some i0) (hz0 : i0.zero = some z) (hz1 : i0.size = L.n) (hz2 : i0.bytes = bytes) (hzs : z.cells.size = L.n) (hby : bytes ≤ 1000)
    {v : Value} {Y : List α} (x : α) (o1 : w.ownsRow 0 t L.n v Y.length (L.all Y)) (hl : Y.length + 1 ≤ 3000) :
    ∃ a2 c2 w2, (Builtin.append_ #[ts, ts] ty #[v, .slice (some ⟨w.heap.size, 0, none⟩) 1 1]).run P (w.alloc (.cells (L.f x).toArray t)) = .ok (.slice a2 (Y.length + 1) c2) w2 ∧
      w2.ownsRow 0 t L.n (.slice a2 (Y.length + 1) c2) (Y ++ [x]).length (L.all (Y ++ [x])) ∧ Fr w.heap.size v.ownBlock.toList w w2 ∧ ∀ g, (Value.slice a2 (Y.length + 1) c2).ownBlock = some g → v.ownBlock = some g ∨ w.heap.size ≤ g := by
  have hb := (Below.refl w.heap.size w).alloc (Nat.le_refl _) (.cells (L.f x).toArray t)
  have nb : Blk (w.alloc (.cells (L.f x).toArray t)) w.heap.size (L.f x) t := Blk.new w _ _
  have o2 := owng_keep o1 (Fr.of_below hb) fun g e => ⟨owng_lt o1 e, by simp⟩
  obtain ⟨v', w2, hrun, r1, r2, r3⟩ := run_appg (P := P) _ ts ty t i0 z L.n bytes ht hi hz0 hz1 hz2 hzs L.pos hby o2 ⟨w.heap.size, 0, none⟩ 1 1 (L.f x) (by rw [L.len, Nat.one_mul]) (fun j u hj => by
    rw [Addr.add_lit, Nat.zero_add, nb.cell]
    exact hj) (L.one x) hl
  obtain ⟨a2, c2, rfl⟩ := owng_shape r1
  refine ⟨a2, c2, w2, hrun, ?_, ((Fr.of_below hb).mono (Nat.le_refl _) (fun _ _ _ => by simp)).grown r2 (by simp) (fun k e => Or.inr (by simp [e])), fun g hg => (r3 g hg).imp id (fun q => by simp at q; omega)⟩
  rw [lay_app, lay_one, List.length_append]
  exact r1
/-- What a call of an object at block b leaves: all but it and its list; its list lies where it lay, or in a new block. -/
structure DL (w w' : World) (b : Nat) (v v' : Value) : Prop where
  fr : Fr w.heap.size (b :: v.ownBlock.toList) w w'
  nw : ∀ g, v'.ownBlock = some g → v.ownBlock = some g ∨ w.heap.size ≤ g
theorem DL.refl (w : World) (b : Nat) (v : Value) : DL w w b v v := ⟨Fr.refl _ _ _, fun _ h => Or.inl h⟩
/-- An append whose outcome is known, as one step of a region that draws its order. -/
theorem step_rung {P : Program} {ops : Array Oper} {o : Oper} {a : Act} {w : World} {K : Act → World → Prop} {Q : Exit → Act → World → Prop} {E : Prop} {v u : Value} {R : Value → World → Prop}
    (hg : o.guard = none) (s x : Operand) (t : TypeId) (hop : o.op = Op.call { callee := Callee.builtin Builtin.append, args := #[s, x], argTypes := #[t, t] }) (hs : a.eval s = v) (hx : a.eval x = u)
    (hrun : ∃ v' w', (Builtin.append_ #[t, t] o.type #[v, u]).run P w = .ok v' w' ∧ R v' w') (hK : ∀ v' w', R v' w' → K (a.put o.dst v') w') :
    if Region.wanted o (yielded ops a.tmps) = true then Oper.wp P o a w K Q else E := by
  have hw : Region.wanted o (yielded ops a.tmps) = true := by simp [Region.wanted, hg]
  rw [if_pos hw]
  obtain ⟨v', w', hr, h⟩ := hrun
  unfold Oper.wp
  simp [execOp, hop, resolve, invoke, builtin, hs, hx, hr, Result.andThen]
  exact hK v' w' h
/-- An append whose outcome is known, where the order is the text's. -/
theorem wpList_rung {P : Program} {w w' : World} {ops : Array Oper} {rest : List Oper} {o : Oper} {a : Act} {Q : Exit → Act → World → Prop} {v u v' : Value}
    (hg : o.guard = none) (s x : Operand) (t : TypeId) (hop : o.op = Op.call { callee := Callee.builtin Builtin.append, args := #[s, x], argTypes := #[t, t] }) (hs : a.eval s = v) (hx : a.eval x = u)
    (hrun : (Builtin.append_ #[t, t] o.type #[v, u]).run P w = .ok v' w') (hK : wpList P ops Q rest (a.put o.dst v') w') : wpList P ops Q (o :: rest) a w := by
  refine wpList_plain hg fun K hK' => ?_
  unfold Oper.wp
  simp [execOp, hop, resolve, invoke, builtin, hs, hx, hrun, Result.andThen]
  exact hK' _ _ hK
end
end Go.Proofs.YtfipiifickdeiaaGreatDoor
