/- What davitlaw35's places and few answer; what its given keeps. -/
import Derived.Test.YtfdmcbcomknebaaGreatDoorRows
import Derived.Test.YtfdmcbcomknebaaGreatDoorAuA
import Derived.Test.YtfdmcbcomknebaaGreatDoorZkn
import Derived.WalkKit
import Derived.ProofKit
import Derived.OpenShut
import Derived.BigQuiet
import Derived.BigGuard
import Derived.Carry
import Derived.Laws.Tables
import Derived.Deep.RegionHeld3
import Derived.Deep.RegionHeldLaw
namespace Go.Proofs.YtfdmcbcomknebaaGreatDoor.Aud
open Go.ChangeShapes Go.WideShapes Go.ChangeAt Go.RowKit
open Mm Zkn

theorem infoPl : (Tryz.prog.info? 122).map (fun i => (i.zero, i.size, i.bytes)) = some (some (.agg #[.int .i64 0, .int .i64 0, .int .i64 0]), 3, 24) := by kernel_rfl
theorem infoTh : (Tryz.prog.info? 49).map (fun i => (i.zero, i.size, i.bytes)) = some (some (.agg #[.int .i64 0, .int .i64 0, .int .i64 0]), 3, 24) := by kernel_rfl
theorem infoPi : (Tryz.prog.info? 33).map (fun i => i.size) = some 15 := by kernel_rfl

/-- A list of triples in memory of the program's own. -/
def own3 (u : World) (t : TypeId) (r : Value) (L : List Tr) : Prop := ∃ B, u.ownsRow B t 3 r L.length (tr.all L)
theorem own3.shape {u : World} {t : TypeId} {r : Value} {L : List Tr} (h : own3 u t r L) : ∃ a cap, r = .slice a L.length cap := by
  obtain ⟨B, o⟩ := h
  exact owng_shape o
theorem own3.keep {u v : World} {t : TypeId} {r : Value} {L : List Tr} (h : own3 u t r L) {S : List Nat} (f : Fr u.heap.size S u v) (hs : ∀ z ∈ S, ∃ cs y, Blk u z cs y ∧ t ≠ y) : own3 v t r L := by
  obtain ⟨B, o⟩ := h
  refine ⟨B, owng_keep o f fun g e => ⟨owng_lt o e, fun hg => ?_⟩⟩
  obtain ⟨cs, y, k, ne⟩ := hs g hg
  exact owng_ne o k ne e rfl
theorem own3.keep1 {u v : World} {t y : TypeId} {r : Value} {L : List Tr} {z : Nat} {cs : List Value} (h : own3 u t r L) (f : Fr u.heap.size [z] u v) (k : Blk u z cs y) (ne : t ≠ y) : own3 v t r L :=
  h.keep f fun q hq => ⟨cs, y, by rw [List.mem_singleton.1 hq]; exact k, ne⟩
theorem own3.row {u : World} {t : TypeId} {r : Value} {L : List Tr} (h : own3 u t r L) : LRow tr u r L := by
  obtain ⟨B, o⟩ := h
  rcases o.2 with ⟨hv, hn⟩ | ⟨b, cap, cur, hv, hb, hh, hn, hc, hz, ht⟩
  · exact Or.inl ⟨List.eq_nil_of_length_eq_zero hn, none, 0, hv⟩
  · rw [hv] at o
    refine Or.inr ⟨b, 0, cap, hv, lt_of_block hh, fun i hi j hj => ?_⟩
    have hj3 : j < 3 := hj
    have e : (i + 1) * 3 ≤ L.length * 3 := Nat.mul_le_mul_right _ hi
    rw [Nat.succ_mul] at e
    show u.cell? ⟨b, 0 + i * 3 + j, none⟩ = _
    rw [Nat.zero_add, o.cellAt _ (by omega)]
    exact lay_at L i j hi hj

/-- What is there while a picture is made: what came in, where the answer goes, the rows so far, and where the picture is put together. -/
structure GS (w : World) (cs0 cs1 : List Value) (u : World) (zo : Option (Nat × List Value)) (l : List (Value × List Tr)) : Prop where
  bel : Below w.heap.size w u
  k0 : Blk u w.heap.size cs0 26
  k1 : Blk u (w.heap.size + 1) cs1 33
  rs : ∀ x ∈ l, own3 u 122 x.1 x.2
  zb : ∀ y, zo = some y → Blk u y.1 y.2 33 ∧ w.heap.size + 1 < y.1
section
variable {w u v : World} {cs0 cs1 : List Value} {zo : Option (Nat × List Value)} {l : List (Value × List Tr)}
theorem fr_sm {a b : World} {B : Nat} (e : Sm b a) : Fr B [] a b := Fr.of_below (Sm.below e (Below.refl B a))
theorem GS.step (h : GS w cs0 cs1 u zo l) (b : Below u.heap.size u v) : GS w cs0 cs1 v zo l :=
  ⟨h.bel.trans (b.mono h.bel.size), h.k0.keep (Fr.of_below b) h.k0.lt (by simp), h.k1.keep (Fr.of_below b) h.k1.lt (by simp), fun x hx => (h.rs x hx).keep (Fr.of_below b) (by simp), fun y hy => ⟨(h.zb y hy).1.keep (Fr.of_below b) (h.zb y hy).1.lt (by simp), (h.zb y hy).2⟩⟩
theorem GS.sm (h : GS w cs0 cs1 u zo l) (e : Sm v u) : GS w cs0 cs1 v zo l := h.step (Sm.below e (Below.refl _ u))
theorem GS.call {r : Value} {L : List Tr} (b : Below u.heap.size u v) (o : own3 v 122 r L) (h : GS w cs0 cs1 u zo l) : GS w cs0 cs1 v zo ((r, L) :: l) := by
  have g := h.step b
  refine ⟨g.bel, g.k0, g.k1, fun x hx => ?_, g.zb⟩
  rcases List.mem_cons.1 hx with rfl | hx
  · exact o
  · exact g.rs x hx
theorem GS.alloc (h : GS w cs0 cs1 u none l) (Z : List Value) : GS w cs0 cs1 (u.alloc (.cells Z.toArray 33)) (some (u.heap.size, Z)) l := by
  have g := h.step ((Below.refl u.heap.size u).alloc (Nat.le_refl _) (.cells Z.toArray 33))
  refine ⟨g.bel, g.k0, g.k1, g.rs, fun y hy => ?_⟩
  cases hy
  exact ⟨Blk.new u Z _, h.k1.lt⟩
theorem fr_row {z : Nat} {old new : List Value} {t : TypeId} {B : Nat} (_ : Blk u z old t) : Fr B [z] u (u.setRow z new.toArray) :=
  ⟨rfl, rfl, rfl, by rw [setRow_size]; exact Nat.le_refl _, fun k _ hk => setRow_other u z k _ (by simpa using hk)⟩
theorem blk_row {z : Nat} {old new : List Value} {t : TypeId} (k : Blk u z old t) : Blk (u.setRow z new.toArray) z new t := setRow_heap u z _ _ t _ k
theorem GS.setz {z : Nat} {old : List Value} (h : GS w cs0 cs1 u (some (z, old)) l) (new : List Value) : GS w cs0 cs1 (u.setRow z new.toArray) (some (z, new)) l := by
  obtain ⟨kz, hz⟩ := h.zb _ rfl
  have f : Fr u.heap.size [z] u (u.setRow z new.toArray) := fr_row (new := new) kz
  have s := h.bel.size
  refine ⟨h.bel.trans ((f.less s).below fun k hk => by rw [List.mem_singleton.1 hk]; omega), h.k0.keep f h.k0.lt (by simp; omega), h.k1.keep f h.k1.lt (by simp; omega), fun x hx => (h.rs x hx).keep1 f kz (by decide), fun y hy => ?_⟩
  cases hy
  exact ⟨blk_row kz, hz⟩
theorem GS.set1 (h : GS w cs0 cs1 u zo l) (new : List Value) : GS w cs0 new (u.setRow (w.heap.size + 1) new.toArray) zo l := by
  have kz := h.k1
  have f : Fr u.heap.size [w.heap.size + 1] u (u.setRow (w.heap.size + 1) new.toArray) := fr_row (new := new) kz
  have s := h.bel.size
  refine ⟨h.bel.trans ((f.less s).below fun k hk => by rw [List.mem_singleton.1 hk]; omega), h.k0.keep f h.k0.lt (by simp), blk_row kz, fun x hx => (h.rs x hx).keep1 f kz (by decide), fun y hy => ?_⟩
  obtain ⟨q, r⟩ := h.zb y hy
  exact ⟨q.keep f q.lt (by simp; omega), r⟩
end

set_option maxRecDepth 100000 in
set_option maxHeartbeats 4000000 in
theorem places_any (Y : List Tr) (v : Value) (w : World) (h : LRow tr w v Y) (hl : (Y.length : Int) ≤ 1000) :
    Calls Tryz.prog 13 #[v] w fun e w' => ∃ v', e = .returned v' ∧ LG tr 122 w w' v' Y := by
  obtain ⟨i0, hi0, hz0, hz1, hz2⟩ := info_parts infoPl
  obtain ⟨a, cap, rfl⟩ := h.shape
  have HR : Hid (LRow tr w (.slice a Y.length cap) Y) := h
  have HE : Hid (Y.take Y.length = Y) := List.take_of_length_le (Nat.le_refl _)
  obtain ⟨l, hl2⟩ : ∃ l, Y.length = l := ⟨_, rfl⟩
  have HN : Hid (Y.length = l) := hl2
  rw [hl2] at hl HR HE ⊢
  clear h hl2
  go_enter Tryz.func13, Tryz.ntmps13
  go_wp2
  go_loopw [3, 4] (fun v i wr => ∃ (k : Nat) (G : List Tr), (k : Int) ≤ l ∧ LG tr 122 w wr v G ∧ Hid (G = Y.take k) ∧ i = .int .i64 (k : Int)) (fun _ i _ => l - (intOf i).toNat)
  case atStart => exact ⟨0, [], by omega, lg_start tr _ w, by simp [Hid], rfl⟩
  case round =>
    obtain ⟨k, G, hk, g, hG, rfl⟩ := hrel
    by_cases e : (k : Int) < l
    · obtain ⟨b, off, rfl, hbl, e0, e1, e2⟩ := trow_at HR.out (k := k) (by have := HN.out; omega)
      have c0 := below_cell g.bel e0
      have c1 := below_cell g.bel e1
      have c2 := below_cell g.bel e2
      have s : Hid (G ++ [Y.getD k tz] = Y.take (k + 1)) := by rw [take_one' Y tz (by have := HN.out; omega), hG.out]; exact rfl
      have hgl : G.length + 1 ≤ 1000 := by rw [hG.out, List.length_take]; have := HN.out; omega
      have KC0 : Hid (∀ w2, Below w.heap.size w w2 → w2.cell? ⟨b, off + k * 3, none⟩ = some (.int .i64 (Y.getD k tz).a) ∧ w2.cell? ⟨b, off + k * 3 + 1, none⟩ = some (.int .i64 (Y.getD k tz).b) ∧ w2.cell? ⟨b, off + k * 3 + 2, none⟩ = some (.int .i64 (Y.getD k tz).c)) := fun w2 b2 => ⟨below_cell b2 e0, below_cell b2 e1, below_cell b2 e2⟩
      clear e0 e1 e2
      generalize Y.getD k tz = x at *
      have KC : Hid (∀ w2, Below w.heap.size w w2 → w2.cell? ⟨b, off + k * 3, none⟩ = some (.int .i64 x.a) ∧ w2.cell? ⟨b, off + k * 3 + 1, none⟩ = some (.int .i64 x.b) ∧ w2.cell? ⟨b, off + k * 3 + 2, none⟩ = some (.int .i64 x.c)) := KC0
      have RUN : Hid (∀ w1 : World, Sm w1 (wr.alloc (.cells #[.int .i64 x.a, .int .i64 x.b, .int .i64 x.c] 122)) → ∃ v' w2, (Builtin.append_ #[31, 31] 31 #[u3, .slice (some ⟨wr.heap.size, 0, none⟩) 1 1]).run Tryz.prog w1 = .ok v' w2 ∧ LG tr 122 w w2 v' (G ++ [x])) := fun w1 e1 => lg_app 122 31 31 i0 _ 24 Tryz.underlying31 hi0 hz0 hz1 hz2 rfl x g (Below.refl _ _) e1 (by unfold maxLen; omega) (by omega)
      have GB : Hid (Below w.heap.size w wr) := g.bel
      have SZ : Hid (w.heap.size ≤ wr.heap.size) := g.bel.size
      clear KC0 g hbl hG hgl
      go_wp2_with fail
      refine wp_region_held_drew (S := fun w' => w'.cell? ⟨b, off + k * 3, none⟩ = some (.int .i64 x.a) ∧ w'.cell? ⟨b, off + k * 3 + 1, none⟩ = some (.int .i64 x.b) ∧ w'.cell? ⟨b, off + k * 3 + 2, none⟩ = some (.int .i64 x.c)) (by kernel_rfl) (by go_keep) (fun hHeld => ?_)
      refine wpAnyH_take (i := 0) (oi := { dst := some 11, op := Op.move (Operand.tmp 3), type := 31, pos := "law.go:17", after := #[], guard := none }) (v := ?va0) rfl (by kernel_rfl) (by kernel_rfl) (by kernel_rfl) (fun _ _ _ h => h) (Or.inl ⟨by rfl, ?ha0⟩) (by assumption) ?ra0
      case ha0 => (intro wz hSw; (try dsimp only at hSw); go_simp <;> with_reducible rfl)
      try simp only [Act.put, List.setIfInBounds_toArray, List.set_cons_zero, List.set_cons_succ]
      refine wpAnyH_take (i := 1) (oi := { dst := some 12, op := Op.move (Operand.tmp 0), type := 24, pos := "law.go:17", after := #[], guard := none }) (v := ?va1) rfl (by kernel_rfl) (by kernel_rfl) (by kernel_rfl) (fun _ _ _ h => h) (Or.inl ⟨by rfl, ?ha1⟩) (by assumption) ?ra1
      case ha1 => (intro wz hSw; (try dsimp only at hSw); go_simp <;> with_reducible rfl)
      try simp only [Act.put, List.setIfInBounds_toArray, List.set_cons_zero, List.set_cons_succ]
      refine wpAnyH_take (i := 2) (oi := { dst := some 13, op := Op.move (Operand.tmp 4), type := 3, pos := "law.go:17", after := #[], guard := none }) (v := ?va2) rfl (by kernel_rfl) (by kernel_rfl) (by kernel_rfl) (fun _ _ _ h => h) (Or.inl ⟨by rfl, ?ha2⟩) (by assumption) ?ra2
      case ha2 => (intro wz hSw; (try dsimp only at hSw); go_simp <;> with_reducible rfl)
      try simp only [Act.put, List.setIfInBounds_toArray, List.set_cons_zero, List.set_cons_succ]
      refine wpAnyH_take (i := 3) (oi := { dst := some 14, op := Op.indexAddr 24 (Operand.tmp 12) (Operand.tmp 13), type := 0, pos := "law.go:17", after := #[{ on := 1, ground := Ground.data }, { on := 2, ground := Ground.data }], guard := none }) (v := ?va3) rfl (by kernel_rfl) (by kernel_rfl) (by kernel_rfl) (fun _ _ _ h => h) (Or.inl ⟨by rfl, ?ha3⟩) (by assumption) ?ra3
      case ha3 => (intro wz hSw; (try dsimp only at hSw); go_simp <;> with_reducible rfl)
      try simp only [Act.put, List.setIfInBounds_toArray, List.set_cons_zero, List.set_cons_succ]
      refine wpAnyH_take (i := 4) (oi := { dst := some 15, op := Op.fieldAddr 121 (Operand.tmp 14) 0, type := 0, pos := "law.go:17", after := #[{ on := 3, ground := Ground.data }], guard := none }) (v := ?va4) rfl (by kernel_rfl) (by kernel_rfl) (by kernel_rfl) (fun _ _ _ h => h) (Or.inl ⟨by rfl, ?ha4⟩) (by assumption) ?ra4
      case ha4 => (intro wz hSw; (try dsimp only at hSw); go_simp <;> with_reducible rfl)
      try simp only [Act.put, List.setIfInBounds_toArray, List.set_cons_zero, List.set_cons_succ]
      refine wpAnyH_take (i := 5) (oi := { dst := some 16, op := Op.load 3 (Operand.tmp 15), type := 3, pos := "law.go:17", after := #[{ on := 4, ground := Ground.data }], guard := none }) (v := ?va5) rfl (by kernel_rfl) (by kernel_rfl) (by kernel_rfl) (fun _ _ _ h => h) (Or.inl ⟨by rfl, ?ha5⟩) (by assumption) ?ra5
      case ha5 => (intro wz hSw; (try dsimp only at hSw); go_simp <;> with_reducible rfl)
      try simp only [Act.put, List.setIfInBounds_toArray, List.set_cons_zero, List.set_cons_succ]
      refine wpAnyH_take (i := 6) (oi := { dst := some 17, op := Op.move (Operand.tmp 0), type := 24, pos := "law.go:17", after := #[], guard := none }) (v := ?va6) rfl (by kernel_rfl) (by kernel_rfl) (by kernel_rfl) (fun _ _ _ h => h) (Or.inl ⟨by rfl, ?ha6⟩) (by assumption) ?ra6
      case ha6 => (intro wz hSw; (try dsimp only at hSw); go_simp <;> with_reducible rfl)
      try simp only [Act.put, List.setIfInBounds_toArray, List.set_cons_zero, List.set_cons_succ]
      refine wpAnyH_take (i := 7) (oi := { dst := some 18, op := Op.move (Operand.tmp 4), type := 3, pos := "law.go:17", after := #[], guard := none }) (v := ?va7) rfl (by kernel_rfl) (by kernel_rfl) (by kernel_rfl) (fun _ _ _ h => h) (Or.inl ⟨by rfl, ?ha7⟩) (by assumption) ?ra7
      case ha7 => (intro wz hSw; (try dsimp only at hSw); go_simp <;> with_reducible rfl)
      try simp only [Act.put, List.setIfInBounds_toArray, List.set_cons_zero, List.set_cons_succ]
      refine wpAnyH_take (i := 8) (oi := { dst := some 19, op := Op.indexAddr 24 (Operand.tmp 17) (Operand.tmp 18), type := 0, pos := "law.go:17", after := #[{ on := 6, ground := Ground.data }, { on := 7, ground := Ground.data }], guard := none }) (v := ?va8) rfl (by kernel_rfl) (by kernel_rfl) (by kernel_rfl) (fun _ _ _ h => h) (Or.inl ⟨by rfl, ?ha8⟩) (by assumption) ?ra8
      case ha8 => (intro wz hSw; (try dsimp only at hSw); go_simp <;> with_reducible rfl)
      try simp only [Act.put, List.setIfInBounds_toArray, List.set_cons_zero, List.set_cons_succ]
      refine wpAnyH_take (i := 9) (oi := { dst := some 20, op := Op.fieldAddr 121 (Operand.tmp 19) 1, type := 0, pos := "law.go:17", after := #[{ on := 8, ground := Ground.data }], guard := none }) (v := ?va9) rfl (by kernel_rfl) (by kernel_rfl) (by kernel_rfl) (fun _ _ _ h => h) (Or.inl ⟨by rfl, ?ha9⟩) (by assumption) ?ra9
      case ha9 => (intro wz hSw; (try dsimp only at hSw); go_simp <;> with_reducible rfl)
      try simp only [Act.put, List.setIfInBounds_toArray, List.set_cons_zero, List.set_cons_succ]
      refine wpAnyH_take (i := 10) (oi := { dst := some 21, op := Op.load 3 (Operand.tmp 20), type := 3, pos := "law.go:17", after := #[{ on := 9, ground := Ground.data }], guard := none }) (v := ?va10) rfl (by kernel_rfl) (by kernel_rfl) (by kernel_rfl) (fun _ _ _ h => h) (Or.inl ⟨by rfl, ?ha10⟩) (by assumption) ?ra10
      case ha10 => (intro wz hSw; (try dsimp only at hSw); go_simp <;> with_reducible rfl)
      try simp only [Act.put, List.setIfInBounds_toArray, List.set_cons_zero, List.set_cons_succ]
      refine wpAnyH_take (i := 11) (oi := { dst := some 22, op := Op.move (Operand.tmp 0), type := 24, pos := "law.go:17", after := #[], guard := none }) (v := ?va11) rfl (by kernel_rfl) (by kernel_rfl) (by kernel_rfl) (fun _ _ _ h => h) (Or.inl ⟨by rfl, ?ha11⟩) (by assumption) ?ra11
      case ha11 => (intro wz hSw; (try dsimp only at hSw); go_simp <;> with_reducible rfl)
      try simp only [Act.put, List.setIfInBounds_toArray, List.set_cons_zero, List.set_cons_succ]
      refine wpAnyH_take (i := 12) (oi := { dst := some 23, op := Op.move (Operand.tmp 4), type := 3, pos := "law.go:17", after := #[], guard := none }) (v := ?va12) rfl (by kernel_rfl) (by kernel_rfl) (by kernel_rfl) (fun _ _ _ h => h) (Or.inl ⟨by rfl, ?ha12⟩) (by assumption) ?ra12
      case ha12 => (intro wz hSw; (try dsimp only at hSw); go_simp <;> with_reducible rfl)
      try simp only [Act.put, List.setIfInBounds_toArray, List.set_cons_zero, List.set_cons_succ]
      refine wpAnyH_take (i := 13) (oi := { dst := some 24, op := Op.indexAddr 24 (Operand.tmp 22) (Operand.tmp 23), type := 0, pos := "law.go:17", after := #[{ on := 11, ground := Ground.data }, { on := 12, ground := Ground.data }], guard := none }) (v := ?va13) rfl (by kernel_rfl) (by kernel_rfl) (by kernel_rfl) (fun _ _ _ h => h) (Or.inl ⟨by rfl, ?ha13⟩) (by assumption) ?ra13
      case ha13 => (intro wz hSw; (try dsimp only at hSw); go_simp <;> with_reducible rfl)
      try simp only [Act.put, List.setIfInBounds_toArray, List.set_cons_zero, List.set_cons_succ]
      refine wpAnyH_take (i := 14) (oi := { dst := some 25, op := Op.fieldAddr 121 (Operand.tmp 24) 2, type := 0, pos := "law.go:17", after := #[{ on := 13, ground := Ground.data }], guard := none }) (v := ?va14) rfl (by kernel_rfl) (by kernel_rfl) (by kernel_rfl) (fun _ _ _ h => h) (Or.inl ⟨by rfl, ?ha14⟩) (by assumption) ?ra14
      case ha14 => (intro wz hSw; (try dsimp only at hSw); go_simp <;> with_reducible rfl)
      try simp only [Act.put, List.setIfInBounds_toArray, List.set_cons_zero, List.set_cons_succ]
      refine wpAnyH_take (i := 15) (oi := { dst := some 26, op := Op.load 3 (Operand.tmp 25), type := 3, pos := "law.go:17", after := #[{ on := 14, ground := Ground.data }], guard := none }) (v := ?va15) rfl (by kernel_rfl) (by kernel_rfl) (by kernel_rfl) (fun _ _ _ h => h) (Or.inl ⟨by rfl, ?ha15⟩) (by assumption) ?ra15
      case ha15 => (intro wz hSw; (try dsimp only at hSw); go_simp <;> with_reducible rfl)
      try simp only [Act.put, List.setIfInBounds_toArray, List.set_cons_zero, List.set_cons_succ]
      refine wpAnyH_take (i := 16) (oi := { dst := some 27, op := Op.build 122 #[(0, Operand.tmp 16), (1, Operand.tmp 21), (2, Operand.tmp 26)], type := 122, pos := "law.go:17", after := #[{ on := 5, ground := Ground.data }, { on := 10, ground := Ground.data }, { on := 15, ground := Ground.data }], guard := none }) (v := ?va16) rfl (by kernel_rfl) (by kernel_rfl) (by kernel_rfl) (fun _ _ _ h => h) (Or.inl ⟨by rfl, ?ha16⟩) (by assumption) ?ra16
      case ha16 => (intro wz hSw; (try dsimp only at hSw); go_simp <;> with_reducible rfl)
      try simp only [Act.put, List.setIfInBounds_toArray, List.set_cons_zero, List.set_cons_succ]
      refine wpAnyH_ready (rs := [17]) (by kernel_rfl) (by simp) ?_
      refine AllReadyH.cons (o := { dst := some 28, op := Op.buildSlice 31 1 #[(0, Operand.tmp 27)], type := 31, pos := "law.go:17", after := #[{ on := 16, ground := Ground.data }], guard := none }) rfl (fun K hK => ?_) AllReadyH.nil
      go_simp
      (try go_wp2_with fail)
      refine hK.out _ _ ?sa17 (fun hHeld => ?ta17)
      case sa17 => exact KC.out _ (Sm.below (⟨rfl, rfl, rfl, rfl⟩ : Sm _ (wr.alloc (.cells #[.int .i64 x.a, .int .i64 x.b, .int .i64 x.c] 122))) (GB.out.alloc SZ.out _))
      clear hK K
      try simp only [Act.put, List.setIfInBounds_toArray, List.set_cons_zero, List.set_cons_succ]
      refine wpAnyH_ready (rs := [18]) (by kernel_rfl) (by simp) ?_
      refine AllReadyH.cons (o := { dst := some 29, op := Op.call { callee := Callee.builtin Builtin.append, args := #[Operand.tmp 11, Operand.tmp 28], argTypes := #[31, 31] }, type := 31, pos := "law.go:17", after := #[{ on := 0, ground := Ground.data }, { on := 17, ground := Ground.data }], guard := none }) rfl (fun K hK => ?_) AllReadyH.nil
      refine step_rung rfl (.tmp 11) (.tmp 28) 31 rfl rfl rfl (RUN.out _ ⟨rfl, rfl, rfl, rfl⟩) ?_
      intro v2 w2 g2
      obtain ⟨a2, c2, rfl⟩ := owng_shape g2.own
      have G2 : Hid (LG tr 122 w w2 _ (G ++ [x])) := g2
      have K2 := KC.out w2 g2.bel
      clear g2
      refine hK.out _ _ K2 (fun hHeld => ?_)
      clear hK K
      try simp only [Act.put, List.setIfInBounds_toArray, List.set_cons_zero, List.set_cons_succ]
      refine wpAnyH_take (i := 19) (oi := { dst := some 3, op := Op.assign (Operand.tmp 29), type := 31, pos := "law.go:17", after := #[{ on := 18, ground := Ground.data }, { on := 18, ground := Ground.chain }, { on := 0, ground := Ground.phase }, { on := 1, ground := Ground.phase }, { on := 2, ground := Ground.phase }, { on := 3, ground := Ground.phase }, { on := 4, ground := Ground.phase }, { on := 5, ground := Ground.phase }, { on := 6, ground := Ground.phase }, { on := 7, ground := Ground.phase }, { on := 8, ground := Ground.phase }, { on := 9, ground := Ground.phase }, { on := 10, ground := Ground.phase }, { on := 11, ground := Ground.phase }, { on := 12, ground := Ground.phase }, { on := 13, ground := Ground.phase }, { on := 14, ground := Ground.phase }, { on := 15, ground := Ground.phase }, { on := 16, ground := Ground.phase }, { on := 17, ground := Ground.phase }, { on := 18, ground := Ground.phase }], guard := none }) (v := ?va19) rfl (by kernel_rfl) (by kernel_rfl) (by kernel_rfl) (fun _ _ _ h => h) (Or.inl ⟨by rfl, ?ha19⟩) (by assumption) ?ra19
      case ha19 => (intro wz hSw; (try dsimp only at hSw); go_simp <;> with_reducible rfl)
      try simp only [Act.put, List.setIfInBounds_toArray, List.set_cons_zero, List.set_cons_succ]
      refine wpAnyH_done (by kernel_rfl) ?_ _
      go_wp2
      go_roundw
      case rel => exact ⟨k + 1, _, by omega, ⟨(by have q := G2.out.own; rw [show Value.slice a2 (G ++ [x]).length c2 = .slice a2 (G.length + 1) c2 by simp] at q; exact ⟨q.1, q.2⟩), (by have q := G2.out.bel; exact ⟨q.os, q.tape, q.output, q.size, q.block⟩)⟩, s, by go_num⟩
      case measure => simp [intOf]; omega
    · have e2 : G = Y := by rw [hG.out, show k = l by omega]; exact HE.out
      subst e2
      obtain ⟨a2, c2, hv2⟩ := owng_shape g.own
      have HG : Hid (LG tr 122 w wr u3 G) := g
      rw [hv2] at HG
      clear g
      go_wp2
      go_ret
      exact ⟨_, rfl, HG.out⟩

end Go.Proofs.YtfdmcbcomknebaaGreatDoor.Aud
