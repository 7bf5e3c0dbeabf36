/- The texts CoM CoA CoB CoC CoD of one layer, laid together. -/
import Derived.Test.YtmlilgbochbbiaaGreatDoorRows
import Derived.Test.YtmlilgbochbbiaaGreatDoorXa
import Derived.WalkKit
import Derived.ProofKit
import Derived.OpenShut
import Derived.BigQuiet
import Derived.Laws.MakeOwn
import Derived.Laws.ResultCell
import Derived.Shelf.RegionOpenPlain
namespace Go.Proofs.YtmlilgbochbbiaaGreatDoor.Cor
open Go.ChangeShapes Go.WideShapes Go.ChangeAt Go.RowKit
section
variable {α : Type} {L : Lay α}
theorem lay_len (Y : List α) : (L.all Y).length = Y.length * L.n := by
  induction Y with
  | nil => simp [Lay.all]
  | cons x r ih => rw [lay_cons, List.length_append, ih, L.len, List.length_cons, Nat.succ_mul]; omega
/-- One cell of one record is turned. -/
theorem lay_set (Y : List α) (k j : Nat) (x : α) (v : Value) (h : k < Y.length) (hj : j < L.n) (e : L.f x = (L.f (Y.getD k L.z)).set j v) : (L.all Y).set (k * L.n + j) v = L.all (Y.set k x) := by
  induction Y generalizing k with
  | nil => simp at h
  | cons y r ih =>
    have hy := L.len y
    cases k with
    | zero =>
      rw [lay_cons, List.set_cons_zero, lay_cons, List.set_append_left _ _ (by omega), Nat.zero_mul, Nat.zero_add, e]
      rfl
    | succ k =>
      have e2 : (k + 1) * L.n = k * L.n + L.n := Nat.succ_mul k L.n
      rw [lay_cons, List.set_cons_succ, lay_cons, List.set_append_right _ _ (by omega), show (k + 1) * L.n + j - (L.f y).length = k * L.n + j by omega, ih k (by simpa using h) e]
end
namespace Co
/-- A core: has it power, does it rest, how, since when; its steps, and those that were busy. -/
structure Kc where
  p : Bool
  i : Bool
  way : Int
  since : Int
  steps : Int
  busy : Int
def kz : Kc := ⟨false, false, 0, 0, 0, 0⟩
def kn : Kc := ⟨true, false, 0, 0, 0, 0⟩
/-- What waits for a core. -/
structure Fl where
  stop : Bool
  held : Bool
  hot : Bool
  act : Bool
  call : Bool
  irq : Bool
  timer : Bool
  work : Bool
  thr : Bool
def wants (f : Fl) : Int := if f.stop then 2 else if f.hot then 3 else if f.held || !f.act then 0 else if f.call then 4 else if f.irq then 5 else if f.timer then 6 else if f.work then 7 else if f.thr then 8 else 9
def next (p i : Bool) (f : Fl) : Int := if p then (if i then (if wants f = 0 ∨ wants f = 9 then 0 else 1) else wants f) else 0
def isk (n : Nat) (c : Int) : Bool := decide (0 ≤ c) && decide (c < (n : Int))
def isT (t : Int) : Bool := decide (0 ≤ t) && decide (t ≤ 1152921504606846976)
def gt (Y : List Kc) (c : Int) : Kc := if isk Y.length c then Y.getD c.toNat kz else kz
def wkE (Y : List Kc) (c now : Int) : Int := if isk Y.length c then (if isT now then (if (gt Y c).i then 0 else 6) else 2) else 3
/-- Cores that can be: since which tick they rest. -/
def okY (Y : List Kc) : Prop := ∀ k ∈ Y, 0 ≤ k.since ∧ k.since ≤ 1152921504606846976
theorem okY_set {Y : List Kc} (h : okY Y) (k : Nat) (x : Kc) (hx : 0 ≤ x.since ∧ x.since ≤ 1152921504606846976) : okY (Y.set k x) := fun y hy => by
  rcases List.mem_or_eq_of_mem_set hy with q | q
  · exact h y q
  · subst q; exact hx
theorem okY_new (n : Nat) : okY (List.replicate n kn) := fun k hk => by
  rw [(List.mem_replicate.1 hk).2]
  exact ⟨Int.le_refl 0, by show (0 : Int) ≤ _; omega⟩
end Co
open Co
/-- Six cells each. -/
def ck : Lay Kc where
  n := 6
  f := fun x => [.bool x.p, .bool x.i, .int .i64 x.way, .int .i64 x.since, .int .i64 x.steps, .int .i64 x.busy]
  z := kz
  len := fun _ => rfl
  one := fun x u h => by
    simp only [List.mem_cons, List.not_mem_nil, or_false] at h
    rcases h with rfl | rfl | rfl | rfl | rfl | rfl <;> rfl
  pos := by decide
def ckv (x : Kc) : Value := .agg #[.bool x.p, .bool x.i, .int .i64 x.way, .int .i64 x.since, .int .i64 x.steps, .int .i64 x.busy]
end Go.Proofs.YtmlilgbochbbiaaGreatDoor.Cor
namespace Go.Proofs.YtmlilgbochbbiaaGreatDoor.Cor
open Go.ChangeShapes Go.WideShapes Go.ChangeAt Go.RowKit
open Co
end Go.Proofs.YtmlilgbochbbiaaGreatDoor.Cor
namespace Go.Proofs.YtmlilgbochbbiaaGreatDoor.Cor
open Go.ChangeShapes Go.WideShapes Go.ChangeAt Go.RowKit
open Co
/-- The table at block s, its cores at block g. -/
structure CT (w : World) (s g : Nat) (Y : List Kc) : Prop where
  sb : Blk w s [.slice (some ⟨g, 0, none⟩) Y.length Y.length] 195
  gb : Blk w g (ck.all Y) 197
  ok : okY Y
  l1 : 1 ≤ Y.length
  l2 : Y.length ≤ 64
section
variable {w w1 : World} {s g : Nat} {Y : List Kc}
theorem CT.keep {B : Nat} {S : List Nat} (h : CT w s g Y) (f : Fr B S w w1) (hb : s < B) (gb : g < B) (hs : s ∉ S) (gs : g ∉ S) : CT w1 s g Y := ⟨h.sb.keep f hb hs, h.gb.keep f gb gs, h.ok, h.l1, h.l2⟩
theorem CT.below (h : CT w s g Y) (f : Below w.heap.size w w1) : CT w1 s g Y := h.keep (Fr.of_below f) h.sb.lt h.gb.lt (by simp) (by simp)
theorem CT.ne (h : CT w s g Y) : s ≠ g := h.sb.ne h.gb (by decide)
theorem CT.cell (h : CT w s g Y) {k : Nat} (hk : k < Y.length) (j : Nat) (hj : j < 6) : w.cell? ⟨g, k * 6 + j, none⟩ = (ck.f (Y.getD k kz))[j]? := by
  rw [h.gb.cell]
  exact lay_at (L := ck) Y k j hk hj
theorem CT.set (h : CT w s g Y) {k : Nat} (hk : k < Y.length) (j : Nat) (hj : j < 6) (x : Kc) (v : Value) (e : ck.f x = (ck.f (Y.getD k kz)).set j v) (o : 0 ≤ x.since ∧ x.since ≤ 1152921504606846976) : CT (w.setCell ⟨g, k * 6 + j, none⟩ v) s g (Y.set k x) := by
  refine ⟨?_, ?_, okY_set h.ok k x o, by simpa using h.l1, by simpa using h.l2⟩
  · rw [List.length_set]
    exact h.sb.other h.ne _
  · rw [← lay_set (L := ck) Y k j x v hk hj e]
    exact h.gb.set _ _
end
theorem Tryz.infoCk : (Tryz.prog.info? 197).map (fun i => (i.zero, i.size, i.bytes)) = some (some (ckv kz), 6, 40) := by kernel_rfl
theorem made_six (n : Nat) : madeCells (ckv kz).cells (n * 6) = (ck.all (List.replicate n kz)).toArray := by
  have hz : (ckv kz).cells = (ck.f kz).toArray := rfl
  rw [hz]
  have hl := lay_len (L := ck) (List.replicate n kz)
  apply Array.ext
  · rw [size_madeCells, List.size_toArray, hl, List.length_replicate]; rfl
  · intro i h1 h2
    have hi : i < n * 6 := by simpa [size_madeCells] using h1
    have hm : i % 6 < 6 := Nat.mod_lt _ (by omega)
    have e := lay_at (L := ck) (List.replicate n kz) (i / 6) (i % 6) (by rw [List.length_replicate]; omega) hm
    rw [show i / 6 * ck.n + i % 6 = i by show i / 6 * 6 + i % 6 = i; omega, show (List.replicate n kz).getD (i / 6) ck.z = kz by simp only [List.getD, List.getElem?_replicate]; split <;> rfl] at e
    simp only [madeCells, Array.getElem_map, Array.getElem_range]
    rw [getElem!_pos (ck.f kz).toArray (i % (ck.f kz).toArray.size) hm]
    simp only [List.getElem_toArray, List.size_toArray]
    have e2 : (ck.f kz)[i % 6]? = some ((ck.f kz)[i % 6]'hm) := List.getElem?_eq_getElem _
    rw [e2, List.getElem?_eq_some_iff] at e
    obtain ⟨h, e⟩ := e
    exact e.symm
/-- What New's loop keeps: the first k have power. -/
def hal (n k : Nat) : List Kc := List.replicate k kn ++ List.replicate (n - k) kz
theorem hal_len {n k : Nat} (h : k ≤ n) : (hal n k).length = n := by simp [hal]; omega
theorem hal_at {n k : Nat} (_ : k < n) : (hal n k).getD k kz = kz := by
  unfold hal
  simp only [List.getD]
  rw [List.getElem?_append_right (by simp), List.length_replicate, Nat.sub_self, List.getElem?_replicate]
  split <;> rfl
theorem hal_set {n k : Nat} (h : k < n) : (hal n k).set k kn = hal n (k + 1) := by
  unfold hal
  rw [List.set_append_right _ _ (by simp), List.length_replicate, Nat.sub_self, List.replicate_succ', List.append_assoc, show n - k = (n - (k + 1)) + 1 by omega, List.replicate_succ]
  rfl
set_option maxRecDepth 100000 in
set_option maxHeartbeats 1000000 in
theorem ctnew_any (n : Nat) (w : World) (h1 : (1 : Int) ≤ n) (h2 : (n : Int) ≤ 64) :
    Calls Tryz.prog 48 #[.int .i64 (n : Int)] w fun e w' => e = .returned (.tuple #[.pointer (some ⟨w.heap.size + 1, 0, none⟩), .int .i64 0]) ∧ CT w' (w.heap.size + 1) w.heap.size (List.replicate n kn) ∧ Below w.heap.size w w' := by
  obtain ⟨i0, hi, hz0, hz1, hz2⟩ := info_parts Tryz.infoCk
  have hm := run_make (P := Tryz.prog) w 193 197 i0 _ Tryz.underlying193 hi hz0 .i64 .i64 n n (by omega) (by omega) (by rw [hz2]; omega) (by omega)
  rw [hz1, Int.toNat_natCast, made_six] at hm
  have hj : Hid (ck.all (List.replicate n kz) = ck.all (hal n 0)) := by unfold Hid hal; simp
  have F : Hid (∀ o1 o2, Below w.heap.size w ((w.alloc o1).alloc o2)) := fun o1 o2 => ((Below.refl _ _).alloc (Nat.le_refl _) o1).alloc (by simp) o2
  generalize ck.all (List.replicate n kz) = Z at *
  have B0 : Hid (Blk ((w.alloc (.cells Z.toArray 197)).alloc (.cells #[.slice (some ⟨w.heap.size, 0, none⟩) n n] 195)) w.heap.size Z 197 ∧ Blk ((w.alloc (.cells Z.toArray 197)).alloc (.cells #[.slice (some ⟨w.heap.size, 0, none⟩) n n] 195)) (w.heap.size + 1) [.slice (some ⟨w.heap.size, 0, none⟩) n n] 195) := by
    refine ⟨(Blk.new w Z _).alloc _, ?_⟩
    have := Blk.new (w.alloc (.cells Z.toArray 197)) [.slice (some ⟨w.heap.size, 0, none⟩) n n] 195
    simpa using this
  obtain ⟨z, hz⟩ : ∃ z, w.heap.size = z := ⟨_, rfl⟩
  rw [hz] at hm B0 F ⊢
  clear hi hz0 hz1 hz2
  go_enter Tryz.func48, Tryz.ntmps48
  go_wp2
  go_loopw [21] (fun i wr => ∃ k : Nat, (k : Int) ≤ n ∧ Blk wr z (ck.all (hal n k)) 197 ∧ Blk wr (z + 1) [.slice (some ⟨z, 0, none⟩) n n] 195 ∧ Below z w wr ∧ i = .int .i64 k) (fun i _ => n - (intOf i).toNat)
  case atStart => exact ⟨0, by omega, by rw [← hj.out]; exact B0.out.1, B0.out.2, F.out _ _, rfl⟩
  case round =>
    obtain ⟨k, hk, hs, ht, hl, rfl⟩ := hrel
    clear B0 F hm
    have c0 := ht.cell 0
    have HL : Hid (Below z w wr) := hl
    by_cases e : (k : Int) < n
    · have HS : Hid (Blk wr z (ck.all (hal n k)) 197 ∧ Blk wr (z + 1) [.slice (some ⟨z, 0, none⟩) n n] 195) := ⟨hs, ht⟩
      have d0 : wr.cell? ⟨z, k * 6, none⟩ = some (.bool false) := by
        rw [hs.cell]
        have q := lay_at (L := ck) (hal n k) k 0 (by rw [hal_len (by omega)]; omega) (by decide)
        rw [show (hal n k).getD k ck.z = kz from hal_at (by omega)] at q
        exact q
      have f0 := hs.free (k * 6)
      clear hs ht hl
      go_wp2
      go_roundw
      case rel =>
        refine ⟨k + 1, by omega, ?_, HS.out.2.other (by simp) _, HL.out.setCell (Nat.le_refl _) _, by go_num⟩
        have q := HS.out.1.set (k * 6) (.bool true)
        have q2 := lay_set (L := ck) (hal n k) k 0 kn (.bool true) (by rw [hal_len (by omega)]; omega) (by decide) (by rw [show (hal n k).getD k ck.z = kz from hal_at (by omega)]; rfl)
        rw [hal_set (by omega)] at q2
        rw [← q2]
        exact q
      case measure => simp [intOf]; omega
    · obtain rfl : k = n := by omega
      have HS : Hid (Blk wr z (ck.all (hal k k)) 197 ∧ Blk wr (z + 1) [.slice (some ⟨z, 0, none⟩) k k] 195) := ⟨hs, ht⟩
      have HE : Hid (hal k k = List.replicate k kn) := by unfold Hid hal; simp
      clear hs ht hl
      go_wp2
      go_ret2
      have l : (List.replicate k kn).length = k := by simp
      refine ⟨rfl, ⟨by rw [l]; exact HS.out.2, by rw [← HE.out]; exact HS.out.1, okY_new k, by omega, by omega⟩, HL.out⟩
end Go.Proofs.YtmlilgbochbbiaaGreatDoor.Cor
namespace Go.Proofs.YtmlilgbochbbiaaGreatDoor.Cor
open Go.ChangeShapes Go.WideShapes Go.ChangeAt Go.RowKit
open Co
section
variable {w w1 : World} {s g k : Nat} {Y : List Kc} {x1 : Kc}
end
end Go.Proofs.YtmlilgbochbbiaaGreatDoor.Cor
namespace Go.Proofs.YtmlilgbochbbiaaGreatDoor.Cor
open Go.ChangeShapes Go.WideShapes Go.ChangeAt Go.RowKit
open Co
end Go.Proofs.YtmlilgbochbbiaaGreatDoor.Cor
