/- What core's Next, New and the calls of a table of cores answer and leave, for every one. -/
import Derived.Test.YtddjkdcbbonjkaaRows
import Derived.Test.YtddjkdcbbonjkaaCoA
import Derived.WalkKit
import Derived.ProofKit
import Derived.OpenShut
import Derived.BigQuiet
import Derived.Laws.MakeOwn
import Derived.Laws.ResultCell
import Derived.Shelf.RegionOpenPlain
namespace Go.Proofs.Ytddjkdcbbonjkaa
open Go.ChangeShapes Go.WideShapes Go.ChangeAt Go.RowKit
open Co

set_option maxRecDepth 100000 in
set_option maxHeartbeats 1000000 in
theorem knext_any (x : Kc) (f : Fl) (w : World) : Calls Try.prog 7 #[ckv x, flv f] w fun e w' => e = .returned (.int .i64 (next x.p x.i f)) ∧ Below w.heap.size w w' := by
  have C : Hid (∀ w, _) := fun w => wants_any f w
  have HW : Hid (∀ (u : World) o1 o2, Below ((w.alloc o1).alloc o2).heap.size ((w.alloc o1).alloc o2) u → Below w.heap.size w u) := fun u o1 o2 h => (((Below.refl w.heap.size w).alloc (Nat.le_refl _) o1).alloc (by simp) o2).trans (h.mono (by simp; omega))
  have HV : Hid (∀ o1 o2, Below w.heap.size w ((w.alloc o1).alloc o2)) := fun o1 o2 => ((Below.refl w.heap.size w).alloc (Nat.le_refl _) o1).alloc (by simp) o2
  obtain ⟨p, i, y, s, t, b⟩ := x
  unfold next
  simp only [ckv]
  generalize wants f = v at *
  simp only [flv] at C ⊢
  cases p with
  | false =>
    go_enter Try.func7, Try.ntmps7
    go_wp2
    go_ret
    exact ⟨rfl, HV.out _ _⟩
  | true =>
    have HX : Hid (∀ (u : World) o2, Below ((w.alloc (.cells #[.bool true, .bool i, .int .i64 y, .int .i64 s, .int .i64 t, .int .i64 b] 27)).alloc o2).heap.size ((w.alloc (.cells #[.bool true, .bool i, .int .i64 y, .int .i64 s, .int .i64 t, .int .i64 b] 27)).alloc o2) u → u.cell? ⟨w.heap.size, 1, none⟩ = some (.bool i)) := fun u o2 h =>
      (h.cell (p := ⟨w.heap.size, 1, none⟩) (by simp; omega)).trans (((Blk.new w [.bool true, .bool i, .int .i64 y, .int .i64 s, .int .i64 t, .int .i64 b] 27).alloc o2).cell 1)
    rw [if_pos rfl]
    cases i with
    | false =>
      rw [if_neg (by decide)]
      go_enter Try.func7, Try.ntmps7
      go_wp2_with fail
      refine (C.out _).mono ?_
      rintro e w' ⟨rfl, b1⟩
      have hx := HX.out _ _ b1
      go_wp2
      go_ret
      exact ⟨rfl, HW.out _ _ _ b1⟩
    | true =>
      rw [if_pos rfl]
      by_cases e1 : v = 0
      · rw [if_pos (Or.inl e1)]
        subst e1
        go_enter Try.func7, Try.ntmps7
        go_wp2_with fail
        refine (C.out _).mono ?_
        rintro e w' ⟨rfl, b1⟩
        have hx := HX.out _ _ b1
        go_wp2
        go_ret
        exact ⟨rfl, HW.out _ _ _ b1⟩
      · by_cases e2 : v = 9
        · rw [if_pos (Or.inr e2)]
          subst e2
          go_enter Try.func7, Try.ntmps7
          go_wp2_with fail
          refine (C.out _).mono ?_
          rintro e w' ⟨rfl, b1⟩
          have hx := HX.out _ _ b1
          go_wp2
          go_ret
          exact ⟨rfl, HW.out _ _ _ b1⟩
        · rw [if_neg (by omega)]
          have b0 : (v == 0) = false := by simpa using e1
          have b9 : (v == 9) = false := by simpa using e2
          go_enter Try.func7, Try.ntmps7
          go_wp2_with fail
          refine (C.out _).mono ?_
          rintro e w' ⟨rfl, b1⟩
          have hx := HX.out _ _ b1
          go_wp2
          go_ret
          exact ⟨rfl, HW.out _ _ _ b1⟩

/-- The table at block s, its cores at block g. -/
structure CT (w : World) (s g : Nat) (Y : List Kc) : Prop where
  sb : Blk w s [.slice (some ⟨g, 0, none⟩) Y.length Y.length] 62
  gb : Blk w g (ck.all Y) 27
  ok : okY Y
  l1 : 1 ≤ Y.length
  l2 : Y.length ≤ 64

section
variable {w w1 : World} {s g : Nat} {Y : List Kc}
theorem CT.heap (h : CT w s g Y) (e : w1.heap = w.heap) : CT w1 s g Y := ⟨h.sb.heap e, h.gb.heap e, h.ok, h.l1, h.l2⟩
theorem CT.keep {B : Nat} {S : List Nat} (h : CT w s g Y) (f : Fr B S w w1) (hb : s < B) (gb : g < B) (hs : s ∉ S) (gs : g ∉ S) : CT w1 s g Y := ⟨h.sb.keep f hb hs, h.gb.keep f gb gs, h.ok, h.l1, h.l2⟩
theorem CT.below (h : CT w s g Y) (f : Below w.heap.size w w1) : CT w1 s g Y := h.keep (Fr.of_below f) h.sb.lt h.gb.lt (by simp) (by simp)
theorem CT.ne (h : CT w s g Y) : s ≠ g := h.sb.ne h.gb (by decide)
theorem CT.hdr (h : CT w s g Y) : w.cell? ⟨s, 0, none⟩ = some (.slice (some ⟨g, 0, none⟩) Y.length Y.length) := h.sb.cell 0
theorem CT.cell (h : CT w s g Y) {k : Nat} (hk : k < Y.length) (j : Nat) (hj : j < 6) : w.cell? ⟨g, k * 6 + j, none⟩ = (ck.f (Y.getD k kz))[j]? := by
  rw [h.gb.cell]
  exact lay_at (L := ck) Y k j hk hj
theorem CT.set (h : CT w s g Y) {k : Nat} (hk : k < Y.length) (j : Nat) (hj : j < 6) (x : Kc) (v : Value) (e : ck.f x = (ck.f (Y.getD k kz)).set j v) (o : 0 ≤ x.since ∧ x.since ≤ 1152921504606846976) : CT (w.setCell ⟨g, k * 6 + j, none⟩ v) s g (Y.set k x) := by
  refine ⟨?_, ?_, okY_set h.ok k x o, by simpa using h.l1, by simpa using h.l2⟩
  · rw [List.length_set]
    exact h.sb.other h.ne _
  · rw [← lay_set (L := ck) Y k j x v hk hj e]
    exact h.gb.set _ _
end

theorem cof_yes (w : World) (s g k : Nat) (Y : List Kc) (h : CT w s g Y) (hk : k < Y.length) :
    Calls Try.prog 28 #[.pointer (some ⟨s, 0, none⟩), .int .i64 (k : Int)] w fun e w' => e = .returned (.tuple #[.pointer (some ⟨g, k * 6, none⟩), .int .i64 0]) ∧ w' = w := by
  have c0 := h.hdr
  generalize Y.length = n at *
  have l1 : (k : Int) < n := by omega
  have l2 : ¬ (n : Int) ≤ k := by omega
  clear h
  go_enter Try.func28, Try.ntmps28
  go_wp2
  go_ret2
  exact ⟨rfl, rfl⟩
/-- An empty core in a new block. -/
def wc (w : World) : World := w.alloc (.cells #[.bool false, .bool false, .int .i64 0, .int .i64 0, .int .i64 0, .int .i64 0] 27)
theorem cof_no (w : World) (s g : Nat) (c : Int) (Y : List Kc) (h : CT w s g Y) (hk : isk Y.length c = false) :
    Calls Try.prog 28 #[.pointer (some ⟨s, 0, none⟩), .int .i64 c] w fun e w' => e = .returned (.tuple #[.pointer (some ⟨w.heap.size, 0, none⟩), .int .i64 3]) ∧ w' = wc w := by
  have c0 := h.hdr
  generalize Y.length = n at *
  by_cases l1 : c < 0
  · clear h hk
    go_enter Try.func28, Try.ntmps28
    go_wp2
    go_ret2
    exact ⟨rfl, rfl⟩
  · have l2 : (n : Int) ≤ c := by simp [isk] at hk; omega
    clear h hk
    go_enter Try.func28, Try.ntmps28
    go_wp2
    go_ret2
    exact ⟨rfl, rfl⟩
theorem cof_nil (w : World) (c : Int) :
    Calls Try.prog 28 #[.pointer none, .int .i64 c] w fun e w' => e = .returned (.tuple #[.pointer (some ⟨w.heap.size, 0, none⟩), .int .i64 1]) ∧ w' = wc w := by
  go_enter Try.func28, Try.ntmps28
  go_wp2
  go_ret2
  exact ⟨rfl, rfl⟩
theorem wc_below (w : World) : Below w.heap.size w (wc w) := (Below.refl _ _).alloc (Nat.le_refl _) _
theorem wc_blk (w : World) : Blk (wc w) w.heap.size (ck.f kz) 27 := Blk.new w _ _

theorem Try.infoCk : (Try.prog.info? 27).map (fun i => (i.zero, i.size, i.bytes)) = some (some (ckv kz), 6, 40) := by kernel_rfl
theorem made_six (n : Nat) : madeCells (ckv kz).cells (n * 6) = (ck.all (List.replicate n kz)).toArray := by
  have hz : (ckv kz).cells = (ck.f kz).toArray := rfl
  rw [hz]
  have hl := lay_len (L := ck) (List.replicate n kz)
  apply Array.ext
  · rw [size_madeCells, List.size_toArray, hl, List.length_replicate]; rfl
  · intro i h1 h2
    have hi : i < n * 6 := by simpa [size_madeCells] using h1
    have hm : i % 6 < 6 := Nat.mod_lt _ (by omega)
    have e := lay_at (L := ck) (List.replicate n kz) (i / 6) (i % 6) (by rw [List.length_replicate]; omega) hm
    rw [show i / 6 * ck.n + i % 6 = i by show i / 6 * 6 + i % 6 = i; omega, show (List.replicate n kz).getD (i / 6) ck.z = kz by simp only [List.getD, List.getElem?_replicate]; split <;> rfl] at e
    simp only [madeCells, Array.getElem_map, Array.getElem_range]
    rw [getElem!_pos (ck.f kz).toArray (i % (ck.f kz).toArray.size) hm]
    simp only [List.getElem_toArray, List.size_toArray]
    have e2 : (ck.f kz)[i % 6]? = some ((ck.f kz)[i % 6]'hm) := List.getElem?_eq_getElem _
    rw [e2, List.getElem?_eq_some_iff] at e
    obtain ⟨h, e⟩ := e
    exact e.symm

/-- What New's loop keeps: the first k have power. -/
def hal (n k : Nat) : List Kc := List.replicate k kn ++ List.replicate (n - k) kz
theorem hal_len {n k : Nat} (h : k ≤ n) : (hal n k).length = n := by simp [hal]; omega
theorem hal_at {n k : Nat} (_ : k < n) : (hal n k).getD k kz = kz := by
  unfold hal
  simp only [List.getD]
  rw [List.getElem?_append_right (by simp), List.length_replicate, Nat.sub_self, List.getElem?_replicate]
  split <;> rfl
theorem hal_set {n k : Nat} (h : k < n) : (hal n k).set k kn = hal n (k + 1) := by
  unfold hal
  rw [List.set_append_right _ _ (by simp), List.length_replicate, Nat.sub_self, List.replicate_succ', List.append_assoc, show n - k = (n - (k + 1)) + 1 by omega, List.replicate_succ]
  rfl
theorem okY_hal (n k : Nat) : okY (hal n k) := fun y hy => by
  have : y = kn ∨ y = kz := by
    rcases List.mem_append.1 hy with q | q
    · exact Or.inl (List.mem_replicate.1 q).2
    · exact Or.inr (List.mem_replicate.1 q).2
  rcases this with rfl | rfl <;> exact ⟨Int.le_refl 0, by show (0 : Int) ≤ _; omega⟩

set_option maxRecDepth 100000 in
set_option maxHeartbeats 1000000 in
theorem ctnew_any (n : Nat) (w : World) (h1 : (1 : Int) ≤ n) (h2 : (n : Int) ≤ 64) :
    Calls Try.prog 12 #[.int .i64 (n : Int)] w fun e w' => e = .returned (.tuple #[.pointer (some ⟨w.heap.size + 1, 0, none⟩), .int .i64 0]) ∧ CT w' (w.heap.size + 1) w.heap.size (List.replicate n kn) ∧ Below w.heap.size w w' := by
  obtain ⟨i0, hi, hz0, hz1, hz2⟩ := info_parts Try.infoCk
  have hm := run_make (P := Try.prog) w 60 27 i0 _ Try.underlying60 hi hz0 .i64 .i64 n n (by omega) (by omega) (by rw [hz2]; omega) (by omega)
  rw [hz1, Int.toNat_natCast, made_six] at hm
  have hj : Hid (ck.all (List.replicate n kz) = ck.all (hal n 0)) := by unfold Hid hal; simp
  have F : Hid (∀ o1 o2, Below w.heap.size w ((w.alloc o1).alloc o2)) := fun o1 o2 => ((Below.refl _ _).alloc (Nat.le_refl _) o1).alloc (by simp) o2
  generalize ck.all (List.replicate n kz) = Z at *
  have B0 : Hid (Blk ((w.alloc (.cells Z.toArray 27)).alloc (.cells #[.slice (some ⟨w.heap.size, 0, none⟩) n n] 62)) w.heap.size Z 27 ∧ Blk ((w.alloc (.cells Z.toArray 27)).alloc (.cells #[.slice (some ⟨w.heap.size, 0, none⟩) n n] 62)) (w.heap.size + 1) [.slice (some ⟨w.heap.size, 0, none⟩) n n] 62) := by
    refine ⟨(Blk.new w Z _).alloc _, ?_⟩
    have := Blk.new (w.alloc (.cells Z.toArray 27)) [.slice (some ⟨w.heap.size, 0, none⟩) n n] 62
    simpa using this
  obtain ⟨z, hz⟩ : ∃ z, w.heap.size = z := ⟨_, rfl⟩
  rw [hz] at hm B0 F ⊢
  clear hi hz0 hz1 hz2
  go_enter Try.func12, Try.ntmps12
  go_wp2
  go_loopw [21] (fun i wr => ∃ k : Nat, (k : Int) ≤ n ∧ Blk wr z (ck.all (hal n k)) 27 ∧ Blk wr (z + 1) [.slice (some ⟨z, 0, none⟩) n n] 62 ∧ Below z w wr ∧ i = .int .i64 k) (fun i _ => n - (intOf i).toNat)
  case atStart => exact ⟨0, by omega, by rw [← hj.out]; exact B0.out.1, B0.out.2, F.out _ _, rfl⟩
  case round =>
    obtain ⟨k, hk, hs, ht, hl, rfl⟩ := hrel
    clear B0 F hm
    have c0 := ht.cell 0
    have HL : Hid (Below z w wr) := hl
    by_cases e : (k : Int) < n
    · have HS : Hid (Blk wr z (ck.all (hal n k)) 27 ∧ Blk wr (z + 1) [.slice (some ⟨z, 0, none⟩) n n] 62) := ⟨hs, ht⟩
      have d0 : wr.cell? ⟨z, k * 6, none⟩ = some (.bool false) := by
        rw [hs.cell]
        have q := lay_at (L := ck) (hal n k) k 0 (by rw [hal_len (by omega)]; omega) (by decide)
        rw [show (hal n k).getD k ck.z = kz from hal_at (by omega)] at q
        exact q
      have f0 := hs.free (k * 6)
      clear hs ht hl
      go_wp2
      go_roundw
      case rel =>
        refine ⟨k + 1, by omega, ?_, HS.out.2.other (by simp) _, HL.out.setCell (Nat.le_refl _) _, by go_num⟩
        have q := HS.out.1.set (k * 6) (.bool true)
        have q2 := lay_set (L := ck) (hal n k) k 0 kn (.bool true) (by rw [hal_len (by omega)]; omega) (by decide) (by rw [show (hal n k).getD k ck.z = kz from hal_at (by omega)]; rfl)
        rw [hal_set (by omega)] at q2
        rw [← q2]
        exact q
      case measure => simp [intOf]; omega
    · obtain rfl : k = n := by omega
      have HS : Hid (Blk wr z (ck.all (hal k k)) 27 ∧ Blk wr (z + 1) [.slice (some ⟨z, 0, none⟩) k k] 62) := ⟨hs, ht⟩
      have HE : Hid (hal k k = List.replicate k kn) := by unfold Hid hal; simp
      clear hs ht hl
      go_wp2
      go_ret2
      have l : (List.replicate k kn).length = k := by simp
      refine ⟨rfl, ⟨by rw [l]; exact HS.out.2, by rw [← HE.out]; exact HS.out.1, okY_new k, by omega, by omega⟩, HL.out⟩
theorem ctnew_bad (c : Int) (w : World) (h : c < 1 ∨ 64 < c) :
    Calls Try.prog 12 #[.int .i64 c] w fun e w' => e = .returned (.tuple #[.pointer none, .int .i64 2]) ∧ w' = w := by
  rcases h with h | h
  · go_enter Try.func12, Try.ntmps12
    go_wp2
    go_ret2
    exact ⟨rfl, rfl⟩
  · have h2 : (1 : Int) ≤ c := by omega
    go_enter Try.func12, Try.ntmps12
    go_wp2
    go_ret2
    exact ⟨rfl, rfl⟩
end Go.Proofs.Ytddjkdcbbonjkaa
