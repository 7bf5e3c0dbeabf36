/- The texts CoM CoA CoB CoC CoD of one layer, laid together. -/
import Derived.Test.YtfipiifickdeiaaGreatDoorRows
import Derived.Test.YtfipiifickdeiaaGreatDoorXa
import Derived.WalkKit
import Derived.ProofKit
import Derived.OpenShut
import Derived.BigQuiet
import Derived.Laws.MakeOwn
import Derived.Laws.ResultCell
import Derived.Shelf.RegionOpenPlain
namespace Go.Proofs.YtfipiifickdeiaaGreatDoor.Cor
open Go.ChangeShapes Go.WideShapes Go.ChangeAt Go.RowKit
section
variable {α : Type} {L : Lay α}
theorem lay_len (Y : List α) : (L.all Y).length = Y.length * L.n := by
  induction Y with
  | nil => simp [Lay.all]
  | cons x r ih => rw [lay_cons, List.length_append, ih, L.len, List.length_cons, Nat.succ_mul]; omega
/-- One cell of one record is turned. -/
theorem lay_set (Y : List α) (k j : Nat) (x : α) (v : Value) (h : k < Y.length) (hj : j < L.n) (e : L.f x = (L.f (Y.getD k L.z)).set j v) : (L.all Y).set (k * L.n + j) v = L.all (Y.set k x) := by
  induction Y generalizing k with
  | nil => simp at h
  | cons y r ih =>
    have hy := L.len y
    cases k with
    | zero =>
      rw [lay_cons, List.set_cons_zero, lay_cons, List.set_append_left _ _ (by omega), Nat.zero_mul, Nat.zero_add, e]
      rfl
    | succ k =>
      have e2 : (k + 1) * L.n = k * L.n + L.n := Nat.succ_mul k L.n
      rw [lay_cons, List.set_cons_succ, lay_cons, List.set_append_right _ _ (by omega), show (k + 1) * L.n + j - (L.f y).length = k * L.n + j by omega, ih k (by simpa using h) e]
end
namespace Co
/-- A core: has it power, does it rest, how, since when; its steps, and those that were busy. -/
structure Kc where
  p : Bool
  i : Bool
  way : Int
  since : Int
  steps : Int
  busy : Int
def kz : Kc := ⟨false, false, 0, 0, 0, 0⟩
def kn : Kc := ⟨true, false, 0, 0, 0, 0⟩
/-- What waits for a core. -/
structure Fl where
  stop : Bool
  held : Bool
  hot : Bool
  act : Bool
  call : Bool
  irq : Bool
  timer : Bool
  work : Bool
  thr : Bool
def wants (f : Fl) : Int := if f.stop then 2 else if f.hot then 3 else if f.held || !f.act then 0 else if f.call then 4 else if f.irq then 5 else if f.timer then 6 else if f.work then 7 else if f.thr then 8 else 9
def next (p i : Bool) (f : Fl) : Int := if p then (if i then (if wants f = 0 ∨ wants f = 9 then 0 else 1) else wants f) else 0
def isk (n : Nat) (c : Int) : Bool := decide (0 ≤ c) && decide (c < (n : Int))
def isT (t : Int) : Bool := decide (0 ≤ t) && decide (t ≤ 1152921504606846976)
def isW (y : Int) : Bool := decide (0 ≤ y) && decide (y < 8)
def inc (x : Int) : Int := wrap64 (x + 1)
def gt (Y : List Kc) (c : Int) : Kc := if isk Y.length c then Y.getD c.toNat kz else kz
def inE (Y : List Kc) (c : Int) : Int := if isk Y.length c then 0 else 3
def rsE (Y : List Kc) (c way now : Int) : Int := if isk Y.length c then (if isW way && isT now then (if (gt Y c).p && !(gt Y c).i then 0 else 6) else 2) else 3
def rsY (Y : List Kc) (c way now : Int) : List Kc := if rsE Y c way now = 0 then Y.set c.toNat { gt Y c with i := true, way := way, since := now } else Y
def wkE (Y : List Kc) (c now : Int) : Int := if isk Y.length c then (if isT now then (if (gt Y c).i then 0 else 6) else 2) else 3
def ctY (Y : List Kc) (c : Int) (b : Bool) : List Kc := if isk Y.length c then Y.set c.toNat { gt Y c with steps := inc (gt Y c).steps, busy := if b then inc (gt Y c).busy else (gt Y c).busy } else Y
/-- Cores that can be: since which tick they rest. -/
def okY (Y : List Kc) : Prop := ∀ k ∈ Y, 0 ≤ k.since ∧ k.since ≤ 1152921504606846976
theorem okY_set {Y : List Kc} (h : okY Y) (k : Nat) (x : Kc) (hx : 0 ≤ x.since ∧ x.since ≤ 1152921504606846976) : okY (Y.set k x) := fun y hy => by
  rcases List.mem_or_eq_of_mem_set hy with q | q
  · exact h y q
  · subst q; exact hx
theorem okY_get {Y : List Kc} (h : okY Y) (c : Int) : 0 ≤ (gt Y c).since ∧ (gt Y c).since ≤ 1152921504606846976 := by
  unfold gt
  split
  · rename_i e
    simp only [isk, Bool.and_eq_true, decide_eq_true_eq] at e
    have hl : c.toNat < Y.length := by omega
    exact h _ (by simp [List.getD, hl])
  · exact ⟨Int.le_refl 0, by show (0 : Int) ≤ _; omega⟩
theorem isk_yes {n : Nat} {c : Int} (h : isk n c = true) : ∃ k : Nat, c = (k : Int) ∧ k < n := by
  simp only [isk, Bool.and_eq_true, decide_eq_true_eq] at h
  exact ⟨c.toNat, by omega, by omega⟩
theorem isk_nat {n k : Nat} (h : k < n) : isk n (k : Int) = true := by simp [isk]; omega
theorem gt_nat {Y : List Kc} {k : Nat} (h : k < Y.length) : gt Y (k : Int) = Y.getD k kz := by unfold gt; rw [isk_nat h]; rfl
theorem okY_new (n : Nat) : okY (List.replicate n kn) := fun k hk => by
  rw [(List.mem_replicate.1 hk).2]
  exact ⟨Int.le_refl 0, by show (0 : Int) ≤ _; omega⟩
end Co
open Co
/-- Six cells each. -/
def ck : Lay Kc where
  n := 6
  f := fun x => [.bool x.p, .bool x.i, .int .i64 x.way, .int .i64 x.since, .int .i64 x.steps, .int .i64 x.busy]
  z := kz
  len := fun _ => rfl
  one := fun x u h => by
    simp only [List.mem_cons, List.not_mem_nil, or_false] at h
    rcases h with rfl | rfl | rfl | rfl | rfl | rfl <;> rfl
  pos := by decide
def ckv (x : Kc) : Value := .agg #[.bool x.p, .bool x.i, .int .i64 x.way, .int .i64 x.since, .int .i64 x.steps, .int .i64 x.busy]
end Go.Proofs.YtfipiifickdeiaaGreatDoor.Cor
namespace Go.Proofs.YtfipiifickdeiaaGreatDoor.Cor
open Go.ChangeShapes Go.WideShapes Go.ChangeAt Go.RowKit
open Co
def flv (f : Fl) : Value := .agg #[.bool f.stop, .bool f.held, .bool f.hot, .bool f.act, .bool f.call, .bool f.irq, .bool f.timer, .bool f.work, .bool f.thr]
/-- The choices, in order. -/
def sos (f : Fl) : List Bool := [f.stop, f.hot, f.held || !f.act, f.call, f.irq, f.timer, f.work, f.thr]
def whs : List Int := [2, 3, 0, 4, 5, 6, 7, 8]
theorem wants_hit (f : Fl) (k : Nat) (hk : k < 8) (h : ∀ j, j < k → (sos f).getD j false = false) (e : (sos f).getD k false = true) : wants f = whs.getD k 0 := by
  obtain rfl | rfl | rfl | rfl | rfl | rfl | rfl | rfl : k = 0 ∨ k = 1 ∨ k = 2 ∨ k = 3 ∨ k = 4 ∨ k = 5 ∨ k = 6 ∨ k = 7 := by omega
  all_goals (
    have h0 := h 0; have h1 := h 1; have h2 := h 2; have h3 := h 3; have h4 := h 4; have h5 := h 5; have h6 := h 6
    simp [sos] at h0 h1 h2 h3 h4 h5 h6 e
    simp_all [wants, whs])
theorem wants_none (f : Fl) (h : ∀ j, j < 8 → (sos f).getD j false = false) : wants f = 9 := by
  have h0 := h 0; have h1 := h 1; have h2 := h 2; have h3 := h 3; have h4 := h 4; have h5 := h 5; have h6 := h 6; have h7 := h 7
  simp [sos] at h0 h1 h2 h3 h4 h5 h6 h7
  simp_all [wants]
set_option maxRecDepth 100000 in
theorem cho_index (s0 s1 s2 s3 s4 s5 s6 s7 : Bool) (k : Nat) (h : k < 8) (w : World) : (Instr.index 273 (.agg #[.bool s0, .int .i64 2, .bool s1, .int .i64 3, .bool s2, .int .i64 0, .bool s3, .int .i64 4, .bool s4, .int .i64 5, .bool s5, .int .i64 6, .bool s6, .int .i64 7, .bool s7, .int .i64 8]) (.int .i64 (k : Int))).run Tryz.prog w = .ok (.agg #[.bool ([s0, s1, s2, s3, s4, s5, s6, s7].getD k false), .int .i64 (whs.getD k 0)]) w := by
  obtain rfl | rfl | rfl | rfl | rfl | rfl | rfl | rfl : k = 0 ∨ k = 1 ∨ k = 2 ∨ k = 3 ∨ k = 4 ∨ k = 5 ∨ k = 6 ∨ k = 7 := by omega
  all_goals rfl
set_option maxRecDepth 100000 in
set_option maxHeartbeats 2000000 in
theorem wants_any (f : Fl) (w : World) : Calls Tryz.prog 102 #[flv f] w fun e w' => e = .returned (.int .i64 (wants f)) ∧ Below w.heap.size w w' := by
  have HH : Hid (∀ k, k < 8 → (∀ j, j < k → (sos f).getD j false = false) → (sos f).getD k false = true → wants f = whs.getD k 0) := fun k => wants_hit f k
  have HN : Hid ((∀ j, j < 8 → (sos f).getD j false = false) → wants f = 9) := wants_none f
  have HI : Hid (∀ k, k < 8 → ∀ w, _) := fun k hk w => cho_index f.stop f.hot (f.held || !f.act) f.call f.irq f.timer f.work f.thr k hk w
  rw [show [f.stop, f.hot, f.held || !f.act, f.call, f.irq, f.timer, f.work, f.thr] = sos f from rfl] at HI
  generalize wants f = ans at *
  generalize sos f = S at *
  obtain ⟨s, h, o, a, c, i, t, k, r⟩ := f
  simp only [flv]
  dsimp only at HI
  obtain ⟨z, hz⟩ : ∃ z, w.heap.size = z := ⟨_, rfl⟩
  cases h
  all_goals (
    simp only [Bool.false_or, Bool.true_or] at HI
    have S0 : Hid (∀ o1 o2, Below z w ((w.alloc o1).alloc o2)) := fun o1 o2 => ((Below.refl z w).alloc (by omega) _).alloc (by simp; omega) _
    rw [hz]
    go_enter Tryz.func102, Tryz.ntmps102
    go_wp2
    go_loopw [37] (fun i wr => ∃ k : Nat, (k : Int) ≤ 8 ∧ Hid (∀ j, j < k → S.getD j false = false) ∧ Below z w wr ∧ i = .int .i64 k) (fun i _ => 8 - (intOf i).toNat)
    case atStart => exact ⟨0, by omega, fun j hj => by omega, S0.out _ _, rfl⟩
    case round =>
      obtain ⟨n, hn, hB, hl, rfl⟩ := hrel
      have hzl : z ≤ wr.heap.size := by have := hl.size; omega
      have HL : Hid (Below z w wr) := hl
      have HZ : Hid (z ≤ wr.heap.size) := hzl
      clear hl hzl S0
      by_cases e : (n : Int) < 8
      · have hx := HI.out n (by omega) wr
        have hh := HH.out n (by omega) hB.out
        cases es : S.getD n false with
        | true =>
          rw [es] at hx
          have ev := hh es
          generalize whs.getD n 0 = y at *
          subst ev
          clear hh es
          go_wp2
          go_ret
          exact ⟨rfl, HL.out.alloc HZ.out _⟩
        | false =>
          rw [es] at hx
          have hB2 : Hid (∀ j, j < n + 1 → S.getD j false = false) := fun j hj => by
            by_cases c : j = n
            · subst c; exact es
            · exact hB.out j (by omega)
          generalize whs.getD n 0 = y at *
          clear hh es
          go_wp2
          go_roundw
          case rel => exact ⟨n + 1, by omega, hB2, HL.out.alloc HZ.out _, by go_num⟩
          case measure => simp [intOf]; omega
      · have ev := HN.out (fun j hj => hB.out j (by omega))
        subst ev
        go_wp2
        go_ret
        exact ⟨rfl, HL.out⟩)
end Go.Proofs.YtfipiifickdeiaaGreatDoor.Cor
namespace Go.Proofs.YtfipiifickdeiaaGreatDoor.Cor
open Go.ChangeShapes Go.WideShapes Go.ChangeAt Go.RowKit
open Co
set_option maxRecDepth 100000 in
set_option maxHeartbeats 1000000 in
theorem knext_any (x : Kc) (f : Fl) (w : World) : Calls Tryz.prog 66 #[ckv x, flv f] w fun e w' => e = .returned (.int .i64 (next x.p x.i f)) ∧ Below w.heap.size w w' := by
  have C : Hid (∀ w, _) := fun w => wants_any f w
  have HW : Hid (∀ (u : World) o1 o2, Below ((w.alloc o1).alloc o2).heap.size ((w.alloc o1).alloc o2) u → Below w.heap.size w u) := fun u o1 o2 h => (((Below.refl w.heap.size w).alloc (Nat.le_refl _) o1).alloc (by simp) o2).trans (h.mono (by simp; omega))
  have HV : Hid (∀ o1 o2, Below w.heap.size w ((w.alloc o1).alloc o2)) := fun o1 o2 => ((Below.refl w.heap.size w).alloc (Nat.le_refl _) o1).alloc (by simp) o2
  obtain ⟨p, i, y, s, t, b⟩ := x
  unfold next
  simp only [ckv]
  generalize wants f = v at *
  simp only [flv] at C ⊢
  cases p with
  | false =>
    go_enter Tryz.func66, Tryz.ntmps66
    go_wp2
    go_ret
    exact ⟨rfl, HV.out _ _⟩
  | true =>
    have HX : Hid (∀ (u : World) o2, Below ((w.alloc (.cells #[.bool true, .bool i, .int .i64 y, .int .i64 s, .int .i64 t, .int .i64 b] 171)).alloc o2).heap.size ((w.alloc (.cells #[.bool true, .bool i, .int .i64 y, .int .i64 s, .int .i64 t, .int .i64 b] 171)).alloc o2) u → u.cell? ⟨w.heap.size, 1, none⟩ = some (.bool i)) := fun u o2 h =>
      (h.cell (p := ⟨w.heap.size, 1, none⟩) (by simp; omega)).trans (((Blk.new w [.bool true, .bool i, .int .i64 y, .int .i64 s, .int .i64 t, .int .i64 b] 171).alloc o2).cell 1)
    rw [if_pos rfl]
    cases i with
    | false =>
      rw [if_neg (by decide)]
      go_enter Tryz.func66, Tryz.ntmps66
      go_wp2_with fail
      refine (C.out _).mono ?_
      rintro e w' ⟨rfl, b1⟩
      have hx := HX.out _ _ b1
      go_wp2
      go_ret
      exact ⟨rfl, HW.out _ _ _ b1⟩
    | true =>
      rw [if_pos rfl]
      by_cases e1 : v = 0
      · rw [if_pos (Or.inl e1)]
        subst e1
        go_enter Tryz.func66, Tryz.ntmps66
        go_wp2_with fail
        refine (C.out _).mono ?_
        rintro e w' ⟨rfl, b1⟩
        have hx := HX.out _ _ b1
        go_wp2
        go_ret
        exact ⟨rfl, HW.out _ _ _ b1⟩
      · by_cases e2 : v = 9
        · rw [if_pos (Or.inr e2)]
          subst e2
          go_enter Tryz.func66, Tryz.ntmps66
          go_wp2_with fail
          refine (C.out _).mono ?_
          rintro e w' ⟨rfl, b1⟩
          have hx := HX.out _ _ b1
          go_wp2
          go_ret
          exact ⟨rfl, HW.out _ _ _ b1⟩
        · rw [if_neg (by omega)]
          have b0 : (v == 0) = false := by simpa using e1
          have b9 : (v == 9) = false := by simpa using e2
          go_enter Tryz.func66, Tryz.ntmps66
          go_wp2_with fail
          refine (C.out _).mono ?_
          rintro e w' ⟨rfl, b1⟩
          have hx := HX.out _ _ b1
          go_wp2
          go_ret
          exact ⟨rfl, HW.out _ _ _ b1⟩
/-- The table at block s, its cores at block g. -/
structure CT (w : World) (s g : Nat) (Y : List Kc) : Prop where
  sb : Blk w s [.slice (some ⟨g, 0, none⟩) Y.length Y.length] 169
  gb : Blk w g (ck.all Y) 171
  ok : okY Y
  l1 : 1 ≤ Y.length
  l2 : Y.length ≤ 64
section
variable {w w1 : World} {s g : Nat} {Y : List Kc}
theorem CT.heap (h : CT w s g Y) (e : w1.heap = w.heap) : CT w1 s g Y := ⟨h.sb.heap e, h.gb.heap e, h.ok, h.l1, h.l2⟩
theorem CT.keep {B : Nat} {S : List Nat} (h : CT w s g Y) (f : Fr B S w w1) (hb : s < B) (gb : g < B) (hs : s ∉ S) (gs : g ∉ S) : CT w1 s g Y := ⟨h.sb.keep f hb hs, h.gb.keep f gb gs, h.ok, h.l1, h.l2⟩
theorem CT.below (h : CT w s g Y) (f : Below w.heap.size w w1) : CT w1 s g Y := h.keep (Fr.of_below f) h.sb.lt h.gb.lt (by simp) (by simp)
theorem CT.ne (h : CT w s g Y) : s ≠ g := h.sb.ne h.gb (by decide)
theorem CT.hdr (h : CT w s g Y) : w.cell? ⟨s, 0, none⟩ = some (.slice (some ⟨g, 0, none⟩) Y.length Y.length) := h.sb.cell 0
theorem CT.cell (h : CT w s g Y) {k : Nat} (hk : k < Y.length) (j : Nat) (hj : j < 6) : w.cell? ⟨g, k * 6 + j, none⟩ = (ck.f (Y.getD k kz))[j]? := by
  rw [h.gb.cell]
  exact lay_at (L := ck) Y k j hk hj
theorem CT.set (h : CT w s g Y) {k : Nat} (hk : k < Y.length) (j : Nat) (hj : j < 6) (x : Kc) (v : Value) (e : ck.f x = (ck.f (Y.getD k kz)).set j v) (o : 0 ≤ x.since ∧ x.since ≤ 1152921504606846976) : CT (w.setCell ⟨g, k * 6 + j, none⟩ v) s g (Y.set k x) := by
  refine ⟨?_, ?_, okY_set h.ok k x o, by simpa using h.l1, by simpa using h.l2⟩
  · rw [List.length_set]
    exact h.sb.other h.ne _
  · rw [← lay_set (L := ck) Y k j x v hk hj e]
    exact h.gb.set _ _
end
theorem cof_yes (w : World) (s g k : Nat) (Y : List Kc) (h : CT w s g Y) (hk : k < Y.length) :
    Calls Tryz.prog 101 #[.pointer (some ⟨s, 0, none⟩), .int .i64 (k : Int)] w fun e w' => e = .returned (.tuple #[.pointer (some ⟨g, k * 6, none⟩), .int .i64 0]) ∧ w' = w := by
  have c0 := h.hdr
  generalize Y.length = n at *
  have l1 : (k : Int) < n := by omega
  have l2 : ¬ (n : Int) ≤ k := by omega
  clear h
  go_enter Tryz.func101, Tryz.ntmps101
  go_wp2
  go_ret2
  exact ⟨rfl, rfl⟩
/-- An empty core in a new block. -/
def wc (w : World) : World := w.alloc (.cells #[.bool false, .bool false, .int .i64 0, .int .i64 0, .int .i64 0, .int .i64 0] 171)
theorem cof_no (w : World) (s g : Nat) (c : Int) (Y : List Kc) (h : CT w s g Y) (hk : isk Y.length c = false) :
    Calls Tryz.prog 101 #[.pointer (some ⟨s, 0, none⟩), .int .i64 c] w fun e w' => e = .returned (.tuple #[.pointer (some ⟨w.heap.size, 0, none⟩), .int .i64 3]) ∧ w' = wc w := by
  have c0 := h.hdr
  generalize Y.length = n at *
  by_cases l1 : c < 0
  · clear h hk
    go_enter Tryz.func101, Tryz.ntmps101
    go_wp2
    go_ret2
    exact ⟨rfl, rfl⟩
  · have l2 : (n : Int) ≤ c := by simp [isk] at hk; omega
    clear h hk
    go_enter Tryz.func101, Tryz.ntmps101
    go_wp2
    go_ret2
    exact ⟨rfl, rfl⟩
theorem wc_below (w : World) : Below w.heap.size w (wc w) := (Below.refl _ _).alloc (Nat.le_refl _) _
theorem wc_blk (w : World) : Blk (wc w) w.heap.size (ck.f kz) 171 := Blk.new w _ _
theorem Tryz.infoCk : (Tryz.prog.info? 171).map (fun i => (i.zero, i.size, i.bytes)) = some (some (ckv kz), 6, 40) := by kernel_rfl
theorem made_six (n : Nat) : madeCells (ckv kz).cells (n * 6) = (ck.all (List.replicate n kz)).toArray := by
  have hz : (ckv kz).cells = (ck.f kz).toArray := rfl
  rw [hz]
  have hl := lay_len (L := ck) (List.replicate n kz)
  apply Array.ext
  · rw [size_madeCells, List.size_toArray, hl, List.length_replicate]; rfl
  · intro i h1 h2
    have hi : i < n * 6 := by simpa [size_madeCells] using h1
    have hm : i % 6 < 6 := Nat.mod_lt _ (by omega)
    have e := lay_at (L := ck) (List.replicate n kz) (i / 6) (i % 6) (by rw [List.length_replicate]; omega) hm
    rw [show i / 6 * ck.n + i % 6 = i by show i / 6 * 6 + i % 6 = i; omega, show (List.replicate n kz).getD (i / 6) ck.z = kz by simp only [List.getD, List.getElem?_replicate]; split <;> rfl] at e
    simp only [madeCells, Array.getElem_map, Array.getElem_range]
    rw [getElem!_pos (ck.f kz).toArray (i % (ck.f kz).toArray.size) hm]
    simp only [List.getElem_toArray, List.size_toArray]
    have e2 : (ck.f kz)[i % 6]? = some ((ck.f kz)[i % 6]'hm) := List.getElem?_eq_getElem _
    rw [e2, List.getElem?_eq_some_iff] at e
    obtain ⟨h, e⟩ := e
    exact e.symm
/-- What New's loop keeps: the first k have power. -/
def hal (n k : Nat) : List Kc := List.replicate k kn ++ List.replicate (n - k) kz
theorem hal_len {n k : Nat} (h : k ≤ n) : (hal n k).length = n := by simp [hal]; omega
theorem hal_at {n k : Nat} (_ : k < n) : (hal n k).getD k kz = kz := by
  unfold hal
  simp only [List.getD]
  rw [List.getElem?_append_right (by simp), List.length_replicate, Nat.sub_self, List.getElem?_replicate]
  split <;> rfl
theorem hal_set {n k : Nat} (h : k < n) : (hal n k).set k kn = hal n (k + 1) := by
  unfold hal
  rw [List.set_append_right _ _ (by simp), List.length_replicate, Nat.sub_self, List.replicate_succ', List.append_assoc, show n - k = (n - (k + 1)) + 1 by omega, List.replicate_succ]
  rfl
set_option maxRecDepth 100000 in
set_option maxHeartbeats 1000000 in
theorem ctnew_any (n : Nat) (w : World) (h1 : (1 : Int) ≤ n) (h2 : (n : Int) ≤ 64) :
    Calls Tryz.prog 29 #[.int .i64 (n : Int)] w fun e w' => e = .returned (.tuple #[.pointer (some ⟨w.heap.size + 1, 0, none⟩), .int .i64 0]) ∧ CT w' (w.heap.size + 1) w.heap.size (List.replicate n kn) ∧ Below w.heap.size w w' := by
  obtain ⟨i0, hi, hz0, hz1, hz2⟩ := info_parts Tryz.infoCk
  have hm := run_make (P := Tryz.prog) w 167 171 i0 _ Tryz.underlying167 hi hz0 .i64 .i64 n n (by omega) (by omega) (by rw [hz2]; omega) (by omega)
  rw [hz1, Int.toNat_natCast, made_six] at hm
  have hj : Hid (ck.all (List.replicate n kz) = ck.all (hal n 0)) := by unfold Hid hal; simp
  have F : Hid (∀ o1 o2, Below w.heap.size w ((w.alloc o1).alloc o2)) := fun o1 o2 => ((Below.refl _ _).alloc (Nat.le_refl _) o1).alloc (by simp) o2
  generalize ck.all (List.replicate n kz) = Z at *
  have B0 : Hid (Blk ((w.alloc (.cells Z.toArray 171)).alloc (.cells #[.slice (some ⟨w.heap.size, 0, none⟩) n n] 169)) w.heap.size Z 171 ∧ Blk ((w.alloc (.cells Z.toArray 171)).alloc (.cells #[.slice (some ⟨w.heap.size, 0, none⟩) n n] 169)) (w.heap.size + 1) [.slice (some ⟨w.heap.size, 0, none⟩) n n] 169) := by
    refine ⟨(Blk.new w Z _).alloc _, ?_⟩
    have := Blk.new (w.alloc (.cells Z.toArray 171)) [.slice (some ⟨w.heap.size, 0, none⟩) n n] 169
    simpa using this
  obtain ⟨z, hz⟩ : ∃ z, w.heap.size = z := ⟨_, rfl⟩
  rw [hz] at hm B0 F ⊢
  clear hi hz0 hz1 hz2
  go_enter Tryz.func29, Tryz.ntmps29
  go_wp2
  go_loopw [21] (fun i wr => ∃ k : Nat, (k : Int) ≤ n ∧ Blk wr z (ck.all (hal n k)) 171 ∧ Blk wr (z + 1) [.slice (some ⟨z, 0, none⟩) n n] 169 ∧ Below z w wr ∧ i = .int .i64 k) (fun i _ => n - (intOf i).toNat)
  case atStart => exact ⟨0, by omega, by rw [← hj.out]; exact B0.out.1, B0.out.2, F.out _ _, rfl⟩
  case round =>
    obtain ⟨k, hk, hs, ht, hl, rfl⟩ := hrel
    clear B0 F hm
    have c0 := ht.cell 0
    have HL : Hid (Below z w wr) := hl
    by_cases e : (k : Int) < n
    · have HS : Hid (Blk wr z (ck.all (hal n k)) 171 ∧ Blk wr (z + 1) [.slice (some ⟨z, 0, none⟩) n n] 169) := ⟨hs, ht⟩
      have d0 : wr.cell? ⟨z, k * 6, none⟩ = some (.bool false) := by
        rw [hs.cell]
        have q := lay_at (L := ck) (hal n k) k 0 (by rw [hal_len (by omega)]; omega) (by decide)
        rw [show (hal n k).getD k ck.z = kz from hal_at (by omega)] at q
        exact q
      have f0 := hs.free (k * 6)
      clear hs ht hl
      go_wp2
      go_roundw
      case rel =>
        refine ⟨k + 1, by omega, ?_, HS.out.2.other (by simp) _, HL.out.setCell (Nat.le_refl _) _, by go_num⟩
        have q := HS.out.1.set (k * 6) (.bool true)
        have q2 := lay_set (L := ck) (hal n k) k 0 kn (.bool true) (by rw [hal_len (by omega)]; omega) (by decide) (by rw [show (hal n k).getD k ck.z = kz from hal_at (by omega)]; rfl)
        rw [hal_set (by omega)] at q2
        rw [← q2]
        exact q
      case measure => simp [intOf]; omega
    · obtain rfl : k = n := by omega
      have HS : Hid (Blk wr z (ck.all (hal k k)) 171 ∧ Blk wr (z + 1) [.slice (some ⟨z, 0, none⟩) k k] 169) := ⟨hs, ht⟩
      have HE : Hid (hal k k = List.replicate k kn) := by unfold Hid hal; simp
      clear hs ht hl
      go_wp2
      go_ret2
      have l : (List.replicate k kn).length = k := by simp
      refine ⟨rfl, ⟨by rw [l]; exact HS.out.2, by rw [← HE.out]; exact HS.out.1, okY_new k, by omega, by omega⟩, HL.out⟩
end Go.Proofs.YtfipiifickdeiaaGreatDoor.Cor
namespace Go.Proofs.YtfipiifickdeiaaGreatDoor.Cor
open Go.ChangeShapes Go.WideShapes Go.ChangeAt Go.RowKit
open Co
section
variable {w w1 : World} {s g k : Nat} {Y : List Kc} {x1 : Kc}
theorem CT.set2 (h : CT w s g (Y.set k x1)) (hk : k < Y.length) (j : Nat) (hj : j < 6) (x : Kc) (v : Value) (e : ck.f x = (ck.f x1).set j v) (o : 0 ≤ x.since ∧ x.since ≤ 1152921504606846976) : CT (w.setCell ⟨g, k * 6 + j, none⟩ v) s g (Y.set k x) := by
  have q := h.set (k := k) (by simpa using hk) j hj x v (by rw [show (Y.set k x1).getD k kz = x1 by simp [List.getD, hk]]; exact e) o
  rwa [List.set_set] at q
theorem CT.same (_ : CT w s g Y) (hk : k < Y.length) : Y.set k (Y.getD k kz) = Y := by
  apply List.ext_getElem? 
  intro i
  rw [List.getElem?_set]
  split
  · rename_i e
    subst e
    simp [List.getD, hk]
  · rfl
end
theorem fr_any {w w' : World} {g : Nat} (h : Below w.heap.size w w') : Fr w.heap.size [g] w w' := (Fr.of_below h).mono (Nat.le_refl _) (fun _ _ _ => by simp)
theorem istick_any (n : Int) (w : World) : Calls Tryz.prog 109 #[.int .i64 n] w fun e w' => e = .returned (.bool (isT n)) ∧ w' = w := by
  unfold isT
  by_cases h1 : 0 ≤ n
  · by_cases h2 : n ≤ 1152921504606846976
    · rw [decide_eq_true h1, decide_eq_true h2]
      go_enter Tryz.func109, Tryz.ntmps109
      go_wp2
      go_ret
      exact ⟨rfl, rfl⟩
    · rw [decide_eq_true h1, decide_eq_false h2]
      go_enter Tryz.func109, Tryz.ntmps109
      go_wp2
      go_ret
      exact ⟨rfl, rfl⟩
  · rw [decide_eq_false h1, Bool.false_and]
    go_enter Tryz.func109, Tryz.ntmps109
    go_wp2
    go_ret
    exact ⟨rfl, rfl⟩
/-- The cells of one core. -/
theorem CT.six {w : World} {s g k : Nat} {Y : List Kc} (h : CT w s g Y) (hk : k < Y.length) {x : Kc} (e : Y.getD k kz = x) :
    w.cell? ⟨g, k * 6, none⟩ = some (.bool x.p) ∧ w.cell? ⟨g, k * 6 + 1, none⟩ = some (.bool x.i) ∧ w.cell? ⟨g, k * 6 + 2, none⟩ = some (.int .i64 x.way) ∧ w.cell? ⟨g, k * 6 + 3, none⟩ = some (.int .i64 x.since) ∧ w.cell? ⟨g, k * 6 + 4, none⟩ = some (.int .i64 x.steps) ∧ w.cell? ⟨g, k * 6 + 5, none⟩ = some (.int .i64 x.busy) := by
  subst e
  exact ⟨h.cell hk 0 (by omega), h.cell hk 1 (by omega), h.cell hk 2 (by omega), h.cell hk 3 (by omega), h.cell hk 4 (by omega), h.cell hk 5 (by omega)⟩
set_option maxRecDepth 100000 in
set_option maxHeartbeats 1000000 in
theorem crest_any {s g : Nat} {Y : List Kc} (w : World) (c y t : Int) (h : CT w s g Y) :
    Calls Tryz.prog 114 #[.pointer (some ⟨s, 0, none⟩), .int .i64 c, .int .i64 y, .int .i64 t] w fun e w' => e = .returned (.int .i64 (rsE Y c y t)) ∧ CT w' s g (rsY Y c y t) ∧ Fr w.heap.size [g] w w' := by
  have H : Hid (CT w s g Y) := h
  cases e : isk Y.length c with
  | false =>
    have C : Hid (∀ _ : Unit, _) := fun _ => cof_no w s g c Y h e
    have HB : Hid (CT (wc w) s g Y ∧ Fr w.heap.size [g] w (wc w)) := ⟨h.below (wc_below w), fr_any (wc_below w)⟩
    rw [show rsE Y c y t = 3 by unfold rsE; rw [e]; rfl, show rsY Y c y t = Y by unfold rsY rsE; rw [e]; rfl]
    clear h e
    go_enter Tryz.func114, Tryz.ntmps114
    go_wp2_with fail
    refine (C.out ()).mono ?_
    rintro e w' ⟨rfl, rfl⟩
    go_wp2
    go_ret
    exact ⟨rfl, HB.out⟩
  | true =>
    obtain ⟨k, rfl, hk⟩ := isk_yes e
    have C : Hid (∀ _ : Unit, _) := fun _ => cof_yes w s g k Y h hk
    obtain ⟨x, hx⟩ : ∃ x, Y.getD k kz = x := ⟨_, rfl⟩
    have hg : gt Y (k : Int) = x := (gt_nat hk).trans hx
    have hs := h.same hk
    rw [hx] at hs
    have ok : 0 ≤ x.since ∧ x.since ≤ 1152921504606846976 := by rw [← hg]; exact okY_get h.ok _
    obtain ⟨c0, c1, c2, c3, c4, c5⟩ := h.six hk hx
    have f0 := h.gb.free (k * 6)
    have f1 := h.gb.free (k * 6 + 1)
    have f2 := h.gb.free (k * 6 + 2)
    have f3 := h.gb.free (k * 6 + 3)
    have f4 := h.gb.free (k * 6 + 4)
    have f5 := h.gb.free (k * 6 + 5)
    have HT : Hid (CT w s g (Y.set k x)) := by unfold Hid; rw [hs]; exact h
    obtain ⟨p, i, y0, sn, st, bs⟩ := x
    dsimp only at *
    have T : Hid (∀ w, _) := fun w => istick_any t w
    cases a1 : isW y with
    | false =>
      rw [show rsE Y (k : Int) y t = 2 by unfold rsE; rw [e]; simp [a1], show rsY Y (k : Int) y t = Y by unfold rsY rsE; rw [e]; simp [a1]]
      clear hg hs HT hx
      by_cases y1 : y < 0
      · clear h e a1
        go_enter Tryz.func114, Tryz.ntmps114
        go_wp2_with fail
        refine (C.out ()).mono ?_
        rintro e w' ⟨rfl, rfl⟩
        go_wp2
        go_ret
        exact ⟨rfl, H.out, Fr.refl _ _ _⟩
      · have y2 : (8 : Int) ≤ y := by simp [isW] at a1; omega
        clear h e a1
        go_enter Tryz.func114, Tryz.ntmps114
        go_wp2_with fail
        refine (C.out ()).mono ?_
        rintro e w' ⟨rfl, rfl⟩
        go_wp2
        go_ret
        exact ⟨rfl, H.out, Fr.refl _ _ _⟩
    | true =>
      have y1 : ¬ y < 0 := by simp [isW] at a1; omega
      have y2 : ¬ (8 : Int) ≤ y := by simp [isW] at a1; omega
      cases a2 : isT t with
      | false =>
        rw [a2] at T
        rw [show rsE Y (k : Int) y t = 2 by unfold rsE; rw [e]; simp [a1, a2], show rsY Y (k : Int) y t = Y by unfold rsY rsE; rw [e]; simp [a1, a2]]
        clear h e hg hs HT hx a1 a2
        go_enter Tryz.func114, Tryz.ntmps114
        go_wp2_with fail
        refine (C.out ()).mono ?_
        rintro e w' ⟨rfl, rfl⟩
        go_wp2_with fail
        refine (T.out _).mono ?_
        rintro e w' ⟨rfl, rfl⟩
        go_wp2
        go_ret
        exact ⟨rfl, H.out, Fr.refl _ _ _⟩
      | true =>
        rw [a2] at T
        cases p with
        | false =>
          rw [show rsE Y (k : Int) y t = 6 by unfold rsE; rw [e, hg]; simp [a1, a2], show rsY Y (k : Int) y t = Y by unfold rsY rsE; rw [e, hg]; simp [a1, a2]]
          clear h e hg hs HT hx a1 a2
          go_enter Tryz.func114, Tryz.ntmps114
          go_wp2_with fail
          refine (C.out ()).mono ?_
          rintro e w' ⟨rfl, rfl⟩
          go_wp2_with fail
          refine (T.out _).mono ?_
          rintro e w' ⟨rfl, rfl⟩
          go_wp2
          go_ret
          exact ⟨rfl, H.out, Fr.refl _ _ _⟩
        | true =>
          cases i with
          | true =>
            rw [show rsE Y (k : Int) y t = 6 by unfold rsE; rw [e, hg]; simp [a1, a2], show rsY Y (k : Int) y t = Y by unfold rsY rsE; rw [e, hg]; simp [a1, a2]]
            clear h e hg hs HT hx a1 a2
            go_enter Tryz.func114, Tryz.ntmps114
            go_wp2_with fail
            refine (C.out ()).mono ?_
            rintro e w' ⟨rfl, rfl⟩
            go_wp2_with fail
            refine (T.out _).mono ?_
            rintro e w' ⟨rfl, rfl⟩
            go_wp2
            go_ret
            exact ⟨rfl, H.out, Fr.refl _ _ _⟩
          | false =>
            rw [show rsE Y (k : Int) y t = 0 by unfold rsE; rw [e, hg]; simp [a1, a2], show rsY Y (k : Int) y t = Y.set k ⟨true, true, y, t, st, bs⟩ by unfold rsY rsE; rw [e, hg]; simp [a1, a2]]
            have ot : 0 ≤ t ∧ t ≤ 1152921504606846976 := by simpa [isT] using a2
            have t1 := HT.out.set2 hk 1 (by omega) ⟨true, true, y0, sn, st, bs⟩ (.bool true) rfl ok
            have t2 := t1.set2 hk 2 (by omega) ⟨true, true, y, sn, st, bs⟩ (.int .i64 y) rfl ok
            have t3 := t2.set2 hk 3 (by omega) ⟨true, true, y, t, st, bs⟩ (.int .i64 t) rfl ot
            have HR : Hid (CT _ s g (Y.set k ⟨true, true, y, t, st, bs⟩) ∧ Fr w.heap.size [g] w _) := ⟨t3, ((((Fr.refl _ _ _).st g (k * 6 + 1) (.bool true) (by simp)).st g (k * 6 + 2) (.int .i64 y) (by simp)).st g (k * 6 + 3) (.int .i64 t) (by simp))⟩
            clear h e hg hs HT hx t1 t2 t3 a1 a2
            go_enter Tryz.func114, Tryz.ntmps114
            go_wp2_with fail
            refine (C.out ()).mono ?_
            rintro e w' ⟨rfl, rfl⟩
            go_wp2_with fail
            refine (T.out _).mono ?_
            rintro e w' ⟨rfl, rfl⟩
            go_wp2
            go_ret
            exact ⟨rfl, HR.out⟩
set_option maxRecDepth 100000 in
set_option maxHeartbeats 1000000 in
theorem ccount_any {s g : Nat} {Y : List Kc} (w : World) (c : Int) (b : Bool) (h : CT w s g Y) :
    Calls Tryz.prog 68 #[.pointer (some ⟨s, 0, none⟩), .int .i64 c, .bool b] w fun e w' => e = .returned (.int .i64 (inE Y c)) ∧ CT w' s g (ctY Y c b) ∧ Fr w.heap.size [g] w w' := by
  have H : Hid (CT w s g Y) := h
  cases e : isk Y.length c with
  | false =>
    have C : Hid (∀ _ : Unit, _) := fun _ => cof_no w s g c Y h e
    have HB : Hid (CT (wc w) s g Y ∧ Fr w.heap.size [g] w (wc w)) := ⟨h.below (wc_below w), fr_any (wc_below w)⟩
    rw [show inE Y c = 3 by unfold inE; rw [e]; rfl, show ctY Y c b = Y by unfold ctY; rw [e]; rfl]
    clear h e
    go_enter Tryz.func68, Tryz.ntmps68
    go_wp2_with fail
    refine (C.out ()).mono ?_
    rintro e w' ⟨rfl, rfl⟩
    go_wp2
    go_ret
    exact ⟨rfl, HB.out⟩
  | true =>
    obtain ⟨k, rfl, hk⟩ := isk_yes e
    have C : Hid (∀ _ : Unit, _) := fun _ => cof_yes w s g k Y h hk
    obtain ⟨x, hx⟩ : ∃ x, Y.getD k kz = x := ⟨_, rfl⟩
    have hg : gt Y (k : Int) = x := (gt_nat hk).trans hx
    have hs := h.same hk
    rw [hx] at hs
    have ok : 0 ≤ x.since ∧ x.since ≤ 1152921504606846976 := by rw [← hg]; exact okY_get h.ok _
    obtain ⟨c0, c1, c2, c3, c4, c5⟩ := h.six hk hx
    have f0 := h.gb.free (k * 6)
    have f1 := h.gb.free (k * 6 + 1)
    have f2 := h.gb.free (k * 6 + 2)
    have f3 := h.gb.free (k * 6 + 3)
    have f4 := h.gb.free (k * 6 + 4)
    have f5 := h.gb.free (k * 6 + 5)
    have HT : Hid (CT w s g (Y.set k x)) := by unfold Hid; rw [hs]; exact h
    obtain ⟨p, i, y0, sn, st, bs⟩ := x
    dsimp only at *
    have hi1 : Hid (inc st = wrap64 (st + 1)) := rfl
    have hi2 : Hid (inc bs = wrap64 (bs + 1)) := rfl
    rw [show inE Y (k : Int) = 0 by unfold inE; rw [e]; rfl]
    have t1 := HT.out.set2 hk 4 (by omega) ⟨p, i, y0, sn, inc st, bs⟩ (.int .i64 (inc st)) rfl ok
    cases b with
    | false =>
      rw [show ctY Y (k : Int) false = Y.set k ⟨p, i, y0, sn, inc st, bs⟩ by unfold ctY; rw [e, hg]; rfl]
      have HR : Hid (CT (w.setCell ⟨g, k * 6 + 4, none⟩ (.int .i64 (inc st))) s g (Y.set k ⟨p, i, y0, sn, inc st, bs⟩) ∧ Fr w.heap.size [g] w (w.setCell ⟨g, k * 6 + 4, none⟩ (.int .i64 (inc st)))) := ⟨t1, (Fr.refl _ _ _).st g _ _ (by simp)⟩
      clear h e hg hs HT hx t1
      go_enter Tryz.func68, Tryz.ntmps68
      go_wp2_with fail
      refine (C.out ()).mono ?_
      rintro e w' ⟨rfl, rfl⟩
      go_wp2
      go_ret
      exact ⟨rfl, HR.out⟩
    | true =>
      rw [show ctY Y (k : Int) true = Y.set k ⟨p, i, y0, sn, inc st, inc bs⟩ by unfold ctY; rw [e, hg]; rfl]
      have t2 := t1.set2 hk 5 (by omega) ⟨p, i, y0, sn, inc st, inc bs⟩ (.int .i64 (inc bs)) rfl ok
      have HR : Hid (CT ((w.setCell ⟨g, k * 6 + 4, none⟩ (.int .i64 (inc st))).setCell ⟨g, k * 6 + 5, none⟩ (.int .i64 (inc bs))) s g (Y.set k ⟨p, i, y0, sn, inc st, inc bs⟩) ∧ Fr w.heap.size [g] w ((w.setCell ⟨g, k * 6 + 4, none⟩ (.int .i64 (inc st))).setCell ⟨g, k * 6 + 5, none⟩ (.int .i64 (inc bs)))) := ⟨t2, ((Fr.refl _ _ _).st g _ _ (by simp)).st g _ _ (by simp)⟩
      clear h e hg hs HT hx t1 t2
      go_enter Tryz.func68, Tryz.ntmps68
      go_wp2_with fail
      refine (C.out ()).mono ?_
      rintro e w' ⟨rfl, rfl⟩
      go_wp2
      go_ret
      exact ⟨rfl, HR.out⟩
end Go.Proofs.YtfipiifickdeiaaGreatDoor.Cor
namespace Go.Proofs.YtfipiifickdeiaaGreatDoor.Cor
open Go.ChangeShapes Go.WideShapes Go.ChangeAt Go.RowKit
open Co
theorem ckget_ret {w : World} {z : Nat} {x : Kc} {e : Int} {tmps : Array Value} (h : Blk w z (ck.f x) 171) (h4 : tmps.getD 4 undef = .pointer (some ⟨z, 0, none⟩)) (h5 : tmps.getD 5 undef = .int .i64 e) :
    (results Tryz.f65 tmps).run Tryz.prog w = .ok (.tuple #[ckv x, .int .i64 e]) w := by
  have q0 : w.cell? ⟨z, 0, none⟩ = some (.bool x.p) := h.cell 0
  have q1 : w.cell? ⟨z, 1, none⟩ = some (.bool x.i) := h.cell 1
  have q2 : w.cell? ⟨z, 2, none⟩ = some (.int .i64 x.way) := h.cell 2
  have q3 : w.cell? ⟨z, 3, none⟩ = some (.int .i64 x.since) := h.cell 3
  have q4 : w.cell? ⟨z, 4, none⟩ = some (.int .i64 x.steps) := h.cell 4
  have q5 : w.cell? ⟨z, 5, none⟩ = some (.int .i64 x.busy) := h.cell 5
  rw [results_cell_tmp (p := 4) (u := 5) (ty := 171) rfl, h4, h5]
  simp [go_sem, q0, q1, q2, q3, q4, q5, ckv]
/-- A block of six cells that are all turned, in the order of the text. -/
def six (w : World) (z : Nat) (x : Kc) : World := (((((w.setCell ⟨z, 0, none⟩ (.bool x.p)).setCell ⟨z, 1, none⟩ (.bool x.i)).setCell ⟨z, 2, none⟩ (.int .i64 x.way)).setCell ⟨z, 3, none⟩ (.int .i64 x.since)).setCell ⟨z, 4, none⟩ (.int .i64 x.steps)).setCell ⟨z, 5, none⟩ (.int .i64 x.busy)
theorem six_blk {w : World} {z : Nat} {y : Kc} (x : Kc) (h : Blk w z (ck.f y) 171) : Blk (six w z x) z (ck.f x) 171 := (((((h.set 0 _).set 1 _).set 2 _).set 3 _).set 4 _).set 5 _
theorem six_below {B : Nat} {a w : World} {z : Nat} (x : Kc) (h : Below B a w) (hz : B ≤ z) : Below B a (six w z x) := by
  have h0 := h.setCell (p := ⟨z, 0, none⟩) hz (.bool x.p)
  have h1 := h0.setCell (p := ⟨z, 1, none⟩) hz (.bool x.i)
  have h2 := h1.setCell (p := ⟨z, 2, none⟩) hz (.int .i64 x.way)
  have h3 := h2.setCell (p := ⟨z, 3, none⟩) hz (.int .i64 x.since)
  have h4 := h3.setCell (p := ⟨z, 4, none⟩) hz (.int .i64 x.steps)
  exact h4.setCell (p := ⟨z, 5, none⟩) hz (.int .i64 x.busy)
/-- Get, where 'of' points to six cells. -/
theorem ckget_of {w : World} {ps : Value} {c er : Int} {gb o : Nat} {x : Kc} (w2 : World) (B2 : Below (wc w).heap.size (wc w) w2)
    (C : ∀ _ : Unit, Calls Tryz.prog 101 #[ps, .int .i64 c] (wc w) fun e w' => e = .returned (.tuple #[.pointer (some ⟨gb, o, none⟩), .int .i64 er]) ∧ w' = w2)
    (c0 : w2.cell? ⟨gb, o, none⟩ = some (.bool x.p)) (c1 : w2.cell? ⟨gb, o + 1, none⟩ = some (.bool x.i)) (c2 : w2.cell? ⟨gb, o + 2, none⟩ = some (.int .i64 x.way)) (c3 : w2.cell? ⟨gb, o + 3, none⟩ = some (.int .i64 x.since)) (c4 : w2.cell? ⟨gb, o + 4, none⟩ = some (.int .i64 x.steps)) (c5 : w2.cell? ⟨gb, o + 5, none⟩ = some (.int .i64 x.busy)) :
    Calls Tryz.prog 65 #[ps, .int .i64 c] w fun e w' => e = .returned (.tuple #[ckv x, .int .i64 er]) ∧ Below w.heap.size w w' := by
  obtain ⟨wa, hwa⟩ : ∃ wa, wc w = wa := ⟨_, rfl⟩
  have HWA : Hid (w.alloc (.cells #[.bool false, .bool false, .int .i64 0, .int .i64 0, .int .i64 0, .int .i64 0] 171) = wa) := hwa
  have hb := wc_below w
  have hk := wc_blk w
  rw [hwa] at hb hk B2 C
  have C1 : Hid (∀ _ : Unit, _) := C
  have hk2 : Blk w2 w.heap.size (ck.f kz) 171 := (B2.block _ hk.lt).trans hk
  have hb2 : Below w.heap.size w w2 := hb.trans (B2.mono hb.size)
  obtain ⟨z, hz⟩ : ∃ z, w.heap.size = z := ⟨_, rfl⟩
  have HZ : Hid (w.heap.size = z) := hz
  rw [hz] at hk hk2 hb2 ⊢
  have z0 : w2.cell? ⟨z, 0, none⟩ = some (.bool false) := hk2.cell 0
  have z1 : w2.cell? ⟨z, 1, none⟩ = some (.bool false) := hk2.cell 1
  have z2 : w2.cell? ⟨z, 2, none⟩ = some (.int .i64 0) := hk2.cell 2
  have z3 : w2.cell? ⟨z, 3, none⟩ = some (.int .i64 0) := hk2.cell 3
  have z4 : w2.cell? ⟨z, 4, none⟩ = some (.int .i64 0) := hk2.cell 4
  have z5 : w2.cell? ⟨z, 5, none⟩ = some (.int .i64 0) := hk2.cell 5
  have f0 := hk2.free 0
  have f1 := hk2.free 1
  have f2 := hk2.free 2
  have f3 := hk2.free 3
  have f4 := hk2.free 4
  have f5 := hk2.free 5
  have HB : Hid (Blk (six w2 z x) z (ck.f x) 171 ∧ Below z w (six w2 z x)) := ⟨six_blk x hk2, six_below x hb2 (Nat.le_refl _)⟩
  clear hwa hb hk hz C B2 hk2 hb2
  go_enter Tryz.func65, Tryz.ntmps65
  go_wp2_with fail
  rw [HWA.out, HZ.out]
  refine (C1.out ()).mono ?_
  rintro e w' ⟨rfl, rfl⟩
  go_wp2
  exact bodyPost_ret (ckget_ret HB.out.1 rfl rfl) rfl ⟨rfl, HB.out.2⟩
theorem cget_any {s g : Nat} {Y : List Kc} (w : World) (c : Int) (h : CT w s g Y) :
    Calls Tryz.prog 65 #[.pointer (some ⟨s, 0, none⟩), .int .i64 c] w fun e w' => e = .returned (.tuple #[ckv (gt Y c), .int .i64 (inE Y c)]) ∧ Below w.heap.size w w' := by
  have h1 := h.below (wc_below w)
  cases e : isk Y.length c with
  | false =>
    rw [show gt Y c = kz by unfold gt; rw [e]; rfl, show inE Y c = 3 by unfold inE; rw [e]; rfl]
    have k := wc_blk (wc w)
    exact ckget_of (wc (wc w)) (wc_below _) (fun _ => cof_no (wc w) s g c Y h1 e) (k.cell 0) (k.cell 1) (k.cell 2) (k.cell 3) (k.cell 4) (k.cell 5)
  | true =>
    obtain ⟨k, rfl, hk⟩ := isk_yes e
    rw [gt_nat hk, show inE Y (k : Int) = 0 by unfold inE; rw [e]; rfl]
    obtain ⟨c0, c1, c2, c3, c4, c5⟩ := h1.six hk rfl
    exact ckget_of (wc w) (Below.refl _ _) (fun _ => cof_yes (wc w) s g k Y h1 hk) c0 c1 c2 c3 c4 c5
end Go.Proofs.YtfipiifickdeiaaGreatDoor.Cor
