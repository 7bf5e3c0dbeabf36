/- Lists of events that are gathered while dice roll; what the document's Script and Same answer. -/
import Derived.Test.YtijicghdmlfheaaRows
import Derived.Test.YtijicghdmlfheaaDr2
import Derived.Test.YtijicghdmlfheaaLw
import Derived.WalkKit
import Derived.ProofKit
import Derived.OpenShut
import Derived.BigQuiet
import Derived.BigGuard
import Derived.Carry
namespace Go.Proofs.Ytijicghdmlfheaa.Dri
open Go.ChangeShapes Go.WideShapes Go.ChangeAt Go.RowKit
open Mm
set_option linter.unusedVariables false
set_option linter.unusedSimpArgs false

def evL (e : Ev) : List Value := [.int .i64 e.kind, .int .i64 e.cpu, .int .i64 e.id, .int .u64 (e.mask : Int), .int .i64 e.n]
def evy : Lay Ev where
  n := 5
  f := evL
  z := ez
  len := fun _ => rfl
  one := fun x u hu => by
    simp only [evL, List.mem_cons, List.not_mem_nil, or_false] at hu
    rcases hu with rfl | rfl | rfl | rfl | rfl <;> rfl
  pos := by decide
theorem infoE : (Try.prog.info? 33).map (fun i => (i.zero, i.size, i.bytes)) = some (some (.agg #[.int .i64 0, .int .i64 0, .int .i64 0, .int .u64 0, .int .i64 0]), 5, 40) := by kernel_rfl
/-- What is there while a list is gathered: v owns the events so far, behind block B; the dice at z. -/
structure SG (B : Nat) (D : TypeId) (w : World) (z x : Nat) (v : Value) (Y : List Ev) (u : World) : Prop where
  bel : Below B w u
  own : u.ownsRow 0 33 5 v Y.length (evy.all Y)
  ge : ∀ g, v.ownBlock = some g → B ≤ g
  hd : Blk u z [.int .u64 (x : Int)] D
  zB : B ≤ z
  sz : B ≤ w.heap.size
section
variable {B z x y : Nat} {D : TypeId} {w u u' : World} {v : Value} {Y : List Ev}
theorem SG.row (h : SG B D w z x v Y u) : LRow evy u v Y := by
  have e : u.ownsRow 0 33 5 v Y.length (evy.all Y) := h.own
  rcases e.2 with ⟨hv, hn⟩ | ⟨b, cap, cur, hv, hb, hh, hn, hc, hz, ht⟩
  · exact Or.inl ⟨List.eq_nil_of_length_eq_zero hn, none, 0, hv⟩
  · have o := e
    rw [hv] at o
    refine Or.inr ⟨b, 0, cap, hv, lt_of_block hh, fun i hi j hj => ?_⟩
    have hj' : j < 5 := hj
    have e : (i + 1) * 5 ≤ Y.length * 5 := Nat.mul_le_mul_right _ hi
    rw [Nat.zero_add, show evy.n = 5 from rfl, o.cellAt _ (by omega)]
    exact lay_at (L := evy) Y i j hi hj
theorem SG.roll (h : SG B D w z x v Y u) (hD : (33 : Nat) ≠ D) (k : Blk u' z [.int .u64 (y : Int)] D) (f : Fr u.heap.size [z] u u') : SG B D w z y v Y u' := by
  have zB := h.zB
  refine ⟨h.bel.trans ((f.less (Nat.le_trans h.sz h.bel.size)).below (by simp; omega)), owng_keep h.own f fun g e => ⟨owng_lt h.own e, ?_⟩, h.ge, k, zB, h.sz⟩
  simp
  exact fun e2 => owng_ne h.own h.hd hD e e2.symm
theorem SG.below (h : SG B D w z x v Y u) (b : Below u.heap.size u u') : SG B D w z x v Y u' :=
  ⟨h.bel.trans (b.mono (Nat.le_trans h.sz h.bel.size)), owng_keep h.own (Fr.of_below b) fun g e => ⟨owng_lt h.own e, by simp⟩, h.ge, h.hd.keep (Fr.of_below b) h.hd.lt (by simp), h.zB, h.sz⟩
/-- One more. -/
theorem SG.app (h : SG B D w z x v Y u) (hD : (33 : Nat) ≠ D) (e : Ev) (hl : Y.length + 1 ≤ 3000) :
    ∃ a2 c2 u2, (Builtin.append_ #[35, 35] 35 #[v, .slice (some ⟨u.heap.size, 0, none⟩) 1 1]).run Try.prog (u.alloc (.cells #[.int .i64 e.kind, .int .i64 e.cpu, .int .i64 e.id, .int .u64 e.mask, .int .i64 e.n] 33)) = .ok (.slice a2 (Y.length + 1) c2) u2 ∧
      SG B D w z x (.slice a2 (Y.length + 1) c2) (Y ++ [e]) u2 ∧ Fr u.heap.size v.ownBlock.toList u u2 := by
  obtain ⟨i0, hi, hz0, hz1, hz2⟩ := info_parts infoE
  obtain ⟨a2, c2, u2, r1, r2, r3, r4⟩ := lown_app (P := Try.prog) (L := evy) u 33 35 35 i0 _ 40 Try.underlying35 hi hz0 hz1 hz2 rfl (by omega) e h.own hl
  refine ⟨a2, c2, u2, r1, ⟨?_, r2, fun g hg => ?_, h.hd.keep r3 h.hd.lt ?_, h.zB, h.sz⟩, r3⟩
  · exact h.bel.trans ((r3.less (Nat.le_trans h.sz h.bel.size)).below fun k hk => h.ge k (by simpa using hk))
  · rcases r4 g hg with q | q
    · exact h.ge g q
    · exact Nat.le_trans (Nat.le_trans h.sz h.bel.size) q
  · intro hz
    exact owng_ne h.own h.hd hD (by simpa using hz) rfl
end
theorem SG.shape {B z x : Nat} {D : TypeId} {w u : World} {v : Value} {Y : List Ev} (h : SG B D w z x v Y u) : ∃ a cap, v = .slice a Y.length cap := owng_shape h.own
theorem scr_succ (c : Int) (x k : Nat) : scr c x (k + 1) = scr c x k ++ [evN (scrS x k) c] := sq_snoc _ _ x k
theorem scrS_succ (x k : Nat) : scrS x (k + 1) = evS (scrS x k) := sqS_snoc _ x k
theorem scr_len (c : Int) (x k : Nat) : (scr c x k).length = k := sq_len _ _ x k
theorem evS_lt (x : Nat) : evS x < 18446744073709551616 := st_lt _
theorem scrS_lt (x k : Nat) (h : x < 18446744073709551616) : scrS x k < 18446744073709551616 := by
  cases k with
  | zero => exact h
  | succ k => rw [scrS_succ]; exact evS_lt _
theorem neD : (33 : Nat) ≠ 44 := by decide
theorem neR : (33 : Nat) ≠ 28 := by decide
/-- Which scripts there are. -/
def oks (c m : Int) : Bool := okc c && (decide (0 ≤ m) && decide (m ≤ 600))
/-- A script that is answered. -/
def ScP (c : Int) (x : Nat) (m : Int) (w : World) (e : Ending) (w' : World) : Prop :=
  ∃ v, e = .returned (.tuple #[v, .int .i64 (if oks c m = true then 0 else 2)]) ∧ LRow evy w' v (if oks c m = true then scr c x m.toNat else []) ∧ Below w.heap.size w w'

set_option maxRecDepth 100000 in
set_option maxHeartbeats 8000000 in
theorem rscript_ok (c : Int) (x n : Nat) (w : World) (h1 : 1 ≤ c) (h2 : c ≤ 64) (hx : x < 18446744073709551616) (hn : n ≤ 600) :
    Calls Try.prog 14 #[.int .i64 c, .int .u64 (x : Int), .int .i64 (n : Int)] w fun e w' => ∃ v, e = .returned (.tuple #[v, .int .i64 0]) ∧ LRow evy w' v (scr c x n) ∧ Below w.heap.size w w' := by
  have e1 : decide (c < 1) = false := decide_eq_false (by omega)
  have e2 : decide (64 < c) = false := decide_eq_false (by omega)
  have e3 : decide ((n : Int) < 0) = false := decide_eq_false (by omega)
  have e4 : decide (600 < (n : Int)) = false := decide_eq_false (by omega)
  have CE : Hid (∀ (y : Nat) u, Blk u w.heap.size [.int .u64 (y : Int)] 28 → y < 18446744073709551616 → _) := fun y u k hy => rev_any w.heap.size y c u k hy h1 h2
  have HX : Hid (x < 18446744073709551616) := hx
  have HN : Hid (n ≤ 600) := hn
  have S0 : Hid (SG w.heap.size 28 w w.heap.size x (.slice none 0 0) [] (w.alloc (.cells #[.int .u64 (x : Int)] 28))) :=
    ⟨(Below.refl _ _).alloc (Nat.le_refl _) _, World.ownsRow_nil _ _ _ _, fun g hg => (by cases hg), Blk.new w _ _, Nat.le_refl _, Nat.le_refl _⟩
  have hn2 : (n : Int) ≤ 600 := by omega
  clear h1 h2 hx hn
  go_enter Try.func14, Try.ntmps14
  go_wp2
  go_loopw [9, 10] (fun v i wr => ∃ k : Nat, (k : Int) ≤ n ∧ i = .int .i64 k ∧ Hid (SG w.heap.size 28 w w.heap.size (scrS x k) v (scr c x k) wr)) (fun _ i _ => n - (intOf i).toNat)
  case atStart => exact ⟨0, by omega, rfl, S0⟩
  case round =>
    obtain ⟨k, hk, rfl, G⟩ := hrel
    by_cases h : (k : Int) < n
    · have C : Hid (∀ _ : Unit, _) := fun _ => CE.out (scrS x k) wr G.out.hd (scrS_lt x k HX.out)
      obtain ⟨a, cap, rfl⟩ := owng_shape G.out.own
      have LE : Hid ((scr c x k).length + 1 ≤ 3000) := by show _ ≤ 3000; rw [scr_len]; have := HN.out; omega
      have NX : Hid (scr c x (k + 1) = scr c x k ++ [evN (scrS x k) c] ∧ scrS x (k + 1) = evS (scrS x k)) := ⟨scr_succ c x k, scrS_succ x k⟩
      generalize evS (scrS x k) = x2 at *
      generalize evN (scrS x k) c = E at *
      obtain ⟨q0, q1, q2, q3, q4⟩ := E
      generalize scrS x k = x0 at *
      generalize scr c x k = Y at *
      go_wp2_with fail
      refine (C.out ()).mono ?_
      rintro e u1 ⟨rfl, b1, f1⟩
      have G1 := G.out.roll neR b1 f1
      obtain ⟨a2, c2, u2, r1, G2, _⟩ := G1.app neR ⟨q0, q1, q2, q3, q4⟩ LE.out
      have G3 : Hid (SG w.heap.size 28 w w.heap.size (scrS x (k + 1)) (.slice a2 (Y.length + 1) c2) (scr c x (k + 1)) u2) := by
        show SG _ _ _ _ _ _ _ _
        rw [NX.out.1, NX.out.2]
        exact G2
      clear b1 f1 G1 G2 G LE C
      generalize Y.length = M at *
      unfold evV
      go_wp2_with (at_builtin; refine wpList_rung rfl (.tmp 33) (.tmp 37) 35 rfl rfl rfl r1 ?_)
      go_roundw
      case rel => exact ⟨k + 1, by omega, by go_num, G3⟩
      case measure => simp [intOf]; omega
    · obtain rfl : k = n := by omega
      have R := G.out.row
      have BL := G.out.bel
      clear G
      go_wp2
      go_ret2
      first | exact ⟨_, rfl, R, BL⟩ | exact ⟨rfl, R, BL⟩
set_option maxRecDepth 100000 in
set_option maxHeartbeats 4000000 in
theorem rscript_no (c : Int) (x : Nat) (m : Int) (w : World) (h : oks c m = false) :
    Calls Try.prog 14 #[.int .i64 c, .int .u64 (x : Int), .int .i64 m] w fun e w' => e = .returned (.tuple #[.slice none 0 0, .int .i64 2]) ∧ w' = w := by
  unfold oks okc at h
  by_cases h1 : c < 1
  · have e1 : decide (c < 1) = true := decide_eq_true h1
    clear h
    go_enter Try.func14, Try.ntmps14
    go_wp2
    go_ret2
    exact ⟨rfl, rfl⟩
  have e1 : decide (c < 1) = false := decide_eq_false h1
  rw [decide_eq_true (show 1 ≤ c by omega), Bool.true_and] at h
  by_cases h2 : 64 < c
  · have e2 : decide (64 < c) = true := decide_eq_true h2
    clear h
    go_enter Try.func14, Try.ntmps14
    go_wp2
    go_ret2
    exact ⟨rfl, rfl⟩
  have e2 : decide (64 < c) = false := decide_eq_false h2
  rw [decide_eq_true (show c ≤ 64 by omega), Bool.true_and] at h
  by_cases h3 : m < 0
  · have e3 : decide (m < 0) = true := decide_eq_true h3
    clear h
    go_enter Try.func14, Try.ntmps14
    go_wp2
    go_ret2
    exact ⟨rfl, rfl⟩
  have e3 : decide (m < 0) = false := decide_eq_false h3
  rw [decide_eq_true (show 0 ≤ m by omega), Bool.true_and] at h
  have h4 : 600 < m := by simpa using h
  have e4 : decide (600 < m) = true := decide_eq_true h4
  clear h
  go_enter Try.func14, Try.ntmps14
  go_wp2
  go_ret2
  exact ⟨rfl, rfl⟩

/-- The document's Script, at all arguments. -/
theorem rscript_any (c : Int) (x : Nat) (m : Int) (w : World) (hx : x < 18446744073709551616) :
    Calls Try.prog 14 #[.int .i64 c, .int .u64 (x : Int), .int .i64 m] w fun e w' => ScP c x m w e w' := by
  unfold ScP
  by_cases h : oks c m = true
  · rw [if_pos h, if_pos h]
    unfold oks okc at h
    simp only [Bool.and_eq_true, decide_eq_true_eq] at h
    obtain ⟨n, rfl⟩ := Int.eq_ofNat_of_zero_le h.2.1
    exact rscript_ok c x n w h.1.1 h.1.2 hx (by omega)
  · rw [if_neg h, if_neg h]
    exact (rscript_no c x m w (by simpa using h)).mono fun e w' ⟨h1, h2⟩ => ⟨_, h1, Or.inl ⟨rfl, none, 0, rfl⟩, h2 ▸ Below.refl _ _⟩

theorem ev_cell {w : World} {a : Option Addr} {n cap : Nat} {Y : List Ev} (h : LRow evy w (.slice a n cap) Y) {k : Nat} (hk : k < Y.length) :
    ∃ b off, a = some ⟨b, off, none⟩ ∧ w.cell? ⟨b, off + k * 5, none⟩ = some (.int .i64 (Y.getD k ez).kind) ∧ w.cell? ⟨b, off + k * 5 + 1, none⟩ = some (.int .i64 (Y.getD k ez).cpu) ∧ w.cell? ⟨b, off + k * 5 + 2, none⟩ = some (.int .i64 (Y.getD k ez).id) ∧ w.cell? ⟨b, off + k * 5 + 3, none⟩ = some (.int .u64 (Y.getD k ez).mask) ∧ w.cell? ⟨b, off + k * 5 + 4, none⟩ = some (.int .i64 (Y.getD k ez).n) := by
  obtain ⟨b, off, e, _, hc⟩ := lrow_cell h hk
  have hc' : ∀ j, j < 5 → w.cell? ⟨b, off + k * 5 + j, none⟩ = (evL (Y.getD k ez))[j]? := hc
  exact ⟨b, off, e, hc' 0 (by omega), hc' 1 (by omega), hc' 2 (by omega), hc' 3 (by omega), hc' 4 (by omega)⟩

set_option maxHeartbeats 2000000 in
theorem rsame_any (Y : List Ev) (u v : Value) (w : World) (hl : (Y.length : Int) ≤ 1000) (hu : LRow evy w u Y) (hv : LRow evy w v Y) :
    Calls Try.prog 15 #[u, v] w fun e w' => e = .returned (.bool true) ∧ Sm w' w := by
  obtain ⟨a, cap, rfl⟩ := hu.shape
  obtain ⟨a2, cap2, rfl⟩ := hv.shape
  have HU : Hid (LRow evy w (.slice a Y.length cap) Y) := hu
  have HV : Hid (LRow evy w (.slice a2 Y.length cap2) Y) := hv
  obtain ⟨n, hn⟩ : ∃ n, Y.length = n := ⟨_, rfl⟩
  have HN : Hid (Y.length = n) := hn
  rw [hn] at hl HU HV ⊢
  clear hu hv hn
  go_enter Try.func15, Try.ntmps15
  go_wp2
  go_loopw [5] (fun i wr => ∃ k q : Nat, (k : Int) ≤ n ∧ wr = w.drewN q ∧ i = .int .i64 k) (fun i _ => n - (intOf i).toNat)
  case atStart => exact ⟨0, 0, by omega, rfl, rfl⟩
  case round =>
    obtain ⟨k, q, hk, rfl, rfl⟩ := hrel
    by_cases h : (k : Int) < n
    · obtain ⟨b, off, rfl, c0, c1, c2, c3, c4⟩ := ev_cell HU.out (k := k) (by have := HN.out; omega)
      obtain ⟨b2, off2, rfl, d0, d1, d2, d3, d4⟩ := ev_cell HV.out (k := k) (by have := HN.out; omega)
      generalize Y.getD k ez = x at *
      go_wp2
      go_quiet (fail)
      go_wp2
      go_roundw
      case rel => exact ⟨k + 1, _, by omega, rfl, by go_num⟩
      case measure => simp [intOf]; omega
    · go_wp2
      go_ret
      exact ⟨rfl, rfl, rfl, rfl, rfl⟩
end Go.Proofs.Ytijicghdmlfheaa.Dri
