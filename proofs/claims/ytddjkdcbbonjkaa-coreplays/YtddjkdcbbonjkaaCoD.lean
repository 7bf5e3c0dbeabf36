/- What Get of a table of cores answers, also of one that is not there; what the words of law 27 (given, cores, known) answer. -/
import Derived.Test.YtddjkdcbbonjkaaRows
import Derived.Test.YtddjkdcbbonjkaaCoC
import Derived.WalkKit
import Derived.ProofKit
import Derived.OpenShut
import Derived.BigQuiet
import Derived.Laws.ResultCell
import Derived.Shelf.RegionOpenPlain
namespace Go.Proofs.Ytddjkdcbbonjkaa
open Go.ChangeShapes Go.WideShapes Go.ChangeAt Go.RowKit
open Co

theorem ckget_ret {w : World} {z : Nat} {x : Kc} {e : Int} {tmps : Array Value} (h : Blk w z (ck.f x) 27) (h4 : tmps.getD 4 undef = .pointer (some ⟨z, 0, none⟩)) (h5 : tmps.getD 5 undef = .int .i64 e) :
    (results Try.f24 tmps).run Try.prog w = .ok (.tuple #[ckv x, .int .i64 e]) w := by
  have q0 : w.cell? ⟨z, 0, none⟩ = some (.bool x.p) := h.cell 0
  have q1 : w.cell? ⟨z, 1, none⟩ = some (.bool x.i) := h.cell 1
  have q2 : w.cell? ⟨z, 2, none⟩ = some (.int .i64 x.way) := h.cell 2
  have q3 : w.cell? ⟨z, 3, none⟩ = some (.int .i64 x.since) := h.cell 3
  have q4 : w.cell? ⟨z, 4, none⟩ = some (.int .i64 x.steps) := h.cell 4
  have q5 : w.cell? ⟨z, 5, none⟩ = some (.int .i64 x.busy) := h.cell 5
  rw [results_cell_tmp (p := 4) (u := 5) (ty := 27) rfl, h4, h5]
  simp [go_sem, q0, q1, q2, q3, q4, q5, ckv]

/-- A block of six cells that are all turned, in the order of the text. -/
def six (w : World) (z : Nat) (x : Kc) : World := (((((w.setCell ⟨z, 0, none⟩ (.bool x.p)).setCell ⟨z, 1, none⟩ (.bool x.i)).setCell ⟨z, 2, none⟩ (.int .i64 x.way)).setCell ⟨z, 3, none⟩ (.int .i64 x.since)).setCell ⟨z, 4, none⟩ (.int .i64 x.steps)).setCell ⟨z, 5, none⟩ (.int .i64 x.busy)
theorem six_blk {w : World} {z : Nat} {y : Kc} (x : Kc) (h : Blk w z (ck.f y) 27) : Blk (six w z x) z (ck.f x) 27 := (((((h.set 0 _).set 1 _).set 2 _).set 3 _).set 4 _).set 5 _
theorem six_below {B : Nat} {a w : World} {z : Nat} (x : Kc) (h : Below B a w) (hz : B ≤ z) : Below B a (six w z x) := by
  have h0 := h.setCell (p := ⟨z, 0, none⟩) hz (.bool x.p)
  have h1 := h0.setCell (p := ⟨z, 1, none⟩) hz (.bool x.i)
  have h2 := h1.setCell (p := ⟨z, 2, none⟩) hz (.int .i64 x.way)
  have h3 := h2.setCell (p := ⟨z, 3, none⟩) hz (.int .i64 x.since)
  have h4 := h3.setCell (p := ⟨z, 4, none⟩) hz (.int .i64 x.steps)
  exact h4.setCell (p := ⟨z, 5, none⟩) hz (.int .i64 x.busy)

/-- Get, where 'of' points to six cells. -/
theorem ckget_of {w : World} {ps : Value} {c er : Int} {gb o : Nat} {x : Kc} (w2 : World) (B2 : Below (wc w).heap.size (wc w) w2)
    (C : ∀ _ : Unit, Calls Try.prog 28 #[ps, .int .i64 c] (wc w) fun e w' => e = .returned (.tuple #[.pointer (some ⟨gb, o, none⟩), .int .i64 er]) ∧ w' = w2)
    (c0 : w2.cell? ⟨gb, o, none⟩ = some (.bool x.p)) (c1 : w2.cell? ⟨gb, o + 1, none⟩ = some (.bool x.i)) (c2 : w2.cell? ⟨gb, o + 2, none⟩ = some (.int .i64 x.way)) (c3 : w2.cell? ⟨gb, o + 3, none⟩ = some (.int .i64 x.since)) (c4 : w2.cell? ⟨gb, o + 4, none⟩ = some (.int .i64 x.steps)) (c5 : w2.cell? ⟨gb, o + 5, none⟩ = some (.int .i64 x.busy)) :
    Calls Try.prog 24 #[ps, .int .i64 c] w fun e w' => e = .returned (.tuple #[ckv x, .int .i64 er]) ∧ Below w.heap.size w w' := by
  obtain ⟨wa, hwa⟩ : ∃ wa, wc w = wa := ⟨_, rfl⟩
  have HWA : Hid (w.alloc (.cells #[.bool false, .bool false, .int .i64 0, .int .i64 0, .int .i64 0, .int .i64 0] 27) = wa) := hwa
  have hb := wc_below w
  have hk := wc_blk w
  rw [hwa] at hb hk B2 C
  have C1 : Hid (∀ _ : Unit, _) := C
  have hk2 : Blk w2 w.heap.size (ck.f kz) 27 := (B2.block _ hk.lt).trans hk
  have hb2 : Below w.heap.size w w2 := hb.trans (B2.mono hb.size)
  obtain ⟨z, hz⟩ : ∃ z, w.heap.size = z := ⟨_, rfl⟩
  have HZ : Hid (w.heap.size = z) := hz
  rw [hz] at hk hk2 hb2 ⊢
  have z0 : w2.cell? ⟨z, 0, none⟩ = some (.bool false) := hk2.cell 0
  have z1 : w2.cell? ⟨z, 1, none⟩ = some (.bool false) := hk2.cell 1
  have z2 : w2.cell? ⟨z, 2, none⟩ = some (.int .i64 0) := hk2.cell 2
  have z3 : w2.cell? ⟨z, 3, none⟩ = some (.int .i64 0) := hk2.cell 3
  have z4 : w2.cell? ⟨z, 4, none⟩ = some (.int .i64 0) := hk2.cell 4
  have z5 : w2.cell? ⟨z, 5, none⟩ = some (.int .i64 0) := hk2.cell 5
  have f0 := hk2.free 0
  have f1 := hk2.free 1
  have f2 := hk2.free 2
  have f3 := hk2.free 3
  have f4 := hk2.free 4
  have f5 := hk2.free 5
  have HB : Hid (Blk (six w2 z x) z (ck.f x) 27 ∧ Below z w (six w2 z x)) := ⟨six_blk x hk2, six_below x hb2 (Nat.le_refl _)⟩
  clear hwa hb hk hz C B2 hk2 hb2
  go_enter Try.func24, Try.ntmps24
  go_wp2_with fail
  rw [HWA.out, HZ.out]
  refine (C1.out ()).mono ?_
  rintro e w' ⟨rfl, rfl⟩
  go_wp2
  exact bodyPost_ret (ckget_ret HB.out.1 rfl rfl) rfl ⟨rfl, HB.out.2⟩

theorem cget_any {s g : Nat} {Y : List Kc} (w : World) (c : Int) (h : CT w s g Y) :
    Calls Try.prog 24 #[.pointer (some ⟨s, 0, none⟩), .int .i64 c] w fun e w' => e = .returned (.tuple #[ckv (gt Y c), .int .i64 (inE Y c)]) ∧ Below w.heap.size w w' := by
  have h1 := h.below (wc_below w)
  cases e : isk Y.length c with
  | false =>
    rw [show gt Y c = kz by unfold gt; rw [e]; rfl, show inE Y c = 3 by unfold inE; rw [e]; rfl]
    have k := wc_blk (wc w)
    exact ckget_of (wc (wc w)) (wc_below _) (fun _ => cof_no (wc w) s g c Y h1 e) (k.cell 0) (k.cell 1) (k.cell 2) (k.cell 3) (k.cell 4) (k.cell 5)
  | true =>
    obtain ⟨k, rfl, hk⟩ := isk_yes e
    rw [gt_nat hk, show inE Y (k : Int) = 0 by unfold inE; rw [e]; rfl]
    obtain ⟨c0, c1, c2, c3, c4, c5⟩ := h1.six hk rfl
    exact ckget_of (wc w) (Below.refl _ _) (fun _ => cof_yes (wc w) s g k Y h1 hk) c0 c1 c2 c3 c4 c5
theorem cget_nil (w : World) (c : Int) :
    Calls Try.prog 24 #[.pointer none, .int .i64 c] w fun e w' => e = .returned (.tuple #[ckv kz, .int .i64 1]) ∧ Below w.heap.size w w' := by
  have k := wc_blk (wc w)
  exact ckget_of (wc (wc w)) (wc_below _) (fun _ => cof_nil (wc w) c) (k.cell 0) (k.cell 1) (k.cell 2) (k.cell 3) (k.cell 4) (k.cell 5)
end Go.Proofs.Ytddjkdcbbonjkaa
