/- The document's governor as it lies in memory (davitref24); what its New, Set, Busy, Freq and Feed answer and leave, for every one. -/
import Derived.Test.YtjfmokfjnjbheaaRows
import Derived.Test.YtjfmokfjnjbheaaGj
import Derived.Test.YtjfmokfjnjbheaaNu
import Derived.WalkKit
import Derived.ProofKit
import Derived.OpenShut
import Derived.BigQuiet
import Derived.Deep.RegionHeld3
namespace Go.Proofs.Ytjfmokfjnjbheaa
open Go.ChangeShapes Go.WideShapes Go.ChangeAt Go.RowKit

theorem Try.infoFd : (Try.prog.info? 74).map (fun i => (i.zero, i.size, i.bytes)) = some (some (.agg #[.int .i64 0, .int .i64 0]), 2, 16) := by kernel_rfl

/-- The governor at block r: its limits, and all feeds Y, in the list v. -/
structure DG (w : World) (r : Nat) (v : Value) (lo hi : Int) (Y : List Fq) : Prop where
  sb : Blk w r [.int .i64 lo, .int .i64 hi, v] 57
  own : w.ownsRow 0 74 2 v Y.length (fq.all Y)
  ok : ∀ x ∈ Y, Fok x

section
variable {w w1 : World} {r : Nat} {v : Value} {lo hi : Int} {Y : List Fq}
theorem DG.ob (h : DG w r v lo hi Y) {g : Nat} (e : v.ownBlock = some g) : r ≠ g ∧ g < w.heap.size := ⟨owng_ne h.own h.sb (by decide) e, owng_lt h.own e⟩
theorem DG.keep {B : Nat} {S : List Nat} (h : DG w r v lo hi Y) (f : Fr B S w w1) (hb : r < B ∧ r ∉ S) (hg : ∀ g, v.ownBlock = some g → g < B ∧ g ∉ S) : DG w1 r v lo hi Y :=
  ⟨h.sb.keep f hb.1 hb.2, owng_keep h.own f hg, h.ok⟩
theorem DG.below (h : DG w r v lo hi Y) (f : Below w.heap.size w w1) : DG w1 r v lo hi Y :=
  h.keep (Fr.of_below f) ⟨h.sb.lt, by simp⟩ fun g e => ⟨(h.ob e).2, by simp⟩
theorem DG.heap (h : DG w r v lo hi Y) (e : w1.heap = w.heap) : DG w1 r v lo hi Y :=
  ⟨h.sb.heap e, ⟨h.own.1, by rw [e]; exact h.own.2⟩, h.ok⟩
theorem DG.shape (h : DG w r v lo hi Y) : ∃ a cap, v = .slice a Y.length cap := owng_shape h.own
theorem DG.k0 (h : DG w r v lo hi Y) : w.cell? ⟨r, 0, none⟩ = some (.int .i64 lo) := h.sb.cell 0
theorem DG.k1 (h : DG w r v lo hi Y) : w.cell? ⟨r, 1, none⟩ = some (.int .i64 hi) := h.sb.cell 1
theorem DG.k2 (h : DG w r v lo hi Y) : w.cell? ⟨r, 2, none⟩ = some v := h.sb.cell 2
theorem dg_set (h : DG w r v lo hi Y) (a b : Int) : DG ((w.setCell ⟨r, 0, none⟩ (.int .i64 a)).setCell ⟨r, 1, none⟩ (.int .i64 b)) r v a b Y := by
  refine ⟨(h.sb.set 0 _).set 1 _, ?_, h.ok⟩
  exact owng_keep (B := w.heap.size) (S := [r]) h.own (((Fr.refl _ _ _).setCell (Or.inr (by simp)) _).setCell (Or.inr (by simp)) _) fun g e => ⟨(h.ob e).2, by
    have := (h.ob e).1
    simp
    omega⟩
/-- With one feed more: what the append and the store make of it. -/
theorem dg_app (h : DG w r v lo hi Y) (x : Fq) (hx : Fok x) (hl : Y.length < 1000) (ty : TypeId) :
    ∃ a2 c2 w2, (Builtin.append_ #[55, 55] ty #[v, .slice (some ⟨w.heap.size, 0, none⟩) 1 1]).run Try.prog (w.alloc (.cells #[.int .i64 x.b, .int .i64 x.a] 74)) = .ok (.slice a2 (Y.length + 1) c2) w2 ∧
      DG (w2.setCell ⟨r, 2, none⟩ (.slice a2 (Y.length + 1) c2)) r (.slice a2 (Y.length + 1) c2) lo hi (Y ++ [x]) ∧ DL w (w2.setCell ⟨r, 2, none⟩ (.slice a2 (Y.length + 1) c2)) r v (.slice a2 (Y.length + 1) c2) ∧ w2.cell? ⟨r, 2, none⟩ = some v ∧ w2.frozen? ⟨r, 2, none⟩ = false := by
  obtain ⟨i0, hi0, hz0, hz1, hz2⟩ := info_parts Try.infoFd
  obtain ⟨a2, c2, w2, run, o2, f, n⟩ := lown_app (L := fq) (P := Try.prog) w 74 55 ty i0 _ 16 Try.underlying55 hi0 hz0 hz1 hz2 rfl (by decide) x h.own (by omega)
  have nb : r ∉ v.ownBlock.toList := fun e => (h.ob (g := r) (by simpa using e)).1 rfl
  have sb := h.sb.keep f h.sb.lt nb
  refine ⟨a2, c2, w2, run, ⟨sb.set 2 _, ?_, ?_⟩, ⟨(f.mono (Nat.le_refl _) fun i _ hi e => hi (by simp [e])).setCell (Or.inr (by simp)) _, n⟩, sb.cell 2, sb.free 2⟩
  · exact owng_keep (B := w2.heap.size) (S := [r]) o2 ((Fr.refl _ _ _).setCell (Or.inr (by simp)) _) fun g e => ⟨owng_lt o2 e, by
      have := owng_ne o2 sb (by decide) e
      simp
      omega⟩
  · intro y hy
    rcases List.mem_append.1 hy with e | e
    · exact h.ok y e
    · rw [List.mem_singleton.1 e]; exact hx
end

theorem dright_any (a b : Int) (w : World) :
    Calls Try.prog 37 #[.int .i64 a, .int .i64 b] w fun e w' => e = .returned (.bool (decide (Lim a b))) ∧ w' = w := by
  by_cases h1 : 1 ≤ a
  · by_cases h2 : b ≤ 100000
    · by_cases h3 : a ≤ b
      · rw [decide_eq_true (show Lim a b from ⟨h1, h3, h2⟩)]
        go_enter Try.func37, Try.ntmps37
        go_wp2
        go_ret
        exact ⟨rfl, rfl⟩
      · rw [decide_eq_false (show ¬ Lim a b from fun q => h3 q.2.1)]
        go_enter Try.func37, Try.ntmps37
        go_wp2
        go_ret
        exact ⟨rfl, rfl⟩
    · rw [decide_eq_false (show ¬ Lim a b from fun q => h2 q.2.2)]
      go_enter Try.func37, Try.ntmps37
      go_wp2
      go_ret
      exact ⟨rfl, rfl⟩
  · rw [decide_eq_false (show ¬ Lim a b from fun q => h1 q.1)]
    go_enter Try.func37, Try.ntmps37
    go_wp2
    go_ret
    exact ⟨rfl, rfl⟩

theorem dnew_bad (a b : Int) (w : World) (hl : ¬ Lim a b) :
    Calls Try.prog 20 #[.int .i64 a, .int .i64 b] w fun e w' => e = .returned (.tuple #[.pointer none, .int .i64 2]) ∧ w' = w := by
  have C : Hid (∀ w, _) := fun w => dright_any a b w
  rw [decide_eq_false hl] at C
  clear hl
  go_enter Try.func20, Try.ntmps20
  go_wp2_with fail
  refine (C.out _).mono ?_
  rintro e w' ⟨rfl, rfl⟩
  go_wp2
  go_ret2
  exact ⟨rfl, rfl⟩
theorem dnew_ok (a b : Int) (w : World) (hl : Lim a b) :
    Calls Try.prog 20 #[.int .i64 a, .int .i64 b] w fun e w' => e = .returned (.tuple #[.pointer (some ⟨w.heap.size, 0, none⟩), .int .i64 0]) ∧ DG w' w.heap.size (.slice none 0 0) a b [] ∧ Below w.heap.size w w' := by
  have C : Hid (∀ w, _) := fun w => dright_any a b w
  rw [decide_eq_true hl] at C
  have G : Hid (DG (w.alloc (.cells #[.int .i64 a, .int .i64 b, .slice none 0 0] 57)) w.heap.size (.slice none 0 0) a b [] ∧ Below w.heap.size w (w.alloc (.cells #[.int .i64 a, .int .i64 b, .slice none 0 0] 57))) := ⟨⟨Blk.new w [.int .i64 a, .int .i64 b, .slice none 0 0] _, World.ownsRow_nil _ _ _ _, fun x hx => by simp at hx⟩, (Below.refl _ _).alloc (Nat.le_refl _) _⟩
  clear hl
  go_enter Try.func20, Try.ntmps20
  go_wp2_with fail
  refine (C.out _).mono ?_
  rintro e w' ⟨rfl, rfl⟩
  go_wp2
  go_ret2
  exact ⟨rfl, G.out.1, G.out.2⟩

theorem dset_any {r : Nat} {v : Value} {lo hi : Int} {Y : List Fq} (a b : Int) (w : World) (h : DG w r v lo hi Y) :
    Calls Try.prog 23 #[.pointer (some ⟨r, 0, none⟩), .int .i64 a, .int .i64 b] w fun e w' => e = .returned (.int .i64 (stE a b)) ∧ DG w' r v (stL a b lo) (stH a b hi) Y ∧ Fr w.heap.size [r] w w' := by
  have C : Hid (∀ w, _) := fun w => dright_any a b w
  have f0 := h.sb.free 0
  have f1 := h.sb.free 1
  have k0 := h.k0
  have k1 := h.k1
  unfold stE stL stH
  by_cases hl : Lim a b
  · rw [if_pos hl, if_pos hl, if_pos hl]
    rw [decide_eq_true hl] at C
    have G : Hid _ := dg_set h a b
    have F : Hid (∀ u v, Fr w.heap.size [r] w ((w.setCell ⟨r, 0, none⟩ u).setCell ⟨r, 1, none⟩ v)) := fun u v => ((Fr.refl _ _ _).setCell (Or.inr (by simp)) _).setCell (Or.inr (by simp)) _
    clear h hl
    go_enter Try.func23, Try.ntmps23
    go_wp2_with fail
    refine (C.out _).mono ?_
    rintro e w' ⟨rfl, rfl⟩
    go_wp2
    go_ret
    exact ⟨rfl, G.out, F.out _ _⟩
  · rw [if_neg hl, if_neg hl, if_neg hl]
    rw [decide_eq_false hl] at C
    have G : Hid _ := h
    clear h hl
    go_enter Try.func23, Try.ntmps23
    go_wp2_with fail
    refine (C.out _).mono ?_
    rintro e w' ⟨rfl, rfl⟩
    go_wp2
    go_ret
    exact ⟨rfl, G.out, Fr.refl _ _ _⟩

set_option maxHeartbeats 1000000 in
theorem dbusy_any {r : Nat} {v : Value} {lo hi : Int} {Y : List Fq} (w : World) (h : DG w r v lo hi Y) (hn : (Y.length : Int) ≤ 1000) :
    Calls Try.prog 30 #[.pointer (some ⟨r, 0, none⟩)] w fun e w' => e = .returned (.int .i64 (bz (lf Y))) ∧ w' = w := by
  have hq : bz (lf Y) = pc (sb (pt Y Y.length)) (sa (pt Y Y.length)) := by rw [pt_all, bz, (lf_sum Y).1, (lf_sum Y).2]
  rw [hq]
  have hin := pt_in Y Y.length h.ok
  have C : Hid (∀ w, _) := fun w => refpercent_any (sb (pt Y Y.length)) (sa (pt Y Y.length)) w (by omega) (by omega)
  have k2 := h.k2
  obtain ⟨a, cap, rfl⟩ := h.shape
  have HD : Hid (DG w r (.slice a Y.length cap) lo hi Y) := h
  generalize pc (sb (pt Y Y.length)) (sa (pt Y Y.length)) = ans at *
  obtain ⟨n, hn2⟩ : ∃ n, Y.length = n := ⟨_, rfl⟩
  have HN : Hid (Y.length = n) := hn2
  rw [hn2] at k2 HD hn C
  have Z : Hid (sb (pt Y 0) = 0 ∧ sa (pt Y 0) = 0) := by rw [pt_zero]; exact ⟨rfl, rfl⟩
  clear h hq hin hn2
  go_enter Try.func30, Try.ntmps30
  go_wp2
  go_loopw [3, 4, 5] (fun x y i wr => ∃ k : Nat, (k : Int) ≤ n ∧ wr = w ∧ x = .int .i64 (sb (pt Y k)) ∧ y = .int .i64 (sa (pt Y k)) ∧ i = .int .i64 k) (fun _ _ i _ => n - (intOf i).toNat)
  case atStart => exact ⟨0, by omega, rfl, by rw [Z.out.1], by rw [Z.out.2], rfl⟩
  case round =>
    obtain ⟨k, hk, rfl, rfl, rfl, rfl⟩ := hrel
    by_cases e : (k : Int) < n
    · have hkn : k < Y.length := by have := HN.out; omega
      have i1 := pt_in Y k HD.out.ok
      by_cases e4 : (n : Int) ≤ k + 4
      · have hy := pt_yes Y hkn (by have := HN.out; omega)
        obtain ⟨g, rfl, -, d⟩ := lown_cell (L := fq) HD.out.own hkn
        have d0 := d 0 (by decide)
        have d1 := d 1 (by decide)
        change wr.cell? ⟨g, k * 2, none⟩ = some (.int .i64 (Y.getD k fz).b) at d0
        change wr.cell? ⟨g, k * 2 + 1, none⟩ = some (.int .i64 (Y.getD k fz).a) at d1
        have i2 : Fok (Y.getD k fz) := HD.out.ok _ (by simp [List.getD, hkn])
        unfold Fok at i2
        have EX : Hid (sb (pt Y (k + 1)) = sb (pt Y k) + (Y.getD k fz).b) := by
          show sb _ = _
          rw [hy, sb_app]; simp [sb]
        have EY : Hid (sa (pt Y (k + 1)) = sa (pt Y k) + (Y.getD k fz).a) := by
          show sa _ = _
          rw [hy, sa_app]; simp [sa]
        generalize Y.getD k fz = x at *
        obtain ⟨b, a⟩ := x
        dsimp only at d0 d1 i2 EX EY
        generalize sb (pt Y k) = X at *
        generalize sa (pt Y k) = Y' at *
        have hX : 0 ≤ X ∧ X ≤ 4398046511104 := by omega
        have hY : 0 ≤ Y' ∧ Y' ≤ 4398046511104 := by omega
        have hb : 0 ≤ b ∧ b ≤ 1099511627776 := by omega
        have hc : 0 ≤ a ∧ a ≤ 1099511627776 := by omega
        clear d i1 i2 hy hkn
        go_wp2
        go_roundw
        case rel => exact ⟨k + 1, by omega, trivial, by rw [EX.out], by rw [EY.out], by go_num⟩
        case measure => simp [intOf]; omega
      · have hy := pt_no Y (k := k) (by have := HN.out; omega)
        have EX : Hid (pt Y (k + 1) = pt Y k) := hy
        clear hy i1 hkn
        go_wp2
        go_roundw
        case rel => exact ⟨k + 1, by omega, trivial, by rw [EX.out], by rw [EX.out], by go_num⟩
        case measure => simp [intOf]; omega
    · obtain rfl : k = n := by omega
      go_wp2_with fail
      refine (C.out _).mono ?_
      rintro e w' ⟨rfl, rfl⟩
      go_wp2
      go_ret
      exact ⟨rfl, rfl⟩

set_option maxHeartbeats 1000000 in
theorem dfreq_any {r : Nat} {v : Value} {lo hi : Int} {Y : List Fq} (w : World) (h : DG w r v lo hi Y) (hl : Lim lo hi) (hn : (Y.length : Int) ≤ 1000) :
    Calls Try.prog 28 #[.pointer (some ⟨r, 0, none⟩)] w fun e w' => e = .returned (.int .i64 (fr lo hi (lf Y))) ∧ Sm w' w := by
  have k0 := h.k0
  have k1 := h.k1
  have HD : Hid (DG w r v lo hi Y) := h
  unfold Lim at hl
  have C1 : Hid (∀ u, DG u r v lo hi Y → _) := fun u t => dbusy_any u t hn
  have C2 : Hid (∀ w, _) := fun w => refscale_any lo hi (bz (lf Y)) w (by omega) (by omega) (by omega) (by omega)
  rw [show sc lo hi (bz (lf Y)) = fr lo hi (lf Y) from rfl] at C2
  generalize fr lo hi (lf Y) = ans at *
  generalize bz (lf Y) = y at *
  clear h hl hn
  go_enter Try.func28, Try.ntmps28
  go_wp2_with fail
  go_region_held3 (fun w' => w'.cell? ⟨r, 0, none⟩ = some (.int .i64 lo) ∧ w'.cell? ⟨r, 1, none⟩ = some (.int .i64 hi)) (go_keep)
    (first | (go_at_call 30; refine (C1.out _ ?_).mono ?_; exact HD.out.heap rfl; rintro e w' ⟨rfl, rfl⟩) | (go_at_call 39; refine (C2.out _).mono ?_; rintro e w2 ⟨rfl, rfl⟩))
  go_wp2
  go_ret
  exact ⟨rfl, rfl, rfl, rfl, rfl⟩

/-- All feeds, with one more, if it can be. -/
def fdY (a b : Int) (Y : List Fq) : List Fq := if Fok ⟨a, b⟩ then Y ++ [⟨a, b⟩] else Y
theorem lf_fd (a b : Int) (Y : List Fq) : lf (fdY a b Y) = fdQ a b (lf Y) := by
  unfold fdY fdQ
  split
  · rw [lf_app]
  · rfl
theorem fdY_len (a b : Int) (Y : List Fq) : (fdY a b Y).length ≤ Y.length + 1 := by
  unfold fdY
  split
  · simp
  · omega

set_option maxRecDepth 100000 in
set_option maxHeartbeats 1000000 in
theorem dfeed_any {r : Nat} {v : Value} {lo hi : Int} {Y : List Fq} (a b : Int) (w : World) (h : DG w r v lo hi Y) (hl : Lim lo hi) (hn : (Y.length : Int) < 1000) :
    Calls Try.prog 25 #[.pointer (some ⟨r, 0, none⟩), .int .i64 a, .int .i64 b] w fun e w' => e = .returned (.tuple #[.int .i64 (fdN a b lo hi (lf Y)), .int .i64 (fdE a b)]) ∧ ∃ v', DG w' r v' lo hi (fdY a b Y) ∧ DL w w' r v v' := by
  unfold fdN fdE fdY
  by_cases l : Fok ⟨a, b⟩
  · rw [if_pos l, if_pos l, if_pos l, ← lf_app]
    have k2 := h.k2
    obtain ⟨av, cv, rfl⟩ := h.shape
    obtain ⟨a2, c2, w2, run, g2, d2, q2, f2⟩ := dg_app h ⟨a, b⟩ l (by omega) 55
    have HG : Hid (DG _ r _ lo hi (Y ++ [⟨a, b⟩]) ∧ DL w _ r _ _) := ⟨g2, d2⟩
    have C : Hid (∀ u : World, u.heap = (w2.setCell ⟨r, 2, none⟩ (.slice a2 (Y.length + 1) c2)).heap → _) := fun u e => dfreq_any u (g2.heap e) hl (by simp; omega)
    unfold Fok at l
    dsimp only at l run
    obtain ⟨l1, l2, l3⟩ := l
    generalize fr lo hi (lf (Y ++ [⟨a, b⟩])) = ans at *
    clear h g2 d2 hl
    generalize Y.length = n at *
    go_enter Try.func25, Try.ntmps25
    go_wp2_with (at_builtin; refine wpList_rung rfl (.tmp 23) (.tmp 27) 55 rfl rfl rfl run ?_)
    refine (C.out _ rfl).mono ?_
    rintro e w3 ⟨rfl, m3⟩
    have H : Hid (DG w3 r _ lo hi (Y ++ [⟨a, b⟩]) ∧ DL w w3 r _ _) := ⟨HG.out.1.heap m3.1, ⟨⟨m3.2.1.trans HG.out.2.fr.os, m3.2.2.1.trans HG.out.2.fr.tape, m3.2.2.2.trans HG.out.2.fr.output, by rw [m3.1]; exact HG.out.2.fr.size, fun k hk hs => by rw [m3.1]; exact HG.out.2.fr.block k hk hs⟩, HG.out.2.nw⟩⟩
    clear m3
    go_wp2
    go_ret2
    exact ⟨rfl, _, H.out.1, H.out.2⟩
  · rw [if_neg l, if_neg l, if_neg l]
    have HG : Hid (DG w r v lo hi Y) := h
    unfold Fok at l
    dsimp only at l
    clear h hl hn
    by_cases h1 : a < 0
    · clear l
      go_enter Try.func25, Try.ntmps25
      go_wp2
      go_ret2
      exact ⟨rfl, _, HG.out, DL.refl _ _ _⟩
    by_cases h2 : b < a
    · clear l
      go_enter Try.func25, Try.ntmps25
      go_wp2
      go_ret2
      exact ⟨rfl, _, HG.out, DL.refl _ _ _⟩
    have h3 : 1099511627776 < b := by omega
    clear l
    go_enter Try.func25, Try.ntmps25
    go_wp2
    go_ret2
    exact ⟨rfl, _, HG.out, DL.refl _ _ _⟩
end Go.Proofs.Ytjfmokfjnjbheaa
