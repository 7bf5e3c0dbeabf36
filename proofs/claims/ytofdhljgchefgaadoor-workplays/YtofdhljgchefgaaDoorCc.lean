/- What fifo's Drop and List answer and leave, for every queue, and what the calls of a queue that is not there answer: Fc without Has, Turn and Cap. -/
import Derived.Test.YtofdhljgchefgaaDoorRows
import Derived.Test.YtofdhljgchefgaaDoorCb
import Derived.WalkKit
import Derived.ProofKit
import Derived.OpenShut
import Derived.BigQuiet
import Derived.Laws.CopyOwn
import Derived.Deep.RegionHeld3
import Derived.Deep.OwnRows
namespace Go.Proofs.YtofdhljgchefgaaDoor
open Go.ChangeShapes Go.WideShapes Go.ChangeAt Go.RowKit
open Fm

/-- A queue in the middle of a Drop. -/
structure DQ (w wr : World) (b g m f : Nat) (L : List Int) (gap k : Nat) (rr : List Int) : Prop where
  sb : Blk wr b [.slice (some ⟨g, 0, none⟩) m m, .int .i64 (f : Int), .int .i64 ((L.length : Int) - 1)] 82
  sg : Blk wr g (rr.map (Value.int .i64)) 3
  dr : Dr m f rr L gap k
  fr : Fr w.heap.size [b, g] w wr

theorem dq_start {w w1 : World} {b g m f : Nat} {r L : List Int} (h : Q w b g m f r L) (gap : Nat) (e : w1.heap = w.heap) (hf : Fr w.heap.size [b, g] w w1) :
    DQ w (w1.setCell ⟨b, 2, none⟩ (.int .i64 ((L.length : Int) - 1))) b g m f L gap 0 r := by
  refine ⟨(h.heap e).sb.set 2 _, (h.heap e).sg.other (p := ⟨b, 2, none⟩) h.ne.symm _, dr_start h.rg gap, hf.setCell (Or.inr (by simp)) _⟩

theorem dq_step {w wr w1 : World} {b g m f : Nat} {L rr : List Int} {gap k : Nat} (h : DQ w wr b g m f L gap k rr) (e : w1.heap = wr.heap) (hf : Fr wr.heap.size [b, g] wr w1) (h2 : f < m) (h3 : L.length ≤ m) (hk : gap + k + 1 < L.length) :
    DQ w (w1.setCell ⟨g, pl m f (gap + k), none⟩ (.int .i64 (rr.getD (pl m f (gap + k + 1)) 0))) b g m f L gap (k + 1) (rr.set (pl m f (gap + k)) (rr.getD (pl m f (gap + k + 1)) 0)) := by
  have sb := h.sb.heap e
  have sg := h.sg.heap e
  refine ⟨sb.other (p := ⟨g, _, none⟩) (sb.ne sg (by decide)) _, ?_, dr_step h.dr h2 h3 hk, (h.fr.trans (hf.less h.fr.size)).setCell (Or.inr (by simp)) _⟩
  have := sg.set (pl m f (gap + k)) (.int .i64 (rr.getD (pl m f (gap + k + 1)) 0))
  rwa [← List.map_set] at this

theorem dq_end {w wr : World} {b g m f : Nat} {L rr : List Int} {gap k : Nat} (h : DQ w wr b g m f L gap k rr) (hr : 1 ≤ m ∧ m ≤ 1024 ∧ f < m ∧ L.length ≤ m) (hg : gap < L.length) (hk : gap + k + 1 = L.length) :
    Q wr b g m f rr (L.eraseIdx gap) := by
  refine ⟨?_, h.sg, dr_end h.dr hr hg hk⟩
  have hl : (L.eraseIdx gap).length = L.length - 1 := List.length_eraseIdx_of_lt hg
  have e2 : (((L.eraseIdx gap).length : Nat) : Int) = (L.length : Int) - 1 := by omega
  rw [e2]
  exact h.sb

set_option maxHeartbeats 2000000 in
theorem drop_any {b g m f : Nat} {r L : List Int} (n : Int) (w : World) (h : Q w b g m f r L) (hn : L.Nodup) :
    Calls Tryd.prog 55 #[.pointer (some ⟨b, 0, none⟩), .int .i64 n] w fun e w' => e = .returned (.int .i64 (dE L n)) ∧ (∃ r', Q w' b g m f r' (wo L n)) ∧ Fr w.heap.size [b, g] w w' := by
  have C : Hid (∀ _ : Unit, _) := fun _ => ahead_any n w h
  have HQ : Hid (Q w b g m f r L) := h
  by_cases c : n ∈ L
  · obtain ⟨gap, e, hg, _, _⟩ := ix_pos L n c
    rw [show dE L n = 0 from if_pos c, ← erase_ix L n hn gap e]
    rw [e] at C
    have c2 := h.c2
    have f2 : w.frozen? ⟨b, 2, none⟩ = false := h.sb.free _
    have hr : Hid (1 ≤ m ∧ m ≤ 1024 ∧ f < m ∧ L.length ≤ m) := ⟨h.rg.m1, h.rg.m2, h.rg.hf, h.rg.hc⟩
    have h1 : (m : Int) ≤ 1024 := by have := h.rg.m2; omega
    have h2 : (f : Int) < m := by have := h.rg.hf; omega
    have h3 : (L.length : Int) ≤ m := by have := h.rg.hc; omega
    have h4 : (gap : Int) < L.length := by omega
    have S0 : Hid (∀ w1 : World, w1.heap = w.heap → Fr w.heap.size [b, g] w w1 → _) := fun w1 e hf => dq_start (w1 := w1) h gap e hf
    have E0 : Hid (∀ (wr : World) (k : Nat) (rr : List Int), DQ w wr b g m f L gap k rr → (gap : Int) + k + 1 = L.length → _) := fun wr k rr d hk => dq_end d hr.out hg (by omega)
    have P0 : Hid (∀ (wr w1 : World) (k : Nat) (rr : List Int), DQ w wr b g m f L gap k rr → w1.heap = wr.heap → Fr wr.heap.size [b, g] wr w1 → (gap : Int) + k + 1 < L.length → _) := fun wr w1 k rr d e hf hk => dq_step (w1 := w1) d e hf (by omega) (by omega) (by omega)
    clear h c e hg hr hn
    obtain ⟨l, hl⟩ : ∃ l, L.length = l := ⟨_, rfl⟩
    rw [hl] at c2 h3 h4 S0 E0 P0
    clear hl
    go_enter Tryd.func55, Tryd.ntmps55
    go_wp2_with fail
    refine (C.out ()).mono ?_
    rintro e w' ⟨rfl, q, rfl⟩
    go_wp2
    have D0 := S0.out (w.drewN q) rfl ((Fr.refl _ _ _).drewN _)
    go_loopw [27] (fun i wr => ∃ (k : Nat) (rr : List Int), (gap : Int) + k + 1 ≤ l ∧ DQ w wr b g m f L gap k rr ∧ i = .int .i64 k) (fun i _ => l - (intOf i).toNat)
    case atStart => exact ⟨0, r, by omega, D0, rfl⟩
    case round =>
      obtain ⟨k, rr, hk, D, rfl⟩ := hrel
      clear D0 c2 f2
      by_cases h : (gap : Int) + k + 1 < l
      · have c0 := D.sb.cell 0
        have c1 := D.sb.cell 1
        have A1 : Hid (∀ w1 : World, w1.heap = wr.heap → _) := fun w1 e => at_raw (b := b) (g := g) (m := m) (f := f) (gap + k) w1 (by simp [World.cell?, e] at c0 ⊢; exact c0) (by simp [World.cell?, e] at c1 ⊢; exact c1) h1 h2 (by omega)
        have A2 : Hid (∀ w1 : World, w1.heap = wr.heap → _) := fun w1 e => at_raw (b := b) (g := g) (m := m) (f := f) (gap + k + 1) w1 (by simp [World.cell?, e] at c0 ⊢; exact c0) (by simp [World.cell?, e] at c1 ⊢; exact c1) h1 h2 (by omega)
        rw [show ((gap + k : Nat) : Int) = (gap : Int) + k by omega] at A1
        rw [show ((gap + k + 1 : Nat) : Int) = (gap : Int) + k + 1 by omega] at A2
        have PN : Hid (∀ w1 : World, _ → _ → _) := fun w1 e hf => P0.out wr w1 k rr D e hf h
        have p1 : ((pl m f (gap + k) : Nat) : Int) < m := by have := pl_lt (m := m) (f := f) (k := gap + k) (by omega) (by omega); omega
        have p2 : ((pl m f (gap + k + 1) : Nat) : Int) < m := by have := pl_lt (m := m) (f := f) (k := gap + k + 1) (by omega) (by omega); omega
        have hz : pl m f (gap + k) ≠ pl m f (gap + k + 1) := fun e => by have := pl_inj (m := m) (f := f) (by omega) (by omega) (by omega) e; omega
        have hlen := D.dr.len
        have g1 : wr.cell? ⟨g, pl m f (gap + k), none⟩ = some (.int .i64 (rr.getD (pl m f (gap + k)) 0)) := by
          rw [D.sg.cell, getD_map_int _ _ (by omega)]
        have g2 : wr.cell? ⟨g, pl m f (gap + k + 1), none⟩ = some (.int .i64 (rr.getD (pl m f (gap + k + 1)) 0)) := by
          rw [D.sg.cell, getD_map_int _ _ (by omega)]
        have K2 : (wr.setCell ⟨g, pl m f (gap + k), none⟩ (.int .i64 (rr.getD (pl m f (gap + k + 1)) 0))).cell? ⟨g, pl m f (gap + k + 1), none⟩ = some (.int .i64 (rr.getD (pl m f (gap + k + 1)) 0)) := by
          rw [(D.sg.set _ _).cell, List.getElem?_set_ne hz, getD_map_int _ _ (by omega)]
        have fg : wr.frozen? ⟨g, pl m f (gap + k), none⟩ = false := D.sg.free _
        have c0' : wr.cell? ⟨b, 0, none⟩ = some (.slice (some ⟨g, 0, none⟩) m m) := c0
        have n1 := D.sb.ne D.sg (by decide)
        have n2 := n1.symm
        have W1 : Hid (IntKind.i64.wrap ((gap : Int) + k) = (gap : Int) + k) := IntWalk.i64_in _ (by omega)
        have W2 : Hid (IntKind.i64.wrap ((gap : Int) + k + 1) = (gap : Int) + k + 1) := IntWalk.i64_in _ (by omega)
        clear D hlen c1 c0 hz
        generalize pl m f (gap + k) = z1 at *
        generalize pl m f (gap + k + 1) = z2 at *
        generalize rr.getD z1 0 = x1 at *
        generalize rr.getD z2 0 = x2 at *
        go_wp2
        go_region_held3 (fun w' => w'.cell? ⟨b, 0, none⟩ = some (.slice (some ⟨g, 0, none⟩) m m) ∧ w'.cell? ⟨g, z2, none⟩ = some (.int .i64 x2)) (go_keep)
          (first | (go_at_call_of 65 (Value.int IntKind.i64 (IntKind.i64.wrap ((gap : Int) + (k : Int)))); rw [W1.out]; refine (A1.out _ ?_).mono ?_; rfl; rintro e w' ⟨rfl, rfl⟩) | (go_at_call 65; (try simp only [W1.out]); (try simp only [W2.out]); refine (A2.out _ ?_).mono ?_; rfl; rintro e w' ⟨rfl, rfl⟩))
        all_goals go_wp2
        go_roundw
        case rel => exact ⟨k + 1, _, by omega, PN.out wr.drew rfl (Fr.refl _ _ _).drew, by go_num⟩
        case measure => simp [intOf]; omega
      · have QE := E0.out _ _ _ D (by omega)
        have FE := D.fr
        clear D
        go_wp2
        go_ret
        exact ⟨rfl, ⟨_, QE⟩, FE⟩
  · rw [show dE L n = 4 from if_neg c, wo_miss L n c]
    rw [ix_neg L n c] at C
    clear h c hn
    go_enter Tryd.func55, Tryd.ntmps55
    go_wp2_with fail
    refine (C.out ()).mono ?_
    rintro e w' ⟨rfl, q, rfl⟩
    go_wp2
    go_ret
    exact ⟨rfl, ⟨_, HQ.out.drewN _⟩, (Fr.refl _ _ _).drewN _⟩

set_option maxHeartbeats 2000000 in
theorem list_at {b g m f : Nat} {r L : List Int} (w : World) (h : Q w b g m f r L) :
    Calls Tryd.prog 46 #[.pointer (some ⟨b, 0, none⟩)] w fun e w' => ∃ v g, e = .returned v ∧ v = .slice (some ⟨g, 0, none⟩) L.length L.length ∧ w'.ownsRow w.heap.size 3 1 v L.length (L.map (Value.int .i64)) ∧ Below w.heap.size w w' := by
  have C : Hid (∀ _ : Unit, _) := fun _ => runs_any w h
  have c2 := h.c2
  have hL : (L.length : Int) ≤ 1024 := by have := h.rg.hc; have := h.rg.m2; omega
  have hmk := run_make_row' (P := Tryd.prog) 38 3 (.int .i64 0) 8 Tryd.underlying38 Tryd.info3 rfl .i64 .i64 L.length (by omega) (by omega)
  clear h
  rw [made_int] at hmk
  obtain ⟨Z, hZ⟩ : ∃ Z : List Value, (List.replicate L.length (0 : Int)).map (Value.int .i64) = Z := ⟨_, rfl⟩
  have lZ : Hid (Z.length = L.length) := by rw [← hZ]; simp [Hid]
  rw [hZ] at hmk
  clear hZ
  obtain ⟨l, hl⟩ : ∃ l, L.length = l := ⟨_, rfl⟩
  have HL : Hid (L.length = l) := hl
  rw [hl] at c2 hL hmk lZ
  clear hl
  go_enter Tryd.func46, Tryd.ntmps46
  go_wp2_with fail
  refine (C.out ()).mono ?_
  rintro e w' ⟨v, rfl, ⟨v1, v2, A, B, rfl, R1, R2, hAB, a1, k1, a2, k2, rfl, rfl⟩, q, rfl⟩
  have HAB : Hid (A ++ B = L) := hAB
  have hs : (A.length : Int) + B.length = l := by have := HL.out; rw [← hAB, List.length_append] at this; omega
  have BW : Below w.heap.size w ((w.drewN q).alloc (.cells Z.toArray 3)) := (((Fr.refl w.heap.size [] w).drewN q).alloc (Nat.le_refl _) _).below (by simp)
  have R1' : Row ((w.drewN q).alloc (.cells Z.toArray 3)) _ A := Row.keep (w := w) (B := w.heap.size) R1 (Fr.of_below BW) (Nat.le_refl _)
  have R2' : Hid (Row w _ B) := R2
  have GW : Hid (((w.drewN q).alloc (.cells Z.toArray 3)).heap[w.heap.size]? = some (.cells Z.toArray 3 (0, 0))) := heap_alloc_new _ _
  have HB : Hid (Below w.heap.size w ((w.drewN q).alloc (.cells Z.toArray 3))) := BW
  obtain ⟨X, hX⟩ : ∃ X, A.map (Value.int .i64) = X := ⟨_, rfl⟩
  have lX : X.length = A.length := by rw [← hX]; simp
  have oX : Hid (∀ v ∈ X, v.oneCell' = true) := by rw [← hX]; exact ints_one A
  have sX : Hid (0 < A.length → _) := fun hp => row_src R1' hp
  obtain ⟨Y, hY⟩ : ∃ Y, B.map (Value.int .i64) = Y := ⟨_, rfl⟩
  have lY : Y.length = B.length := by rw [← hY]; simp
  have oY : Hid (∀ v ∈ Y, v.oneCell' = true) := by rw [← hY]; exact ints_one B
  have HXY : Hid (splice (splice Z 0 X) A.length Y = L.map (Value.int .i64)) := by
    have e := splice_two Z X Y (by rw [lX, lY, lZ.out]; omega)
    rw [lX] at e
    rw [e, ← hX, ← hY, ← List.map_append, hAB]
    exact rfl
  have HY : Hid (B.map (Value.int .i64) = Y) := hY
  rw [hX] at sX
  have N1 : Hid (X.length = Nat.min A.length l) := by rw [lX]; exact (Nat.min_eq_left (by omega)).symm
  have P1 : Hid (0 < X.length → _) := fun hp => sX.out (by omega)
  have F1 : Hid (0 + X.length ≤ Z.length) := by rw [lX, lZ.out]; unfold Hid; omega
  have F2 : Hid (A.length + Y.length ≤ (splice Z 0 X).length) := by rw [length_splice _ _ _ F1.out, lY, lZ.out]; unfold Hid; omega
  have N2 : Hid (Y.length = Nat.min B.length (l - A.length)) := by rw [lY]; exact (Nat.min_eq_left (by omega)).symm
  have LY : Hid (Y.length = B.length) := lY
  have PY : Hid (∀ w2 : World, Below w.heap.size w w2 → 0 < Y.length → ∃ ad, a2 = some ad ∧ ∀ j v, Y[j]? = some v → w2.cell? (ad.add j) = some v) := fun w2 hb hp => by
    have := row_src (Row.keep (w := w) (B := w.heap.size) R2 (Fr.of_below hb) (Nat.le_refl _)) (by omega)
    rwa [hY] at this
  have RE : Hid (∀ w3 : World, w3.heap[w.heap.size]? = some (.cells (splice (splice Z 0 X) A.length Y).toArray 3 (0, 0)) → w3.ownsRow w.heap.size 3 1 (.slice (some ⟨w.heap.size, 0, none⟩) l l) L.length (L.map (Value.int .i64))) := fun w3 hw => by
    rw [HXY.out] at hw
    have hl := HL.out
    exact ⟨by simp, Or.inr ⟨w.heap.size, l, _, by rw [hl], Nat.le_refl _, hw, by omega, by unfold maxLen; omega, by simp [hl], by rw [Nat.mul_one]; exact List.take_of_length_le (by simp)⟩⟩
  clear hAB BW R1 R2 hX hY lX lY R1' sX HAB
  by_cases hb : (B.length : Int) = 0
  · have ea : (A.length : Int) = l := by omega
    have N3 : Hid (Y.length = Nat.min B.length 0) := by rw [LY.out]; exact (show B.length = min B.length 0 by omega)
    have N4 : Hid (¬ 0 < Y.length) := by rw [LY.out]; exact (show ¬ 0 < B.length by omega)
    go_wp2_with (first | (refine wpList_copy_splice rfl (.tmp 18) (.tmp 19) 38 38 rfl 3 Tryd.underlying38 info3s _ _ _ _ _ _ rfl rfl w.heap.size 0 Z 3 GW.out X N1.out (fun hp => ⟨rfl, P1.out hp⟩) F1.out oX.out w.heap.size w HB.out (Nat.le_refl _) ?_; intro w2 HG2 hB2) | (refine wpList_copy_splice rfl (.tmp 24) (.tmp 25) 38 38 rfl 3 Tryd.underlying38 info3s _ _ _ _ _ _ rfl rfl w.heap.size A.length (splice Z 0 X) 3 HG2.out Y N3.out (fun hp => absurd hp N4.out) F2.out oY.out w.heap.size w hB2 (Nat.le_refl _) ?_; intro w3 HG3 hB3))
    go_ret
    exact ⟨.slice (some ⟨w.heap.size, 0, none⟩) l l, w.heap.size, rfl, by rw [HL.out], RE.out _ HG3.out, hB3⟩
  · have ea : (A.length : Int) < l := by omega
    go_wp2_with (first | (refine wpList_copy_splice rfl (.tmp 18) (.tmp 19) 38 38 rfl 3 Tryd.underlying38 info3s _ _ _ _ _ _ rfl rfl w.heap.size 0 Z 3 GW.out X N1.out (fun hp => ⟨rfl, P1.out hp⟩) F1.out oX.out w.heap.size w HB.out (Nat.le_refl _) ?_; intro w2 HG2 hB2) | (refine wpList_copy_splice rfl (.tmp 24) (.tmp 25) 38 38 rfl 3 Tryd.underlying38 info3s _ _ _ _ _ _ rfl rfl w.heap.size A.length (splice Z 0 X) 3 HG2.out Y N2.out (fun hp => ⟨rfl, PY.out w2 hB2 hp⟩) F2.out oY.out w.heap.size w hB2 (Nat.le_refl _) ?_; intro w3 HG3 hB3))
    go_ret
    exact ⟨.slice (some ⟨w.heap.size, 0, none⟩) l l, w.heap.size, rfl, by rw [HL.out], RE.out _ HG3.out, hB3⟩

theorem list_any {b g m f : Nat} {r L : List Int} (w : World) (h : Q w b g m f r L) :
    Calls Tryd.prog 46 #[.pointer (some ⟨b, 0, none⟩)] w fun e w' => ∃ v, e = .returned v ∧ w'.ownsRow w.heap.size 3 1 v L.length (L.map (Value.int .i64)) ∧ Below w.heap.size w w' :=
  (list_at w h).mono fun _ _ ⟨v, _, e, _, o, b⟩ => ⟨v, e, o, b⟩

/- The calls of a queue that is not there. -/
theorem nil_push (n : Int) (w : World) : Calls Tryd.prog 51 #[.pointer none, .int .i64 n] w fun e w' => e = .returned (.int .i64 1) ∧ w' = w := by
  go_enter Tryd.func51, Tryd.ntmps51
  go_wp2
  go_ret
  exact ⟨rfl, rfl⟩
theorem nil_front (w : World) : Calls Tryd.prog 66 #[.pointer none] w fun e w' => e = .returned (.tuple #[.int .i64 0, .int .i64 1]) ∧ w' = w := by
  go_enter Tryd.func66, Tryd.ntmps66
  go_wp2
  go_ret2
  exact ⟨rfl, rfl⟩
theorem nil_pop (w : World) : Calls Tryd.prog 53 #[.pointer none] w fun e w' => e = .returned (.tuple #[.int .i64 0, .int .i64 1]) ∧ w' = w := by
  go_enter Tryd.func53, Tryd.ntmps53
  go_wp2_with fail
  refine (nil_front _).mono ?_
  rintro e w' ⟨rfl, rfl⟩
  go_wp2
  go_ret2
  exact ⟨rfl, rfl⟩
theorem nil_drop (n : Int) (w : World) : Calls Tryd.prog 55 #[.pointer none, .int .i64 n] w fun e w' => e = .returned (.int .i64 1) ∧ w' = w := by
  go_enter Tryd.func55, Tryd.ntmps55
  go_wp2
  go_ret
  exact ⟨rfl, rfl⟩
theorem nil_len (w : World) : Calls Tryd.prog 49 #[.pointer none] w fun e w' => e = .returned (.int .i64 0) ∧ w' = w := by
  go_enter Tryd.func49, Tryd.ntmps49
  go_wp2
  go_ret
  exact ⟨rfl, rfl⟩
theorem nil_list (w : World) : Calls Tryd.prog 46 #[.pointer none] w fun e w' => e = .returned (.slice none 0 0) ∧ w' = w := by
  go_enter Tryd.func46, Tryd.ntmps46
  go_wp2
  go_ret
  exact ⟨rfl, rfl⟩
end Go.Proofs.YtofdhljgchefgaaDoor
