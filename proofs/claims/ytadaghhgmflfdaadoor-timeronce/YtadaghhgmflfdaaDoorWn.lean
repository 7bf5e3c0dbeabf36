/- What a wheel's Go answers and leaves. -/
import Derived.Test.YtadaghhgmflfdaaDoorRows
import Derived.Test.YtadaghhgmflfdaaDoorWl
import Derived.WalkKit
import Derived.ProofKit
import Derived.OpenShut
import Derived.BigQuiet
namespace Go.Proofs.YtadaghhgmflfdaaDoor
open Go.ChangeShapes Go.WideShapes Go.ChangeAt Go.RowKit
open Wm

/-- What Go answers, and the tick then. -/
def goE (now n : Int) : Int := if n < now ∨ 1152921504606846976 < n then 2 else 0
def goN (now n : Int) : Int := if n < now ∨ 1152921504606846976 < n then now else n

/-- While a wheel goes from now to n: the rooms up to j are settled. -/
def GI (w wr : World) (s : Nat) (now n : Int) (mp : Option Nat) (V : List Value) (L : List It) (j : Nat) : Prop :=
  ∃ Vi, WR wr s n mp Vi (rl (fj now n j) L) ∧ Fr w.heap.size (s :: bl V) w wr ∧ ∀ g ∈ bl Vi, g ∈ bl V ∨ w.heap.size ≤ g

theorem gi_start {w : World} {s : Nat} {now n : Int} {mp : Option Nat} {V : List Value} {L : List It} (h : WH w s now mp V L) (hn : now ≤ n) : GI w (w.setCell ⟨s, 0, none⟩ (.int .i64 n)) s now n mp V L 0 := by
  have F : Fr w.heap.size [s] w (w.setCell ⟨s, 0, none⟩ (.int .i64 n)) := (Fr.refl _ _ _).setCell (Or.inr (by simp)) _
  refine ⟨V, ⟨h.wr.st.set 0 _, h.wr.vl, fun r hr => ?_, h.wr.apart⟩, F.mono (Nat.le_refl _) fun k _ hk hm => hk (by simp at hm; simp [hm]), fun g hg => Or.inl hg⟩
  rw [settle_start h.tks h.now.1 hn]
  have o := h.wr.own r hr
  exact o.keep F fun g hg => ⟨o.lt hg, by simp; exact fun e => o.ne h.wr.st (by decide) hg e.symm⟩
theorem gi_step {w wr : World} {s : Nat} {now n : Int} {mp : Option Nat} {V : List Value} {L : List It} {j : Nat} (h : GI w wr s now n mp V L j) (srt : Srt L) (tks : Tks L) (h0 : isT now) (hn : now ≤ n) (h1 : isT n) (hl : L.length ≤ 1000) (l k : Nat) (hl2 : (l : Int) < 21) (hk : (k : Int) < 8) (hj : j = 8 * l + k) (hJ : j + 1 ≤ jn now.toNat n.toNat) :
    Calls Tryd.prog 67 #[.pointer (some ⟨s, 0, none⟩), .int .i64 l, .int .i64 k] wr fun e w' => e = .returned (.tuple #[]) ∧ GI w w' s now n mp V L (j + 1) := by
  obtain ⟨Vi, wi, f, sb⟩ := h
  have ej : 1 + 8 * l + k = j + 1 := by omega
  refine (settle_any l k hl2 hk wi h1 (fun x hx => tks x (mem_rl.1 hx).1) (fun r => Nat.le_trans (rl_len _ _ _) hl)).mono ?_
  rintro e w' ⟨rfl, V', w2, f2, s2⟩
  rw [ej] at w2
  have z := f.size
  refine ⟨rfl, V', w2.congr fun r _ => ?_, f.trans (f2.mono z fun k hk hs hm => ?_), fun g hg => ?_⟩
  · rw [mid_end]
    exact (settle_step srt tks h0.1 hn h1.2 hJ r).symm
  · rcases List.mem_cons.1 hm with e | e
    · exact hs (by rw [e]; exact List.mem_cons_self)
    · rcases sb k e with q | q
      · exact hs (List.mem_cons_of_mem _ q)
      · omega
  · rcases s2 g hg with q | q
    · exact sb g q
    · exact Or.inr (by omega)
theorem gi_end {w wr : World} {s : Nat} {now n : Int} {mp : Option Nat} {V : List Value} {L : List It} (h : GI w wr s now n mp V L (jn now.toNat n.toNat)) (h0 : WH w s now mp V L) (hn : now ≤ n) (h1 : isT n) :
    ∃ F', WW wr s n L F' ∧ Mv w wr (fp s mp V) F' := by
  obtain ⟨Vi, wi, f, sb⟩ := h
  have nb : ∀ b, mp = some b → b ∉ s :: bl V := fun b e hm => by
    rcases h0.mq with ⟨e2, _⟩ | ⟨b2, e2, m⟩
    · rw [e2] at e; cases e
    · rw [e2] at e
      cases e
      rcases List.mem_cons.1 hm with q | q
      · exact m.blk h0.wr.st q
      · exact m.nbl h0.wr q
  refine ⟨_, ⟨mp, Vi, ⟨wi.congr fun r _ => (settle_end h0.tks hn h1.2 r).symm, WH.map_keep h0.mq f (Nat.le_refl _) nb, h0.srt, h0.uni, h0.tks, h1, h0.ids⟩, rfl⟩, f.mono (Nat.le_refl _) fun k _ hk hm => hk ?_, fun g hg => ?_⟩
  · rcases List.mem_cons.1 hm with e | e
    · exact mem_fp.2 (Or.inl e)
    · exact mem_fp.2 (Or.inr (Or.inr e))
  · rcases mem_fp.1 hg with e | e | e
    · exact Or.inl (mem_fp.2 (Or.inl e))
    · exact Or.inl (mem_fp.2 (Or.inr (Or.inl e)))
    · rcases sb g e with q | q
      · exact Or.inl (mem_fp.2 (Or.inr (Or.inr q)))
      · exact Or.inr q

set_option maxRecDepth 100000 in
set_option maxHeartbeats 1000000 in
theorem go_no {w : World} {s : Nat} {now : Int} (n : Int) (c0 : w.cell? ⟨s, 0, none⟩ = some (.int .i64 now)) (hn : n < now ∨ 1152921504606846976 < n) :
    Calls Tryd.prog 52 #[.pointer (some ⟨s, 0, none⟩), .int .i64 n] w fun e w' => e = .returned (.int .i64 2) ∧ w' = w := by
  have C : Hid (∀ w, _) := fun w => can_any n w
  by_cases h1 : n < now
  · clear hn
    go_enter Tryd.func52, Tryd.ntmps52
    go_wp2
    go_ret
    exact ⟨rfl, rfl⟩
  · rw [decide_eq_false (fun h : isT n => (by unfold isT at h; omega))] at C
    clear hn
    go_enter Tryd.func52, Tryd.ntmps52
    go_wp2_with fail
    refine (C.out _).mono ?_
    rintro e w' ⟨rfl, rfl⟩
    go_wp2
    go_ret
    exact ⟨rfl, rfl⟩

set_option maxRecDepth 100000 in
set_option maxHeartbeats 4000000 in
theorem go_yes {w : World} {s : Nat} {now : Int} {mp : Option Nat} {V : List Value} {L : List It} (n : Int) (h : WH w s now mp V L) (h1 : now ≤ n) (h2 : n ≤ 1152921504606846976) (hl : L.length ≤ 1000) :
    Calls Tryd.prog 52 #[.pointer (some ⟨s, 0, none⟩), .int .i64 n] w fun e w' => e = .returned (.int .i64 0) ∧ ∃ F', WW w' s n L F' ∧ Mv w w' (fp s mp V) F' := by
  have hT : isT n := ⟨by have := h.now.1; omega, h2⟩
  have C : Hid (∀ w, _) := fun w => can_any n w
  rw [decide_eq_true hT] at C
  have CL : Hid (∀ w, _) := fun w => level_any now n w h.now hT
  have t1 : lv now.toNat n.toNat ≤ 20 := lv_le (by have := h.now; unfold isT at this; unfold tk; omega) (by unfold isT at hT; unfold tk; omega)
  have CD : Hid (∀ w, _) := fun w => digit_any n (lv now.toNat n.toNat) w hT (by omega)
  have c0 := h.wr.c0
  have z0 := h.wr.st.free 0
  have S0 : Hid (GI w (w.setCell ⟨s, 0, none⟩ (.int .i64 n)) s now n mp V L 0) := gi_start h h1
  have ej : jn now.toNat n.toNat = 8 * lv now.toNat n.toNat + (n.toNat / 8 ^ lv now.toNat n.toNat % 8 + 1) := by unfold jn; omega
  have d1 : n.toNat / 8 ^ lv now.toNat n.toNat % 8 < 8 := Nat.mod_lt _ (by decide)
  have ST : Hid (∀ (wr : World) (l k : Nat), (l : Int) < 21 → (k : Int) < 8 → 8 * l + k + 1 ≤ jn now.toNat n.toNat → GI w wr s now n mp V L (8 * l + k) → _) := fun wr l k a b c g => gi_step g h.srt h.tks h.now h1 hT hl l k a b rfl c
  have FI : Hid (∀ wr : World, GI w wr s now n mp V L (jn now.toNat n.toNat) → _) := fun wr g => gi_end g h h1 hT
  rw [ej] at ST FI
  generalize n.toNat / 8 ^ lv now.toNat n.toNat % 8 = dg at *
  generalize lv now.toNat n.toNat = tp at *
  have t2 : (tp : Int) ≤ 20 := by omega
  have d2 : (dg : Int) < 8 := by omega
  have h3 : ¬ n < now := by omega
  clear ej h hT hl t1 d1 h1 h2
  go_enter Tryd.func52, Tryd.ntmps52
  go_wp2_with fail
  refine (C.out _).mono ?_
  rintro e w' ⟨rfl, rfl⟩
  go_wp2_with fail
  refine (CL.out _).mono ?_
  rintro e w2 ⟨rfl, rfl⟩
  go_wp2_with fail
  go_loopw [33] (fun i wr => ∃ l : Nat, (l : Int) ≤ tp ∧ i = .int .i64 l ∧ Hid (GI w2 wr s now n mp V L (8 * l))) (fun i _ => tp - (intOf i).toNat)
  case atStart => exact ⟨0, by omega, rfl, S0⟩
  case round =>
    obtain ⟨l, hl, rfl, S⟩ := hrel
    by_cases h : (l : Int) < tp
    · go_wp2_with fail
      obtain ⟨wo, rfl⟩ : ∃ wo, wo = wr := ⟨_, rfl⟩
      go_loopw [36] (fun i wr => ∃ k : Nat, (k : Int) ≤ 8 ∧ i = .int .i64 k ∧ Hid (GI w2 wr s now n mp V L (8 * l + k))) (fun i _ => 8 - (intOf i).toNat)
      case atStart => exact ⟨0, by omega, rfl, S⟩
      case round =>
        obtain ⟨k, hk, rfl, S2⟩ := hrel
        by_cases h5 : (k : Int) < 8
        · have C5 : Hid (∀ _ : Unit, _) := fun _ => ST.out wr l k (by omega) h5 (by omega) S2.out
          clear S2
          go_wp2_with fail
          refine (C5.out ()).mono ?_
          rintro e w5 ⟨rfl, g5⟩
          have G5 : Hid (GI w2 w5 s now n mp V L (8 * l + (k + 1))) := g5
          clear g5
          go_wp2
          go_roundw
          case rel => exact ⟨k + 1, by omega, by go_num, G5⟩
          case measure => simp [intOf]; omega
        · obtain rfl : k = 8 := by omega
          have G5 : Hid (GI w2 wr s now n mp V L (8 * (l + 1))) := S2.out
          clear S2
          go_wp2
          go_roundw
          case rel => exact ⟨l + 1, by omega, by go_num, G5⟩
          case measure => simp [intOf]; omega
    · obtain rfl : l = tp := by omega
      clear h hl
      go_wp2_with fail
      refine (CD.out _).mono ?_
      rintro e w5 ⟨rfl, rfl⟩
      go_wp2_with fail
      obtain ⟨wo, rfl⟩ : ∃ wo, wo = w5 := ⟨_, rfl⟩
      go_loopw [49] (fun i wr => ∃ k : Nat, (k : Int) ≤ (dg : Int) + 1 ∧ i = .int .i64 k ∧ Hid (GI w2 wr s now n mp V L (8 * l + k))) (fun i _ => dg + 1 - (intOf i).toNat)
      case atStart => exact ⟨0, by omega, rfl, S⟩
      case round =>
        obtain ⟨k, hk, rfl, S2⟩ := hrel
        by_cases h5 : (k : Int) < (dg : Int) + 1
        · have C5 : Hid (∀ _ : Unit, _) := fun _ => ST.out wr l k (by omega) (by omega) (by omega) S2.out
          clear S2
          go_wp2_with fail
          refine (C5.out ()).mono ?_
          rintro e w5 ⟨rfl, g5⟩
          have G5 : Hid (GI w2 w5 s now n mp V L (8 * l + (k + 1))) := g5
          clear g5
          go_wp2
          go_roundw
          case rel => exact ⟨k + 1, by omega, by go_num, G5⟩
          case measure => simp [intOf]; omega
        · obtain rfl : k = dg + 1 := by omega
          have G5 : Hid (∃ F', _) := FI.out wr S2.out
          clear S2
          go_wp2
          go_ret
          exact ⟨rfl, G5.out⟩

theorem go_any {w : World} {s : Nat} {now : Int} {L : List It} {F : List Nat} (n : Int) (h : WW w s now L F) (hl : L.length ≤ 1000) :
    Calls Tryd.prog 52 #[.pointer (some ⟨s, 0, none⟩), .int .i64 n] w fun e w' => e = .returned (.int .i64 (goE now n)) ∧ ∃ F', WW w' s (goN now n) L F' ∧ Mv w w' F F' := by
  unfold goE goN
  obtain ⟨mp, V, h, rfl⟩ := h
  by_cases c : n < now ∨ 1152921504606846976 < n
  · rw [if_pos c, if_pos c]
    refine (go_no n h.wr.c0 c).mono ?_
    rintro e w' ⟨rfl, rfl⟩
    exact ⟨rfl, _, ⟨_, _, h, rfl⟩, Mv.refl _ _⟩
  · rw [if_neg c, if_neg c]
    exact go_yes n h (by omega) (by omega) hl
end Go.Proofs.YtadaghhgmflfdaaDoor
