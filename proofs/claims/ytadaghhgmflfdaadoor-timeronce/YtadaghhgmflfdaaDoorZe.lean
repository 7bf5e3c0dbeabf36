/- What timer's Go, Now and Fire answer and leave. -/
import Derived.Test.YtadaghhgmflfdaaDoorRows
import Derived.Test.YtadaghhgmflfdaaDoorZd
import Derived.Test.YtadaghhgmflfdaaDoorWn
import Derived.WalkKit
import Derived.ProofKit
import Derived.OpenShut
import Derived.BigQuiet
import Derived.Deep.RegionHeld3
namespace Go.Proofs.YtadaghhgmflfdaaDoor
open Go.ChangeShapes Go.WideShapes Go.ChangeAt Go.RowKit
open Wm Zm Sl

theorem up_id (K : Ks) (c : Nat) : up K c (K c) = K := funext fun j => by
  unfold up
  split
  · rename_i e; rw [e]
  · rfl
theorem TB.ticks {w : World} {t sb sg tb mb n : Nat} {N N' : Nat → Int} {S : Nat → Nat} {K : Ks} {G : Nat → List Nat} {W : List Nat} {O : Nat → Bool} {m : Nat} {f : Int → Option Int} (h : TB w t sb sg tb mb n N S K G W O m f) (e : ∀ c, c < n → N' c = N c) : TB w t sb sg tb mb n N' S K G W O m f :=
  ⟨h.st, h.tab, h.sl, h.mp, fun c hc => by rw [e c hc]; exact h.ws c hc, h.dis, h.nb, h.n1, h.n2⟩

theorem tgo_no {w : World} {t n : Nat} {now : Int} {K : Ks} {F : List Nat} (z : Int) (h : TX w t n now K F) (hz : z < now ∨ 1152921504606846976 < z) :
    Calls Tryd.prog 25 #[.pointer (some ⟨t, 0, none⟩), .int .i64 z] w fun e w' => e = .returned (.int .i64 2) ∧ ∃ F', TX w' t n now K F' ∧ Mv w w' F F' := by
  obtain ⟨sb, sg, tb, mb, S, G, W, O, b, a, o, rfl⟩ := h
  have h1 := b.n1
  have C : Hid (∀ _ : Unit, _) := fun _ => go_any z (b.ws 0 h1) (Nat.le_trans (a.len h1) (by omega))
  rw [show goE now z = 2 from if_pos hz, show goN now z = now from if_pos hz] at C
  have ST : Hid (∀ w' F', WW w' (S 0) now (K 0) F' → Mv w w' (G 0) F' → ∃ F', TX w' t n now K F' ∧ Mv w w' (foot t sb sg tb mb n G) F') := fun w' F' q v => by
    obtain ⟨b2, v2⟩ := b.wheel h1 q v
    rw [upd_id, up_id] at b2
    exact ⟨_, ⟨sb, sg, tb, mb, S, _, W, O, b2, a, o, rfl⟩, v2⟩
  have c1 := b.c1
  have cw := b.cw h1
  have n1 : (1 : Int) ≤ n := by omega
  generalize S 0 = s at *
  clear b a o hz h1
  go_enter Tryd.func25, Tryd.ntmps25
  go_wp2
  go_loopw [15] (fun i wr => i = .int .i64 0 ∧ wr = w) (fun _ _ => 0)
  case atStart => exact ⟨rfl, rfl⟩
  case round =>
    obtain ⟨rfl, rfl⟩ := hrel
    go_wp2_with fail
    refine (C.out ()).mono ?_
    rintro e w' ⟨rfl, F', q, v⟩
    have FF : Hid _ := ST.out w' F' q v
    clear q v
    go_wp2
    go_ret
    exact ⟨rfl, FF.out⟩

theorem tgo_yes {w : World} {t n : Nat} {now : Int} {K : Ks} {F : List Nat} (z : Int) (h : TX w t n now K F) (hz : ¬ (z < now ∨ 1152921504606846976 < z)) :
    Calls Tryd.prog 25 #[.pointer (some ⟨t, 0, none⟩), .int .i64 z] w fun e w' => e = .returned (.int .i64 0) ∧ ∃ F', TX w' t n z K F' ∧ Mv w w' F F' := by
  obtain ⟨sb, sg, tb, mb, S, G, W, O, b, a, o, rfl⟩ := h
  have h1 := b.n1
  have n2 : (n : Int) ≤ 64 := by have := b.n2; omega
  have c1 := b.c1
  obtain ⟨P, hP⟩ : ∃ P : World → Nat → (Nat → List Nat) → Prop, ∀ wr k G', P wr k G' = (TB wr t sb sg tb mb n (fun c => if c < k then z else now) S K G' W O (cnt (oc n K)) (cq n K) ∧ Mv w wr (foot t sb sg tb mb n G) (foot t sb sg tb mb n G')) := ⟨_, fun _ _ _ => rfl⟩
  have P0 : Hid (P w 0 G) := by
    rw [hP]
    exact ⟨b.ticks fun c _ => if_neg (by omega), Mv.refl _ _⟩
  have PE : Hid (∀ wr G', P wr n G' → ∃ F', TX wr t n z K F' ∧ Mv w wr (foot t sb sg tb mb n G) F') := fun wr G' p => by
    rw [hP] at p
    exact ⟨_, ⟨sb, sg, tb, mb, S, G', W, O, p.1.ticks fun c hc => (if_pos hc).symm, a, o, rfl⟩, p.2⟩
  have PS : Hid (∀ wr k G', k < n → P wr k G' → wr.cell? ⟨tb, k, none⟩ = some (.pointer (some ⟨S k, 0, none⟩)) ∧ Hid (Calls Tryd.prog 52 #[.pointer (some ⟨S k, 0, none⟩), .int .i64 z] wr fun e w' => e = .returned (.int .i64 0) ∧ ∃ G2, P w' (k + 1) G2)) := fun wr k G' hk p => by
    rw [hP] at p
    obtain ⟨p, v⟩ := p
    have q0 := p.ws k hk
    rw [if_neg (Nat.lt_irrefl k)] at q0
    refine ⟨p.cw hk, (go_any z q0 (Nat.le_trans (a.len hk) (by omega))).mono ?_⟩
    rintro e w' ⟨rfl, F', q, v'⟩
    rw [show goN now z = z from if_neg hz] at q
    obtain ⟨b2, v2⟩ := p.wheel hk q v'
    rw [up_id] at b2
    refine ⟨by rw [show goE now z = 0 from if_neg hz], upd G' k F', ?_⟩
    rw [hP]
    refine ⟨b2.ticks fun c _ => ?_, v.trans v2⟩
    by_cases e : c = k
    · subst e
      rw [upd_same, if_pos (by omega)]
    · rw [upd_other _ e]
      by_cases e2 : c < k
      · rw [if_pos e2, if_pos (by omega)]
      · rw [if_neg e2, if_neg (by omega)]
  have HC : Hid (∀ wr k G', P wr k G' → wr.cell? ⟨t, 1, none⟩ = some (.slice (some ⟨tb, 0, none⟩) n n)) := fun wr k G' p => by
    rw [hP] at p
    exact p.1.c1
  clear hP b a o hz h1
  go_enter Tryd.func25, Tryd.ntmps25
  go_wp2
  go_loopw [15] (fun i wr => ∃ (k : Nat) (G' : Nat → List Nat), (k : Int) ≤ n ∧ i = .int .i64 (k : Int) ∧ P wr k G') (fun i _ => n - (intOf i).toNat)
  case atStart => exact ⟨0, G, by omega, rfl, P0.out⟩
  case round =>
    obtain ⟨k, G', hk, rfl, p⟩ := hrel
    by_cases c : (k : Int) < n
    · obtain ⟨cw, CG⟩ := PS.out wr k G' (by omega) p
      generalize S k = s at *
      clear p
      go_wp2_with fail
      refine CG.out.mono ?_
      rintro e w' ⟨rfl, G2, p2⟩
      go_wp2
      go_roundw
      case rel => exact ⟨k + 1, G2, by omega, by go_num, p2⟩
      case measure => simp [intOf]; omega
    · obtain rfl : k = n := by omega
      have e : Hid _ := PE.out wr G' p
      clear p
      go_wp2
      go_ret
      exact ⟨rfl, e.out⟩

theorem tgo_any {w : World} {t n : Nat} {now : Int} {K : Ks} {F : List Nat} (z : Int) (h : TX w t n now K F) :
    Calls Tryd.prog 25 #[.pointer (some ⟨t, 0, none⟩), .int .i64 z] w fun e w' => e = .returned (.int .i64 (goE now z)) ∧ ∃ F', TX w' t n (goN now z) K F' ∧ Mv w w' F F' := by
  unfold goE goN
  by_cases hz : z < now ∨ 1152921504606846976 < z
  · rw [if_pos hz, if_pos hz]
    exact tgo_no z h hz
  · rw [if_neg hz, if_neg hz]
    exact tgo_yes z h hz

theorem tnow_any {w : World} {t n : Nat} {now : Int} {K : Ks} {F : List Nat} (h : TX w t n now K F) :
    Calls Tryd.prog 22 #[.pointer (some ⟨t, 0, none⟩)] w fun e w' => e = .returned (.int .i64 now) ∧ w' = w := by
  obtain ⟨sb, sg, tb, mb, S, G, W, O, b, a, o, rfl⟩ := h
  have h1 := b.n1
  have ON : Hid (∀ _ : Unit, _) := fun _ => on_yes (S := S) (n := n) 0 (by omega) b.c1 (b.cw h1)
  have NW : Hid (∀ _ : Unit, _) := fun _ => now_any (b.ws 0 h1)
  generalize S 0 = s at *
  clear b a o h1
  go_enter Tryd.func22, Tryd.ntmps22
  go_wp2_with fail
  refine (ON.out ()).mono ?_
  rintro e w' ⟨rfl, rfl⟩
  go_wp2_with fail
  refine (NW.out ()).mono ?_
  rintro e w' ⟨rfl, rfl⟩
  go_wp2
  go_ret
  exact ⟨rfl, rfl⟩

theorem fire_range {w : World} {t n : Nat} {now : Int} {K : Ks} {F : List Nat} (c : Int) (hc : ¬ isC n c) (h : TX w t n now K F) :
    Calls Tryd.prog 26 #[.pointer (some ⟨t, 0, none⟩), .int .i64 c] w fun e w' => e = .returned (.tuple #[.int .i64 0, .int .i64 3]) ∧ w' = w := by
  obtain ⟨sb, sg, tb, mb, S, G, W, O, b, a, o, rfl⟩ := h
  have ON : Hid (∀ _ : Unit, _) := fun _ => on_no c hc b.c1
  clear b a o hc
  go_enter Tryd.func26, Tryd.ntmps26
  go_wp2_with fail
  refine (ON.out ()).mono ?_
  rintro e w' ⟨rfl, rfl⟩
  go_wp2
  go_ret2
  exact ⟨rfl, rfl⟩

theorem fire_none {w : World} {t n : Nat} {now : Int} {K : Ks} {F : List Nat} (c : Nat) (hc : c < n) (h : TX w t n now K F) (hd : duL now (K c) = []) :
    Calls Tryd.prog 26 #[.pointer (some ⟨t, 0, none⟩), .int .i64 (c : Int)] w fun e w' => e = .returned (.tuple #[.int .i64 0, .int .i64 12]) ∧ ∃ F', TX w' t n now K F' ∧ Mv w w' F F' := by
  have hx := h
  obtain ⟨sb, sg, tb, mb, S, G, W, O, b, a, o, rfl⟩ := h
  have ON : Hid (∀ _ : Unit, _) := fun _ => on_yes (S := S) c (by omega) b.c1 (b.cw hc)
  have DU : Hid (∀ _ : Unit, _) := fun _ => due_any (b.ws c hc) (Nat.le_trans (a.len hc) (by omega))
  rw [hd] at DU
  have ST : Hid (∀ w', Below w.heap.size w w' → ∃ F', TX w' t n now K F' ∧ Mv w w' (foot t sb sg tb mb n G) F') := fun w' k => ⟨_, hx.below k, Mv.below k _⟩
  generalize S c = s at *
  clear b a o hc hd hx
  go_enter Tryd.func26, Tryd.ntmps26
  go_wp2_with fail
  refine (ON.out ()).mono ?_
  rintro e w' ⟨rfl, rfl⟩
  go_wp2_with fail
  refine (DU.out ()).mono ?_
  rintro e w1 ⟨v, rfl, g⟩
  have FF : Hid _ := ST.out w1 g.bel
  obtain ⟨p, c', rfl⟩ := own_shape g.own
  clear g
  go_wp2
  go_ret2
  exact ⟨rfl, FF.out⟩

set_option maxRecDepth 100000 in
set_option maxHeartbeats 1000000 in
theorem fire_yes {w : World} {t n : Nat} {now : Int} {K : Ks} {F : List Nat} (c : Nat) (hc : c < n) (h : TX w t n now K F) {x : It} {R : List It} (hd : duL now (K c) = x :: R) :
    Calls Tryd.prog 26 #[.pointer (some ⟨t, 0, none⟩), .int .i64 (c : Int)] w fun e w' => e = .returned (.tuple #[.int .i64 x.2, .int .i64 0]) ∧ ∃ F', TX w' t n now (up K c (rid x.2 (K c))) F' ∧ Mv w w' F F' := by
  have hx := h
  have hlt : ∀ g ∈ F, g < w.heap.size := fun g hg => h.lt hg
  obtain ⟨sb, sg, tb, mb, S, G, W, O, b, a, o, rfl⟩ := h
  have ON : Hid (∀ _ : Unit, _) := fun _ => on_yes (S := S) c (by omega) b.c1 (b.cw hc)
  have DU : Hid (∀ _ : Unit, _) := fun _ => due_any (b.ws c hc) (Nat.le_trans (a.len hc) (by omega))
  rw [hd] at DU
  have hm : x ∈ K c := (List.mem_filter.1 (show x ∈ duL now (K c) by rw [hd]; simp)).1
  have ho : onc n K x.2 = some c := (onc_iff a).2 ⟨hc, has_of hm⟩
  have hr := a.rg c hc x.2 (has_of hm)
  have hlen : ((ids (x :: R)).length : Int) ≤ 48 := by
    have h1 := a.len hc
    have h2 : (duL now (K c)).length ≤ (K c).length := List.length_filter_le _ _
    rw [hd] at h2
    unfold ids
    rw [List.length_map]
    omega
  have hpos : (1 : Int) ≤ ((ids (x :: R)).length : Nat) := by simp [ids]; omega
  generalize hy : x.2 = y at *
  have hid : ids (x :: R) = y :: ids R := by unfold ids; rw [List.map_cons, hy]
  generalize foot t sb sg tb mb n G = F at *
  have CC : Hid (∀ w1 v, Gt w w1 v (ids (x :: R)) → ∃ g cap, v = .slice (some ⟨g, 0, none⟩) (ids (x :: R)).length cap ∧ w1.cell? ⟨g, 0, none⟩ = some (.int .i64 y) ∧ Hid (∀ u, Sm u w1 → Calls Tryd.prog 28 #[.pointer (some ⟨t, 0, none⟩), .int .i64 y] u fun e w' => e = .returned (.int .i64 0) ∧ w'.cell? ⟨g, 0, none⟩ = some (.int .i64 y) ∧ Hid (∀ u', Sm u' w' → ∃ F', TX u' t n now (up K c (rid y (K c))) F' ∧ Mv w u' F F'))) := fun w1 v gt => by
    rcases gt.own.2 with ⟨_, hn⟩ | ⟨g, cap, cur, hv, hb, hh, _⟩
    · omega
    · have cy : w1.cell? ⟨g, 0, none⟩ = some (.int .i64 y) := by
        have := gt.own
        subst hv
        have := this.cellAt 0 (by omega)
        rw [this, hid]
        rfl
      refine ⟨g, cap, hv, cy, fun u hu => ?_⟩
      have bu : Below w.heap.size w u := hu.below gt.bel
      refine (cancel_yes y (wf_small _ (by omega) (by omega)) (hx.below bu) ho).mono ?_
      rintro e w' ⟨rfl, F', q, m⟩
      have hg : g < u.heap.size := by have := lt_of_block hh; have := hu.1; rw [this]; omega
      refine ⟨rfl, ?_, fun u' hu' => ⟨F', q.below (hu'.below (Below.refl _ _)), ?_⟩⟩
      · rw [m.fr.cell (p := ⟨g, 0, none⟩) hg (fun hm => by have := hlt g hm; omega)]
        unfold World.cell? at cy ⊢
        rw [hu.1]
        exact cy
      · have m2 := (Mv.below bu F).trans m
        exact m2.trans (Mv.below (hu'.below (Below.refl _ _)) F')
  generalize (ids (x :: R)) = D at *
  generalize D.length = ln at *
  generalize S c = s at *
  have hp1 : 0 < ln := by omega
  have hp2 : ¬ ln = 0 := by omega
  have hp3 : ((ln : Int) == 0) = false := by simpa using hp2
  clear b a o hc hd hx hm ho hr hid hlt hy
  go_enter Tryd.func26, Tryd.ntmps26
  go_wp2_with fail
  refine (ON.out ()).mono ?_
  rintro e w' ⟨rfl, rfl⟩
  go_wp2_with fail
  refine (DU.out ()).mono ?_
  rintro e w1 ⟨v, rfl, gt⟩
  obtain ⟨g, cap, rfl, cy, CA⟩ := CC.out w1 v gt
  clear gt CC DU
  go_wp2
  go_region_held3 (fun w' => w'.cell? ⟨g, 0, none⟩ = some (.int .i64 y)) (go_keep)
    (first | (go_at_call 28; refine (CA.out _ ?_).mono ?_; exact ⟨rfl, rfl, rfl, rfl⟩; rintro e w2 ⟨rfl, k1, FF⟩))
  all_goals (go_wp2; go_ret2; exact ⟨rfl, FF.out _ ⟨rfl, rfl, rfl, rfl⟩⟩)
end Go.Proofs.YtadaghhgmflfdaaDoor
