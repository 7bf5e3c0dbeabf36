/- What the document's Cancel, Arm, Go and Fire of timers answer and leave. -/
import Derived.Test.YtadaghhgmflfdaaDoorRows
import Derived.Test.YtadaghhgmflfdaaDoorZp
import Derived.WalkKit
import Derived.ProofKit
import Derived.OpenShut
import Derived.BigQuiet
import Derived.Deep.RegionHeld3
namespace Go.Proofs.YtadaghhgmflfdaaDoor
open Go.ChangeShapes Go.WideShapes Go.ChangeAt Go.RowKit
open Wm Zm Sl

theorem RB.rx {w : World} {r lb cap n : Nat} {now : Int} {S : Nat → Nat} {K : Ks} {G : Nat → List Nat} {c : Nat} (b : RB w r lb cap n (upd (fun _ => now) c now) S K G) : RX w r n now K (footR r lb n G) := by
  rw [upd_id] at b
  exact ⟨lb, cap, S, G, b, rfl⟩

theorem rcancel_any {w : World} {r n : Nat} {now : Int} {K : Ks} {F : List Nat} (id : Int) (h : RX w r n now K F) (a : Al n K) :
    Calls Tryd.prog 33 #[.pointer (some ⟨r, 0, none⟩), .int .i64 id] w fun e w' => e = .returned (.int .i64 (caE n K id)) ∧ ∃ F', RX w' r n now (caK n K id) F' ∧ Mv w w' F F' := by
  have WE : Hid (∀ _ : Unit, _) := fun _ => rwhere_any id h a
  have HR : Hid (∃ F', RX w r n now K F' ∧ Mv w w F F') := ⟨F, h, Mv.refl _ _⟩
  obtain ⟨lb, cap, S, G, b, rfl⟩ := h
  unfold twN twB cq at WE
  unfold caE caK
  cases hn : onc n K id with
  | none =>
    rw [hn] at WE
    dsimp only [Option.map_none, Option.getD_none, Option.isSome_none] at WE ⊢
    rw [if_neg (by decide)]
    clear b a hn
    go_enter Tryd.func33, Tryd.ntmps33
    go_wp2_with fail
    refine (WE.out ()).mono ?_
    rintro e w' ⟨rfl, rfl⟩
    go_wp2
    go_ret
    exact ⟨rfl, HR.out⟩
  | some c =>
    rw [hn] at WE
    dsimp only [Option.map_some, Option.getD_some, Option.isSome_some] at WE ⊢
    rw [if_pos rfl]
    obtain ⟨hc, hh⟩ := (onc_iff a).1 hn
    have DR : Hid (∀ _ : Unit, _) := fun _ => rdrop_any id (b.ws c hc) (Nat.le_trans (a.len hc) (by omega))
    rw [show dpE (K c) id = 0 from if_pos hh] at DR
    have ST : Hid (∀ w' F', DD w' (S c) now (rid id (K c)) F' → Mv w w' (G c) F' → ∃ F', RX w' r n now (up K c (rid id (K c))) F' ∧ Mv w w' (footR r lb n G) F') := fun w' F' q v => by
      obtain ⟨b2, v2⟩ := b.wheel hc q v
      exact ⟨_, b2.rx, v2⟩
    have c1 := b.c0
    have cw := b.cw hc
    have hc2 : (c : Int) < n := by omega
    generalize S c = s at *
    clear b a hn hc hh HR
    go_enter Tryd.func33, Tryd.ntmps33
    go_wp2_with fail
    refine (WE.out ()).mono ?_
    rintro e w' ⟨rfl, rfl⟩
    go_wp2_with fail
    refine (DR.out ()).mono ?_
    rintro e w2 ⟨rfl, F', q, v⟩
    have FF : Hid _ := ST.out w2 F' q v
    clear q v
    go_wp2
    go_ret
    exact ⟨rfl, FF.out⟩

set_option maxRecDepth 100000 in
set_option maxHeartbeats 1000000 in
theorem rarm_yes {w : World} {r n : Nat} {now : Int} {K : Ks} {F : List Nat} (c : Nat) (d : Int) (hc : c < n) (hd : isT d) (h : RX w r n now K F) (a : Al n K) :
    Calls Tryd.prog 32 #[.pointer (some ⟨r, 0, none⟩), .int .i64 (c : Int), .int .i64 d] w fun e w' => e = .returned (.tuple #[.int .i64 (tN (ff 48 (oc n K))), .int .i64 (tE (ff 48 (oc n K)))]) ∧ ∃ F', RX w' r n now (arK n K c d) F' ∧ Mv w w' F F' := by
  have WE : Hid (∀ k : Nat, _) := fun k => rwhere_any (k : Int) h a
  obtain ⟨rn, hrn⟩ : ∃ rn, rn = tN (ff 48 (oc n K)) := ⟨_, rfl⟩
  obtain ⟨re, hre⟩ : ∃ re, re = tE (ff 48 (oc n K)) := ⟨_, rfl⟩
  obtain ⟨K', hK⟩ : ∃ K', K' = arK n K c d := ⟨_, rfl⟩
  rw [← hrn, ← hre, ← hK]
  have NO : Hid ((∀ j, 1 ≤ j → j < 49 → oc n K j = true) → rn = 0 ∧ re = 5 ∧ ∃ F', RX w r n now K' F' ∧ Mv w w F F') := fun hh => by
    have e := ff_none 48 (oc n K) fun j hj => hh (j + 1) (by omega) (by omega)
    rw [hrn, hre, hK]
    unfold arK
    rw [e]
    exact ⟨rfl, rfl, F, h, Mv.refl _ _⟩
  obtain ⟨lb, cap, S, G, b, rfl⟩ := h
  have IS : Hid (∀ _ : Unit, _) := fun _ => is_any (c : Int) b.c0
  rw [decide_eq_true (show isC n (c : Int) from ⟨by omega, by omega⟩)] at IS
  have YES : Hid (∀ k : Nat, 1 ≤ k → k ≤ 48 → oc n K k = false → (∀ j, 1 ≤ j → j < k → oc n K j = true) → rn = k ∧ re = 0 ∧ Hid (Calls Tryd.prog 56 #[.pointer (some ⟨S c, 0, none⟩), .int .i64 (k : Int), .int .i64 d] w fun e w' => e = .returned (.int .i64 0) ∧ ∃ F', RX w' r n now K' F' ∧ Mv w w' (footR r lb n G) F')) := fun k k1 k2 hk hh => by
    have e := ff_some 48 (oc n K) (k - 1) (by omega) (by rw [show k - 1 + 1 = k by omega]; exact hk) fun j hj => hh (j + 1) (by omega) (by omega)
    have ek : ((k - 1 + 1 : Nat) : Int) = k := by omega
    refine ⟨by rw [hrn, e]; exact ek, by rw [hre, e]; rfl, (radd_any (k : Int) d (b.ws c hc) (Nat.le_trans (a.len hc) (by omega))).mono ?_⟩
    rintro e' w' ⟨rfl, F', q, v⟩
    have hn : onc n K (k : Int) = none := by
      unfold oc at hk
      cases e : onc n K (k : Int) with
      | none => rfl
      | some z => rw [e] at hk; cases hk
    have no : ¬ (wn (K c) (k : Int)).isSome = true := by rw [show (wn (K c) (k : Int)).isSome = false from onc_none.1 hn c hc]; decide
    unfold adL at q
    rw [if_pos hd, if_neg no] at q
    obtain ⟨b2, v2⟩ := b.wheel hc q v
    refine ⟨by unfold adE; rw [if_pos hd, if_neg no], footR r lb n (upd G c F'), ?_, v2⟩
    rw [hK]
    unfold arK
    rw [e]
    dsimp only
    rw [ek]
    exact b2.rx
  have WB : ∀ k : Nat, twB n K (k : Int) = oc n K k := fun k => by
    unfold twB cq oc
    cases onc n K (k : Int) <;> rfl
  have c0 := b.c0
  have cw := b.cw hc
  have hc2 : (c : Int) < n := by omega
  generalize S c = s at *
  obtain ⟨d0, d1⟩ := hd
  clear b a hc hrn hre hK
  go_enter Tryd.func32, Tryd.ntmps32
  go_wp2_with fail
  refine (IS.out ()).mono ?_
  rintro e w' ⟨rfl, rfl⟩
  go_wp2
  go_loopw [8] (fun i wr => wr = w' ∧ ∃ k : Nat, (1 : Int) ≤ k ∧ (k : Int) ≤ 49 ∧ i = .int .i64 (k : Int) ∧ Hid (∀ j, 1 ≤ j → j < k → oc n K j = true)) (fun i _ => 49 - (intOf i).toNat)
  case atStart => exact ⟨rfl, 1, by omega, by omega, rfl, fun j h1 h2 => by omega⟩
  case round =>
    obtain ⟨rfl, k, k1, k2, rfl, hb⟩ := hrel
    by_cases c : (k : Int) ≤ 48
    · have W1 : Hid (∀ _ : Unit, _) := fun _ => WE.out k
      rw [WB k] at W1
      generalize twN n K (k : Int) = tw at *
      cases e : oc n K k with
      | false =>
        rw [e] at W1
        obtain ⟨rfl, rfl, AD⟩ := YES.out k (by omega) (by omega) e hb.out
        clear e YES NO
        go_wp2_with fail
        refine (W1.out ()).mono ?_
        rintro e w' ⟨rfl, rfl⟩
        go_wp2_with fail
        refine AD.out.mono ?_
        rintro e w2 ⟨rfl, FF⟩
        have FH : Hid _ := FF
        clear FF
        go_wp2
        go_ret2
        exact ⟨rfl, FH.out⟩
      | true =>
        rw [e] at W1
        have HB : Hid (∀ j, 1 ≤ j → j < k + 1 → oc n K j = true) := fun j h1 h2 => by
          by_cases z : j = k
          · rw [z]; exact e
          · exact hb.out j h1 (by omega)
        clear e hb
        go_wp2_with fail
        refine (W1.out ()).mono ?_
        rintro e w' ⟨rfl, rfl⟩
        go_wp2
        go_roundw
        case rel => exact ⟨trivial, k + 1, by omega, by omega, by go_num, HB⟩
        case measure => simp [intOf]; omega
    · obtain rfl : k = 49 := by omega
      obtain ⟨rfl, rfl, FF⟩ := NO.out hb.out
      have FH : Hid _ := FF
      clear FF
      go_wp2
      go_ret2
      exact ⟨rfl, FH.out⟩

theorem rarm_any {w : World} {r n : Nat} {now : Int} {K : Ks} {F : List Nat} (c d : Int) (h : RX w r n now K F) (a : Al n K) :
    Calls Tryd.prog 32 #[.pointer (some ⟨r, 0, none⟩), .int .i64 c, .int .i64 d] w fun e w' => e = .returned (.tuple #[.int .i64 (arN n K c d), .int .i64 (arE n K c d)]) ∧ ∃ F', RX w' r n now (arL n K c d) F' ∧ Mv w w' F F' := by
  unfold arN arE arL
  by_cases hc : isC n c
  · rw [if_pos hc, if_pos hc, if_pos hc]
    by_cases hd : isT d
    · rw [if_pos hd, if_pos hd, if_pos hd]
      obtain ⟨k, rfl, hk⟩ := core_of hc
      exact rarm_yes k d hk hd h a
    · rw [if_neg hd, if_neg hd, if_neg hd]
      have HR : Hid (∃ F', RX w r n now K F' ∧ Mv w w F F') := ⟨F, h, Mv.refl _ _⟩
      obtain ⟨lb, cap, S, G, b, rfl⟩ := h
      have IS : Hid (∀ _ : Unit, _) := fun _ => is_any c b.c0
      rw [decide_eq_true hc] at IS
      clear b a hc
      unfold isT at hd
      by_cases q : d < 0
      · go_enter Tryd.func32, Tryd.ntmps32
        go_wp2_with fail
        refine (IS.out ()).mono ?_
        rintro e w' ⟨rfl, rfl⟩
        go_wp2
        go_ret2
        exact ⟨rfl, HR.out⟩
      · have q2 : 1152921504606846976 < d := by omega
        go_enter Tryd.func32, Tryd.ntmps32
        go_wp2_with fail
        refine (IS.out ()).mono ?_
        rintro e w' ⟨rfl, rfl⟩
        go_wp2
        go_ret2
        exact ⟨rfl, HR.out⟩
  · rw [if_neg hc, if_neg hc, if_neg hc]
    have HR : Hid (∃ F', RX w r n now K F' ∧ Mv w w F F') := ⟨F, h, Mv.refl _ _⟩
    obtain ⟨lb, cap, S, G, b, rfl⟩ := h
    have IS : Hid (∀ _ : Unit, _) := fun _ => is_any c b.c0
    rw [decide_eq_false hc] at IS
    clear b a hc
    go_enter Tryd.func32, Tryd.ntmps32
    go_wp2_with fail
    refine (IS.out ()).mono ?_
    rintro e w' ⟨rfl, rfl⟩
    go_wp2
    go_ret2
    exact ⟨rfl, HR.out⟩

theorem rtgo_any {w : World} {r n : Nat} {now : Int} {K : Ks} {F : List Nat} (z : Int) (h : RX w r n now K F) :
    Calls Tryd.prog 34 #[.pointer (some ⟨r, 0, none⟩), .int .i64 z] w fun e w' => e = .returned (.int .i64 (goE now z)) ∧ ∃ F', RX w' r n (goN now z) K F' ∧ Mv w w' F F' := by
  obtain ⟨lb, cap, S, G, b, rfl⟩ := h
  have h1 : (1 : Int) ≤ n := by have := b.n1; omega
  have n2 : (n : Int) ≤ 64 := by have := b.n2; omega
  obtain ⟨P, hP⟩ : ∃ P : World → Nat → Prop, ∀ wr k, P wr k = (RB wr r lb cap n (fun c => if c < k then goN now z else now) S K G ∧ Mv w wr (footR r lb n G) (footR r lb n G)) := ⟨_, fun _ _ => rfl⟩
  have P0 : Hid (P w 0) := by
    rw [hP]
    exact ⟨b.ticks fun c _ => if_neg (by omega), Mv.refl _ _⟩
  have PE : Hid (∀ wr, P wr n → ∃ F', RX wr r n (goN now z) K F' ∧ Mv w wr (footR r lb n G) F') := fun wr p => by
    rw [hP] at p
    exact ⟨_, ⟨lb, cap, S, G, p.1.ticks fun c hc => (if_pos hc).symm, rfl⟩, p.2⟩
  have PS : Hid (∀ wr k, k < n → P wr k → wr.cell? ⟨r, 0, none⟩ = some (.slice (some ⟨lb, 0, none⟩) n cap) ∧ wr.cell? ⟨lb, k, none⟩ = some (.pointer (some ⟨S k, 0, none⟩)) ∧ Hid (Calls Tryd.prog 58 #[.pointer (some ⟨S k, 0, none⟩), .int .i64 z] wr fun e w' => e = .returned (.int .i64 (goE now z)) ∧ P w' (k + 1))) := fun wr k hk p => by
    rw [hP] at p
    obtain ⟨p, v⟩ := p
    have q0 := p.ws k hk
    rw [if_neg (Nat.lt_irrefl k)] at q0
    refine ⟨p.c0, p.cw hk, (rgo_any z q0).mono ?_⟩
    rintro e w' ⟨rfl, q, v'⟩
    obtain ⟨b2, v2⟩ := p.wheel hk q v'
    have eG : upd G k (G k) = G := funext fun j => by
      unfold upd
      split
      · rename_i e; rw [e]
      · rfl
    rw [up_id, eG] at b2
    rw [eG] at v2
    refine ⟨rfl, ?_⟩
    rw [hP]
    refine ⟨b2.ticks fun c _ => ?_, v.trans v2⟩
    by_cases e : c = k
    · subst e
      rw [upd_same, if_pos (by omega)]
    · rw [upd_other _ e]
      by_cases e2 : c < k
      · rw [if_pos e2, if_pos (by omega)]
      · rw [if_neg e2, if_neg (by omega)]
  have HC : Hid (∀ wr k, P wr k → wr.cell? ⟨r, 0, none⟩ = some (.slice (some ⟨lb, 0, none⟩) n cap)) := fun wr k p => by
    rw [hP] at p
    exact p.1.c0
  generalize goE now z = ge at *
  obtain ⟨e0, e1, G0⟩ := PS.out w 0 (by omega) P0.out
  clear hP b P0
  go_enter Tryd.func34, Tryd.ntmps34
  go_wp2_with fail
  refine G0.out.mono ?_
  rintro e w1 ⟨rfl, p1⟩
  have HP1 : Hid (P w1 1) := p1
  clear p1
  go_wp2
  go_loopw [6] (fun i wr => ∃ (k : Nat), (1 : Int) ≤ k ∧ (k : Int) ≤ n ∧ i = .int .i64 (k : Int) ∧ P wr k) (fun i _ => n - (intOf i).toNat)
  case atStart => exact ⟨1, by omega, by omega, rfl, HP1.out⟩
  case round =>
    obtain ⟨k, k1, hk, rfl, p⟩ := hrel
    by_cases c : (k : Int) < n
    · obtain ⟨cr, cw, CG⟩ := PS.out wr k (by omega) p
      generalize S k = s at *
      clear p
      go_wp2_with fail
      refine CG.out.mono ?_
      rintro e w' ⟨rfl, p2⟩
      go_wp2
      go_roundw
      case rel => exact ⟨k + 1, by omega, by omega, by go_num, p2⟩
      case measure => simp [intOf]; omega
    · obtain rfl : k = n := by omega
      have e : Hid _ := PE.out wr p
      have cr := HC.out wr _ p
      clear p
      go_wp2
      go_ret
      exact ⟨rfl, e.out⟩

theorem rfire_no {w : World} {r n : Nat} {now : Int} {K : Ks} {F : List Nat} (c : Int) (hc : ¬ isC n c) (h : RX w r n now K F) :
    Calls Tryd.prog 35 #[.pointer (some ⟨r, 0, none⟩), .int .i64 c] w fun e w' => e = .returned (.tuple #[.int .i64 0, .int .i64 3]) ∧ w' = w := by
  obtain ⟨lb, cap, S, G, b, rfl⟩ := h
  have IS : Hid (∀ _ : Unit, _) := fun _ => is_any c b.c0
  rw [decide_eq_false hc] at IS
  clear b hc
  go_enter Tryd.func35, Tryd.ntmps35
  go_wp2_with fail
  refine (IS.out ()).mono ?_
  rintro e w' ⟨rfl, rfl⟩
  go_wp2
  go_ret2
  exact ⟨rfl, rfl⟩

theorem rfire_none {w : World} {r n : Nat} {now : Int} {K : Ks} {F : List Nat} (c : Nat) (hc : c < n) (h : RX w r n now K F) (a : Al n K) (hd : duL now (K c) = []) :
    Calls Tryd.prog 35 #[.pointer (some ⟨r, 0, none⟩), .int .i64 (c : Int)] w fun e w' => e = .returned (.tuple #[.int .i64 0, .int .i64 12]) ∧ ∃ F', RX w' r n now K F' ∧ Mv w w' F F' := by
  have hx := h
  obtain ⟨lb, cap, S, G, b, rfl⟩ := h
  have IS : Hid (∀ _ : Unit, _) := fun _ => is_any (c : Int) b.c0
  rw [decide_eq_true (show isC n (c : Int) from ⟨by omega, by omega⟩)] at IS
  have DU : Hid (∀ _ : Unit, _) := fun _ => rdue_any (b.ws c hc) (Nat.le_trans (a.len hc) (by omega))
  rw [hd] at DU
  have ST : Hid (∀ w', Below w.heap.size w w' → ∃ F', RX w' r n now K F' ∧ Mv w w' (footR r lb n G) F') := fun w' k => ⟨_, hx.below k, Mv.below k _⟩
  have c0 := b.c0
  have cw := b.cw hc
  have hc2 : (c : Int) < n := by omega
  generalize S c = s at *
  clear b a hc hd hx
  go_enter Tryd.func35, Tryd.ntmps35
  go_wp2_with fail
  refine (IS.out ()).mono ?_
  rintro e w' ⟨rfl, rfl⟩
  go_wp2_with fail
  refine (DU.out ()).mono ?_
  rintro e w1 ⟨v, rfl, g⟩
  have FF : Hid _ := ST.out w1 g.bel
  obtain ⟨p, c', rfl⟩ := own_shape g.own
  clear g
  go_wp2
  go_ret2
  exact ⟨rfl, FF.out⟩

set_option maxRecDepth 100000 in
set_option maxHeartbeats 1000000 in
theorem rfire_yes {w : World} {r n : Nat} {now : Int} {K : Ks} {F : List Nat} (c : Nat) (hc : c < n) (h : RX w r n now K F) (a : Al n K) {x : It} {R : List It} (hd : duL now (K c) = x :: R) :
    Calls Tryd.prog 35 #[.pointer (some ⟨r, 0, none⟩), .int .i64 (c : Int)] w fun e w' => e = .returned (.tuple #[.int .i64 x.2, .int .i64 0]) ∧ ∃ F', RX w' r n now (up K c (rid x.2 (K c))) F' ∧ Mv w w' F F' := by
  have hlt : ∀ g ∈ F, g < w.heap.size := fun g hg => h.lt hg
  obtain ⟨lb, cap, S, G, b, rfl⟩ := h
  have IS : Hid (∀ _ : Unit, _) := fun _ => is_any (c : Int) b.c0
  rw [decide_eq_true (show isC n (c : Int) from ⟨by omega, by omega⟩)] at IS
  have DU : Hid (∀ _ : Unit, _) := fun _ => rdue_any (b.ws c hc) (Nat.le_trans (a.len hc) (by omega))
  rw [hd] at DU
  have hm : x ∈ K c := (List.mem_filter.1 (show x ∈ duL now (K c) by rw [hd]; simp)).1
  have hh := has_of hm
  have hpos : 1 ≤ (ids (x :: R)).length := by simp [ids]
  generalize hy : x.2 = y at *
  have hid : ids (x :: R) = y :: ids R := by unfold ids; rw [List.map_cons, hy]
  have CC : Hid (∀ w1 v, Gt w w1 v (ids (x :: R)) → ∃ g cp, v = .slice (some ⟨g, 0, none⟩) (ids (x :: R)).length cp ∧ w1.cell? ⟨g, 0, none⟩ = some (.int .i64 y) ∧ w1.cell? ⟨r, 0, none⟩ = some (.slice (some ⟨lb, 0, none⟩) n cap) ∧ w1.cell? ⟨lb, c, none⟩ = some (.pointer (some ⟨S c, 0, none⟩)) ∧ Hid (∀ u, Sm u w1 → Calls Tryd.prog 57 #[.pointer (some ⟨S c, 0, none⟩), .int .i64 y] u fun e w' => e = .returned (.int .i64 0) ∧ w'.cell? ⟨g, 0, none⟩ = some (.int .i64 y) ∧ w'.cell? ⟨r, 0, none⟩ = some (.slice (some ⟨lb, 0, none⟩) n cap) ∧ w'.cell? ⟨lb, c, none⟩ = some (.pointer (some ⟨S c, 0, none⟩)) ∧ Hid (∀ u', Sm u' w' → ∃ F', RX u' r n now (up K c (rid y (K c))) F' ∧ Mv w u' (footR r lb n G) F'))) := fun w1 v gt => by
    rcases gt.own.2 with ⟨_, hn⟩ | ⟨g, cp, cur, hv, hb, hh2, _⟩
    · omega
    · have cy : w1.cell? ⟨g, 0, none⟩ = some (.int .i64 y) := by
        have := gt.own
        subst hv
        have := this.cellAt 0 (by omega)
        rw [this, hid]
        rfl
      have b1 := b.keep (Fr.of_below gt.bel) (Nat.le_refl _) (by simp)
      refine ⟨g, cp, hv, cy, b1.c0, b1.cw hc, fun u hu => ?_⟩
      have bu : Below w.heap.size w u := hu.below gt.bel
      have b2 := b.keep (Fr.of_below bu) (Nat.le_refl _) (by simp)
      refine (rdrop_any y (b2.ws c hc) (Nat.le_trans (a.len hc) (by omega))).mono ?_
      rintro e w' ⟨rfl, F', q, m⟩
      have hg : g < u.heap.size := by have := lt_of_block hh2; have := hu.1; rw [this]; omega
      obtain ⟨b3, m3⟩ := b2.wheel hc q m
      refine ⟨by rw [show dpE (K c) y = 0 from if_pos hh], ?_, b3.c0, b3.cw hc, fun u' hu' => ⟨_, (b3.keep (Fr.of_below (hu'.below (Below.refl w'.heap.size w'))) (Nat.le_refl _) (by simp)).rx, ?_⟩⟩
      · rw [m3.fr.cell (p := ⟨g, 0, none⟩) hg (fun hm => by have := hlt g hm; omega)]
        unfold World.cell? at cy ⊢
        rw [hu.1]
        exact cy
      · exact ((Mv.below bu _).trans m3).trans (Mv.below (hu'.below (Below.refl _ _)) _)
  generalize (ids (x :: R)) = D at *
  generalize D.length = ln at *
  have c0 := b.c0
  have cw := b.cw hc
  have hc2 : (c : Int) < n := by omega
  have hc3 : c < n := hc
  have hp1 : 0 < ln := by omega
  have hp2 : ¬ ln = 0 := by omega
  have hp3 : ((ln : Int) == 0) = false := by simpa using hp2
  generalize S c = s at *
  clear b a hc hd hm hh hid hlt hy hpos
  go_enter Tryd.func35, Tryd.ntmps35
  go_wp2_with fail
  refine (IS.out ()).mono ?_
  rintro e w' ⟨rfl, rfl⟩
  go_wp2_with fail
  refine (DU.out ()).mono ?_
  rintro e w1 ⟨v, rfl, gt⟩
  obtain ⟨g, cp, rfl, cy, d0, dw, CA⟩ := CC.out w1 v gt
  clear gt CC DU c0 cw
  go_wp2
  go_region_held3 (fun w' => w'.cell? ⟨g, 0, none⟩ = some (.int .i64 y) ∧ w'.cell? ⟨r, 0, none⟩ = some (.slice (some ⟨lb, 0, none⟩) n cap) ∧ w'.cell? ⟨lb, c, none⟩ = some (.pointer (some ⟨s, 0, none⟩))) (go_keep)
    (first | (go_at_call 57; refine (CA.out _ ?_).mono ?_; exact ⟨rfl, rfl, rfl, rfl⟩; rintro e w2 ⟨rfl, k1, k2, k3, FF⟩))
  all_goals (go_wp2; go_ret2; exact ⟨rfl, FF.out _ ⟨rfl, rfl, rfl, rfl⟩⟩)

theorem rfire_any {w : World} {r n : Nat} {now : Int} {K : Ks} {F : List Nat} (c : Int) (h : RX w r n now K F) (a : Al n K) :
    Calls Tryd.prog 35 #[.pointer (some ⟨r, 0, none⟩), .int .i64 c] w fun e w' => e = .returned (.tuple #[.int .i64 (fxN n now K c), .int .i64 (fxE n now K c)]) ∧ ∃ F', RX w' r n now (fxK n now K c) F' ∧ Mv w w' F F' := by
  unfold fxN fxE fxK
  by_cases hc : isC n c
  · rw [if_pos hc, if_pos hc, if_pos hc]
    obtain ⟨k, rfl, hk⟩ := core_of hc
    rw [Int.toNat_natCast]
    unfold fiN fiE fiK
    cases hd : duL now (K k) with
    | nil => exact rfire_none k hk h a hd
    | cons x R => exact rfire_yes k hk h a hd
  · rw [if_neg hc, if_neg hc, if_neg hc]
    refine (rfire_no c hc h).mono ?_
    rintro e w' ⟨rfl, rfl⟩
    exact ⟨rfl, F, h, Mv.refl _ _⟩
end Go.Proofs.YtadaghhgmflfdaaDoor
