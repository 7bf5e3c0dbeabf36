/- What the document's Move of timers answers and leaves. -/
import Derived.Test.YtadaghhgmflfdaaDoorRows
import Derived.Test.YtadaghhgmflfdaaDoorZq
import Derived.WalkKit
import Derived.ProofKit
import Derived.OpenShut
import Derived.BigQuiet
import Derived.Deep.RegionHeld3
namespace Go.Proofs.YtadaghhgmflfdaaDoor
open Go.ChangeShapes Go.WideShapes Go.ChangeAt Go.RowKit
open Wm Zm Sl

theorem rmove_range {w : World} {r n : Nat} {now : Int} {K : Ks} {F : List Nat} (c d : Int) (hc : ¬ (isC n c ∧ isC n d)) (h : RX w r n now K F) :
    Calls Tryd.prog 36 #[.pointer (some ⟨r, 0, none⟩), .int .i64 c, .int .i64 d] w fun e w' => e = .returned (.tuple #[.int .i64 0, .int .i64 3]) ∧ w' = w := by
  obtain ⟨lb, cap, S, G, b, rfl⟩ := h
  have I1 : Hid (∀ _ : Unit, _) := fun _ => is_any c b.c0
  by_cases h1 : isC n c
  · have I2 : Hid (∀ _ : Unit, _) := fun _ => is_any d b.c0
    rw [decide_eq_true h1] at I1
    rw [decide_eq_false (fun q => hc ⟨h1, q⟩)] at I2
    clear b hc h1
    go_enter Tryd.func36, Tryd.ntmps36
    go_wp2_with fail
    refine (I1.out ()).mono ?_
    rintro e w' ⟨rfl, rfl⟩
    go_wp2_with fail
    refine (I2.out ()).mono ?_
    rintro e w' ⟨rfl, rfl⟩
    go_wp2
    go_ret2
    exact ⟨rfl, rfl⟩
  · rw [decide_eq_false h1] at I1
    clear b hc h1
    go_enter Tryd.func36, Tryd.ntmps36
    go_wp2_with fail
    refine (I1.out ()).mono ?_
    rintro e w' ⟨rfl, rfl⟩
    go_wp2
    go_ret2
    exact ⟨rfl, rfl⟩

theorem rmove_arg {w : World} {r n : Nat} {now : Int} {K : Ks} {F : List Nat} (k : Nat) (hk : k < n) (h : RX w r n now K F) :
    Calls Tryd.prog 36 #[.pointer (some ⟨r, 0, none⟩), .int .i64 (k : Int), .int .i64 (k : Int)] w fun e w' => e = .returned (.tuple #[.int .i64 0, .int .i64 2]) ∧ w' = w := by
  obtain ⟨lb, cap, S, G, b, rfl⟩ := h
  have I1 : Hid (∀ _ : Unit, _) := fun _ => is_any (k : Int) b.c0
  rw [decide_eq_true (show isC n (k : Int) from ⟨by omega, by omega⟩)] at I1
  clear b hk
  go_enter Tryd.func36, Tryd.ntmps36
  go_wp2_with fail
  refine (I1.out ()).mono ?_
  rintro e w' ⟨rfl, rfl⟩
  go_wp2_with fail
  refine (I1.out ()).mono ?_
  rintro e w' ⟨rfl, rfl⟩
  go_wp2
  go_ret2
  exact ⟨rfl, rfl⟩

theorem rmove_none {w : World} {r n : Nat} {now : Int} {K : Ks} {F : List Nat} (k j : Nat) (hk : k < n) (hj : j < n) (hn : k ≠ j) (h : RX w r n now K F) (hd : K k = []) :
    Calls Tryd.prog 36 #[.pointer (some ⟨r, 0, none⟩), .int .i64 (k : Int), .int .i64 (j : Int)] w fun e w' => e = .returned (.tuple #[.int .i64 0, .int .i64 12]) ∧ w' = w := by
  obtain ⟨lb, cap, S, G, b, rfl⟩ := h
  have I1 : Hid (∀ _ : Unit, _) := fun _ => is_any (k : Int) b.c0
  rw [decide_eq_true (show isC n (k : Int) from ⟨by omega, by omega⟩)] at I1
  have I2 : Hid (∀ _ : Unit, _) := fun _ => is_any (j : Int) b.c0
  rw [decide_eq_true (show isC n (j : Int) from ⟨by omega, by omega⟩)] at I2
  have c0 := b.c0
  have cw := b.cw hk
  obtain ⟨a, cp, cl⟩ := rlist_cell (b.ws k hk)
  rw [hd, List.length_nil] at cl
  have hk2 : (k : Int) < n := by omega
  have ne : ((k : Int) == (j : Int)) = false := by simp; omega
  generalize S k = s at *
  clear b hk hj hd hn
  go_enter Tryd.func36, Tryd.ntmps36
  go_wp2_with fail
  refine (I1.out ()).mono ?_
  rintro e w' ⟨rfl, rfl⟩
  go_wp2_with fail
  refine (I2.out ()).mono ?_
  rintro e w' ⟨rfl, rfl⟩
  go_wp2
  go_ret2
  exact ⟨rfl, rfl⟩

set_option maxRecDepth 100000 in
set_option maxHeartbeats 2000000 in
theorem rmove_yes {w : World} {r n : Nat} {now : Int} {K : Ks} {F : List Nat} (k j : Nat) (hk : k < n) (hj : j < n) (hn : k ≠ j) (h : RX w r n now K F) (a : Al n K) (hT : ∀ x ∈ K k, isT x.1) {x : It} {R : List It} (hd : K k = x :: R) :
    Calls Tryd.prog 36 #[.pointer (some ⟨r, 0, none⟩), .int .i64 (k : Int), .int .i64 (j : Int)] w fun e w' => e = .returned (.tuple #[.int .i64 x.2, .int .i64 0]) ∧ ∃ F', RX w' r n now (mvK K k j x) F' ∧ Mv w w' F F' := by
  have hlt : ∀ g ∈ F, g < w.heap.size := fun g hg => h.lt hg
  obtain ⟨lb, cap, S, G, b, rfl⟩ := h
  have I1 : Hid (∀ _ : Unit, _) := fun _ => is_any (k : Int) b.c0
  rw [decide_eq_true (show isC n (k : Int) from ⟨by omega, by omega⟩)] at I1
  have I2 : Hid (∀ _ : Unit, _) := fun _ => is_any (j : Int) b.c0
  rw [decide_eq_true (show isC n (j : Int) from ⟨by omega, by omega⟩)] at I2
  have hx : x ∈ K k := by rw [hd]; simp
  have hT1 := hT x hx
  have hno : has (K j) x.2 = false := by
    cases e : has (K j) x.2 with
    | false => rfl
    | true => exact absurd (a.one k j hk hj x.2 (has_of hx) e) hn
  have no : ¬ (wn (K j) x.2).isSome = true := by rw [show (wn (K j) x.2).isSome = false from hno]; decide
  obtain ⟨v, dv, hG⟩ := b.ws k hk
  obtain ⟨al, cp, rfl⟩ := dv.own.shape
  have cl : w.cell? ⟨S k, 1, none⟩ = some (.slice al (K k).length cp) := dv.st.cell 1
  have hlen := a.len hk
  have hpos : 0 < (K k).length := by rw [hd]; simp
  obtain ⟨g, x', rfl, hx', ci, cd⟩ := dv.at (i := 0) hpos
  have ex : x' = x := by rw [hd] at hx'; simpa using hx'.symm
  subst ex
  simp only [Nat.zero_mul, Nat.zero_add] at ci cd
  have X0 : Blk (w.alloc (.cells #[.int .i64 x'.2, .int .i64 x'.1] 93)) w.heap.size [.int .i64 x'.2, .int .i64 x'.1] 93 := Blk.new w _ _
  have B1 : Below w.heap.size w (w.alloc (.cells #[.int .i64 x'.2, .int .i64 x'.1] 93)) := (Below.refl _ _).alloc (Nat.le_refl _) _
  have hz1 : (w.alloc (.cells #[.int .i64 x'.2, .int .i64 x'.1] 93)).heap.size = w.heap.size + 1 := by simp
  have CC : Hid (∀ w1, w1 = w.alloc (.cells #[.int .i64 x'.2, .int .i64 x'.1] 93) → w1.cell? ⟨w.heap.size, 0, none⟩ = some (.int .i64 x'.2) ∧ w1.cell? ⟨r, 0, none⟩ = some (.slice (some ⟨lb, 0, none⟩) n cap) ∧ w1.cell? ⟨lb, k, none⟩ = some (.pointer (some ⟨S k, 0, none⟩)) ∧
      Hid (∀ u, Sm u w1 → Calls Tryd.prog 57 #[.pointer (some ⟨S k, 0, none⟩), .int .i64 x'.2] u fun e w2 => e = .returned (.int .i64 0) ∧ w2.cell? ⟨w.heap.size, 0, none⟩ = some (.int .i64 x'.2) ∧ w2.cell? ⟨w.heap.size, 1, none⟩ = some (.int .i64 x'.1) ∧ w2.cell? ⟨r, 0, none⟩ = some (.slice (some ⟨lb, 0, none⟩) n cap) ∧ w2.cell? ⟨lb, k, none⟩ = some (.pointer (some ⟨S k, 0, none⟩)) ∧ w2.cell? ⟨lb, j, none⟩ = some (.pointer (some ⟨S j, 0, none⟩)) ∧
        Hid (∀ u2, Sm u2 w2 → Calls Tryd.prog 56 #[.pointer (some ⟨S j, 0, none⟩), .int .i64 x'.2, .int .i64 x'.1] u2 fun e w3 => e = .returned (.int .i64 0) ∧ w3.cell? ⟨w.heap.size, 0, none⟩ = some (.int .i64 x'.2) ∧ w3.cell? ⟨w.heap.size, 1, none⟩ = some (.int .i64 x'.1) ∧ w3.cell? ⟨r, 0, none⟩ = some (.slice (some ⟨lb, 0, none⟩) n cap) ∧ w3.cell? ⟨lb, j, none⟩ = some (.pointer (some ⟨S j, 0, none⟩)) ∧
          Hid (∀ u', Sm u' w3 → ∃ F', RX u' r n now (mvK K k j x') F' ∧ Mv w u' (footR r lb n G) F')))) := fun w1 e1 => by
    rw [← e1] at X0 B1 hz1
    have b1 := b.keep (Fr.of_below B1) (Nat.le_refl _) (by simp)
    refine ⟨X0.cell 0, b1.c0, b1.cw hk, fun u hu => ?_⟩
    have bu : Below w.heap.size w u := hu.below B1
    have b2 := b.keep (Fr.of_below bu) (Nat.le_refl _) (by simp)
    have X1 : Blk u w.heap.size [.int .i64 x'.2, .int .i64 x'.1] 93 := X0.heap hu.1
    have hzu : u.heap.size = w.heap.size + 1 := by rw [hu.1]; exact hz1
    refine (rdrop_any x'.2 (b2.ws k hk) (Nat.le_trans (a.len hk) (by omega))).mono ?_
    rintro e w2 ⟨rfl, F2, q2, m2⟩
    obtain ⟨b3, m3⟩ := b2.wheel hk q2 m2
    have X2 : Blk w2 w.heap.size [.int .i64 x'.2, .int .i64 x'.1] 93 := X1.keep m3.fr (by omega) (fun hm => by have := hlt _ hm; omega)
    refine ⟨by rw [show dpE (K k) x'.2 = 0 from if_pos (has_of hx)], X2.cell 0, X2.cell 1, b3.c0, b3.cw hk, b3.cw hj, fun u2 hu2 => ?_⟩
    have bu2 : Below w2.heap.size w2 u2 := hu2.below (Below.refl _ _)
    have b4 := b3.keep (Fr.of_below bu2) (Nat.le_refl _) (by simp)
    have X3 : Blk u2 w.heap.size [.int .i64 x'.2, .int .i64 x'.1] 93 := X2.heap hu2.1
    have q4 := b4.ws j hj
    rw [upd_id, up_other _ (fun e => hn e.symm)] at q4
    refine (radd_any x'.2 x'.1 q4 (Nat.le_trans (a.len hj) (by omega))).mono ?_
    rintro e w3 ⟨rfl, F5, q5, m5⟩
    unfold adL at q5
    rw [if_pos hT1, if_neg no] at q5
    obtain ⟨b5, m6⟩ := b4.wheel hj q5 m5
    have X4 : Blk w3 w.heap.size [.int .i64 x'.2, .int .i64 x'.1] 93 := X3.keep m6.fr X3.lt (fun hm => by
      rcases m3.sub _ hm with q | q
      · have := hlt _ q; omega
      · omega)
    refine ⟨by unfold adE; rw [if_pos hT1, if_neg no], X4.cell 0, X4.cell 1, b5.c0, b5.cw hj, fun u' hu' => ⟨_, ?_, ((((Mv.below bu _).trans m3).trans (Mv.below bu2 _)).trans m6).trans (Mv.below (hu'.below (Below.refl _ _)) _)⟩⟩
    have b6 := b5.keep (Fr.of_below (hu'.below (Below.refl w3.heap.size w3))) (Nat.le_refl _) (by simp)
    have eK : up (up K k (rid x'.2 (K k))) j (ins x' (K j)) = mvK K k j x' := by
      rw [← mv_swap K hn x', up_other _ (fun e => hn e.symm)]
    rw [upd_id, upd_id] at b6
    rw [show ((x'.1, x'.2) : It) = x' from rfl, eK] at b6
    exact ⟨lb, cap, S, _, b6, rfl⟩
  have c0 := b.c0
  have cw := b.cw hk
  have hk2 : (k : Int) < n := by omega
  have hj2 : (j : Int) < n := by omega
  have ne : ((k : Int) == (j : Int)) = false := by simp; omega
  generalize (K k).length = ln at *
  have hp2 : ¬ ln = 0 := by omega
  have hp3 : ((ln : Int) == 0) = false := by simpa using hp2
  generalize S k = s at *
  generalize S j = s2 at *
  generalize hy : x'.2 = y at *
  generalize hy1 : x'.1 = y1 at *
  generalize hX : w.heap.size = X at *
  clear b a hd hx hT hT1 hno no dv hG hlt hx' X0 B1 hz1 hn hlen hy hy1
  go_enter Tryd.func36, Tryd.ntmps36
  go_wp2_with fail
  refine (I1.out ()).mono ?_
  rintro e w' ⟨rfl, rfl⟩
  go_wp2_with fail
  refine (I2.out ()).mono ?_
  rintro e w' ⟨rfl, rfl⟩
  obtain ⟨k0, k1, k2, DR⟩ := CC.out _ rfl
  go_wp2
  try rw [hX]
  go_region_held3 (fun w' => w'.cell? ⟨X, 0, none⟩ = some (.int .i64 y) ∧ w'.cell? ⟨r, 0, none⟩ = some (.slice (some ⟨lb, 0, none⟩) n cap) ∧ w'.cell? ⟨lb, k, none⟩ = some (.pointer (some ⟨s, 0, none⟩))) (go_keep)
    (first | (go_at_call 57; refine (DR.out _ ?_).mono ?_; exact ⟨rfl, rfl, rfl, rfl⟩; rintro e w2 ⟨rfl, d1, d2, d3, d4, d5, AD⟩))
  go_wp2
  go_region_held3 (fun w' => w'.cell? ⟨X, 0, none⟩ = some (.int .i64 y) ∧ w'.cell? ⟨X, 1, none⟩ = some (.int .i64 y1) ∧ w'.cell? ⟨r, 0, none⟩ = some (.slice (some ⟨lb, 0, none⟩) n cap) ∧ w'.cell? ⟨lb, j, none⟩ = some (.pointer (some ⟨s2, 0, none⟩))) (go_keep)
    (first | (go_at_call 56; refine (AD.out _ ?_).mono ?_; exact ⟨rfl, rfl, rfl, rfl⟩; rintro e w3 ⟨rfl, f1, f2, f3, f4, FF⟩))
  all_goals (go_wp2; go_ret2; exact ⟨rfl, FF.out _ ⟨rfl, rfl, rfl, rfl⟩⟩)
end Go.Proofs.YtadaghhgmflfdaaDoor
