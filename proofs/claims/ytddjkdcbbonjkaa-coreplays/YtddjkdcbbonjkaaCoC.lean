/- What the calls of a table of cores answer and leave: Power, Rest, Wake, Count, Take, Get; of one that is not there, too. -/
import Derived.Test.YtddjkdcbbonjkaaRows
import Derived.Test.YtddjkdcbbonjkaaCoB
import Derived.WalkKit
import Derived.ProofKit
import Derived.OpenShut
import Derived.BigQuiet
import Derived.Laws.ResultCell
import Derived.Shelf.RegionOpenPlain
namespace Go.Proofs.Ytddjkdcbbonjkaa
open Go.ChangeShapes Go.WideShapes Go.ChangeAt Go.RowKit
open Co

section
variable {w w1 : World} {s g k : Nat} {Y : List Kc} {x1 : Kc}
theorem CT.set2 (h : CT w s g (Y.set k x1)) (hk : k < Y.length) (j : Nat) (hj : j < 6) (x : Kc) (v : Value) (e : ck.f x = (ck.f x1).set j v) (o : 0 ≤ x.since ∧ x.since ≤ 1152921504606846976) : CT (w.setCell ⟨g, k * 6 + j, none⟩ v) s g (Y.set k x) := by
  have q := h.set (k := k) (by simpa using hk) j hj x v (by rw [show (Y.set k x1).getD k kz = x1 by simp [List.getD, hk]]; exact e) o
  rwa [List.set_set] at q
theorem CT.same (_ : CT w s g Y) (hk : k < Y.length) : Y.set k (Y.getD k kz) = Y := by
  apply List.ext_getElem? 
  intro i
  rw [List.getElem?_set]
  split
  · rename_i e
    subst e
    simp [List.getD, hk]
  · rfl
end
theorem Fr.st {B : Nat} {S : List Nat} {a w : World} (h : Fr B S a w) (g i : Nat) (u : Value) (hg : g ∈ S) : Fr B S a (w.setCell ⟨g, i, none⟩ u) := h.setCell (p := ⟨g, i, none⟩) (Or.inr hg) u
theorem fr_set {w : World} {g : Nat} (i : Nat) (u : Value) : Fr w.heap.size [g] w (w.setCell ⟨g, i, none⟩ u) := (Fr.refl _ _ _).setCell (Or.inr (by simp)) u
theorem fr_any {w w' : World} {g : Nat} (h : Below w.heap.size w w') : Fr w.heap.size [g] w w' := (Fr.of_below h).mono (Nat.le_refl _) (fun _ _ _ => by simp)

theorem wc_b2 (w : World) (n : Nat) (u v : Value) : Below w.heap.size w ((((wc w).drewN n).setCell ⟨w.heap.size, 5, none⟩ u).setCell ⟨w.heap.size, 4, none⟩ v) := by
  have a : Below w.heap.size w ((wc w).drewN n) := Sm.below (w1 := wc w) ⟨rfl, rfl, rfl, rfl⟩ (wc_below w)
  have b : Below w.heap.size w (((wc w).drewN n).setCell ⟨w.heap.size, 5, none⟩ u) := a.setCell (Nat.le_refl _) u
  exact b.setCell (Nat.le_refl _) v
theorem up_any (w : World) (g o : Nat) {v1 v2 v3 : Value} (c1 : w.cell? ⟨g, o + 1, none⟩ = some v1) (c2 : w.cell? ⟨g, o + 2, none⟩ = some v2) (c3 : w.cell? ⟨g, o + 3, none⟩ = some v3) (f1 : w.frozen? ⟨g, o + 1, none⟩ = false) (f2 : w.frozen? ⟨g, o + 2, none⟩ = false) (f3 : w.frozen? ⟨g, o + 3, none⟩ = false) :
    Calls Try.prog 29 #[.pointer (some ⟨g, o, none⟩)] w fun e w' => e = .returned (.tuple #[]) ∧ w' = ((w.setCell ⟨g, o + 1, none⟩ (.bool false)).setCell ⟨g, o + 2, none⟩ (.int .i64 0)).setCell ⟨g, o + 3, none⟩ (.int .i64 0) := by
  go_enter Try.func29, Try.ntmps29
  go_wp2
  go_end0
  exact ⟨rfl, rfl⟩
theorem istick_any (n : Int) (w : World) : Calls Try.prog 30 #[.int .i64 n] w fun e w' => e = .returned (.bool (isT n)) ∧ w' = w := by
  unfold isT
  by_cases h1 : 0 ≤ n
  · by_cases h2 : n ≤ 1152921504606846976
    · rw [decide_eq_true h1, decide_eq_true h2]
      go_enter Try.func30, Try.ntmps30
      go_wp2
      go_ret
      exact ⟨rfl, rfl⟩
    · rw [decide_eq_true h1, decide_eq_false h2]
      go_enter Try.func30, Try.ntmps30
      go_wp2
      go_ret
      exact ⟨rfl, rfl⟩
  · rw [decide_eq_false h1, Bool.false_and]
    go_enter Try.func30, Try.ntmps30
    go_wp2
    go_ret
    exact ⟨rfl, rfl⟩
theorem cpower_nil (w : World) (c : Int) (on : Bool) :
    Calls Try.prog 14 #[.pointer none, .int .i64 c, .bool on] w fun e w' => e = .returned (.int .i64 1) ∧ Below w.heap.size w w' := by
  have C : Hid (∀ _ : Unit, _) := fun _ => cof_nil w c
  have HB : Hid (Below w.heap.size w (wc w)) := wc_below w
  go_enter Try.func14, Try.ntmps14
  go_wp2_with fail
  refine (C.out ()).mono ?_
  rintro e w' ⟨rfl, rfl⟩
  go_wp2
  go_ret
  exact ⟨rfl, HB.out⟩
theorem crest_nil (w : World) (c y t : Int) :
    Calls Try.prog 16 #[.pointer none, .int .i64 c, .int .i64 y, .int .i64 t] w fun e w' => e = .returned (.int .i64 1) ∧ Below w.heap.size w w' := by
  have C : Hid (∀ _ : Unit, _) := fun _ => cof_nil w c
  have HB : Hid (Below w.heap.size w (wc w)) := wc_below w
  go_enter Try.func16, Try.ntmps16
  go_wp2_with fail
  refine (C.out ()).mono ?_
  rintro e w' ⟨rfl, rfl⟩
  go_wp2
  go_ret
  exact ⟨rfl, HB.out⟩
theorem cwake_nil (w : World) (c t : Int) :
    Calls Try.prog 18 #[.pointer none, .int .i64 c, .int .i64 t] w fun e w' => e = .returned (.tuple #[.int .i64 0, .int .i64 1]) ∧ Below w.heap.size w w' := by
  have C : Hid (∀ _ : Unit, _) := fun _ => cof_nil w c
  have HB : Hid (Below w.heap.size w (wc w)) := wc_below w
  go_enter Try.func18, Try.ntmps18
  go_wp2_with fail
  refine (C.out ()).mono ?_
  rintro e w' ⟨rfl, rfl⟩
  go_wp2
  go_ret2
  exact ⟨rfl, HB.out⟩
theorem ccount_nil (w : World) (c : Int) (b : Bool) :
    Calls Try.prog 20 #[.pointer none, .int .i64 c, .bool b] w fun e w' => e = .returned (.int .i64 1) ∧ Below w.heap.size w w' := by
  have C : Hid (∀ _ : Unit, _) := fun _ => cof_nil w c
  have HB : Hid (Below w.heap.size w (wc w)) := wc_below w
  go_enter Try.func20, Try.ntmps20
  go_wp2_with fail
  refine (C.out ()).mono ?_
  rintro e w' ⟨rfl, rfl⟩
  go_wp2
  go_ret
  exact ⟨rfl, HB.out⟩
theorem ctake_nil (w : World) (c : Int) :
    Calls Try.prog 22 #[.pointer none, .int .i64 c] w fun e w' => e = .returned (.tuple #[.int .i64 0, .int .i64 0, .int .i64 1]) ∧ Below w.heap.size w w' := by
  have C : Hid (∀ _ : Unit, _) := fun _ => cof_nil w c
  have HB : Hid (Below w.heap.size w (wc w)) := wc_below w
  have k4 : (wc w).cell? ⟨w.heap.size, 4, none⟩ = some (.int .i64 0) := (wc_blk w).cell 4
  have k5 : (wc w).cell? ⟨w.heap.size, 5, none⟩ = some (.int .i64 0) := (wc_blk w).cell 5
  have f4 := (wc_blk w).free 4
  have f5 := (wc_blk w).free 5
  have HB2 : Hid (∀ n u v, Below w.heap.size w ((((wc w).drewN n).setCell ⟨w.heap.size, 5, none⟩ u).setCell ⟨w.heap.size, 4, none⟩ v)) := wc_b2 w
  generalize wc w = wn at *
  go_enter Try.func22, Try.ntmps22
  go_wp2_with fail
  refine (C.out ()).mono ?_
  rintro e w' ⟨rfl, rfl⟩
  go_wp2
  go_quiet (fail)
  go_wp2
  go_ret3
  exact ⟨rfl, HB2.out _ _ _⟩

/-- The cells of one core. -/
theorem CT.six {w : World} {s g k : Nat} {Y : List Kc} (h : CT w s g Y) (hk : k < Y.length) {x : Kc} (e : Y.getD k kz = x) :
    w.cell? ⟨g, k * 6, none⟩ = some (.bool x.p) ∧ w.cell? ⟨g, k * 6 + 1, none⟩ = some (.bool x.i) ∧ w.cell? ⟨g, k * 6 + 2, none⟩ = some (.int .i64 x.way) ∧ w.cell? ⟨g, k * 6 + 3, none⟩ = some (.int .i64 x.since) ∧ w.cell? ⟨g, k * 6 + 4, none⟩ = some (.int .i64 x.steps) ∧ w.cell? ⟨g, k * 6 + 5, none⟩ = some (.int .i64 x.busy) := by
  subst e
  exact ⟨h.cell hk 0 (by omega), h.cell hk 1 (by omega), h.cell hk 2 (by omega), h.cell hk 3 (by omega), h.cell hk 4 (by omega), h.cell hk 5 (by omega)⟩

set_option maxRecDepth 100000 in
set_option maxHeartbeats 1000000 in
theorem cpower_any {s g : Nat} {Y : List Kc} (w : World) (c : Int) (on : Bool) (h : CT w s g Y) :
    Calls Try.prog 14 #[.pointer (some ⟨s, 0, none⟩), .int .i64 c, .bool on] w fun e w' => e = .returned (.int .i64 (pwE Y c on)) ∧ CT w' s g (pwY Y c on) ∧ Fr w.heap.size [g] w w' := by
  have H : Hid (CT w s g Y) := h
  cases e : isk Y.length c with
  | false =>
    have C : Hid (∀ _ : Unit, _) := fun _ => cof_no w s g c Y h e
    have HB : Hid (CT (wc w) s g Y ∧ Fr w.heap.size [g] w (wc w)) := ⟨h.below (wc_below w), fr_any (wc_below w)⟩
    rw [show pwE Y c on = 3 by unfold pwE; rw [e]; rfl, show pwY Y c on = Y by unfold pwY pwE; rw [e]; rfl]
    clear h e
    go_enter Try.func14, Try.ntmps14
    go_wp2_with fail
    refine (C.out ()).mono ?_
    rintro e w' ⟨rfl, rfl⟩
    go_wp2
    go_ret
    exact ⟨rfl, HB.out⟩
  | true =>
    obtain ⟨k, rfl, hk⟩ := isk_yes e
    have C : Hid (∀ _ : Unit, _) := fun _ => cof_yes w s g k Y h hk
    obtain ⟨x, hx⟩ : ∃ x, Y.getD k kz = x := ⟨_, rfl⟩
    have hg : gt Y (k : Int) = x := (gt_nat hk).trans hx
    have hs := h.same hk
    rw [hx] at hs
    have ok : 0 ≤ x.since ∧ x.since ≤ 1152921504606846976 := by rw [← hg]; exact okY_get h.ok _
    obtain ⟨c0, c1, c2, c3, c4, c5⟩ := h.six hk hx
    have f0 := h.gb.free (k * 6)
    have f1 := h.gb.free (k * 6 + 1)
    have f2 := h.gb.free (k * 6 + 2)
    have f3 := h.gb.free (k * 6 + 3)
    have f4 := h.gb.free (k * 6 + 4)
    have f5 := h.gb.free (k * 6 + 5)
    have HT : Hid (CT w s g (Y.set k x)) := by unfold Hid; rw [hs]; exact h
    obtain ⟨p, i, y0, sn, st, bs⟩ := x
    dsimp only at *
    by_cases q : p = on
    · rw [show pwE Y (k : Int) on = 6 by unfold pwE; rw [e, hg]; exact if_pos q, show pwY Y (k : Int) on = Y by unfold pwY pwE; rw [e, hg]; simp [q]]
      subst q
      have q2 : (p == p) = true := by simp
      clear h e hg hs HT hx
      go_enter Try.func14, Try.ntmps14
      go_wp2_with fail
      refine (C.out ()).mono ?_
      rintro e w' ⟨rfl, rfl⟩
      go_wp2
      go_ret
      exact ⟨rfl, H.out, Fr.refl _ _ _⟩
    · rw [show pwE Y (k : Int) on = 0 by unfold pwE; rw [e, hg]; exact if_neg q, show pwY Y (k : Int) on = Y.set k ⟨on, false, 0, 0, st, bs⟩ by unfold pwY pwE; rw [e, hg]; simp [q]]
      have q2 : (p == on) = false := by simpa using q
      have t1 := HT.out.set2 hk 0 (by omega) ⟨on, i, y0, sn, st, bs⟩ (.bool on) rfl ok
      have U : Hid (∀ _ : Unit, _) := fun _ => up_any (w.setCell ⟨g, k * 6, none⟩ (.bool on)) g (k * 6) (h.gb.set (k * 6) (.bool on) |>.cell (k * 6 + 1) |>.trans (by rw [List.getElem?_set_ne (by omega), ← h.gb.cell]; exact c1)) (h.gb.set (k * 6) (.bool on) |>.cell (k * 6 + 2) |>.trans (by rw [List.getElem?_set_ne (by omega), ← h.gb.cell]; exact c2)) (h.gb.set (k * 6) (.bool on) |>.cell (k * 6 + 3) |>.trans (by rw [List.getElem?_set_ne (by omega), ← h.gb.cell]; exact c3)) ((h.gb.set (k * 6) (.bool on)).free _) ((h.gb.set (k * 6) (.bool on)).free _) ((h.gb.set (k * 6) (.bool on)).free _)
      have t2 := t1.set2 hk 1 (by omega) ⟨on, false, y0, sn, st, bs⟩ (.bool false) rfl ok
      have t3 := t2.set2 hk 2 (by omega) ⟨on, false, 0, sn, st, bs⟩ (.int .i64 0) rfl ok
      have t4 := t3.set2 hk 3 (by omega) ⟨on, false, 0, 0, st, bs⟩ (.int .i64 0) rfl ⟨Int.le_refl 0, by show (0 : Int) ≤ _; omega⟩
      have HR : Hid (CT _ s g (Y.set k ⟨on, false, 0, 0, st, bs⟩) ∧ Fr w.heap.size [g] w _) := ⟨t4, (((((Fr.refl _ _ _).st g (k * 6) (.bool on) (by simp)).st g (k * 6 + 1) (.bool false) (by simp)).st g (k * 6 + 2) (.int .i64 0) (by simp)).st g (k * 6 + 3) (.int .i64 0) (by simp))⟩
      clear h e hg hs HT hx t1 t2 t3 t4
      go_enter Try.func14, Try.ntmps14
      go_wp2_with fail
      refine (C.out ()).mono ?_
      rintro e w' ⟨rfl, rfl⟩
      go_wp2_with fail
      refine (U.out ()).mono ?_
      rintro e w' ⟨rfl, rfl⟩
      go_wp2
      go_ret
      exact ⟨rfl, HR.out⟩

set_option maxRecDepth 100000 in
set_option maxHeartbeats 1000000 in
theorem crest_any {s g : Nat} {Y : List Kc} (w : World) (c y t : Int) (h : CT w s g Y) :
    Calls Try.prog 16 #[.pointer (some ⟨s, 0, none⟩), .int .i64 c, .int .i64 y, .int .i64 t] w fun e w' => e = .returned (.int .i64 (rsE Y c y t)) ∧ CT w' s g (rsY Y c y t) ∧ Fr w.heap.size [g] w w' := by
  have H : Hid (CT w s g Y) := h
  cases e : isk Y.length c with
  | false =>
    have C : Hid (∀ _ : Unit, _) := fun _ => cof_no w s g c Y h e
    have HB : Hid (CT (wc w) s g Y ∧ Fr w.heap.size [g] w (wc w)) := ⟨h.below (wc_below w), fr_any (wc_below w)⟩
    rw [show rsE Y c y t = 3 by unfold rsE; rw [e]; rfl, show rsY Y c y t = Y by unfold rsY rsE; rw [e]; rfl]
    clear h e
    go_enter Try.func16, Try.ntmps16
    go_wp2_with fail
    refine (C.out ()).mono ?_
    rintro e w' ⟨rfl, rfl⟩
    go_wp2
    go_ret
    exact ⟨rfl, HB.out⟩
  | true =>
    obtain ⟨k, rfl, hk⟩ := isk_yes e
    have C : Hid (∀ _ : Unit, _) := fun _ => cof_yes w s g k Y h hk
    obtain ⟨x, hx⟩ : ∃ x, Y.getD k kz = x := ⟨_, rfl⟩
    have hg : gt Y (k : Int) = x := (gt_nat hk).trans hx
    have hs := h.same hk
    rw [hx] at hs
    have ok : 0 ≤ x.since ∧ x.since ≤ 1152921504606846976 := by rw [← hg]; exact okY_get h.ok _
    obtain ⟨c0, c1, c2, c3, c4, c5⟩ := h.six hk hx
    have f0 := h.gb.free (k * 6)
    have f1 := h.gb.free (k * 6 + 1)
    have f2 := h.gb.free (k * 6 + 2)
    have f3 := h.gb.free (k * 6 + 3)
    have f4 := h.gb.free (k * 6 + 4)
    have f5 := h.gb.free (k * 6 + 5)
    have HT : Hid (CT w s g (Y.set k x)) := by unfold Hid; rw [hs]; exact h
    obtain ⟨p, i, y0, sn, st, bs⟩ := x
    dsimp only at *
    have T : Hid (∀ w, _) := fun w => istick_any t w
    cases a1 : isW y with
    | false =>
      rw [show rsE Y (k : Int) y t = 2 by unfold rsE; rw [e]; simp [a1], show rsY Y (k : Int) y t = Y by unfold rsY rsE; rw [e]; simp [a1]]
      clear hg hs HT hx
      by_cases y1 : y < 0
      · clear h e a1
        go_enter Try.func16, Try.ntmps16
        go_wp2_with fail
        refine (C.out ()).mono ?_
        rintro e w' ⟨rfl, rfl⟩
        go_wp2
        go_ret
        exact ⟨rfl, H.out, Fr.refl _ _ _⟩
      · have y2 : (8 : Int) ≤ y := by simp [isW] at a1; omega
        clear h e a1
        go_enter Try.func16, Try.ntmps16
        go_wp2_with fail
        refine (C.out ()).mono ?_
        rintro e w' ⟨rfl, rfl⟩
        go_wp2
        go_ret
        exact ⟨rfl, H.out, Fr.refl _ _ _⟩
    | true =>
      have y1 : ¬ y < 0 := by simp [isW] at a1; omega
      have y2 : ¬ (8 : Int) ≤ y := by simp [isW] at a1; omega
      cases a2 : isT t with
      | false =>
        rw [a2] at T
        rw [show rsE Y (k : Int) y t = 2 by unfold rsE; rw [e]; simp [a1, a2], show rsY Y (k : Int) y t = Y by unfold rsY rsE; rw [e]; simp [a1, a2]]
        clear h e hg hs HT hx a1 a2
        go_enter Try.func16, Try.ntmps16
        go_wp2_with fail
        refine (C.out ()).mono ?_
        rintro e w' ⟨rfl, rfl⟩
        go_wp2_with fail
        refine (T.out _).mono ?_
        rintro e w' ⟨rfl, rfl⟩
        go_wp2
        go_ret
        exact ⟨rfl, H.out, Fr.refl _ _ _⟩
      | true =>
        rw [a2] at T
        cases p with
        | false =>
          rw [show rsE Y (k : Int) y t = 6 by unfold rsE; rw [e, hg]; simp [a1, a2], show rsY Y (k : Int) y t = Y by unfold rsY rsE; rw [e, hg]; simp [a1, a2]]
          clear h e hg hs HT hx a1 a2
          go_enter Try.func16, Try.ntmps16
          go_wp2_with fail
          refine (C.out ()).mono ?_
          rintro e w' ⟨rfl, rfl⟩
          go_wp2_with fail
          refine (T.out _).mono ?_
          rintro e w' ⟨rfl, rfl⟩
          go_wp2
          go_ret
          exact ⟨rfl, H.out, Fr.refl _ _ _⟩
        | true =>
          cases i with
          | true =>
            rw [show rsE Y (k : Int) y t = 6 by unfold rsE; rw [e, hg]; simp [a1, a2], show rsY Y (k : Int) y t = Y by unfold rsY rsE; rw [e, hg]; simp [a1, a2]]
            clear h e hg hs HT hx a1 a2
            go_enter Try.func16, Try.ntmps16
            go_wp2_with fail
            refine (C.out ()).mono ?_
            rintro e w' ⟨rfl, rfl⟩
            go_wp2_with fail
            refine (T.out _).mono ?_
            rintro e w' ⟨rfl, rfl⟩
            go_wp2
            go_ret
            exact ⟨rfl, H.out, Fr.refl _ _ _⟩
          | false =>
            rw [show rsE Y (k : Int) y t = 0 by unfold rsE; rw [e, hg]; simp [a1, a2], show rsY Y (k : Int) y t = Y.set k ⟨true, true, y, t, st, bs⟩ by unfold rsY rsE; rw [e, hg]; simp [a1, a2]]
            have ot : 0 ≤ t ∧ t ≤ 1152921504606846976 := by simpa [isT] using a2
            have t1 := HT.out.set2 hk 1 (by omega) ⟨true, true, y0, sn, st, bs⟩ (.bool true) rfl ok
            have t2 := t1.set2 hk 2 (by omega) ⟨true, true, y, sn, st, bs⟩ (.int .i64 y) rfl ok
            have t3 := t2.set2 hk 3 (by omega) ⟨true, true, y, t, st, bs⟩ (.int .i64 t) rfl ot
            have HR : Hid (CT _ s g (Y.set k ⟨true, true, y, t, st, bs⟩) ∧ Fr w.heap.size [g] w _) := ⟨t3, ((((Fr.refl _ _ _).st g (k * 6 + 1) (.bool true) (by simp)).st g (k * 6 + 2) (.int .i64 y) (by simp)).st g (k * 6 + 3) (.int .i64 t) (by simp))⟩
            clear h e hg hs HT hx t1 t2 t3 a1 a2
            go_enter Try.func16, Try.ntmps16
            go_wp2_with fail
            refine (C.out ()).mono ?_
            rintro e w' ⟨rfl, rfl⟩
            go_wp2_with fail
            refine (T.out _).mono ?_
            rintro e w' ⟨rfl, rfl⟩
            go_wp2
            go_ret
            exact ⟨rfl, HR.out⟩

set_option maxRecDepth 100000 in
set_option maxHeartbeats 1000000 in
theorem cwake_any {s g : Nat} {Y : List Kc} (w : World) (c t : Int) (h : CT w s g Y) :
    Calls Try.prog 18 #[.pointer (some ⟨s, 0, none⟩), .int .i64 c, .int .i64 t] w fun e w' => e = .returned (.tuple #[.int .i64 (wkN Y c t), .int .i64 (wkE Y c t)]) ∧ CT w' s g (wkY Y c t) ∧ Fr w.heap.size [g] w w' := by
  have H : Hid (CT w s g Y) := h
  cases e : isk Y.length c with
  | false =>
    have C : Hid (∀ _ : Unit, _) := fun _ => cof_no w s g c Y h e
    have HB : Hid (CT (wc w) s g Y ∧ Fr w.heap.size [g] w (wc w)) := ⟨h.below (wc_below w), fr_any (wc_below w)⟩
    rw [show wkN Y c t = 0 by unfold wkN wkE; rw [e]; rfl, show wkE Y c t = 3 by unfold wkE; rw [e]; rfl, show wkY Y c t = Y by unfold wkY wkE; rw [e]; rfl]
    clear h e
    go_enter Try.func18, Try.ntmps18
    go_wp2_with fail
    refine (C.out ()).mono ?_
    rintro e w' ⟨rfl, rfl⟩
    go_wp2
    go_ret2
    exact ⟨rfl, HB.out⟩
  | true =>
    obtain ⟨k, rfl, hk⟩ := isk_yes e
    have C : Hid (∀ _ : Unit, _) := fun _ => cof_yes w s g k Y h hk
    obtain ⟨x, hx⟩ : ∃ x, Y.getD k kz = x := ⟨_, rfl⟩
    have hg : gt Y (k : Int) = x := (gt_nat hk).trans hx
    have hs := h.same hk
    rw [hx] at hs
    have ok : 0 ≤ x.since ∧ x.since ≤ 1152921504606846976 := by rw [← hg]; exact okY_get h.ok _
    obtain ⟨c0, c1, c2, c3, c4, c5⟩ := h.six hk hx
    have f0 := h.gb.free (k * 6)
    have f1 := h.gb.free (k * 6 + 1)
    have f2 := h.gb.free (k * 6 + 2)
    have f3 := h.gb.free (k * 6 + 3)
    have f4 := h.gb.free (k * 6 + 4)
    have f5 := h.gb.free (k * 6 + 5)
    have HT : Hid (CT w s g (Y.set k x)) := by unfold Hid; rw [hs]; exact h
    obtain ⟨p, i, y0, sn, st, bs⟩ := x
    dsimp only at *
    have T : Hid (∀ w, _) := fun w => istick_any t w
    cases a2 : isT t with
    | false =>
      rw [a2] at T
      rw [show wkN Y (k : Int) t = 0 by unfold wkN wkE; rw [e]; simp [a2], show wkE Y (k : Int) t = 2 by unfold wkE; rw [e]; simp [a2], show wkY Y (k : Int) t = Y by unfold wkY wkE; rw [e]; simp [a2]]
      clear h e hg hs HT hx a2
      go_enter Try.func18, Try.ntmps18
      go_wp2_with fail
      refine (C.out ()).mono ?_
      rintro e w' ⟨rfl, rfl⟩
      go_wp2_with fail
      refine (T.out _).mono ?_
      rintro e w' ⟨rfl, rfl⟩
      go_wp2
      go_ret2
      exact ⟨rfl, H.out, Fr.refl _ _ _⟩
    | true =>
      rw [a2] at T
      have ot : 0 ≤ t ∧ t ≤ 1152921504606846976 := by simpa [isT] using a2
      cases i with
      | false =>
        rw [show wkN Y (k : Int) t = 0 by unfold wkN wkE; rw [e, hg]; simp [a2], show wkE Y (k : Int) t = 6 by unfold wkE; rw [e, hg]; simp [a2], show wkY Y (k : Int) t = Y by unfold wkY wkE; rw [e, hg]; simp [a2]]
        clear h e hg hs HT hx a2
        go_enter Try.func18, Try.ntmps18
        go_wp2_with fail
        refine (C.out ()).mono ?_
        rintro e w' ⟨rfl, rfl⟩
        go_wp2_with fail
        refine (T.out _).mono ?_
        rintro e w' ⟨rfl, rfl⟩
        go_wp2
        go_ret2
        exact ⟨rfl, H.out, Fr.refl _ _ _⟩
      | true =>
        have U : Hid (∀ _ : Unit, _) := fun _ => up_any w g (k * 6) c1 c2 c3 f1 f2 f3
        rw [show wkN Y (k : Int) t = (if t ≤ sn then 0 else t - sn) by unfold wkN wkE; rw [e, hg]; simp [a2], show wkE Y (k : Int) t = 0 by unfold wkE; rw [e, hg]; simp [a2], show wkY Y (k : Int) t = Y.set k ⟨p, false, 0, 0, st, bs⟩ by unfold wkY wkE; rw [e, hg]; simp [a2]]
        have t2 := HT.out.set2 hk 1 (by omega) ⟨p, false, y0, sn, st, bs⟩ (.bool false) rfl ok
        have t3 := t2.set2 hk 2 (by omega) ⟨p, false, 0, sn, st, bs⟩ (.int .i64 0) rfl ok
        have t4 := t3.set2 hk 3 (by omega) ⟨p, false, 0, 0, st, bs⟩ (.int .i64 0) rfl ⟨Int.le_refl 0, by show (0 : Int) ≤ _; omega⟩
        have HR : Hid (CT _ s g (Y.set k ⟨p, false, 0, 0, st, bs⟩) ∧ Fr w.heap.size [g] w _) := ⟨t4, ((((Fr.refl _ _ _).st g (k * 6 + 1) (.bool false) (by simp)).st g (k * 6 + 2) (.int .i64 0) (by simp)).st g (k * 6 + 3) (.int .i64 0) (by simp))⟩
        have wr : wrap64 (t - sn) = t - sn := by simp only [wrap64]; omega
        obtain ⟨v, hv⟩ : ∃ v, t - sn = v := ⟨_, rfl⟩
        have hq : (if t ≤ sn then 0 else t - sn) = max v 0 := by split <;> omega
        rw [hq]
        rw [hv] at wr
        rw [← hv] at wr
        have wr2 : wrap64 (t - sn) = v := wr.trans hv
        clear h e hg hs HT hx a2 t2 t3 t4 wr hq hv ok ot
        by_cases m : 0 < v
        · rw [show max v 0 = v by omega]
          go_enter Try.func18, Try.ntmps18
          go_wp2_with fail
          refine (C.out ()).mono ?_
          rintro e w' ⟨rfl, rfl⟩
          go_wp2_with fail
          refine (T.out _).mono ?_
          rintro e w' ⟨rfl, rfl⟩
          go_wp2_with fail
          refine (U.out ()).mono ?_
          rintro e w' ⟨rfl, rfl⟩
          go_wp2
          go_ret2
          exact ⟨rfl, HR.out⟩
        · rw [show max v 0 = 0 by omega]
          by_cases m2 : v < 0
          · skip
            go_enter Try.func18, Try.ntmps18
            go_wp2_with fail
            refine (C.out ()).mono ?_
            rintro e w' ⟨rfl, rfl⟩
            go_wp2_with fail
            refine (T.out _).mono ?_
            rintro e w' ⟨rfl, rfl⟩
            go_wp2_with fail
            refine (U.out ()).mono ?_
            rintro e w' ⟨rfl, rfl⟩
            go_wp2
            go_ret2
            exact ⟨rfl, HR.out⟩
          · obtain rfl : v = 0 := by omega
            clear m m2
            go_enter Try.func18, Try.ntmps18
            go_wp2_with fail
            refine (C.out ()).mono ?_
            rintro e w' ⟨rfl, rfl⟩
            go_wp2_with fail
            refine (T.out _).mono ?_
            rintro e w' ⟨rfl, rfl⟩
            go_wp2_with fail
            refine (U.out ()).mono ?_
            rintro e w' ⟨rfl, rfl⟩
            go_wp2
            go_ret2
            exact ⟨rfl, HR.out⟩

set_option maxRecDepth 100000 in
set_option maxHeartbeats 1000000 in
theorem ccount_any {s g : Nat} {Y : List Kc} (w : World) (c : Int) (b : Bool) (h : CT w s g Y) :
    Calls Try.prog 20 #[.pointer (some ⟨s, 0, none⟩), .int .i64 c, .bool b] w fun e w' => e = .returned (.int .i64 (inE Y c)) ∧ CT w' s g (ctY Y c b) ∧ Fr w.heap.size [g] w w' := by
  have H : Hid (CT w s g Y) := h
  cases e : isk Y.length c with
  | false =>
    have C : Hid (∀ _ : Unit, _) := fun _ => cof_no w s g c Y h e
    have HB : Hid (CT (wc w) s g Y ∧ Fr w.heap.size [g] w (wc w)) := ⟨h.below (wc_below w), fr_any (wc_below w)⟩
    rw [show inE Y c = 3 by unfold inE; rw [e]; rfl, show ctY Y c b = Y by unfold ctY; rw [e]; rfl]
    clear h e
    go_enter Try.func20, Try.ntmps20
    go_wp2_with fail
    refine (C.out ()).mono ?_
    rintro e w' ⟨rfl, rfl⟩
    go_wp2
    go_ret
    exact ⟨rfl, HB.out⟩
  | true =>
    obtain ⟨k, rfl, hk⟩ := isk_yes e
    have C : Hid (∀ _ : Unit, _) := fun _ => cof_yes w s g k Y h hk
    obtain ⟨x, hx⟩ : ∃ x, Y.getD k kz = x := ⟨_, rfl⟩
    have hg : gt Y (k : Int) = x := (gt_nat hk).trans hx
    have hs := h.same hk
    rw [hx] at hs
    have ok : 0 ≤ x.since ∧ x.since ≤ 1152921504606846976 := by rw [← hg]; exact okY_get h.ok _
    obtain ⟨c0, c1, c2, c3, c4, c5⟩ := h.six hk hx
    have f0 := h.gb.free (k * 6)
    have f1 := h.gb.free (k * 6 + 1)
    have f2 := h.gb.free (k * 6 + 2)
    have f3 := h.gb.free (k * 6 + 3)
    have f4 := h.gb.free (k * 6 + 4)
    have f5 := h.gb.free (k * 6 + 5)
    have HT : Hid (CT w s g (Y.set k x)) := by unfold Hid; rw [hs]; exact h
    obtain ⟨p, i, y0, sn, st, bs⟩ := x
    dsimp only at *
    have hi1 : Hid (inc st = wrap64 (st + 1)) := rfl
    have hi2 : Hid (inc bs = wrap64 (bs + 1)) := rfl
    rw [show inE Y (k : Int) = 0 by unfold inE; rw [e]; rfl]
    have t1 := HT.out.set2 hk 4 (by omega) ⟨p, i, y0, sn, inc st, bs⟩ (.int .i64 (inc st)) rfl ok
    cases b with
    | false =>
      rw [show ctY Y (k : Int) false = Y.set k ⟨p, i, y0, sn, inc st, bs⟩ by unfold ctY; rw [e, hg]; rfl]
      have HR : Hid (CT (w.setCell ⟨g, k * 6 + 4, none⟩ (.int .i64 (inc st))) s g (Y.set k ⟨p, i, y0, sn, inc st, bs⟩) ∧ Fr w.heap.size [g] w (w.setCell ⟨g, k * 6 + 4, none⟩ (.int .i64 (inc st)))) := ⟨t1, (Fr.refl _ _ _).st g _ _ (by simp)⟩
      clear h e hg hs HT hx t1
      go_enter Try.func20, Try.ntmps20
      go_wp2_with fail
      refine (C.out ()).mono ?_
      rintro e w' ⟨rfl, rfl⟩
      go_wp2
      go_ret
      exact ⟨rfl, HR.out⟩
    | true =>
      rw [show ctY Y (k : Int) true = Y.set k ⟨p, i, y0, sn, inc st, inc bs⟩ by unfold ctY; rw [e, hg]; rfl]
      have t2 := t1.set2 hk 5 (by omega) ⟨p, i, y0, sn, inc st, inc bs⟩ (.int .i64 (inc bs)) rfl ok
      have HR : Hid (CT ((w.setCell ⟨g, k * 6 + 4, none⟩ (.int .i64 (inc st))).setCell ⟨g, k * 6 + 5, none⟩ (.int .i64 (inc bs))) s g (Y.set k ⟨p, i, y0, sn, inc st, inc bs⟩) ∧ Fr w.heap.size [g] w ((w.setCell ⟨g, k * 6 + 4, none⟩ (.int .i64 (inc st))).setCell ⟨g, k * 6 + 5, none⟩ (.int .i64 (inc bs)))) := ⟨t2, ((Fr.refl _ _ _).st g _ _ (by simp)).st g _ _ (by simp)⟩
      clear h e hg hs HT hx t1 t2
      go_enter Try.func20, Try.ntmps20
      go_wp2_with fail
      refine (C.out ()).mono ?_
      rintro e w' ⟨rfl, rfl⟩
      go_wp2
      go_ret
      exact ⟨rfl, HR.out⟩

set_option maxRecDepth 100000 in
set_option maxHeartbeats 1000000 in
theorem ctake_any {s g : Nat} {Y : List Kc} (w : World) (c : Int) (h : CT w s g Y) :
    Calls Try.prog 22 #[.pointer (some ⟨s, 0, none⟩), .int .i64 c] w fun e w' => e = .returned (.tuple #[.int .i64 (gt Y c).busy, .int .i64 (gt Y c).steps, .int .i64 (inE Y c)]) ∧ CT w' s g (tkY Y c) ∧ Fr w.heap.size [g] w w' := by
  have H : Hid (CT w s g Y) := h
  cases e : isk Y.length c with
  | false =>
    have C : Hid (∀ _ : Unit, _) := fun _ => cof_no w s g c Y h e
    have HB : Hid (CT (wc w) s g Y ∧ Fr w.heap.size [g] w (wc w)) := ⟨h.below (wc_below w), fr_any (wc_below w)⟩
    rw [show gt Y c = kz by unfold gt; rw [e]; rfl, show inE Y c = 3 by unfold inE; rw [e]; rfl, show tkY Y c = Y by unfold tkY; rw [e]; rfl]
    have k4 : (wc w).cell? ⟨w.heap.size, 4, none⟩ = some (.int .i64 0) := (wc_blk w).cell 4
    have k5 : (wc w).cell? ⟨w.heap.size, 5, none⟩ = some (.int .i64 0) := (wc_blk w).cell 5
    have f4 := (wc_blk w).free 4
    have f5 := (wc_blk w).free 5
    have HB2 : Hid (∀ n u v, CT ((((wc w).drewN n).setCell ⟨w.heap.size, 5, none⟩ u).setCell ⟨w.heap.size, 4, none⟩ v) s g Y ∧ Fr w.heap.size [g] w ((((wc w).drewN n).setCell ⟨w.heap.size, 5, none⟩ u).setCell ⟨w.heap.size, 4, none⟩ v)) := fun n u v => by
      have b := wc_b2 w n u v
      exact ⟨h.below b, fr_any b⟩
    generalize wc w = wn at *
    clear h e
    go_enter Try.func22, Try.ntmps22
    go_wp2_with fail
    refine (C.out ()).mono ?_
    rintro e w' ⟨rfl, rfl⟩
    go_wp2
    go_quiet (fail)
    go_wp2
    go_ret3
    exact ⟨rfl, HB2.out _ _ _⟩
  | true =>
    obtain ⟨k, rfl, hk⟩ := isk_yes e
    have C : Hid (∀ _ : Unit, _) := fun _ => cof_yes w s g k Y h hk
    obtain ⟨x, hx⟩ : ∃ x, Y.getD k kz = x := ⟨_, rfl⟩
    have hg : gt Y (k : Int) = x := (gt_nat hk).trans hx
    have hs := h.same hk
    rw [hx] at hs
    have ok : 0 ≤ x.since ∧ x.since ≤ 1152921504606846976 := by rw [← hg]; exact okY_get h.ok _
    obtain ⟨c0, c1, c2, c3, c4, c5⟩ := h.six hk hx
    have f0 := h.gb.free (k * 6)
    have f1 := h.gb.free (k * 6 + 1)
    have f2 := h.gb.free (k * 6 + 2)
    have f3 := h.gb.free (k * 6 + 3)
    have f4 := h.gb.free (k * 6 + 4)
    have f5 := h.gb.free (k * 6 + 5)
    have HT : Hid (CT w s g (Y.set k x)) := by unfold Hid; rw [hs]; exact h
    obtain ⟨p, i, y0, sn, st, bs⟩ := x
    dsimp only at *
    rw [hg, show inE Y (k : Int) = 0 by unfold inE; rw [e]; rfl, show tkY Y (k : Int) = Y.set k ⟨p, i, y0, sn, 0, 0⟩ by unfold tkY; rw [e, hg]; rfl]
    have t1 := HT.out.set2 hk 5 (by omega) ⟨p, i, y0, sn, st, 0⟩ (.int .i64 0) rfl ok
    have t2 := t1.set2 hk 4 (by omega) ⟨p, i, y0, sn, 0, 0⟩ (.int .i64 0) rfl ok
    have HR : Hid (∀ wd : World, wd.heap = w.heap → wd.os = w.os → wd.tape = w.tape → wd.output = w.output → CT ((wd.setCell ⟨g, k * 6 + 5, none⟩ (.int .i64 0)).setCell ⟨g, k * 6 + 4, none⟩ (.int .i64 0)) s g (Y.set k ⟨p, i, y0, sn, 0, 0⟩) ∧ Fr w.heap.size [g] w ((wd.setCell ⟨g, k * 6 + 5, none⟩ (.int .i64 0)).setCell ⟨g, k * 6 + 4, none⟩ (.int .i64 0))) := fun wd e1 e2 e3 e4 => ⟨t2.heap (by simp only [World.setCell, e1]), ((Sm.fr (w1 := wd) ⟨e1, e2, e3, e4⟩ (Fr.refl _ _ _)).st g _ _ (by simp)).st g _ _ (by simp)⟩
    clear h e hg hs HT hx t1 t2
    go_enter Try.func22, Try.ntmps22
    go_wp2_with fail
    refine (C.out ()).mono ?_
    rintro e w' ⟨rfl, rfl⟩
    go_wp2
    go_quiet (fail)
    go_wp2
    go_ret3
    exact ⟨rfl, HR.out _ rfl rfl rfl rfl⟩
end Go.Proofs.Ytddjkdcbbonjkaa
