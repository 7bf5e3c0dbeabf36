/- What thread's Spawn, Exit, Aim, Place, Sleep and Wake answer and leave, for every table (where the table of the lowest bits reads as the program's text lays it). -/
import Derived.Test.YtghnpmkibnggeaaDoorRows
import Derived.Test.YtghnpmkibnggeaaDoorTa
import Derived.WalkKit
import Derived.ProofKit
import Derived.OpenShut
import Derived.BigQuiet
namespace Go.Proofs.YtghnpmkibnggeaaDoor
open Go.ChangeShapes Go.WideShapes Go.ChangeAt Go.RowKit
open Mm Sl Tm

theorem set_at (cs : List Value) (o j k : Nat) (v : Value) (h : o + j < cs.length) : (cs.set (o + j) v)[o + k]? = if k = j then some v else cs[o + k]? := by
  rw [List.getElem?_set]
  by_cases e : k = j
  · subst e
    rw [if_pos rfl, if_pos h, if_pos rfl]
  · rw [if_neg (by omega), if_neg e]
theorem set_out (cs : List Value) (o j k : Nat) (v : Value) (hj : j < 6) (h : k < o ∨ o + 6 ≤ k) : (cs.set (o + j) v)[k]? = cs[k]? := by
  rw [List.getElem?_set, if_neg (by omega)]

theorem six_mask {cs : List Value} {o : Nat} {t : Th} (h : Six cs o t) (hl : o + 5 < cs.length) (m : Nat) : Six (cs.set (o + 1) (.int .u64 (m : Int))) o { t with mask := m } := by
  obtain ⟨a0, a1, a2, a3, a4, a5⟩ := h
  have g := fun k => set_at cs o 1 k (.int .u64 (m : Int)) (by omega)
  exact ⟨(g 0).trans a0, g 1, (g 2).trans a2, (g 3).trans a3, (g 4).trans a4, (g 5).trans a5⟩
theorem six_cpu {cs : List Value} {o : Nat} {t : Th} (h : Six cs o t) (hl : o + 5 < cs.length) (u : Int) : Six (cs.set (o + 2) (.int .i64 u)) o { t with cpu := u } := by
  obtain ⟨a0, a1, a2, a3, a4, a5⟩ := h
  have g := fun k => set_at cs o 2 k (.int .i64 u) (by omega)
  exact ⟨(g 0).trans a0, (g 1).trans a1, g 2, (g 3).trans a3, (g 4).trans a4, (g 5).trans a5⟩
theorem six_forced {cs : List Value} {o : Nat} {t : Th} (h : Six cs o t) (hl : o + 5 < cs.length) (u : Bool) : Six (cs.set (o + 3) (.bool u)) o { t with forced := u } := by
  obtain ⟨a0, a1, a2, a3, a4, a5⟩ := h
  have g := fun k => set_at cs o 3 k (.bool u) (by omega)
  exact ⟨(g 0).trans a0, (g 1).trans a1, (g 2).trans a2, g 3, (g 4).trans a4, (g 5).trans a5⟩
theorem six_sleeps {cs : List Value} {o : Nat} {t : Th} (h : Six cs o t) (hl : o + 5 < cs.length) (u : Bool) : Six (cs.set (o + 4) (.bool u)) o { t with sleeps := u } := by
  obtain ⟨a0, a1, a2, a3, a4, a5⟩ := h
  have g := fun k => set_at cs o 4 k (.bool u) (by omega)
  exact ⟨(g 0).trans a0, (g 1).trans a1, (g 2).trans a2, (g 3).trans a3, g 4, (g 5).trans a5⟩
theorem six_timer {cs : List Value} {o : Nat} {t : Th} (h : Six cs o t) (hl : o + 5 < cs.length) (u : Int) : Six (cs.set (o + 5) (.int .i64 u)) o { t with timer := u } := by
  obtain ⟨a0, a1, a2, a3, a4, a5⟩ := h
  have g := fun k => set_at cs o 5 k (.int .i64 u) (by omega)
  exact ⟨(g 0).trans a0, (g 1).trans a1, (g 2).trans a2, (g 3).trans a3, (g 4).trans a4, g 5⟩
theorem six_prio {cs : List Value} {o : Nat} {t : Th} (h : Six cs o t) (hl : o + 5 < cs.length) (u : Int) : Six (cs.set o (.int .i64 u)) o { t with prio := u } := by
  obtain ⟨a0, a1, a2, a3, a4, a5⟩ := h
  have g := fun k => set_at cs o 0 k (.int .i64 u) (by omega)
  exact ⟨g 0, (g 1).trans a1, (g 2).trans a2, (g 3).trans a3, (g 4).trans a4, (g 5).trans a5⟩

theorem sx_sx (X : Nat → Th) (i : Nat) (t u : Th) : sx (sx X i t) i u = sx X i u := by
  funext j
  unfold sx
  split <;> rfl
theorem sx_id (X : Nat → Th) (i : Nat) : sx X i (X i) = X := by
  funext j
  unfold sx
  split
  · rename_i e; rw [e]
  · rfl

/-- Behind a store into a field of a thread. -/
theorem tt_set {w : World} {s c i : Nat} {O : Nat → Bool} {X : Nat → Th} (h : TT w s c O X) (hi : i < 32) (j : Nat) (hj : j < 6) (v : Value) (t : Th) (h6 : ∀ cs, Six cs (2 + i * 6) (X i) → 2 + i * 6 + 5 < cs.length → Six (cs.set (2 + i * 6 + j) v) (2 + i * 6) t) : TT (w.setCell ⟨s + 2, 2 + i * 6 + j, none⟩ v) s c O (sx X i t) := by
  obtain ⟨W, hw⟩ := h.sl
  obtain ⟨cs, hb, hc⟩ := h.bk
  refine ⟨⟨W, hw.keep (B := w.heap.size) (S := [s + 2]) ((Fr.refl _ _ _).setCell (Or.inr (by simp)) v) ⟨hw.sb.lt, hw.sg.lt⟩ ⟨by simp, by simp⟩⟩, ⟨_, hb.set (2 + i * 6 + j) v, ?_⟩, h.c1, h.c2⟩
  exact hc.upd (List.length_set ..) (fun k hk => set_out cs _ j k v hj hk) (h6 cs (hc.t i hi) (by rw [hc.len]; omega))
theorem tt_mask {w : World} {s c i : Nat} {O : Nat → Bool} {X : Nat → Th} (h : TT w s c O X) (hi : i < 32) (m : Nat) : TT (w.setCell ⟨s + 2, 2 + i * 6 + 1, none⟩ (.int .u64 (m : Int))) s c O (sx X i { X i with mask := m }) :=
  tt_set h hi 1 (by omega) _ _ fun _ h6 hl => six_mask h6 hl m
theorem tt_two {w : World} {s c i : Nat} {O : Nat → Bool} {X : Nat → Th} (h : TT w s c O X) (hi : i < 32) (j k : Nat) (hj : j < 6) (hk : k < 6) (v v2 : Value) (t t2 : Th) (h6 : ∀ cs, Six cs (2 + i * 6) (X i) → 2 + i * 6 + 5 < cs.length → Six (cs.set (2 + i * 6 + j) v) (2 + i * 6) t) (g6 : ∀ cs, Six cs (2 + i * 6) t → 2 + i * 6 + 5 < cs.length → Six (cs.set (2 + i * 6 + k) v2) (2 + i * 6) t2) : TT ((w.setCell ⟨s + 2, 2 + i * 6 + j, none⟩ v).setCell ⟨s + 2, 2 + i * 6 + k, none⟩ v2) s c O (sx X i t2) := by
  have := tt_set (tt_set h hi j hj v t h6) hi k hk v2 t2 (by rw [sx_same]; exact g6)
  rwa [sx_sx] at this
theorem tt_six {w : World} {s c i : Nat} {O : Nat → Bool} {X : Nat → Th} (h : TT w s c O X) (hi : i < 32) (t : Th) : TT ((((((w.setCell ⟨s + 2, 2 + i * 6, none⟩ (.int .i64 t.prio)).setCell ⟨s + 2, 2 + i * 6 + 1, none⟩ (.int .u64 (t.mask : Int))).setCell ⟨s + 2, 2 + i * 6 + 2, none⟩ (.int .i64 t.cpu)).setCell ⟨s + 2, 2 + i * 6 + 3, none⟩ (.bool t.forced)).setCell ⟨s + 2, 2 + i * 6 + 4, none⟩ (.bool t.sleeps)).setCell ⟨s + 2, 2 + i * 6 + 5, none⟩ (.int .i64 t.timer)) s c O (sx X i t) := by
  have h0 := tt_set h hi 0 (by omega) (.int .i64 t.prio) _ fun _ h6 hl => six_prio h6 hl t.prio
  have h1 := tt_set h0 hi 1 (by omega) (.int .u64 (t.mask : Int)) _ fun _ h6 hl => six_mask h6 hl t.mask
  have h2 := tt_set h1 hi 2 (by omega) (.int .i64 t.cpu) _ fun _ h6 hl => six_cpu h6 hl t.cpu
  have h3 := tt_set h2 hi 3 (by omega) (.bool t.forced) _ fun _ h6 hl => six_forced h6 hl t.forced
  have h4 := tt_set h3 hi 4 (by omega) (.bool t.sleeps) _ fun _ h6 hl => six_sleeps h6 hl t.sleeps
  have h5 := tt_set h4 hi 5 (by omega) (.int .i64 t.timer) _ fun _ h6 hl => six_timer h6 hl t.timer
  simp only [sx_sx, sx_same] at h5
  exact h5
/-- Behind what turned the numbers alone. -/
theorem tt_nums {w w2 : World} {s c : Nat} {O O' : Nat → Bool} {X : Nat → Th} (h : TT w s c O X) (f : Fr w.heap.size [s + 1, s] w w2) (t2 : ∃ W, T w2 (s + 1) s 32 W O') : TT w2 s c O' X := by
  obtain ⟨cs, hb, hc⟩ := h.bk
  exact ⟨t2, ⟨cs, hb.keep f hb.lt (by simp), hc⟩, h.c1, h.c2⟩
theorem fr_nums {s : Nat} {w w' : World} {B : Nat} (f : Fr B [s + 1, s] w w') : Fr B [s, s + 1, s + 2] w w' := f.mono (Nat.le_refl _) fun k _ hk e => hk (by simp at e ⊢; omega)

set_option maxRecDepth 100000 in
set_option maxHeartbeats 400000 in
theorem thexit_any {s c : Nat} {O : Nat → Bool} {X : Nat → Th} (n : Int) (w : World) (h : TT w s c O X) :
    Calls Tryd.prog 21 #[.pointer (some ⟨s + 2, 0, none⟩), .int .i64 n] w fun e w' => e = .returned (.int .i64 (gE 32 O n)) ∧ TT w' s c (gO 32 O n) (exX O X n) ∧ Fr w.heap.size [s, s + 1, s + 2] w w' := by
  have C1 : Hid (∀ _ : Unit, _) := fun _ => thfind_any n w h
  have HT : Hid (TT w s c O X) := h
  cases e : hs 32 O n with
  | false =>
    rw [e, if_neg (by simp)] at C1
    rw [show gE 32 O n = 4 by unfold gE; rw [e]; rfl, show gO 32 O n = O by unfold gO; rw [e]; rfl, show exX O X n = X by unfold exX; rw [e]; rfl]
    clear h e
    go_enter Tryd.func21, Tryd.ntmps21
    go_wp2_with fail
    refine (C1.out ()).mono ?_
    rintro e w' ⟨rfl, rfl⟩
    go_wp2
    go_ret
    exact ⟨rfl, HT.out, Fr.refl _ _ _⟩
  | true =>
    rw [e, if_pos rfl] at C1
    rw [show exX O X n = sx X (n.toNat - 1) zt by unfold exX; rw [e]; rfl]
    have hE : gE 32 O n = 0 := by unfold gE; rw [e]; rfl
    obtain ⟨i, hi, rfl, e2, _⟩ := hs_some e
    rw [e2] at C1 ⊢
    obtain ⟨a0, a1, a2, a3, a4, a5⟩ := h.six hi
    have f0 := h.free (2 + i * 6)
    have f1 := h.free (2 + i * 6 + 1)
    have f2 := h.free (2 + i * 6 + 2)
    have f3 := h.free (2 + i * 6 + 3)
    have f4 := h.free (2 + i * 6 + 4)
    have f5 := h.free (2 + i * 6 + 5)
    have k0 := h.k0
    have G : Hid (TT _ s c O (sx X i zt)) := tt_six h hi zt
    have F : Hid (Fr w.heap.size [s, s + 1, s + 2] w _) := fr_six (g := s + 2) (o := 2 + i * 6) (Fr.refl w.heap.size [s, s + 1, s + 2] w) (Or.inr (by simp)) (.int .i64 zt.prio) (.int .u64 (zt.mask : Int)) (.int .i64 zt.cpu) (.bool zt.forced) (.bool zt.sleeps) (.int .i64 zt.timer)
    have C2 : Hid (∀ w1 : World, TT w1 s c O (sx X i zt) → Calls Tryd.prog 49 #[.pointer (some ⟨s + 1, 0, none⟩), .int .i64 ((i : Int) + 1)] w1 fun e w' => e = .returned (.int .i64 (gE 32 O ((i : Int) + 1))) ∧ (∃ W', T w' (s + 1) s 32 W' (gO 32 O ((i : Int) + 1))) ∧ Fr w1.heap.size [s + 1, s] w1 w') := fun w1 h1 => h1.sl.elim fun W hw => give_any ((i : Int) + 1) w1 hw
    have FIN : Hid (∀ w1 w2 : World, TT w1 s c O (sx X i zt) → Fr w.heap.size [s, s + 1, s + 2] w w1 → (∃ W', T w2 (s + 1) s 32 W' (gO 32 O ((i : Int) + 1))) → Fr w1.heap.size [s + 1, s] w1 w2 → TT w2 s c (gO 32 O ((i : Int) + 1)) (sx X i zt) ∧ Fr w.heap.size [s, s + 1, s + 2] w w2) := fun w1 w2 h1 g1 t2 g2 => ⟨tt_nums h1 g2 t2, g1.trans (fr_nums (g2.less g1.size))⟩
    rw [hE] at C2 ⊢
    generalize gO 32 O ((i : Int) + 1) = O2 at *
    clear h e e2 hE
    go_enter Tryd.func21, Tryd.ntmps21
    go_wp2_with fail
    refine (C1.out ()).mono ?_
    rintro e w' ⟨rfl, rfl⟩
    go_wp2_with fail
    refine (C2.out _ G.out).mono ?_
    rintro e w2 ⟨rfl, t2, g2⟩
    have R := FIN.out _ _ G.out F.out t2 g2
    clear t2 g2
    go_wp2
    go_ret
    exact ⟨rfl, R.1, R.2⟩

set_option maxRecDepth 100000 in
set_option maxHeartbeats 400000 in
theorem thspawn_any {s c : Nat} {O : Nat → Bool} {X : Nat → Th} (p : Int) (m : Nat) (w : World) (hm : m < 18446744073709551616) (h : TT w s c O X) (ht : Tab w) :
    Calls Tryd.prog 19 #[.pointer (some ⟨s + 2, 0, none⟩), .int .i64 p, .int .u64 (m : Int)] w fun e w' => e = .returned (.tuple #[.int .i64 (spN c O p m), .int .i64 (spE c O p m)]) ∧ TT w' s c (spO c O p m) (spX c O X p m) ∧ Fr w.heap.size [s, s + 1, s + 2] w w' := by
  have HT : Hid (TT w s c O X) := h
  have C1 : Hid (∀ _ : Unit, _) := fun _ => canbe_any m w hm h
  by_cases hb : spB c p m = true
  · rw [show spN c O p m = tN (ff 32 O) from if_pos hb, show spE c O p m = tE (ff 32 O) from if_pos hb, show spO c O p m = tO O (ff 32 O) from if_pos hb, show spX c O X p m = tX X (nw p m) (ff 32 O) from if_pos hb]
    unfold spB at hb
    rw [Bool.and_eq_true] at hb
    obtain ⟨hp, hc⟩ := hb
    have hp := of_decide_eq_true hp
    obtain ⟨p0, p1⟩ := hp
    rw [hc] at C1
    have C2 : Hid (∀ _ : Unit, _) := fun _ => h.sl.elim fun W hw => take_any w hw ht
    have k0 := h.k0
    rcases ff_is (O := O) with ⟨e, _⟩ | ⟨i, e, hi, _⟩
    · rw [e] at C2 ⊢
      rw [show tN none = 0 from rfl, show tE none = 5 from rfl, show tO O none = O from rfl] at C2
      rw [show tN none = 0 from rfl, show tE none = 5 from rfl, show tO O none = O from rfl, show tX X (nw p m) none = X from rfl]
      clear h ht hm hc e
      go_enter Tryd.func19, Tryd.ntmps19
      go_wp2_with fail
      refine (C1.out ()).mono ?_
      rintro e w' ⟨rfl, rfl⟩
      go_wp2_with fail
      refine (C2.out ()).mono ?_
      rintro e w2 ⟨rfl, t2, g2⟩
      have R : Hid (TT w2 s c O X ∧ Fr w'.heap.size [s, s + 1, s + 2] w' w2) := ⟨tt_nums HT.out g2 t2, fr_nums g2⟩
      clear t2 g2
      go_wp2
      go_ret2
      exact ⟨rfl, R.out⟩
    · rw [e] at C2 ⊢
      rw [show tN (some i) = (i : Int) + 1 from rfl, show tE (some i) = 0 from rfl, show tO O (some i) = st O (i + 1) true from rfl] at C2
      rw [show tN (some i) = (i : Int) + 1 from rfl, show tE (some i) = 0 from rfl, show tO O (some i) = st O (i + 1) true from rfl, show tX X (nw p m) (some i) = sx X i (nw p m) from rfl]
      have hi2 : (i : Int) < 32 := by omega
      have HI : Hid (i < 32) := hi
      generalize st O (i + 1) true = O2 at *
      clear h ht hm hc e
      go_enter Tryd.func19, Tryd.ntmps19
      go_wp2_with fail
      refine (C1.out ()).mono ?_
      rintro e w' ⟨rfl, rfl⟩
      go_wp2_with fail
      refine (C2.out ()).mono ?_
      rintro e w2 ⟨rfl, t2, g2⟩
      have r1 := tt_nums HT.out g2 t2
      have R2 : Hid (Fr w'.heap.size [s, s + 1, s + 2] w' w2) := fr_nums g2
      obtain ⟨a0, a1, a2, a3, a4, a5⟩ := r1.six HI.out
      have f0 := r1.free (2 + i * 6)
      have f1 := r1.free (2 + i * 6 + 1)
      have f2 := r1.free (2 + i * 6 + 2)
      have f3 := r1.free (2 + i * 6 + 3)
      have f4 := r1.free (2 + i * 6 + 4)
      have f5 := r1.free (2 + i * 6 + 5)
      have R1 : Hid (TT w2 s c O2 X) := r1
      clear t2 g2 r1
      go_wp2
      go_ret2
      exact ⟨rfl, tt_six R1.out HI.out (nw p m), fr_six R2.out (Or.inr (by simp)) _ _ _ _ _ _⟩
  · rw [show spN c O p m = 0 from if_neg hb, show spE c O p m = 2 from if_neg hb, show spO c O p m = O from if_neg hb, show spX c O X p m = X from if_neg hb]
    by_cases h1 : p < 0
    · clear h ht hm hb
      go_enter Tryd.func19, Tryd.ntmps19
      go_wp2
      go_ret2
      exact ⟨rfl, HT.out, Fr.refl _ _ _⟩
    · by_cases h2 : 8 ≤ p
      · clear h ht hm hb
        go_enter Tryd.func19, Tryd.ntmps19
        go_wp2
        go_ret2
        exact ⟨rfl, HT.out, Fr.refl _ _ _⟩
      · have hc : can c m = false := by
          cases e : can c m with
          | false => rfl
          | true => exact absurd (by unfold spB; rw [e, decide_eq_true (by omega)]; rfl) hb
        rw [hc] at C1
        clear h ht hm hb hc
        go_enter Tryd.func19, Tryd.ntmps19
        go_wp2_with fail
        refine (C1.out ()).mono ?_
        rintro e w' ⟨rfl, rfl⟩
        go_wp2
        go_ret2
        exact ⟨rfl, HT.out, Fr.refl _ _ _⟩
end Go.Proofs.YtghnpmkibnggeaaDoor
