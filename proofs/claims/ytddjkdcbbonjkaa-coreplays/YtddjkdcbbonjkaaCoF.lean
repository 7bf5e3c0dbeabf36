/- The document's table of cores (davitref27) as it lies in memory; what its New, Is, Power, Rest, Wake, Count and Take answer and leave. -/
import Derived.Test.YtddjkdcbbonjkaaRows
import Derived.Test.YtddjkdcbbonjkaaCoM
import Derived.WalkKit
import Derived.ProofKit
import Derived.OpenShut
import Derived.BigQuiet
import Derived.Deep.RegionLaw
namespace Go.Proofs.Ytddjkdcbbonjkaa
open Go.ChangeShapes Go.WideShapes Go.ChangeAt Go.RowKit
open Co

/-- The table at block s, its cores at block g (there may be room behind them). -/
structure DT (w : World) (s g : Nat) (Y : List Kc) : Prop where
  sb : ∃ cap, Y.length ≤ cap ∧ Blk w s [.slice (some ⟨g, 0, none⟩) Y.length cap] 55
  gb : ∃ cs, Blk w g cs 23 ∧ ∀ i, i < Y.length * 6 → cs[i]? = (ck.all Y)[i]?
  ok : okY Y
  l1 : 1 ≤ Y.length
  l2 : Y.length ≤ 64

section
variable {w w1 : World} {s g : Nat} {Y : List Kc}
theorem DT.heap (h : DT w s g Y) (e : w1.heap = w.heap) : DT w1 s g Y := by
  obtain ⟨c, l, a⟩ := h.sb
  obtain ⟨cs, b, d⟩ := h.gb
  exact ⟨⟨c, l, a.heap e⟩, ⟨cs, b.heap e, d⟩, h.ok, h.l1, h.l2⟩
theorem DT.keep {B : Nat} {S : List Nat} (h : DT w s g Y) (f : Fr B S w w1) (hb : s < B) (gb : g < B) (hs : s ∉ S) (gs : g ∉ S) : DT w1 s g Y := by
  obtain ⟨c, l, a⟩ := h.sb
  obtain ⟨cs, b, d⟩ := h.gb
  exact ⟨⟨c, l, a.keep f hb hs⟩, ⟨cs, b.keep f gb gs, d⟩, h.ok, h.l1, h.l2⟩
theorem DT.slt (h : DT w s g Y) : s < w.heap.size := by obtain ⟨c, l, a⟩ := h.sb; exact a.lt
theorem DT.glt (h : DT w s g Y) : g < w.heap.size := by obtain ⟨c, a, _⟩ := h.gb; exact a.lt
theorem DT.below (h : DT w s g Y) (f : Below w.heap.size w w1) : DT w1 s g Y := h.keep (Fr.of_below f) h.slt h.glt (by simp) (by simp)
theorem DT.ne (h : DT w s g Y) : s ≠ g := by
  obtain ⟨c, l, a⟩ := h.sb
  obtain ⟨cs, b, d⟩ := h.gb
  exact a.ne b (by decide)
theorem DT.free (h : DT w s g Y) (i : Nat) : w.frozen? ⟨g, i, none⟩ = false := by obtain ⟨cs, b, d⟩ := h.gb; exact b.free i
theorem DT.cell (h : DT w s g Y) {k : Nat} (hk : k < Y.length) (j : Nat) (hj : j < 6) : w.cell? ⟨g, k * 6 + j, none⟩ = (ck.f (Y.getD k kz))[j]? := by
  obtain ⟨cs, b, d⟩ := h.gb
  rw [b.cell, d _ (by omega)]
  exact lay_at (L := ck) Y k j hk hj
theorem DT.six {k : Nat} (h : DT w s g Y) (hk : k < Y.length) {x : Kc} (e : Y.getD k kz = x) :
    w.cell? ⟨g, k * 6, none⟩ = some (.bool x.p) ∧ w.cell? ⟨g, k * 6 + 1, none⟩ = some (.bool x.i) ∧ w.cell? ⟨g, k * 6 + 2, none⟩ = some (.int .i64 x.way) ∧ w.cell? ⟨g, k * 6 + 3, none⟩ = some (.int .i64 x.since) ∧ w.cell? ⟨g, k * 6 + 4, none⟩ = some (.int .i64 x.steps) ∧ w.cell? ⟨g, k * 6 + 5, none⟩ = some (.int .i64 x.busy) := by
  subst e
  exact ⟨h.cell hk 0 (by omega), h.cell hk 1 (by omega), h.cell hk 2 (by omega), h.cell hk 3 (by omega), h.cell hk 4 (by omega), h.cell hk 5 (by omega)⟩
theorem DT.set2 {k : Nat} {x1 : Kc} (h : DT w s g (Y.set k x1)) (hk : k < Y.length) (j : Nat) (hj : j < 6) (x : Kc) (v : Value) (e : ck.f x = (ck.f x1).set j v) (o : 0 ≤ x.since ∧ x.since ≤ 1152921504606846976) : DT (w.setCell ⟨g, k * 6 + j, none⟩ v) s g (Y.set k x) := by
  obtain ⟨c, l, a⟩ := h.sb
  obtain ⟨cs, b, d⟩ := h.gb
  have q : (ck.all (Y.set k x1)).set (k * 6 + j) v = ck.all (Y.set k x) := by
    have q := lay_set (L := ck) (Y.set k x1) k j x v (by simpa using hk) hj (by rw [show (Y.set k x1).getD k ck.z = x1 by simp [List.getD, hk]]; exact e)
    rw [List.set_set] at q
    exact q
  have ll := lay_len (L := ck) (Y.set k x1)
  rw [List.length_set] at l a d ll
  have hkj : k * 6 + j < Y.length * 6 := by omega
  refine ⟨⟨c, by simpa using l, by rw [List.length_set]; exact a.other h.ne _⟩, ⟨_, b.set _ _, fun i hi => ?_⟩, ?_, by simpa using h.l1, by simpa using h.l2⟩
  · rw [List.length_set] at hi
    rw [← q, List.getElem?_set, List.getElem?_set]
    have e1 := d (k * 6 + j) hkj
    have l1 : k * 6 + j < (ck.all (Y.set k x1)).length := by rw [ll]; exact hkj
    have l2 : k * 6 + j < cs.length := by
      rw [List.getElem?_eq_getElem l1] at e1
      exact (List.getElem?_eq_some_iff.1 e1).1
    by_cases c : k * 6 + j = i
    · rw [if_pos c, if_pos c, if_pos l2, if_pos l1]
    · rw [if_neg c, if_neg c]
      exact d i hi
  · have q2 := okY_set h.ok k x o
    rwa [List.set_set] at q2
end
theorem ysame {k : Nat} {Y : List Kc} (hk : k < Y.length) : Y.set k (Y.getD k kz) = Y := by
  apply List.ext_getElem?
  intro i
  rw [List.getElem?_set]
  split
  · rename_i e
    subst e
    simp [List.getD, hk]
  · rfl
theorem Fr.st2 {B : Nat} {S : List Nat} {a w : World} (h : Fr B S a w) (g i : Nat) (u : Value) (hg : g ∈ S) : Fr B S a (w.setCell ⟨g, i, none⟩ u) := h.setCell (p := ⟨g, i, none⟩) (Or.inr hg) u

theorem ris_any (w : World) (s g : Nat) (Y : List Kc) (c : Int) (h : DT w s g Y) :
    Calls Try.prog 25 #[.pointer (some ⟨s, 0, none⟩), .int .i64 c] w fun e w' => e = .returned (.bool (isk Y.length c)) ∧ w' = w := by
  obtain ⟨cap, l, a⟩ := h.sb
  have c0 : w.cell? ⟨s, 0, none⟩ = some (.slice (some ⟨g, 0, none⟩) Y.length cap) := a.cell 0
  unfold isk
  generalize Y.length = n at *
  clear h l a
  by_cases h1 : 0 ≤ c
  · by_cases h2 : c < (n : Int)
    · rw [decide_eq_true h1, decide_eq_true h2]
      go_enter Try.func25, Try.ntmps25
      go_wp2
      go_ret
      exact ⟨rfl, rfl⟩
    · rw [decide_eq_true h1, decide_eq_false h2]
      go_enter Try.func25, Try.ntmps25
      go_wp2
      go_ret
      exact ⟨rfl, rfl⟩
  · rw [decide_eq_false h1, Bool.false_and]
    go_enter Try.func25, Try.ntmps25
    go_wp2
    go_ret
    exact ⟨rfl, rfl⟩
theorem Try.infoRk : (Try.prog.info? 23).map (fun i => (i.zero, i.size, i.bytes)) = some (some (ckv kz), 6, 40) := by kernel_rfl

set_option maxRecDepth 100000 in
set_option maxHeartbeats 1000000 in
theorem dtnew_any (n : Nat) (w : World) (h1 : (1 : Int) ≤ n) (h2 : (n : Int) ≤ 64) :
    Calls Try.prog 13 #[.int .i64 (n : Int)] w fun e w' => e = .returned (.tuple #[.pointer (some ⟨w.heap.size, 0, none⟩), .int .i64 0]) ∧ ∃ g, w.heap.size < g ∧ DT w' w.heap.size g (List.replicate n kn) ∧ Below w.heap.size w w' := by
  obtain ⟨i0, hi0, hz0, hz1, hz2⟩ := info_parts Try.infoRk
  have AP : Hid (∀ (u : World) (v : Value) (k : Nat), k ≤ 64 → u.ownsRow 0 23 ck.n v (List.replicate k kn).length (ck.all (List.replicate k kn)) → ∃ a2 c2 w2, (Builtin.append_ #[53, 53] 53 #[v, .slice (some ⟨u.heap.size, 0, none⟩) 1 1]).run Try.prog (u.alloc (.cells #[.bool true, .bool false, .int .i64 0, .int .i64 0, .int .i64 0, .int .i64 0] 23)) = .ok (.slice a2 (k + 1) c2) w2 ∧
      w2.ownsRow 0 23 ck.n (.slice a2 (k + 1) c2) (List.replicate (k + 1) kn).length (ck.all (List.replicate (k + 1) kn)) ∧ Fr u.heap.size v.ownBlock.toList u w2 ∧ ∀ g, (Value.slice a2 (k + 1) c2).ownBlock = some g → v.ownBlock = some g ∨ u.heap.size ≤ g) := fun u v k hk o => by
    obtain ⟨a2, c2, w2, run, o2, f, nn⟩ := lown_app (L := ck) (P := Try.prog) u 23 53 53 i0 _ 40 Try.underlying53 hi0 hz0 hz1 hz2 rfl (by decide) kn o (by simp; omega)
    have el : (List.replicate k kn).length = k := by simp
    rw [el] at run o2 nn
    rw [← List.replicate_succ'] at o2
    exact ⟨a2, c2, w2, run, o2, f, nn⟩
  clear hi0 hz0 hz1 hz2
  have B0 : Hid (Blk (w.alloc (.cells #[.slice none 0 0] 55)) w.heap.size [.slice none 0 0] 55 ∧ Below w.heap.size w (w.alloc (.cells #[.slice none 0 0] 55))) := ⟨Blk.new w [.slice none 0 0] _, (Below.refl _ _).alloc (Nat.le_refl _) _⟩
  obtain ⟨z, hz⟩ : ∃ z, w.heap.size = z := ⟨_, rfl⟩
  rw [hz] at B0 ⊢
  go_enter Try.func13, Try.ntmps13
  go_wp2
  go_loopw [5] (fun i wr => ∃ (k : Nat) (a : Option Addr) (c : Nat), (k : Int) ≤ n ∧ Blk wr z [.slice a k c] 55 ∧ Hid (wr.ownsRow 0 23 ck.n (.slice a k c) (List.replicate k kn).length (ck.all (List.replicate k kn)) ∧ ∀ g, (Value.slice a k c).ownBlock = some g → z < g) ∧ Below z w wr ∧ i = .int .i64 k) (fun i _ => n - (intOf i).toNat)
  case atStart => exact ⟨0, none, 0, by omega, B0.out.1, ⟨World.ownsRow_nil _ _ _ _, fun g hg => by cases hg⟩, B0.out.2, rfl⟩
  case round =>
    obtain ⟨k, a, c, hk, hs, ho, hl, rfl⟩ := hrel
    clear B0
    have HL : Hid (Below z w wr) := hl
    have c0 := hs.cell 0
    by_cases e : (k : Int) < n
    · obtain ⟨a2, c2, w2, run, o2, f, nn⟩ := AP.out wr _ k (by omega) ho.out.1
      have hzs : z < wr.heap.size := hs.lt
      have nz : z ∉ (Value.slice a k c).ownBlock.toList := fun q => by
        have := ho.out.2 z (by simpa using q)
        omega
      have hs2 := hs.keep f hzs nz
      have c2' := hs2.cell 0
      have f2 := hs2.free 0
      have HR : Hid (Blk (w2.setCell ⟨z, 0, none⟩ (.slice a2 (k + 1) c2)) z [.slice a2 (k + 1) c2] 55 ∧ ((w2.setCell ⟨z, 0, none⟩ (.slice a2 (k + 1) c2)).ownsRow 0 23 ck.n (.slice a2 (k + 1) c2) (List.replicate (k + 1) kn).length (ck.all (List.replicate (k + 1) kn)) ∧ ∀ g, (Value.slice a2 (k + 1) c2).ownBlock = some g → z < g) ∧ Below z w (w2.setCell ⟨z, 0, none⟩ (.slice a2 (k + 1) c2))) := by
        have n2 : ∀ g, (Value.slice a2 (k + 1) c2).ownBlock = some g → z < g := fun g hg => by
          rcases nn g hg with q | q
          · exact ho.out.2 g q
          · omega
        refine ⟨hs2.set 0 _, ⟨?_, n2⟩, ?_⟩
        · exact owng_keep (B := w2.heap.size) (S := [z]) o2 ((Fr.refl _ _ _).st2 z 0 _ (by simp)) fun g hg => ⟨owng_lt o2 hg, by have := n2 g hg; simp; omega⟩
        · have b1 : Below z w w2 := hl.trans ((f.less (by omega)).below fun q hq => by have := ho.out.2 q (by simpa using hq); omega)
          exact b1.setCell (Nat.le_refl _) _
      clear hs ho hl o2 f nn nz hs2
      go_wp2_with (at_builtin; refine wpList_rung rfl (.tmp 23) (.tmp 25) 53 rfl rfl rfl run ?_)
      go_roundw
      case rel => exact ⟨k + 1, a2, c2, by omega, HR.out.1, HR.out.2.1, HR.out.2.2, by go_num⟩
      case measure => simp [intOf]; omega
    · obtain rfl : k = n := by omega
      have HR : Hid (∃ g, z < g ∧ DT wr z g (List.replicate k kn)) := by
        obtain ⟨o, q⟩ := ho.out
        rcases o.2 with ⟨_, e2⟩ | ⟨g, cap, cur, hv, _, hg, hnc, _, hcs, ht⟩
        · simp at e2; omega
        · have ov := hv
          simp only [Value.slice.injEq] at hv
          obtain ⟨ha, hk2, hc2⟩ := hv
          rw [ha] at hs o q
          have lr : (List.replicate k kn).length = k := by simp
          refine ⟨g, q g rfl, ⟨c, by rw [lr]; rw [← hc2] at hnc; omega, by rw [lr]; exact hs⟩, ⟨cur.toList, by unfold Blk; rw [Array.toArray_toList]; exact hg, fun i hi => ?_⟩, okY_new k, by omega, by omega⟩
          have hb : Blk wr g cur.toList 23 := by unfold Blk; rw [Array.toArray_toList]; exact hg
          rw [← hb.cell]
          rw [lr] at o hi
          exact o.cellAt i hi
      clear hs ho hl
      go_wp2
      go_ret2
      obtain ⟨g, q1, q2⟩ := HR.out
      exact ⟨rfl, g, q1, q2, HL.out⟩
theorem dtnew_bad (c : Int) (w : World) (h : c < 1 ∨ 64 < c) :
    Calls Try.prog 13 #[.int .i64 c] w fun e w' => e = .returned (.tuple #[.pointer none, .int .i64 2]) ∧ w' = w := by
  rcases h with h | h
  · go_enter Try.func13, Try.ntmps13
    go_wp2
    go_ret2
    exact ⟨rfl, rfl⟩
  · have h2 : (1 : Int) ≤ c := by omega
    go_enter Try.func13, Try.ntmps13
    go_wp2
    go_ret2
    exact ⟨rfl, rfl⟩

set_option maxRecDepth 100000 in
set_option maxHeartbeats 2000000 in
theorem rpower_any {s g : Nat} {Y : List Kc} (w : World) (c : Int) (on : Bool) (h : DT w s g Y) :
    Calls Try.prog 15 #[.pointer (some ⟨s, 0, none⟩), .int .i64 c, .bool on] w fun e w' => e = .returned (.int .i64 (pwE Y c on)) ∧ DT w' s g (pwY Y c on) ∧ Fr w.heap.size [g] w w' := by
  have H : Hid (DT w s g Y) := h
  have C : Hid (∀ _ : Unit, _) := fun _ => ris_any w s g Y c h
  cases e : isk Y.length c with
  | false =>
    rw [e] at C
    rw [show pwE Y c on = 3 by unfold pwE; rw [e]; rfl, show pwY Y c on = Y by unfold pwY pwE; rw [e]; rfl]
    clear h e
    go_enter Try.func15, Try.ntmps15
    go_wp2_with fail
    refine (C.out ()).mono ?_
    rintro e w' ⟨rfl, rfl⟩
    go_wp2
    go_ret
    exact ⟨rfl, H.out, Fr.refl _ _ _⟩
  | true =>
    rw [e] at C
    obtain ⟨k, rfl, hk⟩ := isk_yes e
    obtain ⟨x, hx⟩ : ∃ x, Y.getD k kz = x := ⟨_, rfl⟩
    have hg : gt Y (k : Int) = x := (gt_nat hk).trans hx
    have hs := ysame hk
    rw [hx] at hs
    have ok : 0 ≤ x.since ∧ x.since ≤ 1152921504606846976 := by rw [← hg]; exact okY_get h.ok _
    obtain ⟨c0, c1, c2, c3, c4, c5⟩ := h.six hk hx
    obtain ⟨cap, hcap, hsb⟩ := h.sb
    have cs0 : w.cell? ⟨s, 0, none⟩ = some (.slice (some ⟨g, 0, none⟩) Y.length cap) := hsb.cell 0
    have nsg : s ≠ g := h.ne
    have nsb : (s == g) = false := by simpa using nsg
    have ngs : (g == s) = false := by simp; omega
    have f0 := h.free (k * 6)
    have f1 := h.free (k * 6 + 1)
    have f2 := h.free (k * 6 + 2)
    have f3 := h.free (k * 6 + 3)
    have f4 := h.free (k * 6 + 4)
    have f5 := h.free (k * 6 + 5)
    have hk1 : (k : Int) < Y.length := by omega
    have hk0 : k < Y.length := hk
    have HT : Hid (DT w s g (Y.set k x)) := by unfold Hid; rw [hs]; exact h
    obtain ⟨p, i, y0, sn, st, bs⟩ := x
    dsimp only at *
    by_cases q : p = on
    · rw [show pwE Y (k : Int) on = 6 by unfold pwE; rw [e, hg]; exact if_pos q, show pwY Y (k : Int) on = Y by unfold pwY pwE; rw [e, hg]; simp [q]]
      subst q
      have q2 : (p == p) = true := by simp
      clear h e hg hs HT hx hsb ok
      go_enter Try.func15, Try.ntmps15
      go_wp2_with fail
      refine (C.out ()).mono ?_
      rintro e w' ⟨rfl, rfl⟩
      go_wp2
      go_ret
      exact ⟨rfl, H.out, Fr.refl _ _ _⟩
    · rw [show pwE Y (k : Int) on = 0 by unfold pwE; rw [e, hg]; exact if_neg q, show pwY Y (k : Int) on = Y.set k ⟨on, false, 0, 0, st, bs⟩ by unfold pwY pwE; rw [e, hg]; simp [q]]
      have q2 : (p == on) = false := by simpa using q
      have t0 := HT.out.set2 hk 0 (by omega) ⟨on, i, y0, sn, st, bs⟩ (.bool on) rfl ok
      have t1 := t0.set2 hk 1 (by omega) ⟨on, false, y0, sn, st, bs⟩ (.bool false) rfl ok
      have t2 := t1.set2 hk 2 (by omega) ⟨on, false, 0, sn, st, bs⟩ (.int .i64 0) rfl ok
      have t3 := t2.set2 hk 3 (by omega) ⟨on, false, 0, 0, st, bs⟩ (.int .i64 0) rfl ⟨Int.le_refl 0, by show (0 : Int) ≤ _; omega⟩
      have HR : Hid (DT _ s g (Y.set k ⟨on, false, 0, 0, st, bs⟩) ∧ Fr w.heap.size [g] w _) := ⟨t3, (((((Fr.refl _ _ _).st2 g (k * 6) (.bool on) (by simp)).st2 g (k * 6 + 1) (.bool false) (by simp)).st2 g (k * 6 + 2) (.int .i64 0) (by simp)).st2 g (k * 6 + 3) (.int .i64 0) (by simp))⟩
      clear t0 t1 t2 t3
      clear h e hg hs HT hx hsb ok
      go_enter Try.func15, Try.ntmps15
      go_wp2_with fail
      refine (C.out ()).mono ?_
      rintro e w' ⟨rfl, rfl⟩
      go_wp2
      go_ret
      exact ⟨rfl, HR.out⟩

set_option maxRecDepth 100000 in
set_option maxHeartbeats 2000000 in
theorem rrest_any {s g : Nat} {Y : List Kc} (w : World) (c y t : Int) (h : DT w s g Y) :
    Calls Try.prog 17 #[.pointer (some ⟨s, 0, none⟩), .int .i64 c, .int .i64 y, .int .i64 t] w fun e w' => e = .returned (.int .i64 (rsE Y c y t)) ∧ DT w' s g (rsY Y c y t) ∧ Fr w.heap.size [g] w w' := by
  have H : Hid (DT w s g Y) := h
  have C : Hid (∀ _ : Unit, _) := fun _ => ris_any w s g Y c h
  cases e : isk Y.length c with
  | false =>
    rw [e] at C
    rw [show rsE Y c y t = 3 by unfold rsE; rw [e]; rfl, show rsY Y c y t = Y by unfold rsY rsE; rw [e]; rfl]
    clear h e
    go_enter Try.func17, Try.ntmps17
    go_wp2_with fail
    refine (C.out ()).mono ?_
    rintro e w' ⟨rfl, rfl⟩
    go_wp2
    go_ret
    exact ⟨rfl, H.out, Fr.refl _ _ _⟩
  | true =>
    rw [e] at C
    obtain ⟨k, rfl, hk⟩ := isk_yes e
    obtain ⟨x, hx⟩ : ∃ x, Y.getD k kz = x := ⟨_, rfl⟩
    have hg : gt Y (k : Int) = x := (gt_nat hk).trans hx
    have hs := ysame hk
    rw [hx] at hs
    have ok : 0 ≤ x.since ∧ x.since ≤ 1152921504606846976 := by rw [← hg]; exact okY_get h.ok _
    obtain ⟨c0, c1, c2, c3, c4, c5⟩ := h.six hk hx
    obtain ⟨cap, hcap, hsb⟩ := h.sb
    have cs0 : w.cell? ⟨s, 0, none⟩ = some (.slice (some ⟨g, 0, none⟩) Y.length cap) := hsb.cell 0
    have nsg : s ≠ g := h.ne
    have nsb : (s == g) = false := by simpa using nsg
    have ngs : (g == s) = false := by simp; omega
    have f0 := h.free (k * 6)
    have f1 := h.free (k * 6 + 1)
    have f2 := h.free (k * 6 + 2)
    have f3 := h.free (k * 6 + 3)
    have f4 := h.free (k * 6 + 4)
    have f5 := h.free (k * 6 + 5)
    have hk1 : (k : Int) < Y.length := by omega
    have hk0 : k < Y.length := hk
    have HT : Hid (DT w s g (Y.set k x)) := by unfold Hid; rw [hs]; exact h
    obtain ⟨p, i, y0, sn, st, bs⟩ := x
    dsimp only at *
    cases a1 : isW y with
    | false =>
      rw [show rsE Y (k : Int) y t = 2 by unfold rsE; rw [e]; simp [a1], show rsY Y (k : Int) y t = Y by unfold rsY rsE; rw [e]; simp [a1]]
      by_cases y1 : y < 0
      · clear a1
        clear h e hg hs HT hx hsb ok
        go_enter Try.func17, Try.ntmps17
        go_wp2_with fail
        refine (C.out ()).mono ?_
        rintro e w' ⟨rfl, rfl⟩
        go_wp2
        go_ret
        exact ⟨rfl, H.out, Fr.refl _ _ _⟩
      · have y2 : (7 : Int) < y := by simp [isW] at a1; omega
        clear a1
        clear h e hg hs HT hx hsb ok
        go_enter Try.func17, Try.ntmps17
        go_wp2_with fail
        refine (C.out ()).mono ?_
        rintro e w' ⟨rfl, rfl⟩
        go_wp2
        go_ret
        exact ⟨rfl, H.out, Fr.refl _ _ _⟩
    | true =>
      have y1 : ¬ y < 0 := by simp [isW] at a1; omega
      have y2 : ¬ (7 : Int) < y := by simp [isW] at a1; omega
      cases a2 : isT t with
      | false =>
        rw [show rsE Y (k : Int) y t = 2 by unfold rsE; rw [e]; simp [a1, a2], show rsY Y (k : Int) y t = Y by unfold rsY rsE; rw [e]; simp [a1, a2]]
        by_cases t1 : t < 0
        · clear a1 a2
          clear h e hg hs HT hx hsb ok
          go_enter Try.func17, Try.ntmps17
          go_wp2_with fail
          refine (C.out ()).mono ?_
          rintro e w' ⟨rfl, rfl⟩
          go_wp2
          go_ret
          exact ⟨rfl, H.out, Fr.refl _ _ _⟩
        · have t2 : (1152921504606846976 : Int) < t := by simp [isT] at a2; omega
          clear a1 a2
          clear h e hg hs HT hx hsb ok
          go_enter Try.func17, Try.ntmps17
          go_wp2_with fail
          refine (C.out ()).mono ?_
          rintro e w' ⟨rfl, rfl⟩
          go_wp2
          go_ret
          exact ⟨rfl, H.out, Fr.refl _ _ _⟩
      | true =>
        have ot : 0 ≤ t ∧ t ≤ 1152921504606846976 := by simpa [isT] using a2
        have t1 : ¬ t < 0 := by omega
        have t2 : ¬ (1152921504606846976 : Int) < t := by omega
        cases p with
        | false =>
          rw [show rsE Y (k : Int) y t = 6 by unfold rsE; rw [e, hg]; simp [a1, a2], show rsY Y (k : Int) y t = Y by unfold rsY rsE; rw [e, hg]; simp [a1, a2]]
          clear a1 a2
          clear h e hg hs HT hx hsb ok
          go_enter Try.func17, Try.ntmps17
          go_wp2_with fail
          refine (C.out ()).mono ?_
          rintro e w' ⟨rfl, rfl⟩
          go_wp2
          go_ret
          exact ⟨rfl, H.out, Fr.refl _ _ _⟩
        | true =>
          cases i with
          | true =>
            rw [show rsE Y (k : Int) y t = 6 by unfold rsE; rw [e, hg]; simp [a1, a2], show rsY Y (k : Int) y t = Y by unfold rsY rsE; rw [e, hg]; simp [a1, a2]]
            clear a1 a2
            clear h e hg hs HT hx hsb ok
            go_enter Try.func17, Try.ntmps17
            go_wp2_with fail
            refine (C.out ()).mono ?_
            rintro e w' ⟨rfl, rfl⟩
            go_wp2
            go_ret
            exact ⟨rfl, H.out, Fr.refl _ _ _⟩
          | false =>
            rw [show rsE Y (k : Int) y t = 0 by unfold rsE; rw [e, hg]; simp [a1, a2], show rsY Y (k : Int) y t = Y.set k ⟨true, true, y, t, st, bs⟩ by unfold rsY rsE; rw [e, hg]; simp [a1, a2]]
            have v0 := HT.out.set2 hk 1 (by omega) ⟨true, true, y0, sn, st, bs⟩ (.bool true) rfl ok
            have v1 := v0.set2 hk 2 (by omega) ⟨true, true, y, sn, st, bs⟩ (.int .i64 y) rfl ok
            have v2 := v1.set2 hk 3 (by omega) ⟨true, true, y, t, st, bs⟩ (.int .i64 t) rfl ot
            have HR : Hid (DT _ s g (Y.set k ⟨true, true, y, t, st, bs⟩) ∧ Fr w.heap.size [g] w _) := ⟨v2, ((((Fr.refl _ _ _).st2 g (k * 6 + 1) (.bool true) (by simp)).st2 g (k * 6 + 2) (.int .i64 y) (by simp)).st2 g (k * 6 + 3) (.int .i64 t) (by simp))⟩
            clear v0 v1 v2
            clear a1 a2 ot
            clear h e hg hs HT hx hsb ok
            go_enter Try.func17, Try.ntmps17
            go_wp2_with fail
            refine (C.out ()).mono ?_
            rintro e w' ⟨rfl, rfl⟩
            go_wp2
            go_ret
            exact ⟨rfl, HR.out⟩

set_option maxRecDepth 100000 in
set_option maxHeartbeats 2000000 in
theorem rwake_any {s g : Nat} {Y : List Kc} (w : World) (c t : Int) (h : DT w s g Y) :
    Calls Try.prog 19 #[.pointer (some ⟨s, 0, none⟩), .int .i64 c, .int .i64 t] w fun e w' => e = .returned (.tuple #[.int .i64 (wkN Y c t), .int .i64 (wkE Y c t)]) ∧ DT w' s g (wkY Y c t) ∧ Fr w.heap.size [g] w w' := by
  have H : Hid (DT w s g Y) := h
  have C : Hid (∀ _ : Unit, _) := fun _ => ris_any w s g Y c h
  cases e : isk Y.length c with
  | false =>
    rw [e] at C
    rw [show wkN Y c t = 0 by unfold wkN wkE; rw [e]; rfl, show wkE Y c t = 3 by unfold wkE; rw [e]; rfl, show wkY Y c t = Y by unfold wkY wkE; rw [e]; rfl]
    clear h e
    go_enter Try.func19, Try.ntmps19
    go_wp2_with fail
    refine (C.out ()).mono ?_
    rintro e w' ⟨rfl, rfl⟩
    go_wp2
    go_ret2
    exact ⟨rfl, H.out, Fr.refl _ _ _⟩
  | true =>
    rw [e] at C
    obtain ⟨k, rfl, hk⟩ := isk_yes e
    obtain ⟨x, hx⟩ : ∃ x, Y.getD k kz = x := ⟨_, rfl⟩
    have hg : gt Y (k : Int) = x := (gt_nat hk).trans hx
    have hs := ysame hk
    rw [hx] at hs
    have ok : 0 ≤ x.since ∧ x.since ≤ 1152921504606846976 := by rw [← hg]; exact okY_get h.ok _
    obtain ⟨c0, c1, c2, c3, c4, c5⟩ := h.six hk hx
    obtain ⟨cap, hcap, hsb⟩ := h.sb
    have cs0 : w.cell? ⟨s, 0, none⟩ = some (.slice (some ⟨g, 0, none⟩) Y.length cap) := hsb.cell 0
    have nsg : s ≠ g := h.ne
    have nsb : (s == g) = false := by simpa using nsg
    have ngs : (g == s) = false := by simp; omega
    have f0 := h.free (k * 6)
    have f1 := h.free (k * 6 + 1)
    have f2 := h.free (k * 6 + 2)
    have f3 := h.free (k * 6 + 3)
    have f4 := h.free (k * 6 + 4)
    have f5 := h.free (k * 6 + 5)
    have hk1 : (k : Int) < Y.length := by omega
    have hk0 : k < Y.length := hk
    have HT : Hid (DT w s g (Y.set k x)) := by unfold Hid; rw [hs]; exact h
    obtain ⟨p, i, y0, sn, st, bs⟩ := x
    dsimp only at *
    cases a2 : isT t with
    | false =>
      rw [show wkN Y (k : Int) t = 0 by unfold wkN wkE; rw [e]; simp [a2], show wkE Y (k : Int) t = 2 by unfold wkE; rw [e]; simp [a2], show wkY Y (k : Int) t = Y by unfold wkY wkE; rw [e]; simp [a2]]
      by_cases t1 : t < 0
      · clear a2
        clear h e hg hs HT hx hsb ok
        go_enter Try.func19, Try.ntmps19
        go_wp2_with fail
        refine (C.out ()).mono ?_
        rintro e w' ⟨rfl, rfl⟩
        go_wp2
        go_ret2
        exact ⟨rfl, H.out, Fr.refl _ _ _⟩
      · have t2 : (1152921504606846976 : Int) < t := by simp [isT] at a2; omega
        clear a2
        clear h e hg hs HT hx hsb ok
        go_enter Try.func19, Try.ntmps19
        go_wp2_with fail
        refine (C.out ()).mono ?_
        rintro e w' ⟨rfl, rfl⟩
        go_wp2
        go_ret2
        exact ⟨rfl, H.out, Fr.refl _ _ _⟩
    | true =>
      have ot : 0 ≤ t ∧ t ≤ 1152921504606846976 := by simpa [isT] using a2
      have t1 : ¬ t < 0 := by omega
      have t2 : ¬ (1152921504606846976 : Int) < t := by omega
      cases i with
      | false =>
        rw [show wkN Y (k : Int) t = 0 by unfold wkN wkE; rw [e, hg]; simp [a2], show wkE Y (k : Int) t = 6 by unfold wkE; rw [e, hg]; simp [a2], show wkY Y (k : Int) t = Y by unfold wkY wkE; rw [e, hg]; simp [a2]]
        clear a2
        clear h e hg hs HT hx hsb ok
        go_enter Try.func19, Try.ntmps19
        go_wp2_with fail
        refine (C.out ()).mono ?_
        rintro e w' ⟨rfl, rfl⟩
        go_wp2
        go_ret2
        exact ⟨rfl, H.out, Fr.refl _ _ _⟩
      | true =>
        rw [show wkN Y (k : Int) t = (if t ≤ sn then 0 else t - sn) by unfold wkN wkE; rw [e, hg]; simp [a2], show wkE Y (k : Int) t = 0 by unfold wkE; rw [e, hg]; simp [a2], show wkY Y (k : Int) t = Y.set k ⟨p, false, 0, 0, st, bs⟩ by unfold wkY wkE; rw [e, hg]; simp [a2]]
        have wr : wrap64 (t - sn) = t - sn := by simp only [wrap64]; omega
        have v0 := HT.out.set2 hk 1 (by omega) ⟨p, false, y0, sn, st, bs⟩ (.bool false) rfl ok
        have v1 := v0.set2 hk 2 (by omega) ⟨p, false, 0, sn, st, bs⟩ (.int .i64 0) rfl ok
        have v2 := v1.set2 hk 3 (by omega) ⟨p, false, 0, 0, st, bs⟩ (.int .i64 0) rfl ⟨Int.le_refl 0, by show (0 : Int) ≤ _; omega⟩
        have HR : Hid (DT _ s g (Y.set k ⟨p, false, 0, 0, st, bs⟩) ∧ Fr w.heap.size [g] w _) := ⟨v2, ((((Fr.refl _ _ _).st2 g (k * 6 + 1) (.bool false) (by simp)).st2 g (k * 6 + 2) (.int .i64 0) (by simp)).st2 g (k * 6 + 3) (.int .i64 0) (by simp))⟩
        clear v0 v1 v2
        clear a2 ot
        clear h e hg hs HT hx hsb ok
        by_cases m : t ≤ sn
        · rw [if_pos m]
          go_enter Try.func19, Try.ntmps19
          go_wp2_with fail
          refine (C.out ()).mono ?_
          rintro e w' ⟨rfl, rfl⟩
          go_wp2
          go_ret2
          exact ⟨rfl, HR.out⟩
        · rw [if_neg m]
          obtain ⟨v, hv⟩ : ∃ v, t - sn = v := ⟨_, rfl⟩
          have wr2 : wrap64 (t - sn) = v := wr.trans hv
          rw [hv]
          clear wr hv
          go_enter Try.func19, Try.ntmps19
          go_wp2_with fail
          refine (C.out ()).mono ?_
          rintro e w' ⟨rfl, rfl⟩
          go_wp2
          go_ret2
          exact ⟨by rw [← wr2]; rfl, HR.out⟩

set_option maxRecDepth 100000 in
set_option maxHeartbeats 2000000 in
theorem rcount_any {s g : Nat} {Y : List Kc} (w : World) (c : Int) (b : Bool) (h : DT w s g Y) :
    Calls Try.prog 21 #[.pointer (some ⟨s, 0, none⟩), .int .i64 c, .bool b] w fun e w' => e = .returned (.int .i64 (inE Y c)) ∧ DT w' s g (ctY Y c b) ∧ Fr w.heap.size [g] w w' := by
  have H : Hid (DT w s g Y) := h
  have C : Hid (∀ _ : Unit, _) := fun _ => ris_any w s g Y c h
  cases e : isk Y.length c with
  | false =>
    rw [e] at C
    rw [show inE Y c = 3 by unfold inE; rw [e]; rfl, show ctY Y c b = Y by unfold ctY; rw [e]; rfl]
    clear h e
    go_enter Try.func21, Try.ntmps21
    go_wp2_with fail
    refine (C.out ()).mono ?_
    rintro e w' ⟨rfl, rfl⟩
    go_wp2
    go_ret
    exact ⟨rfl, H.out, Fr.refl _ _ _⟩
  | true =>
    rw [e] at C
    obtain ⟨k, rfl, hk⟩ := isk_yes e
    obtain ⟨x, hx⟩ : ∃ x, Y.getD k kz = x := ⟨_, rfl⟩
    have hg : gt Y (k : Int) = x := (gt_nat hk).trans hx
    have hs := ysame hk
    rw [hx] at hs
    have ok : 0 ≤ x.since ∧ x.since ≤ 1152921504606846976 := by rw [← hg]; exact okY_get h.ok _
    obtain ⟨c0, c1, c2, c3, c4, c5⟩ := h.six hk hx
    obtain ⟨cap, hcap, hsb⟩ := h.sb
    have cs0 : w.cell? ⟨s, 0, none⟩ = some (.slice (some ⟨g, 0, none⟩) Y.length cap) := hsb.cell 0
    have nsg : s ≠ g := h.ne
    have nsb : (s == g) = false := by simpa using nsg
    have ngs : (g == s) = false := by simp; omega
    have f0 := h.free (k * 6)
    have f1 := h.free (k * 6 + 1)
    have f2 := h.free (k * 6 + 2)
    have f3 := h.free (k * 6 + 3)
    have f4 := h.free (k * 6 + 4)
    have f5 := h.free (k * 6 + 5)
    have hk1 : (k : Int) < Y.length := by omega
    have hk0 : k < Y.length := hk
    have HT : Hid (DT w s g (Y.set k x)) := by unfold Hid; rw [hs]; exact h
    obtain ⟨p, i, y0, sn, st, bs⟩ := x
    dsimp only at *
    have hi1 : wrap64 (st + 1) = inc st := rfl
    have hi2 : wrap64 (bs + 1) = inc bs := rfl
    rw [show inE Y (k : Int) = 0 by unfold inE; rw [e]; rfl]
    have v0 := HT.out.set2 hk 4 (by omega) ⟨p, i, y0, sn, inc st, bs⟩ (.int .i64 (inc st)) rfl ok
    have d5 : (w.setCell ⟨g, k * 6 + 4, none⟩ (.int .i64 (inc st))).cell? ⟨g, k * 6 + 5, none⟩ = some (.int .i64 bs) := by
      have q := v0.cell (k := k) (by simpa using hk) 5 (by omega)
      rw [show (Y.set k ⟨p, i, y0, sn, inc st, bs⟩).getD k kz = ⟨p, i, y0, sn, inc st, bs⟩ by simp [List.getD, hk]] at q
      exact q
    have ds0 : (w.setCell ⟨g, k * 6 + 4, none⟩ (.int .i64 (inc st))).cell? ⟨s, 0, none⟩ = some (.slice (some ⟨g, 0, none⟩) Y.length cap) := (hsb.other nsg _).cell 0
    have e5 := v0.free (k * 6 + 5)
    cases b with
    | false =>
      rw [show ctY Y (k : Int) false = Y.set k ⟨p, i, y0, sn, inc st, bs⟩ by unfold ctY; rw [e, hg]; rfl]
      have HR : Hid (∀ wd, Sm wd (w.setCell ⟨g, k * 6 + 4, none⟩ (.int .i64 (inc st))) → DT wd s g (Y.set k ⟨p, i, y0, sn, inc st, bs⟩) ∧ Fr w.heap.size [g] w wd) := fun wd m => ⟨v0.heap m.1, by
        have f := (Fr.refl w.heap.size [g] w).st2 g (k * 6 + 4) (.int .i64 (inc st)) (by simp)
        exact ⟨m.2.1.trans f.os, m.2.2.1.trans f.tape, m.2.2.2.trans f.output, by rw [m.1]; exact f.size, fun q a b => by rw [m.1]; exact f.block q a b⟩⟩
      clear v0 d5 ds0 e5
      clear h e hg hs HT hx hsb ok
      generalize inc st = s1 at *
      generalize inc bs = b1 at *
      go_enter Try.func21, Try.ntmps21
      go_wp2_with fail
      refine (C.out ()).mono ?_
      rintro e w' ⟨rfl, rfl⟩
      go_wp2
      go_region
      go_wp2
      go_ret
      exact ⟨rfl, HR.out _ ⟨rfl, rfl, rfl, rfl⟩⟩
    | true =>
      rw [show ctY Y (k : Int) true = Y.set k ⟨p, i, y0, sn, inc st, inc bs⟩ by unfold ctY; rw [e, hg]; rfl]
      have v1 := v0.set2 hk 5 (by omega) ⟨p, i, y0, sn, inc st, inc bs⟩ (.int .i64 (inc bs)) rfl ok
      have HR : Hid (∀ wd, Sm wd ((w.setCell ⟨g, k * 6 + 4, none⟩ (.int .i64 (inc st))).setCell ⟨g, k * 6 + 5, none⟩ (.int .i64 (inc bs))) → DT wd s g (Y.set k ⟨p, i, y0, sn, inc st, inc bs⟩) ∧ Fr w.heap.size [g] w wd) := fun wd m => ⟨v1.heap m.1, by
        have f := ((Fr.refl w.heap.size [g] w).st2 g (k * 6 + 4) (.int .i64 (inc st)) (by simp)).st2 g (k * 6 + 5) (.int .i64 (inc bs)) (by simp)
        exact ⟨m.2.1.trans f.os, m.2.2.1.trans f.tape, m.2.2.2.trans f.output, by rw [m.1]; exact f.size, fun q a b => by rw [m.1]; exact f.block q a b⟩⟩
      clear v0 v1
      clear h e hg hs HT hx hsb ok
      generalize inc st = s1 at *
      generalize inc bs = b1 at *
      go_enter Try.func21, Try.ntmps21
      go_wp2_with fail
      refine (C.out ()).mono ?_
      rintro e w' ⟨rfl, rfl⟩
      go_wp2
      go_region
      go_wp2
      go_region
      go_wp2
      go_ret
      exact ⟨rfl, HR.out _ ⟨rfl, rfl, rfl, rfl⟩⟩

set_option maxRecDepth 100000 in
set_option maxHeartbeats 2000000 in
theorem rtake_any {s g : Nat} {Y : List Kc} (w : World) (c : Int) (h : DT w s g Y) :
    Calls Try.prog 23 #[.pointer (some ⟨s, 0, none⟩), .int .i64 c] w fun e w' => e = .returned (.tuple #[.int .i64 (gt Y c).busy, .int .i64 (gt Y c).steps, .int .i64 (inE Y c)]) ∧ DT w' s g (tkY Y c) ∧ Fr w.heap.size [g] w w' := by
  have H : Hid (DT w s g Y) := h
  have C : Hid (∀ _ : Unit, _) := fun _ => ris_any w s g Y c h
  cases e : isk Y.length c with
  | false =>
    rw [e] at C
    rw [show gt Y c = kz by unfold gt; rw [e]; rfl, show inE Y c = 3 by unfold inE; rw [e]; rfl, show tkY Y c = Y by unfold tkY; rw [e]; rfl]
    clear h e
    go_enter Try.func23, Try.ntmps23
    go_wp2_with fail
    refine (C.out ()).mono ?_
    rintro e w' ⟨rfl, rfl⟩
    go_wp2
    go_ret3
    exact ⟨rfl, H.out, Fr.refl _ _ _⟩
  | true =>
    rw [e] at C
    obtain ⟨k, rfl, hk⟩ := isk_yes e
    obtain ⟨x, hx⟩ : ∃ x, Y.getD k kz = x := ⟨_, rfl⟩
    have hg : gt Y (k : Int) = x := (gt_nat hk).trans hx
    have hs := ysame hk
    rw [hx] at hs
    have ok : 0 ≤ x.since ∧ x.since ≤ 1152921504606846976 := by rw [← hg]; exact okY_get h.ok _
    obtain ⟨c0, c1, c2, c3, c4, c5⟩ := h.six hk hx
    obtain ⟨cap, hcap, hsb⟩ := h.sb
    have cs0 : w.cell? ⟨s, 0, none⟩ = some (.slice (some ⟨g, 0, none⟩) Y.length cap) := hsb.cell 0
    have nsg : s ≠ g := h.ne
    have nsb : (s == g) = false := by simpa using nsg
    have ngs : (g == s) = false := by simp; omega
    have f0 := h.free (k * 6)
    have f1 := h.free (k * 6 + 1)
    have f2 := h.free (k * 6 + 2)
    have f3 := h.free (k * 6 + 3)
    have f4 := h.free (k * 6 + 4)
    have f5 := h.free (k * 6 + 5)
    have hk1 : (k : Int) < Y.length := by omega
    have hk0 : k < Y.length := hk
    have HT : Hid (DT w s g (Y.set k x)) := by unfold Hid; rw [hs]; exact h
    obtain ⟨p, i, y0, sn, st, bs⟩ := x
    dsimp only at *
    rw [hg, show inE Y (k : Int) = 0 by unfold inE; rw [e]; rfl, show tkY Y (k : Int) = Y.set k ⟨p, i, y0, sn, 0, 0⟩ by unfold tkY; rw [e, hg]; rfl]
    have t0 := HT.out.set2 hk 5 (by omega) ⟨p, i, y0, sn, st, 0⟩ (.int .i64 0) rfl ok
    have t1 := t0.set2 hk 4 (by omega) ⟨p, i, y0, sn, 0, 0⟩ (.int .i64 0) rfl ok
    have HR : Hid (DT _ s g (Y.set k ⟨p, i, y0, sn, 0, 0⟩) ∧ Fr w.heap.size [g] w _) := ⟨t1, (((Fr.refl _ _ _).st2 g (k * 6 + 5) (.int .i64 0) (by simp)).st2 g (k * 6 + 4) (.int .i64 0) (by simp))⟩
    clear t0 t1
    clear h e hg hs HT hx hsb ok
    go_enter Try.func23, Try.ntmps23
    go_wp2_with fail
    refine (C.out ()).mono ?_
    rintro e w' ⟨rfl, rfl⟩
    go_wp2
    go_ret3
    exact ⟨rfl, HR.out⟩
end Go.Proofs.Ytddjkdcbbonjkaa
