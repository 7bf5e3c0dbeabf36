/- How a wheel's room is settled: what settle leaves. -/
import Derived.Test.YtadaghhgmflfdaaDoorRows
import Derived.Test.YtadaghhgmflfdaaDoorWi
import Derived.WalkKit
import Derived.ProofKit
import Derived.OpenShut
import Derived.BigQuiet
import Derived.Deep.RegionLaw
import Derived.Lib.SliceRun
namespace Go.Proofs.YtadaghhgmflfdaaDoor
open Go.ChangeShapes Go.WideShapes Go.ChangeAt Go.RowKit
open Wm

/-- While room j is settled, i of its things on; v is the list that it had. -/
def SI (w wr : World) (s : Nat) (now : Int) (mp : Option Nat) (V : List Value) (R : Nat → List It) (j : Nat) (v : Value) (i : Nat) : Prop :=
  ∃ Vi, WR wr s now mp Vi (mid (rm now) R j i) ∧ Own 95 wr v (R j) ∧ (∀ g ∈ ob v, g ∉ s :: bl Vi) ∧ Fr w.heap.size (s :: bl V) w wr ∧ ∀ g ∈ bl Vi, g ∈ bl V ∨ w.heap.size ≤ g

theorem si_start {w : World} {s : Nat} {now : Int} {mp : Option Nat} {V : List Value} {R : Nat → List It} {j : Nat} (h : WR w s now mp V R) (hj : j < 169) : SI w (w.setCell ⟨s, 2 + j, none⟩ nv) s now mp V R j (V.getD j nv) 0 := by
  have st := h.store (v' := nv) (l' := []) hj (Fr.refl _ _ _) (own_nil _ _) (fun g hg => by simp [nv, ob, Value.ownBlock] at hg)
  have F : Fr w.heap.size [s] w (w.setCell ⟨s, 2 + j, none⟩ nv) := (Fr.refl _ _ _).setCell (Or.inr (by simp)) _
  have o := h.own j hj
  have hv := h.vl
  have nb : ∀ g ∈ ob (V.getD j nv), g ∉ bl (V.set j nv) := fun g hg hm => by
    obtain ⟨r, hr, hg2⟩ := bl_mem hm
    rw [List.length_set] at hr
    rw [getD_set V j r nv nv (by omega)] at hg2
    by_cases e : r = j
    · rw [if_pos e] at hg2
      simp [nv, ob, Value.ownBlock] at hg2
    · rw [if_neg e] at hg2
      exact h.apart j r hj (by omega) (fun q => e q.symm) g hg hg2
  refine ⟨V.set j nv, st.congr fun r _ => ?_, o.keep F fun g hg => ⟨o.lt hg, ?_⟩, fun g hg hm => ?_, F.mono (Nat.le_refl _) fun k _ hk hm => hk (by simp at hm; simp [hm]), fun g hg => ?_⟩
  · rw [mid_start]
    rfl
  · simp
    exact fun e => o.ne h.st (by decide) hg e.symm
  · rcases List.mem_cons.1 hm with e | e
    · exact o.ne h.st (by decide) (mem_ob.1 hg) e.symm
    · exact nb g hg e
  · rcases bl_set hg with q | q
    · exact Or.inl q
    · simp [nv, ob, Value.ownBlock] at q

/-- What append gives, and the store behind it. -/
theorem si_step {w wr W : World} {s : Nat} {now : Int} {mp : Option Nat} {V : List Value} {R : Nat → List It} {j : Nat} {v : Value} {i : Nat} (h : SI w wr s now mp V R j v i) {x : It} (hx : (R j)[i]? = some x) (hq : rm now x < 169) (hl : (mid (rm now) R j i (rm now x)).length ≤ 2800) (hW : Below wr.heap.size wr W) (vb : Nat) (hb : Blk W vb (cel x) 95) :
    ∃ a n c p n' c', W.cell? ⟨s, 2 + rm now x, none⟩ = some (.slice a n c) ∧ ∃ w', (∀ ty, (Builtin.append_ #[87, 87] ty #[.slice a n c, .slice (some ⟨vb, 0, none⟩) 1 1]).run Tryd.prog W = .ok (.slice p n' c') w') ∧ w'.cell? ⟨s, 2 + rm now x, none⟩ = some (.slice a n c) ∧ w'.frozen? ⟨s, 2 + rm now x, none⟩ = false ∧ SI w (w'.setCell ⟨s, 2 + rm now x, none⟩ (.slice p n' c')) s now mp V R j v (i + 1) := by
  obtain ⟨Vi, wi, o, nb, f, sb⟩ := h
  have wW := wi.below hW
  have oW := o.keep (Fr.of_below hW) fun g hg => ⟨o.lt hg, by simp⟩
  obtain ⟨a, c, ev⟩ := wW.shape hq
  have oq := wW.own _ hq
  obtain ⟨i0, hi0, hz0, hzs, hzb⟩ := info_parts Tryd.infoTh
  obtain ⟨v', w', r, o', gr, bl'⟩ := run_appg (P := Tryd.prog) W 87 0 95 i0 _ 2 16 Tryd.underlying87 hi0 hz0 hzs hzb rfl (by decide) (by decide) oq ⟨vb, 0, none⟩ 1 1 (cel x) rfl
      (fun j u hj => by rw [Addr.add_lit, Nat.zero_add, hb.cell]; exact hj) (fun v hv => by unfold cel at hv; simp at hv; rcases hv with rfl | rfl <;> rfl) (by omega)
  have o2 : Own 95 w' v' (mid (rm now) R j i (rm now x) ++ [x]) := by
    unfold Own
    rw [List.length_append, cls_app]
    exact o'
  have f2 : Fr W.heap.size (ob (Vi.getD (rm now x) nv)) W w' := (Fr.refl _ _ _).grown gr (Nat.le_refl _) (fun k hk => Or.inr (mem_ob.2 hk))
  have s2 : ∀ g ∈ ob v', g ∈ ob (Vi.getD (rm now x) nv) ∨ W.heap.size ≤ g := fun g hg => by
    rcases bl' g (mem_ob.1 hg) with q | q
    · exact Or.inl (mem_ob.2 q)
    · exact Or.inr q
  have st := wW.store hq f2 o2 s2
  have fs := store_fr (s := s) (v' := v') f2
  have k : Blk w' s _ 91 := wW.st.keep f2 wW.st.lt (fun hm => wW.not wW.st (by decide) (bl_get hm))
  have cW := wW.cr hq
  rw [ev] at cW r
  have cw' : w'.cell? ⟨s, 2 + rm now x, none⟩ = _ := (k.cell _).trans ((wW.st.cell _).symm.trans cW)
  obtain ⟨p, c', e'⟩ := o2.shape
  subst e'
  have s3 := hW.size
  have s4 := f.size
  refine ⟨a, _, c, p, _, c', cW, w', fun ty => r, cw', k.free _, _, st.congr fun r _ => ?_, oW.keep fs fun g hg => ⟨oW.lt hg, nb g (mem_ob.2 hg)⟩, fun g hg hm => ?_, ?_, fun g hg => ?_⟩
  · rw [mid_step _ _ _ _ x hx]
    unfold upR
    by_cases e : r = rm now x
    · rw [if_pos e, if_pos e, e]
    · rw [if_neg e, if_neg e]
  · rcases List.mem_cons.1 hm with e | e
    · exact nb g hg (by rw [e]; exact List.mem_cons_self)
    · rcases bl_set e with q | q
      · exact nb g hg (List.mem_cons_of_mem _ q)
      · rcases s2 g q with q | q
        · exact nb g hg (List.mem_cons_of_mem _ (bl_get q))
        · have := oW.lt (mem_ob.1 hg)
          omega
  · have f1 : Fr w.heap.size (s :: bl V) wr W := (Fr.of_below hW).mono (by omega) (by simp)
    refine f.trans (f1.trans (fs.mono (by omega) fun k hk hs hm => ?_))
    rcases List.mem_cons.1 hm with e | e
    · exact hs (by rw [e]; exact List.mem_cons_self)
    · rcases sb k e with q | q
      · exact hs (List.mem_cons_of_mem _ q)
      · omega
  · rcases bl_set hg with q | q
    · exact sb g q
    · rcases s2 g q with q | q
      · exact sb g (bl_get q)
      · exact Or.inr (by omega)

set_option maxRecDepth 100000 in
set_option maxHeartbeats 4000000 in
theorem settle_any {w : World} {s : Nat} {now : Int} {mp : Option Nat} {V : List Value} {R : Nat → List It} (l k : Nat) (hl : (l : Int) < 21) (hk : (k : Int) < 8) (h : WR w s now mp V R) (hn : isT now) (ht : ∀ x ∈ R (1 + 8 * l + k), isT x.1) (hz : ∀ r, (R r).length ≤ 1000) :
    Calls Tryd.prog 67 #[.pointer (some ⟨s, 0, none⟩), .int .i64 l, .int .i64 k] w fun e w' => e = .returned (.tuple #[]) ∧ ∃ V', WR w' s now mp V' (mid (rm now) R (1 + 8 * l + k) (R (1 + 8 * l + k)).length) ∧ Fr w.heap.size (s :: bl V) w w' ∧ ∀ g ∈ bl V', g ∈ bl V ∨ w.heap.size ≤ g := by
  obtain ⟨j, hj⟩ : ∃ j, j = 1 + 8 * l + k := ⟨_, rfl⟩
  have ej : 3 + l * 8 + k = 2 + j := by omega
  rw [← hj] at ht ⊢
  have hj2 : j < 169 := by omega
  obtain ⟨a, cap, ev⟩ := h.shape hj2
  have c0 := h.cr hj2
  have z0 := h.st.free (2 + j)
  rw [ev] at c0
  have S0 := si_start h hj2
  rw [ev] at S0
  have P0 : Hid (SI w (w.setCell ⟨s, 2 + j, none⟩ (.slice none 0 0)) s now mp V R j (.slice a (R j).length cap) 0) := S0
  have FIN : Hid (∀ wr, SI w wr s now mp V R j (.slice a (R j).length cap) (R j).length → ∃ V', WR wr s now mp V' (mid (rm now) R j (R j).length) ∧ Fr w.heap.size (s :: bl V) w wr ∧ ∀ g ∈ bl V', g ∈ bl V ∨ w.heap.size ≤ g) := fun wr ⟨Vi, h1, _, _, h4, h5⟩ => ⟨Vi, h1, h4, h5⟩
  have ST : Hid (∀ (wr : World) (i : Nat), SI w wr s now mp V R j (.slice a (R j).length cap) i → i < (R j).length → ∃ g x, a = some ⟨g, 0, none⟩ ∧ wr.cell? ⟨g, i * 2, none⟩ = some (.int .i64 x.2) ∧ wr.cell? ⟨g, i * 2 + 1, none⟩ = some (.int .i64 x.1) ∧ Hid (∀ u1 : World, Sm u1 (wr.alloc (.cells #[.int .i64 x.2, .int .i64 x.1] 95)) → u1.cell? ⟨s, 0, none⟩ = some (.int .i64 now) ∧ u1.cell? ⟨wr.heap.size, 0, none⟩ = some (.int .i64 x.2) ∧ u1.cell? ⟨wr.heap.size, 1, none⟩ = some (.int .i64 x.1) ∧ isT x.1 ∧
      ∃ a' n' c' p n2 c2, u1.cell? ⟨s, 2 + rm now x, none⟩ = some (.slice a' n' c') ∧ ∃ w', (∀ ty, (Builtin.append_ #[87, 87] ty #[.slice a' n' c', .slice (some ⟨u1.heap.size, 0, none⟩) 1 1]).run Tryd.prog (u1.alloc (.cells #[.int .i64 x.2, .int .i64 x.1] 95)).drew = .ok (.slice p n2 c2) w') ∧ w'.cell? ⟨s, 2 + rm now x, none⟩ = some (.slice a' n' c') ∧ w'.frozen? ⟨s, 2 + rm now x, none⟩ = false ∧ Hid (SI w (w'.setCell ⟨s, 2 + rm now x, none⟩ (.slice p n2 c2)) s now mp V R j (.slice a (R j).length cap) (i + 1)))) := fun wr i hS hi => by
    obtain ⟨Vi, wi, o, nb, f, sb⟩ := hS
    obtain ⟨g, x, e, hg, hx, h1, h2⟩ := own_at o hi
    refine ⟨g, x, e, h1, h2, fun u1 hs => ?_⟩
    have bu : Below wr.heap.size wr u1 := hs.below ((Below.refl _ _).alloc (Nat.le_refl _) _)
    have su : wr.heap.size ≤ u1.heap.size := bu.size
    have nw := (Blk.new wr [.int .i64 x.2, .int .i64 x.1] 95).heap hs.1
    have tx : isT x.1 := ht x (List.mem_of_getElem? hx)
    have hq : rm now x < 169 := rm_lt hn.1 hn.2 tx
    have bW : Below wr.heap.size wr (u1.alloc (.cells #[.int .i64 x.2, .int .i64 x.1] 95)).drew := (bu.alloc su _).drew
    have hlen : (mid (rm now) R j i (rm now x)).length ≤ 2800 := by
      unfold mid rl
      rw [List.length_append]
      have q1 := List.length_filter_le (fun y => decide (rm now y = rm now x)) ((R j).take i)
      have q2 := hz (rm now x)
      have q3 := hz j
      rw [List.length_take] at q1
      split <;> simp <;> omega
    obtain ⟨a', n', c', p, n2, c2, k1, w', k2, k3, k4, k5⟩ := si_step (W := (u1.alloc (.cells #[.int .i64 x.2, .int .i64 x.1] 95)).drew) ⟨Vi, wi, o, nb, f, sb⟩ hx hq hlen bW u1.heap.size ((Blk.new u1 [.int .i64 x.2, .int .i64 x.1] 95).heap rfl)
    have wu := wi.below bu
    have cu := wu.cr hq
    have cW := (wi.below bW).cr hq
    rw [k1] at cW
    rw [← cW] at cu
    exact ⟨wu.c0, nw.cell 0, nw.cell 1, tx, a', n', c', p, n2, c2, cu, w', k2, k3, k4, k5⟩
  have hzj := hz j
  generalize (R j).length = n at *
  have hn2 : (n : Int) ≤ 1000 := by omega
  have CR : Hid (∀ (w : World) (d : Int), w.cell? ⟨s, 0, none⟩ = some (.int .i64 now) → isT d → _) := fun w d hc hd => room_any (w := w) d hc hn hd
  clear hj hj2 ev S0 h ht hz hzj hn
  go_enter Tryd.func67, Tryd.ntmps67
  go_wp2_with fail
  go_loopw [27] (fun i wr => ∃ k : Nat, (k : Int) ≤ n ∧ i = .int .i64 k ∧ Hid (SI w wr s now mp V R j (.slice a n cap) k)) (fun i _ => n - (intOf i).toNat)
  case atStart => exact ⟨0, by omega, rfl, P0⟩
  case round =>
    obtain ⟨i, hi, rfl, S⟩ := hrel
    by_cases h : (i : Int) < n
    · obtain ⟨g, x, rfl, k1, k2, K⟩ := ST.out wr i S.out (by omega)
      obtain ⟨y0, y1, y2, tx, _⟩ := K.out _ ⟨rfl, rfl, rfl, rfl⟩
      have R1 : Hid (∀ _ : Unit, _) := fun _ => CR.out _ x.1 y0 tx
      clear S tx
      go_wp2_with fail
      refine (R1.out ()).mono ?_
      rintro e u1 ⟨rfl, sm⟩
      obtain ⟨q0, q1, q2, _, a', n', c', p, n2, c2, q3, w', q4, q5, q6, Q⟩ := K.out u1 sm
      have p1 : (u1.alloc (.cells #[.int .i64 x.2, .int .i64 x.1] 95)).cell? ⟨wr.heap.size, 0, none⟩ = some (.int .i64 x.2) := Lib.cell?_alloc_some _ q1
      have p2 : (u1.alloc (.cells #[.int .i64 x.2, .int .i64 x.1] 95)).cell? ⟨wr.heap.size, 1, none⟩ = some (.int .i64 x.1) := Lib.cell?_alloc_some _ q2
      have p3 : (u1.alloc (.cells #[.int .i64 x.2, .int .i64 x.1] 95)).cell? ⟨s, 2 + rm now x, none⟩ = some (.slice a' n' c') := Lib.cell?_alloc_some _ q3
      have Q4 : Hid _ := q4
      unfold rm at *
      clear K sm y0 y1 y2 k1 k2 q4 P0
      go_wp2_with fail
      go_region_law (refine step_append_run rfl (.tmp 38) (.tmp 40) 87 87 rfl (.slice a' n' c') (.slice (some ⟨u1.heap.size, 0, none⟩) 1 1) (by simp [Act.eval]) (by simp [Act.eval]) (Q4.out _) ?_)
      all_goals (go_wp2; go_roundw)
      all_goals first | exact ⟨i + 1, by omega, by go_num, Q⟩ | (simp [intOf]; omega)
    · obtain rfl : i = n := by omega
      have FF : Hid (∃ V', _) := FIN.out wr S.out
      clear S
      go_wp2
      go_end0
      exact ⟨rfl, FF.out⟩
end Go.Proofs.YtadaghhgmflfdaaDoor
