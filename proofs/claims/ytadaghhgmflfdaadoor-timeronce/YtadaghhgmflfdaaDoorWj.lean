/- What a wheel's Add answers and leaves. -/
import Derived.Test.YtadaghhgmflfdaaDoorRows
import Derived.Test.YtadaghhgmflfdaaDoorWi
import Derived.WalkKit
import Derived.ProofKit
import Derived.OpenShut
import Derived.BigQuiet
import Derived.Deep.RegionHeld3
import Derived.Deep.RegionLaw
import Derived.WalkSpells
import Derived.Lib.SliceRun
namespace Go.Proofs.YtadaghhgmflfdaaDoor
open Go.ChangeShapes Go.WideShapes Go.ChangeAt Go.RowKit
open Wm

/-- What Add answers and leaves. -/
def adE (L : List It) (id d : Int) : Int := if isT d then (if (wn L id).isSome = true then 6 else 0) else 2
def adL (L : List It) (id d : Int) : List It := if isT d then (if (wn L id).isSome = true then L else ins (d, id) L) else L

/-- The wheel behind the store of what Insert gives. -/
theorem add_end {w w2 W w' : World} {s mb : Nat} {now id d : Int} {V : List Value} {L : List It} {v' : Value} {F : List Nat}
    (h : WR w2 s now (some mb) V (rl (rm now) L)) (m : MQ 2 w2 mb (L.length + 1) (fun j => if j = id then some d else wn L j)) (srt : Srt L) (uni : Uni L) (tks : Tks L) (hn : isT now) (ids : ∀ x ∈ L, (Lit.int .i64 x.2).wf = true) (hi : (Lit.int .i64 id).wf = true) (hd : isT d) (hno : wn L id = none)
    (f : Fr w.heap.size F w w2) (hF : ∀ g ∈ fp s (some mb) V, g ∈ F ∨ w.heap.size ≤ g)
    (hW : Below w2.heap.size w2 W) (o : Own 95 w' v' (ins (d, id) (rl (rm now) L (rm now (d, id))))) (fr : Fr W.heap.size (ob (V.getD (rm now (d, id)) nv)) W w') (sub : ∀ g ∈ ob v', g ∈ ob (V.getD (rm now (d, id)) nv) ∨ W.heap.size ≤ g) :
    (∃ F', WW (w'.setCell ⟨s, 2 + rm now (d, id), none⟩ v') s now (ins (d, id) L) F' ∧ Mv w (w'.setCell ⟨s, 2 + rm now (d, id), none⟩ v') F F') := by
  have hr : rm now (d, id) < 169 := rm_lt hn.1 hn.2 hd
  have nx : ∀ y ∈ L, y.2 ≠ id := wn_none.1 hno
  have nm : (d, id) ∉ L := fun hm => nx _ hm rfl
  have hW2 := h.below hW
  have m2 : MQ 2 W mb (L.length + 1) _ := m.keep (Fr.of_below hW) m.lt (by simp)
  have st := hW2.store hr fr o sub
  have fs := store_fr (s := s) (v' := v') fr
  have nb : mb ∉ s :: bl V := fun hm => by
    rcases List.mem_cons.1 hm with e | e
    · exact m2.blk hW2.st e
    · exact m2.nbl hW2 e
  have m3 : MQ 2 (w'.setCell ⟨s, 2 + rm now (d, id), none⟩ v') mb (L.length + 1) _ := m2.keep fs m2.lt nb
  refine ⟨_, ⟨_, _, ⟨st.congr fun r _ => ?_, Or.inr ⟨mb, rfl, ?_⟩, srt_ins srt _, uni_ins uni nx, fun x hx => ?_, hn, fun x hx => ?_⟩, rfl⟩, ?_, fun g hg => ?_⟩
  · rw [rl_ins srt nm]
    unfold upR
    by_cases e : r = rm now (d, id)
    · subst e; rfl
    · rw [if_neg e, if_neg e]
  · rw [ins_len srt nm]
    exact m3.congr fun i => by rw [wn_ins uni nx]
  · rcases (mem_ins nm).1 hx with e | e
    · rw [e]; exact hd
    · exact tks x e
  · rcases (mem_ins nm).1 hx with e | e
    · rw [e]; exact hi
    · exact ids x e
  · have s1 := f.size
    have s2 := hW.size
    have f1 : Fr w.heap.size F w2 W := (Fr.of_below hW).mono (by omega) (by simp)
    refine f.trans (f1.trans (fs.mono (by omega) fun k hk hs hm => ?_))
    rcases hF k (by rcases List.mem_cons.1 hm with e | e; exact mem_fp.2 (Or.inl e); exact mem_fp.2 (Or.inr (Or.inr e))) with q | q
    · exact hs q
    · omega
  · have s1 := f.size
    have s2 := hW.size
    rcases mem_fp.1 hg with e | e | e
    · exact hF g (mem_fp.2 (Or.inl e))
    · exact hF g (mem_fp.2 (Or.inr (Or.inl e)))
    · rcases store_bl sub g e with q | q
      · exact hF g (mem_fp.2 (Or.inr (Or.inr q)))
      · exact Or.inr (by omega)

theorem map_isnil (w : World) : (binOp .eql 86 (.map none) (.map none)).run Tryd.prog w = .ok (.bool true) w := by
  exact run_eql_map_nil w _ 3 2 none Tryd.underlying86
theorem map_notnil (b : Nat) (w : World) : (binOp .eql 86 (.map (some b)) (.map none)).run Tryd.prog w = .ok (.bool false) w := by
  exact run_eql_map_nil w _ 3 2 (some b) Tryd.underlying86

set_option maxRecDepth 100000 in
set_option maxHeartbeats 1000000 in
theorem add_arg {w : World} {s : Nat} (id d : Int) (hd : ¬ isT d) :
    Calls Tryd.prog 50 #[.pointer (some ⟨s, 0, none⟩), .int .i64 id, .int .i64 d] w fun e w' => e = .returned (.int .i64 2) ∧ w' = w := by
  have C : Hid (∀ w, _) := fun w => can_any d w
  rw [decide_eq_false hd] at C
  clear hd
  go_enter Tryd.func50, Tryd.ntmps50
  go_wp2_with fail
  refine (C.out _).mono ?_
  rintro e w' ⟨rfl, rfl⟩
  go_wp2
  go_ret
  exact ⟨rfl, rfl⟩
set_option maxRecDepth 100000 in
set_option maxHeartbeats 1000000 in
theorem add_in {w : World} {s mb m : Nat} {f : Int → Option Int} (id d : Int) (hi : (Lit.int .i64 id).wf = true) (hd : isT d) (c1 : w.cell? ⟨s, 1, none⟩ = some (.map (some mb))) (hm : MQ 2 w mb m f) (hs : (f id).isSome = true) :
    Calls Tryd.prog 50 #[.pointer (some ⟨s, 0, none⟩), .int .i64 id, .int .i64 d] w fun e w' => e = .returned (.int .i64 6) ∧ w' = w := by
  have C : Hid (∀ w, _) := fun w => can_any d w
  rw [decide_eq_true hd] at C
  have l := mq_look (tm := 86) Tryd.underlying2 Tryd.underlying86 zero2 hm hi
  rw [hs] at l
  generalize (f id).getD 0 = v at *
  clear hd hm hs hi
  go_enter Tryd.func50, Tryd.ntmps50
  go_wp2_with fail
  refine (C.out _).mono ?_
  rintro e w' ⟨rfl, rfl⟩
  go_wp2
  go_ret
  exact ⟨rfl, rfl⟩

set_option maxRecDepth 100000 in
set_option maxHeartbeats 4000000 in
theorem add_some {w : World} {s mb : Nat} {now : Int} {V : List Value} {L : List It} (id d : Int) (hi : (Lit.int .i64 id).wf = true) (hd : isT d) (h : WH w s now (some mb) V L) (hno : wn L id = none) (hl : L.length ≤ 1000) :
    Calls Tryd.prog 50 #[.pointer (some ⟨s, 0, none⟩), .int .i64 id, .int .i64 d] w fun e w' => e = .returned (.int .i64 0) ∧ ∃ F', WW w' s now (ins (d, id) L) F' ∧ Mv w w' (fp s (some mb) V) F' := by
  have C : Hid (∀ w, _) := fun w => can_any d w
  rw [decide_eq_true hd] at C
  have wd : (Lit.int .i64 d).wf = true := by
    unfold isT at hd
    simp [Lit.wf, IntKind.min, IntKind.max, IntKind.signed, IntKind.bits]
    omega
  obtain ⟨M1⟩ : Nonempty (MQ 2 w mb L.length (wn L)) := by
    rcases h.mq with ⟨e, _⟩ | ⟨b, e, m⟩
    · cases e
    · cases e; exact ⟨m⟩
  have l := mq_look (tm := 86) Tryd.underlying2 Tryd.underlying86 zero2 M1 hi
  rw [hno] at l
  have c1 := h.wr.c1
  have mn := map_notnil mb
  obtain ⟨w2, r2, M2, f2⟩ := mq_put (tm := 86) Tryd.underlying2 Tryd.underlying86 M1 (by omega) hi wd
  rw [hno] at M2
  have W2 : WR w2 s now (some mb) V (rl (rm now) L) := h.wr.keep f2 (Nat.le_refl _) (by simp; exact fun e => M1.blk h.wr.st e.symm) (fun g hg => by simp; exact fun e => M1.nbl h.wr (e ▸ hg))
  have FF : Fr w.heap.size (fp s (some mb) V) w w2 := f2.mono (Nat.le_refl _) fun k _ hk hm => hk (by simp at hm; subst hm; exact mem_fp.2 (Or.inr (Or.inl rfl)))
  have HF : ∀ g ∈ fp s (some mb) V, g ∈ fp s (some mb) V ∨ w.heap.size ≤ g := fun g hg => Or.inl hg
  have MM : MQ 2 w2 mb (L.length + 1) (fun j => if j = id then some d else wn L j) := M2
  have c0 := W2.c0
  have rr : rm now (d, id) < 169 := rm_lt h.now.1 h.now.2 hd
  obtain ⟨a, cap, ev⟩ := W2.shape rr
  have cr := W2.cr rr
  rw [ev] at cr
  have fz := W2.st.free (2 + rm now (d, id))
  have nx : (d, id) ∉ rl (rm now) L (rm now (d, id)) := fun hm => wn_none.1 hno _ (mem_rl.1 hm).1 rfl
  have hl2 : (rl (rm now) L (rm now (d, id))).length ≤ 1000 := Nat.le_trans (rl_len _ _ _) hl
  have sr := srt_rl (f := rm now) h.srt (rm now (d, id))
  have CR : Hid (∀ _ : Unit, _) := fun _ => room_any (w := w2) d c0 h.now hd
  have hat := at_le (rl (rm now) L (rm now (d, id))) (d, id)
  have OW : Hid (∀ W : World, Below w2.heap.size w2 W → Own 95 W (.slice a (rl (rm now) L (rm now (d, id))).length cap) (rl (rm now) L (rm now (d, id))) ∧ W.cell? ⟨s, 2 + rm now (d, id), none⟩ = some (.slice a (rl (rm now) L (rm now (d, id))).length cap) ∧ W.frozen? ⟨s, 2 + rm now (d, id), none⟩ = false) := fun W hW => by
    have := W2.below hW
    have o := this.own _ rr
    have c := this.cr rr
    rw [ev] at o c
    exact ⟨o, c, this.st.free _⟩
  have FI : Hid (∀ W : World, Below w2.heap.size w2 W → _) := fun W hW => find_any (w := W) (a := a) (cap := cap) (d, id) (OW.out W hW).1 sr (by omega)
  have IN : Hid (∀ (W : World) (vb c : Nat), Below w2.heap.size w2 W → w2.heap.size ≤ vb → Blk W vb (cel (d, id)) 95 → Calls Tryd.prog 64 #[.slice a (rl (rm now) L (rm now (d, id))).length cap, .int .i64 (at_ (rl (rm now) L (rm now (d, id))) (d, id) : Nat), .slice (some ⟨vb, 0, none⟩) 1 c] W fun e w' => ∃ p n c, e = .returned (.slice p n c) ∧ w'.cell? ⟨s, 2 + rm now (d, id), none⟩ = some (.slice a (rl (rm now) L (rm now (d, id))).length cap) ∧ w'.frozen? ⟨s, 2 + rm now (d, id), none⟩ = false ∧ Hid (∃ F', WW (w'.setCell ⟨s, 2 + rm now (d, id), none⟩ (.slice p n c)) s now (ins (d, id) L) F' ∧ Mv w (w'.setCell ⟨s, 2 + rm now (d, id), none⟩ (.slice p n c)) (fp s (some mb) V) F')) := fun W vb c hW hvb hb => by
    obtain ⟨o, oc, of⟩ := OW.out W hW
    have w3 := W2.below hW
    refine (insert_any (i := at_ (rl (rm now) L (rm now (d, id))) (d, id)) (c := c) o (by omega) hb (fun hm => ?_) hat).mono ?_
    · have := o.lt (mem_ob.1 hm)
      have h3 : vb ∈ bl V := by
        refine bl_get (r := rm now (d, id)) ?_
        rw [ev]
        exact hm
      have := W2.lt h3
      omega
    · rintro e w' ⟨v', rfl, o', f', s'⟩
      rw [← ins_is sr nx] at o'
      obtain ⟨p, c', e'⟩ := o'.shape
      subst e'
      have k : Blk w' s _ 91 := w3.st.keep f' w3.st.lt (fun hm => w3.not w3.st (by decide) (bl_get (r := rm now (d, id)) (by rw [ev]; exact hm)))
      have oc' : w'.cell? ⟨s, 2 + rm now (d, id), none⟩ = _ := (k.cell _).trans ((w3.st.cell _).symm.trans oc)
      rw [← ev] at f' s'
      exact ⟨p, _, c', rfl, oc', k.free _, add_end W2 MM h.srt h.uni h.tks h.now h.ids hi hd hno FF HF hW o' f' s'⟩
  have BW : Hid (∀ w3 : World, Sm w3 w2 → ∀ W : World, Below (w3.alloc (.cells #[.int .i64 id, .int .i64 d] 95)).heap.size (w3.alloc (.cells #[.int .i64 id, .int .i64 d] 95)) W → Below w2.heap.size w2 W ∧ w2.heap.size ≤ W.heap.size ∧ W.cell? ⟨w3.heap.size, 0, none⟩ = some (.int .i64 id) ∧ W.cell? ⟨w3.heap.size, 1, none⟩ = some (.int .i64 d)) := fun w3 hs W hW => by
    have b0 : Below w2.heap.size w2 (w3.alloc (.cells #[.int .i64 id, .int .i64 d] 95)) := (hs.below (Below.refl _ _)).alloc (by rw [hs.1]; exact Nat.le_refl _) _
    have b1 := b0.trans (hW.mono (by simp [hs.1]))
    have nb := Blk.new w3 [.int .i64 id, .int .i64 d] 95
    refine ⟨b1, b1.size, ?_, ?_⟩
    · rw [hW.cell (p := ⟨w3.heap.size, 0, none⟩) (by simp)]; exact nb.cell 0
    · rw [hW.cell (p := ⟨w3.heap.size, 1, none⟩) (by simp)]; exact nb.cell 1
  unfold rm at *
  dsimp only at *
  generalize rn now.toNat d.toNat = r at *
  generalize at_ (rl (fun x : It => rn now.toNat x.1.toNat) L r) (d, id) = at0 at *
  generalize (rl (fun x : It => rn now.toNat x.1.toNat) L r).length = n0 at *
  have ha0 : (at0 : Int) ≤ 1000 := by omega
  clear M1 MM HF FF M2 f2 W2 hno hl hl2 hat nx sr ev rr h hd hi wd
  go_enter Tryd.func50, Tryd.ntmps50
  go_wp2_with fail
  refine (C.out _).mono ?_
  rintro e w' ⟨rfl, rfl⟩
  go_wp2_with fail
  refine (CR.out ()).mono ?_
  rintro e w3 ⟨rfl, sm⟩
  obtain ⟨b3, s3, k1, k2⟩ := BW.out w3 sm _ (Below.refl _ _)
  obtain ⟨o3, oc3, of3⟩ := OW.out _ b3
  have KV : Hid (∀ W v1 : World, Below W.heap.size W v1 → Sm W (w3.alloc (.cells #[.int .i64 id, .int .i64 d] 95)) → Below w2.heap.size w2 v1 ∧ w2.heap.size ≤ v1.heap.size ∧ v1.cell? ⟨w3.heap.size, 0, none⟩ = some (.int .i64 id) ∧ v1.cell? ⟨w3.heap.size, 1, none⟩ = some (.int .i64 d) ∧ v1.cell? ⟨s, 2 + r, none⟩ = some (.slice a n0 cap) ∧ v1.frozen? ⟨s, 2 + r, none⟩ = false) := fun W v1 hb hs => by
    obtain ⟨q1, q2, q3, q4⟩ := BW.out w3 sm v1 (hs.from (by rw [← hs.1]; exact hb))
    obtain ⟨_, q5, q6⟩ := OW.out v1 q1
    exact ⟨q1, q2, q3, q4, q5, q6⟩
  have B3 : Hid (Below w2.heap.size w2 (w3.alloc (.cells #[.int .i64 id, .int .i64 d] 95))) := b3
  clear o3 b3 s3 sm BW
  go_wp2_with fail
  generalize w3.alloc (.cells #[.int .i64 id, .int .i64 d] 95) = u at *
  go_region_held3 (fun w' => w'.cell? ⟨s, 2 + r, none⟩ = some (.slice a n0 cap) ∧ w'.cell? ⟨w3.heap.size, 0, none⟩ = some (.int .i64 id) ∧ w'.cell? ⟨w3.heap.size, 1, none⟩ = some (.int .i64 d)) (go_keep) (first | (go_at_call 63; refine (FI.out _ B3.out.drew).mono ?_; rintro e v1 ⟨⟨bb, rfl⟩, b1⟩; obtain ⟨q1, q2, q3, q4, q5, q6⟩ := KV.out _ v1 b1 ⟨rfl, rfl, rfl, rfl⟩))
  go_wp2_with fail
  have IV : Hid (∀ W : World, Sm W (v1.alloc (.cells #[.int .i64 id, .int .i64 d] 95)) → _) := fun W hs => IN.out W v1.heap.size 1 (hs.below (q1.alloc q2 _)) q2 ((Blk.new v1 [.int .i64 id, .int .i64 d] 95).heap hs.1)
  have p3 : (v1.alloc (.cells #[.int .i64 id, .int .i64 d] 95)).cell? ⟨w3.heap.size, 0, none⟩ = some (.int .i64 id) := Lib.cell?_alloc_some _ q3
  have p4 : (v1.alloc (.cells #[.int .i64 id, .int .i64 d] 95)).cell? ⟨w3.heap.size, 1, none⟩ = some (.int .i64 d) := Lib.cell?_alloc_some _ q4
  have p5 : (v1.alloc (.cells #[.int .i64 id, .int .i64 d] 95)).cell? ⟨s, 2 + r, none⟩ = some (.slice a n0 cap) := Lib.cell?_alloc_some _ q5
  clear IN FI KV OW CR b1 q1 q2 k1 k2 oc3 of3 c0 cr fz
  go_region_with (first | (go_at_call 64; refine (IV.out _ ?_).mono ?_; (exact ⟨rfl, rfl, rfl, rfl⟩); rintro e w4 ⟨p, n, c, rfl, j1, j2, FF⟩))
  all_goals (go_wp2; go_ret; exact ⟨rfl, FF.out⟩)

set_option maxRecDepth 100000 in
set_option maxHeartbeats 4000000 in
theorem add_none {w : World} {s : Nat} {now : Int} {V : List Value} {L : List It} (id d : Int) (hi : (Lit.int .i64 id).wf = true) (hd : isT d) (h : WH w s now none V L) (hno : wn L id = none) (hl : L.length ≤ 1000) :
    Calls Tryd.prog 50 #[.pointer (some ⟨s, 0, none⟩), .int .i64 id, .int .i64 d] w fun e w' => e = .returned (.int .i64 0) ∧ ∃ F', WW w' s now (ins (d, id) L) F' ∧ Mv w w' (fp s none V) F' := by
  have C : Hid (∀ w, _) := fun w => can_any d w
  rw [decide_eq_true hd] at C
  have wd : (Lit.int .i64 d).wf = true := by
    unfold isT at hd
    simp [Lit.wf, IntKind.min, IntKind.max, IntKind.signed, IntKind.bits]
    omega
  obtain rfl : L = [] := by
    rcases h.mq with ⟨_, e⟩ | ⟨b, e, _⟩
    · exact e
    · cases e
  have l := mq_none (tm := 86) Tryd.underlying86 zero2 w hi
  have sl := h.wr.st.lt
  have c1 := h.wr.c1
  have z1 := h.wr.st.free 1
  have mn := map_isnil
  obtain ⟨mb, emb⟩ : ∃ mb, mb = w.heap.size := ⟨_, rfl⟩
  obtain ⟨w1, ew1⟩ : ∃ w1, w1 = (w.alloc (.map #[] 0)).setCell ⟨s, 1, none⟩ (.map (some mb)) := ⟨_, rfl⟩
  have wa := h.wr.below ((Below.refl w.heap.size w).alloc (Nat.le_refl _) (.map #[] 0))
  have F0 : Fr w.heap.size (fp s none V) w w1 := by
    rw [ew1]
    exact ((Fr.refl w.heap.size (fp s none V) w).alloc (Nat.le_refl _) _).setCell (p := ⟨s, 1, none⟩) (Or.inr (mem_fp.2 (Or.inl rfl))) _
  have F1 : Fr (w.alloc (.map #[] 0)).heap.size [s] (w.alloc (.map #[] 0)) w1 := by
    rw [ew1]
    exact (Fr.refl _ _ _).setCell (Or.inr (by simp)) _
  have W1 : WR w1 s now (some mb) V (rl (rm now) []) := by
    refine ⟨?_, wa.vl, fun r hr => (wa.own r hr).keep F1 fun g hg => ⟨(wa.own r hr).lt hg, by simp; exact fun e => (wa.own r hr).ne wa.st (by decide) hg e.symm⟩, wa.apart⟩
    rw [ew1]
    exact wa.st.set 1 _
  have M1 : MQ 2 w1 mb 0 (fun _ => none) := by
    have := mq_new (te := 2) w
    rw [← emb] at this
    exact this.keep F1 this.lt (by simp; omega)
  have d1 := W1.c1
  have y1 := wa.c1
  have y2 := wa.st.free 1
  obtain ⟨w2, r2, M2, f2⟩ := mq_put (tm := 86) Tryd.underlying2 Tryd.underlying86 M1 (by omega) hi wd
  have W2 : WR w2 s now (some mb) V (rl (rm now) []) := W1.keep f2 (Nat.le_refl _) (by simp; exact fun e => M1.blk W1.st e.symm) (fun g hg => by simp; exact fun e => M1.nbl W1 (e ▸ hg))
  have FF : Fr w.heap.size (fp s none V) w w2 := F0.trans (f2.mono F0.size fun k hk _ hm => by simp at hm; omega)
  have HF : ∀ g ∈ fp s (some mb) V, g ∈ fp s none V ∨ w.heap.size ≤ g := fun g hg => by
    rcases mem_fp.1 hg with e | e | e
    · exact Or.inl (mem_fp.2 (Or.inl e))
    · simp at e; exact Or.inr (by omega)
    · exact Or.inl (mem_fp.2 (Or.inr (Or.inr e)))
  have MM : MQ 2 w2 mb (([] : List It).length + 1) (fun j => if j = id then some d else wn [] j) := M2
  rw [ew1] at d1 r2
  have mbs := @run_makeMap Tryd.prog
  subst emb
  have c0 := W2.c0
  have rr : rm now (d, id) < 169 := rm_lt h.now.1 h.now.2 hd
  obtain ⟨a, cap, ev⟩ := W2.shape rr
  have cr := W2.cr rr
  rw [ev] at cr
  have fz := W2.st.free (2 + rm now (d, id))
  have nx : (d, id) ∉ rl (rm now) ([] : List It) (rm now (d, id)) := fun hm => wn_none.1 hno _ (mem_rl.1 hm).1 rfl
  have hl2 : (rl (rm now) ([] : List It) (rm now (d, id))).length ≤ 1000 := Nat.le_trans (rl_len _ _ _) hl
  have sr := srt_rl (f := rm now) h.srt (rm now (d, id))
  have CR : Hid (∀ _ : Unit, _) := fun _ => room_any (w := w2) d c0 h.now hd
  have hat := at_le (rl (rm now) ([] : List It) (rm now (d, id))) (d, id)
  have OW : Hid (∀ W : World, Below w2.heap.size w2 W → Own 95 W (.slice a (rl (rm now) ([] : List It) (rm now (d, id))).length cap) (rl (rm now) ([] : List It) (rm now (d, id))) ∧ W.cell? ⟨s, 2 + rm now (d, id), none⟩ = some (.slice a (rl (rm now) ([] : List It) (rm now (d, id))).length cap) ∧ W.frozen? ⟨s, 2 + rm now (d, id), none⟩ = false) := fun W hW => by
    have := W2.below hW
    have o := this.own _ rr
    have c := this.cr rr
    rw [ev] at o c
    exact ⟨o, c, this.st.free _⟩
  have FI : Hid (∀ W : World, Below w2.heap.size w2 W → _) := fun W hW => find_any (w := W) (a := a) (cap := cap) (d, id) (OW.out W hW).1 sr (by omega)
  have IN : Hid (∀ (W : World) (vb c : Nat), Below w2.heap.size w2 W → w2.heap.size ≤ vb → Blk W vb (cel (d, id)) 95 → Calls Tryd.prog 64 #[.slice a (rl (rm now) ([] : List It) (rm now (d, id))).length cap, .int .i64 (at_ (rl (rm now) ([] : List It) (rm now (d, id))) (d, id) : Nat), .slice (some ⟨vb, 0, none⟩) 1 c] W fun e w' => ∃ p n c, e = .returned (.slice p n c) ∧ w'.cell? ⟨s, 2 + rm now (d, id), none⟩ = some (.slice a (rl (rm now) ([] : List It) (rm now (d, id))).length cap) ∧ w'.frozen? ⟨s, 2 + rm now (d, id), none⟩ = false ∧ Hid (∃ F', WW (w'.setCell ⟨s, 2 + rm now (d, id), none⟩ (.slice p n c)) s now (ins (d, id) ([] : List It)) F' ∧ Mv w (w'.setCell ⟨s, 2 + rm now (d, id), none⟩ (.slice p n c)) (fp s none V) F')) := fun W vb c hW hvb hb => by
    obtain ⟨o, oc, of⟩ := OW.out W hW
    have w3 := W2.below hW
    refine (insert_any (i := at_ (rl (rm now) ([] : List It) (rm now (d, id))) (d, id)) (c := c) o (by omega) hb (fun hm => ?_) hat).mono ?_
    · have := o.lt (mem_ob.1 hm)
      have h3 : vb ∈ bl V := by
        refine bl_get (r := rm now (d, id)) ?_
        rw [ev]
        exact hm
      have := W2.lt h3
      omega
    · rintro e w' ⟨v', rfl, o', f', s'⟩
      rw [← ins_is sr nx] at o'
      obtain ⟨p, c', e'⟩ := o'.shape
      subst e'
      have k : Blk w' s _ 91 := w3.st.keep f' w3.st.lt (fun hm => w3.not w3.st (by decide) (bl_get (r := rm now (d, id)) (by rw [ev]; exact hm)))
      have oc' : w'.cell? ⟨s, 2 + rm now (d, id), none⟩ = _ := (k.cell _).trans ((w3.st.cell _).symm.trans oc)
      rw [← ev] at f' s'
      exact ⟨p, _, c', rfl, oc', k.free _, add_end W2 MM h.srt h.uni h.tks h.now h.ids hi hd hno FF HF hW o' f' s'⟩
  have BW : Hid (∀ w3 : World, Sm w3 w2 → ∀ W : World, Below (w3.alloc (.cells #[.int .i64 id, .int .i64 d] 95)).heap.size (w3.alloc (.cells #[.int .i64 id, .int .i64 d] 95)) W → Below w2.heap.size w2 W ∧ w2.heap.size ≤ W.heap.size ∧ W.cell? ⟨w3.heap.size, 0, none⟩ = some (.int .i64 id) ∧ W.cell? ⟨w3.heap.size, 1, none⟩ = some (.int .i64 d)) := fun w3 hs W hW => by
    have b0 : Below w2.heap.size w2 (w3.alloc (.cells #[.int .i64 id, .int .i64 d] 95)) := (hs.below (Below.refl _ _)).alloc (by rw [hs.1]; exact Nat.le_refl _) _
    have b1 := b0.trans (hW.mono (by simp [hs.1]))
    have nb := Blk.new w3 [.int .i64 id, .int .i64 d] 95
    refine ⟨b1, b1.size, ?_, ?_⟩
    · rw [hW.cell (p := ⟨w3.heap.size, 0, none⟩) (by simp)]; exact nb.cell 0
    · rw [hW.cell (p := ⟨w3.heap.size, 1, none⟩) (by simp)]; exact nb.cell 1
  unfold rm at *
  dsimp only at *
  generalize rn now.toNat d.toNat = r at *
  generalize at_ (rl (fun x : It => rn now.toNat x.1.toNat) ([] : List It) r) (d, id) = at0 at *
  generalize (rl (fun x : It => rn now.toNat x.1.toNat) ([] : List It) r).length = n0 at *
  have ha0 : (at0 : Int) ≤ 1000 := by omega
  clear F0 F1 W1 M1 wa MM HF FF M2 f2 W2 sl hno hl hl2 hat nx sr ev rr h hd hi wd
  go_enter Tryd.func50, Tryd.ntmps50
  go_wp2_with fail
  refine (C.out _).mono ?_
  rintro e w' ⟨rfl, rfl⟩
  go_wp2_with fail
  refine (CR.out ()).mono ?_
  rintro e w3 ⟨rfl, sm⟩
  obtain ⟨b3, s3, k1, k2⟩ := BW.out w3 sm _ (Below.refl _ _)
  obtain ⟨o3, oc3, of3⟩ := OW.out _ b3
  have KV : Hid (∀ W v1 : World, Below W.heap.size W v1 → Sm W (w3.alloc (.cells #[.int .i64 id, .int .i64 d] 95)) → Below w2.heap.size w2 v1 ∧ w2.heap.size ≤ v1.heap.size ∧ v1.cell? ⟨w3.heap.size, 0, none⟩ = some (.int .i64 id) ∧ v1.cell? ⟨w3.heap.size, 1, none⟩ = some (.int .i64 d) ∧ v1.cell? ⟨s, 2 + r, none⟩ = some (.slice a n0 cap) ∧ v1.frozen? ⟨s, 2 + r, none⟩ = false) := fun W v1 hb hs => by
    obtain ⟨q1, q2, q3, q4⟩ := BW.out w3 sm v1 (hs.from (by rw [← hs.1]; exact hb))
    obtain ⟨_, q5, q6⟩ := OW.out v1 q1
    exact ⟨q1, q2, q3, q4, q5, q6⟩
  have B3 : Hid (Below w2.heap.size w2 (w3.alloc (.cells #[.int .i64 id, .int .i64 d] 95))) := b3
  clear o3 b3 s3 sm BW
  go_wp2_with fail
  generalize w3.alloc (.cells #[.int .i64 id, .int .i64 d] 95) = u at *
  go_region_held3 (fun w' => w'.cell? ⟨s, 2 + r, none⟩ = some (.slice a n0 cap) ∧ w'.cell? ⟨w3.heap.size, 0, none⟩ = some (.int .i64 id) ∧ w'.cell? ⟨w3.heap.size, 1, none⟩ = some (.int .i64 d)) (go_keep) (first | (go_at_call 63; refine (FI.out _ B3.out.drew).mono ?_; rintro e v1 ⟨⟨bb, rfl⟩, b1⟩; obtain ⟨q1, q2, q3, q4, q5, q6⟩ := KV.out _ v1 b1 ⟨rfl, rfl, rfl, rfl⟩))
  go_wp2_with fail
  have IV : Hid (∀ W : World, Sm W (v1.alloc (.cells #[.int .i64 id, .int .i64 d] 95)) → _) := fun W hs => IN.out W v1.heap.size 1 (hs.below (q1.alloc q2 _)) q2 ((Blk.new v1 [.int .i64 id, .int .i64 d] 95).heap hs.1)
  have p3 : (v1.alloc (.cells #[.int .i64 id, .int .i64 d] 95)).cell? ⟨w3.heap.size, 0, none⟩ = some (.int .i64 id) := Lib.cell?_alloc_some _ q3
  have p4 : (v1.alloc (.cells #[.int .i64 id, .int .i64 d] 95)).cell? ⟨w3.heap.size, 1, none⟩ = some (.int .i64 d) := Lib.cell?_alloc_some _ q4
  have p5 : (v1.alloc (.cells #[.int .i64 id, .int .i64 d] 95)).cell? ⟨s, 2 + r, none⟩ = some (.slice a n0 cap) := Lib.cell?_alloc_some _ q5
  clear IN FI KV OW CR b1 q1 q2 k1 k2 oc3 of3 c0 cr fz
  go_region_with (first | (go_at_call 64; refine (IV.out _ ?_).mono ?_; (exact ⟨rfl, rfl, rfl, rfl⟩); rintro e w4 ⟨p, n, c, rfl, j1, j2, FF⟩))
  all_goals (go_wp2; go_ret; exact ⟨rfl, FF.out⟩)

theorem add_any {w : World} {s : Nat} {now : Int} {L : List It} {F : List Nat} (id d : Int) (hi : (Lit.int .i64 id).wf = true) (h : WW w s now L F) (hl : L.length ≤ 1000) :
    Calls Tryd.prog 50 #[.pointer (some ⟨s, 0, none⟩), .int .i64 id, .int .i64 d] w fun e w' => e = .returned (.int .i64 (adE L id d)) ∧ ∃ F', WW w' s now (adL L id d) F' ∧ Mv w w' F F' := by
  unfold adE adL
  by_cases hd : isT d
  · rw [if_pos hd, if_pos hd]
    obtain ⟨mp, V, h, rfl⟩ := h
    cases hn : wn L id with
    | some t =>
      rw [Option.isSome_some, if_pos rfl, if_pos rfl]
      rcases h.mq with ⟨_, e⟩ | ⟨mb, e, m⟩
      · rw [e] at hn
        cases hn
      · subst e
        refine (add_in id d hi hd h.wr.c1 m (by rw [hn]; rfl)).mono ?_
        rintro e w' ⟨rfl, rfl⟩
        exact ⟨rfl, _, ⟨_, _, h, rfl⟩, Mv.refl _ _⟩
    | none =>
      rw [Option.isSome_none, if_neg (by decide), if_neg (by decide)]
      cases mp with
      | none => exact add_none id d hi hd h hn hl
      | some mb => exact add_some id d hi hd h hn hl
  · rw [if_neg hd, if_neg hd]
    refine (add_arg id d hd).mono ?_
    rintro e w' ⟨rfl, rfl⟩
    exact ⟨rfl, F, h, Mv.refl _ _⟩
end Go.Proofs.YtadaghhgmflfdaaDoor
