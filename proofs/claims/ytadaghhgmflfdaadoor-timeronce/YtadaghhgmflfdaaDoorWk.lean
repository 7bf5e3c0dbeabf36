/- What a wheel's Drop answers and leaves. -/
import Derived.Test.YtadaghhgmflfdaaDoorRows
import Derived.Test.YtadaghhgmflfdaaDoorWi
import Derived.WalkKit
import Derived.ProofKit
import Derived.OpenShut
import Derived.BigQuiet
namespace Go.Proofs.YtadaghhgmflfdaaDoor
open Go.ChangeShapes Go.WideShapes Go.ChangeAt Go.RowKit
open Wm

/-- What Drop answers. -/
def dpE (L : List It) (id : Int) : Int := if (wn L id).isSome = true then 0 else 4

theorem drop_end {w w2 W w' : World} {s mb : Nat} {now id d : Int} {V : List Value} {L : List It} {v' : Value}
    (h : WH w s now (some mb) V L) (m : MQ 2 w2 mb (L.length - 1) (fun j => if j = id then none else wn L j)) (hin : (d, id) ∈ L)
    (f : Fr w.heap.size [mb] w w2) (W2 : WR w2 s now (some mb) V (rl (rm now) L))
    (hW : Below w2.heap.size w2 W) (o : Own 95 w' v' (rid id (rl (rm now) L (rm now (d, id))))) (fr : Fr W.heap.size (ob (V.getD (rm now (d, id)) nv)) W w') (sub : ob v' = ob (V.getD (rm now (d, id)) nv)) :
    (∃ F', WW (w'.setCell ⟨s, 2 + rm now (d, id), none⟩ v') s now (rid id L) F' ∧ Mv w (w'.setCell ⟨s, 2 + rm now (d, id), none⟩ v') (fp s (some mb) V) F') := by
  have hr : rm now (d, id) < 169 := rm_lt h.now.1 h.now.2 (h.tks _ hin)
  have hW2 := W2.below hW
  have m2 : MQ 2 W mb (L.length - 1) _ := m.keep (Fr.of_below hW) m.lt (by simp)
  have st := hW2.store hr fr o (fun g hg => Or.inl (sub ▸ hg))
  have fs := store_fr (s := s) (v' := v') fr
  have nb : mb ∉ s :: bl V := fun hm => by
    rcases List.mem_cons.1 hm with e | e
    · exact m2.blk hW2.st e
    · exact m2.nbl hW2 e
  have m3 : MQ 2 (w'.setCell ⟨s, 2 + rm now (d, id), none⟩ v') mb (L.length - 1) _ := m2.keep fs m2.lt nb
  have s1 := f.size
  have s2 := hW.size
  refine ⟨_, ⟨_, _, ⟨st.congr fun r _ => ?_, Or.inr ⟨mb, rfl, ?_⟩, srt_rid h.srt _, uni_rid h.uni _, fun x hx => h.tks x (mem_rid.1 hx).1, h.now, fun x hx => h.ids x (mem_rid.1 hx).1⟩, rfl⟩, ?_, fun g hg => ?_⟩
  · rw [rl_rid h.uni hin]
    unfold upR
    by_cases e : r = rm now (d, id)
    · subst e; rfl
    · rw [if_neg e, if_neg e]
  · have e := rid_len h.srt h.uni hin
    rw [show (rid id L).length = L.length - 1 by dsimp only at e; omega]
    exact m3.congr fun i => by rw [wn_rid h.uni]
  · have f1 : Fr w.heap.size (fp s (some mb) V) w2 W := (Fr.of_below hW).mono (by omega) (by simp)
    have f0 : Fr w.heap.size (fp s (some mb) V) w w2 := f.mono (Nat.le_refl _) fun k _ hk hm => hk (by simp at hm; subst hm; exact mem_fp.2 (Or.inr (Or.inl rfl)))
    refine f0.trans (f1.trans (fs.mono (by omega) fun k hk hs hm => hs ?_))
    rcases List.mem_cons.1 hm with e | e
    · exact mem_fp.2 (Or.inl e)
    · exact mem_fp.2 (Or.inr (Or.inr e))
  · refine Or.inl ?_
    rcases mem_fp.1 hg with e | e | e
    · exact mem_fp.2 (Or.inl e)
    · exact mem_fp.2 (Or.inr (Or.inl e))
    · rcases bl_set e with q | q
      · exact mem_fp.2 (Or.inr (Or.inr q))
      · rw [sub] at q
        exact mem_fp.2 (Or.inr (Or.inr (bl_get q)))

set_option maxRecDepth 100000 in
set_option maxHeartbeats 1000000 in
theorem drop_no {w : World} {s : Nat} {now : Int} {mp : Option Nat} {V : List Value} {L : List It} (id : Int) (hi : (Lit.int .i64 id).wf = true) (h : WH w s now mp V L) (hn : wn L id = none) :
    Calls Tryd.prog 51 #[.pointer (some ⟨s, 0, none⟩), .int .i64 id] w fun e w' => e = .returned (.int .i64 4) ∧ w' = w := by
  have c1 := h.wr.c1
  have l : (Instr.lookup 86 (.map mp) (.int .i64 id) true).run Tryd.prog w = .ok (.tuple #[.int .i64 0, .bool false]) w := by
    rcases h.mq with ⟨e, _⟩ | ⟨mb, e, m⟩
    · rw [e]
      exact mq_none (tm := 86) Tryd.underlying86 zero2 w hi
    · have := mq_look (tm := 86) Tryd.underlying2 Tryd.underlying86 zero2 m hi
      rw [hn] at this
      rw [e]
      exact this
  clear h hn hi
  go_enter Tryd.func51, Tryd.ntmps51
  go_wp2
  go_ret
  exact ⟨rfl, rfl⟩

set_option maxRecDepth 100000 in
set_option maxHeartbeats 4000000 in
theorem drop_yes {w : World} {s mb : Nat} {now d : Int} {V : List Value} {L : List It} (id : Int) (hi : (Lit.int .i64 id).wf = true) (h : WH w s now (some mb) V L) (hn : wn L id = some d) (hl : L.length ≤ 1000) :
    Calls Tryd.prog 51 #[.pointer (some ⟨s, 0, none⟩), .int .i64 id] w fun e w' => e = .returned (.int .i64 0) ∧ ∃ F', WW w' s now (rid id L) F' ∧ Mv w w' (fp s (some mb) V) F' := by
  have hin := wn_mem hn
  have hd : isT d := h.tks _ hin
  obtain ⟨M1⟩ : Nonempty (MQ 2 w mb L.length (wn L)) := by
    rcases h.mq with ⟨e, _⟩ | ⟨b, e, m⟩
    · cases e
    · cases e; exact ⟨m⟩
  have l := mq_look (tm := 86) Tryd.underlying2 Tryd.underlying86 zero2 M1 hi
  rw [hn] at l
  have c1 := h.wr.c1
  obtain ⟨w2, r2, M2, f2⟩ := mq_del (tm := 86) Tryd.underlying86 M1 hi (by rw [hn]; rfl) 0
  have W2 : WR w2 s now (some mb) V (rl (rm now) L) := h.wr.keep f2 (Nat.le_refl _) (by simp; exact fun e => M1.blk h.wr.st e.symm) (fun g hg => by simp; exact fun e => M1.nbl h.wr (e ▸ hg))
  have c0 := W2.c0
  have rr : rm now (d, id) < 169 := rm_lt h.now.1 h.now.2 hd
  obtain ⟨a, cap, ev⟩ := W2.shape rr
  have hl2 : (rl (rm now) L (rm now (d, id))).length ≤ 1000 := Nat.le_trans (rl_len _ _ _) hl
  have sr := srt_rl (f := rm now) h.srt (rm now (d, id))
  have ur := uni_rl (f := rm now) h.uni (rm now (d, id))
  have ir : (d, id) ∈ rl (rm now) L (rm now (d, id)) := mem_rl.2 ⟨hin, rfl⟩
  have CR : Hid (∀ _ : Unit, _) := fun _ => room_any (w := w2) d c0 h.now hd
  have hat := at_lt sr ir
  have OW : Hid (∀ W : World, Below w2.heap.size w2 W → Own 95 W (.slice a (rl (rm now) L (rm now (d, id))).length cap) (rl (rm now) L (rm now (d, id))) ∧ W.cell? ⟨s, 2 + rm now (d, id), none⟩ = some (.slice a (rl (rm now) L (rm now (d, id))).length cap) ∧ W.frozen? ⟨s, 2 + rm now (d, id), none⟩ = false) := fun W hW => by
    have := W2.below hW
    have o := this.own _ rr
    have c := this.cr rr
    rw [ev] at o c
    exact ⟨o, c, this.st.free _⟩
  have FI : Hid (∀ W : World, Below w2.heap.size w2 W → _) := fun W hW => find_any (w := W) (a := a) (cap := cap) (d, id) (OW.out W hW).1 sr (by omega)
  have DE : Hid (∀ W : World, Below w2.heap.size w2 W → Calls Tryd.prog 65 #[.slice a (rl (rm now) L (rm now (d, id))).length cap, .int .i64 (at_ (rl (rm now) L (rm now (d, id))) (d, id) : Nat), .int .i64 ((at_ (rl (rm now) L (rm now (d, id))) (d, id) : Nat) + 1)] W fun e w' => ∃ p n c, e = .returned (.slice p n c) ∧ w'.cell? ⟨s, 2 + rm now (d, id), none⟩ = some (.slice a (rl (rm now) L (rm now (d, id))).length cap) ∧ w'.frozen? ⟨s, 2 + rm now (d, id), none⟩ = false ∧ Hid (∃ F', WW (w'.setCell ⟨s, 2 + rm now (d, id), none⟩ (.slice p n c)) s now (rid id L) F' ∧ Mv w (w'.setCell ⟨s, 2 + rm now (d, id), none⟩ (.slice p n c)) (fp s (some mb) V) F')) := fun W hW => by
    obtain ⟨o, oc, of⟩ := OW.out W hW
    have w3 := W2.below hW
    refine (delete_any (i := at_ (rl (rm now) L (rm now (d, id))) (d, id)) o hat).mono ?_
    rintro e w' ⟨v', rfl, o', f', s'⟩
    rw [← rid_is sr ur ir] at o'
    obtain ⟨p, c', e'⟩ := o'.shape
    subst e'
    have k : Blk w' s _ 91 := w3.st.keep f' w3.st.lt (fun hm => w3.not w3.st (by decide) (bl_get (r := rm now (d, id)) (by rw [ev]; exact hm)))
    have oc' : w'.cell? ⟨s, 2 + rm now (d, id), none⟩ = _ := (k.cell _).trans ((w3.st.cell _).symm.trans oc)
    rw [← ev] at f' s'
    exact ⟨p, _, c', rfl, oc', k.free _, drop_end h M2 hin f2 W2 hW o' f' s'⟩
  unfold rm at *
  dsimp only at *
  generalize rn now.toNat d.toNat = r at *
  generalize at_ (rl (fun x : It => rn now.toNat x.1.toNat) L r) (d, id) = at0 at *
  generalize (rl (fun x : It => rn now.toNat x.1.toNat) L r).length = n0 at *
  have ha0 : (at0 : Int) ≤ 1000 := by omega
  clear M1 M2 f2 W2 hn hl hl2 hat sr ur ir ev rr h hd hi hin
  go_enter Tryd.func51, Tryd.ntmps51
  go_wp2_with fail
  refine (CR.out ()).mono ?_
  rintro e w3 ⟨rfl, sm⟩
  have b3 := sm.below (Below.refl w2.heap.size w2)
  obtain ⟨o3, oc3, of3⟩ := OW.out _ b3
  have F3 : Hid (∀ _ : Unit, _) := fun _ => FI.out _ b3
  have KV : Hid (∀ v1 : World, Below w3.heap.size w3 v1 → Below w2.heap.size w2 v1) := fun v1 hb => sm.from (by rw [← sm.1]; exact hb)
  clear o3 b3 sm c0
  go_wp2_with fail
  refine (F3.out ()).mono ?_
  rintro e v1 ⟨⟨bb, rfl⟩, b1⟩
  have q1 := KV.out v1 b1
  obtain ⟨o4, oc4, of4⟩ := OW.out _ q1
  have D4 : Hid (∀ _ : Unit, _) := fun _ => DE.out _ q1
  clear o4 q1 b1
  go_wp2_with fail
  refine (D4.out ()).mono ?_
  rintro e w4 ⟨p, n, c, rfl, j1, j2, FF⟩
  go_wp2
  go_ret
  exact ⟨rfl, FF.out⟩

theorem drop_any {w : World} {s : Nat} {now : Int} {L : List It} {F : List Nat} (id : Int) (hi : (Lit.int .i64 id).wf = true) (h : WW w s now L F) (hl : L.length ≤ 1000) :
    Calls Tryd.prog 51 #[.pointer (some ⟨s, 0, none⟩), .int .i64 id] w fun e w' => e = .returned (.int .i64 (dpE L id)) ∧ ∃ F', WW w' s now (rid id L) F' ∧ Mv w w' F F' := by
  unfold dpE
  obtain ⟨mp, V, h, rfl⟩ := h
  cases hn : wn L id with
  | none =>
    rw [Option.isSome_none, if_neg (by decide), rid_none (wn_none.1 hn)]
    refine (drop_no id hi h hn).mono ?_
    rintro e w' ⟨rfl, rfl⟩
    exact ⟨rfl, _, ⟨_, _, h, rfl⟩, Mv.refl _ _⟩
  | some d =>
    rw [Option.isSome_some, if_pos rfl]
    rcases h.mq with ⟨_, e⟩ | ⟨mb, e, m⟩
    · rw [e] at hn
      cases hn
    · subst e
      exact drop_yes id hi h hn hl
end Go.Proofs.YtadaghhgmflfdaaDoor
