/- What the document's lock answers and leaves (davitref05.Spin), for every lock; the law's fixed calls. -/
import Derived.Test.YtaomcakgeiiclaaRows
import Derived.Test.YtaomcakgeiiclaaLb
import Derived.Test.YtaomcakgeiiclaaFd
import Derived.WalkKit
import Derived.ProofKit
import Derived.OpenShut
import Derived.BigQuiet
namespace Go.Proofs.Ytaomcakgeiiclaa
open Go.ChangeShapes Go.WideShapes Go.ChangeAt Go.RowKit
open Fm Ll

/-- The document's lock at block b; its list lies in a block from 'base' on. -/
structure RS (w : World) (b base : Nat) (L : List Int) (a : Option Addr) (cap : Nat) : Prop where
  sb : Blk w b [.slice a L.length cap] 30
  own : w.ownsRow base 3 1 (.slice a L.length cap) L.length (L.map (Value.int .i64))
  lt : b < base
  le : base ≤ w.heap.size

theorem RS.c0 {w : World} {b base : Nat} {L : List Int} {a : Option Addr} {cap : Nat} (h : RS w b base L a cap) : w.cell? ⟨b, 0, none⟩ = some (.slice a L.length cap) := h.sb.cell 0
theorem RS.row {w : World} {b base : Nat} {L : List Int} {a : Option Addr} {cap : Nat} (h : RS w b base L a cap) : Row w (.slice a L.length cap) L := row_of_owns h.own
theorem RS.heap {w w1 : World} {b base : Nat} {L : List Int} {a : Option Addr} {cap : Nat} (h : RS w b base L a cap) (e : w1.heap = w.heap) : RS w1 b base L a cap :=
  ⟨h.sb.heap e, by unfold World.ownsRow at *; rw [e]; exact h.own, h.lt, by rw [e]; exact h.le⟩
theorem RS.keep {B : Nat} {S : List Nat} {w w' : World} {b base : Nat} {L : List Int} {a : Option Addr} {cap : Nat} (h : RS w b base L a cap) (f : Fr B S w w') (hB : w.heap.size ≤ B) (hS : ∀ k ∈ S, k < base) (hb : b ∉ S) : RS w' b base L a cap :=
  ⟨h.sb.keep f (by have := h.lt; have := h.le; omega) hb, owns_keep h.own f hB hS, h.lt, Nat.le_trans h.le f.size⟩

/-- Behind the store of a new list that the call itself made. -/
theorem rs_store {w w1 : World} {b base : Nat} {L G : List Int} {a a' : Option Addr} {cap cap' : Nat} (h : RS w b base L a cap)
    (own : w1.ownsRow base 3 1 (.slice a' G.length cap') G.length (G.map (Value.int .i64))) (f : Fr base [] w w1) :
    RS (w1.setCell ⟨b, 0, none⟩ (.slice a' G.length cap')) b base G a' cap' ∧ Fr base [b] w (w1.setCell ⟨b, 0, none⟩ (.slice a' G.length cap')) := by
  have sb := (h.sb.keep f h.lt (by simp)).set 0 (.slice a' G.length cap')
  refine ⟨⟨sb, ownsRow_setCell_below own (by exact h.lt) _, h.lt, ?_⟩, ?_⟩
  · have := f.size
    have := h.le
    simp [World.setCell]
    omega
  · exact (f.mono (Nat.le_refl _) (by simp)).setCell (Or.inr (by simp)) _

theorem rs_grown {w w1 : World} {b base : Nat} {L : List Int} {a : Option Addr} {cap : Nat} {o : Obj} (h : RS w b base L a cap) (hg : (w.alloc o).grownBy w1 (Value.slice a L.length cap).ownBlock) : Fr base [] w w1 := by
  refine ((Fr.refl base [] w).alloc h.le o).grown hg (by have := h.le; simp; omega) fun k hk => Or.inl (h.own.lt k hk).1

theorem rs_cell {w w1 : World} {b base : Nat} {L : List Int} {a : Option Addr} {cap : Nat} (h : RS w b base L a cap) (f : Fr base [] w w1) : w1.cell? ⟨b, 0, none⟩ = some (.slice a L.length cap) ∧ w1.frozen? ⟨b, 0, none⟩ = false := by
  have sb := h.sb.keep f h.lt (by simp)
  exact ⟨sb.cell 0, sb.free 0⟩

/-- The block of the list, if it has one. -/
def ob (a : Option Addr) (n cap : Nat) : List Nat := (Value.slice a n cap).ownBlock.toList
theorem rs_grown2 {w w1 : World} {L : List Int} {a : Option Addr} {cap : Nat} {o : Obj} (hg : (w.alloc o).grownBy w1 (Value.slice a L.length cap).ownBlock) : Fr w.heap.size (ob a L.length cap) w w1 := by
  refine ((Fr.refl w.heap.size _ w).alloc (Nat.le_refl _) o).grown hg (by simp) fun k hk => Or.inr ?_
  unfold ob
  rw [hk]
  simp
theorem rs_fr {w w1 : World} {S : List Nat} (b : Nat) (f : Fr w.heap.size S w w1) (S' : List Nat) (hS : ∀ k ∈ S, k ∈ S') (v : Value) : Fr w.heap.size (b :: S') w (w1.setCell ⟨b, 0, none⟩ v) :=
  (f.mono (Nat.le_refl _) (fun k _ hk hs => hk (List.mem_cons_of_mem _ (hS k hs)))).setCell (Or.inr (by simp)) v
/-- What a call of the document's lock leaves, below its lists. -/
theorem RS.fr {w w' : World} {b base : Nat} {L : List Int} {a : Option Addr} {cap : Nat} (h : RS w b base L a cap) (f : Fr w.heap.size (b :: ob a L.length cap) w w') : Fr base [b] w w' := by
  refine f.mono h.le fun k hk hs hm => ?_
  rcases List.mem_cons.1 hm with e | e
  · exact hs (by simp [e])
  · unfold ob at e
    have := (h.own.lt k (by simpa using e)).1
    omega
/-- A block of another type is none of the list's. -/
theorem RS.not {w : World} {b base : Nat} {L : List Int} {a : Option Addr} {cap : Nat} (h : RS w b base L a cap) {g : Nat} {cs : List Value} {t : TypeId} (k : Blk w g cs t) (h1 : t ≠ 30) (h2 : t ≠ 3) : g ∉ b :: ob a L.length cap := by
  intro hm
  rcases List.mem_cons.1 hm with e | e
  · exact (k.ne h.sb h1) e
  · unfold ob at e
    rcases h.own.2 with ⟨hv, _⟩ | ⟨q, c, cur, hv, _, hq, _⟩
    · rw [hv] at e
      simp [Value.ownBlock] at e
    · rw [hv] at e
      simp [Value.ownBlock] at e
      subst e
      have := (show w.heap[g]? = _ from k).symm.trans hq
      simp at this
      exact h2 this.2

theorem core_any (c : Int) (w : World) : Calls Try.prog 43 #[.int .i64 c] w fun e w' => e = .returned (.bool (ic c)) ∧ w' = w := by
  by_cases h : 0 ≤ c
  · by_cases h2 : c < 64
    · rw [show ic c = true from decide_eq_true ⟨h, h2⟩]
      go_enter Try.func43, Try.ntmps43
      go_wp2
      go_ret
      exact ⟨rfl, rfl⟩
    · rw [show ic c = false from decide_eq_false (by omega)]
      go_enter Try.func43, Try.ntmps43
      go_wp2
      go_ret
      exact ⟨rfl, rfl⟩
  · rw [show ic c = false from decide_eq_false (by omega)]
    go_enter Try.func43, Try.ntmps43
    go_wp2
    go_ret
    exact ⟨rfl, rfl⟩

set_option maxHeartbeats 1000000 in
theorem rtake_any {b base : Nat} {L : List Int} {a : Option Addr} {cap : Nat} (n : Int) (w : World) (h : RS w b base L a cap) (hl : (L.length : Int) ≤ 64) :
    Calls Try.prog 12 #[.pointer (some ⟨b, 0, none⟩), .int .i64 n] w fun e w' => e = .returned (.int .i64 (tkE L n)) ∧ (∃ a' c', RS w' b base (tkL L n) a' c') ∧ Fr w.heap.size (b :: ob a L.length cap) w w' := by
  have c0 := h.c0
  have D : Hid (∀ _ : Unit, _) := fun _ => core_any n w
  have C : Hid (∀ _ : Unit, _) := fun _ => rhas_any L _ n w (by omega) h.row
  have HR : Hid (RS w b base L a cap) := h
  by_cases i : ic n = true
  · rw [i] at D
    by_cases c : n ∈ L
    · rw [decide_eq_true c] at C
      rw [show tkE L n = 6 by unfold tkE; rw [if_pos i, if_pos c], show tkL L n = L by unfold tkL; rw [if_pos i, if_pos c]]
      clear h c i
      go_enter Try.func12, Try.ntmps12
      go_wp2_with fail
      refine (D.out ()).mono ?_
      rintro e w' ⟨rfl, rfl⟩
      go_wp2_with fail
      refine (C.out ()).mono ?_
      rintro e w' ⟨rfl, rfl⟩
      go_wp2
      go_ret
      exact ⟨rfl, ⟨_, _, HR.out⟩, Fr.refl _ _ _⟩
    · rw [decide_eq_false c] at C
      rw [show tkE L n = 0 by unfold tkE; rw [if_pos i, if_neg c], show tkL L n = L ++ [n] by unfold tkL; rw [if_pos i, if_neg c]]
      obtain ⟨i0, hi, hz0, hz1, hz2⟩ := info_parts Try.info3
      have hle := h.le
      clear h c i
      go_enter Try.func12, Try.ntmps12
      go_wp2_with fail
      refine (D.out ()).mono ?_
      rintro e w' ⟨rfl, rfl⟩
      go_wp2_with fail
      refine (C.out ()).mono ?_
      rintro e w' ⟨rfl, rfl⟩
      go_wp2_with (at_builtin; refine wpList_append_own _ rfl _ _ 28 rfl base 3 i0 (.int .i64 0) 1 8 Try.underlying28 hi hz0 hz1 hz2 rfl (by decide) _ _ _ rfl (HR.out.own.alloc _) ⟨_, 0, none⟩ 1 1 [.int .i64 n] rfl rfl ?c1 ?c2 ?c3 ?c4 ?c5 ?_)
      case c1 =>
        intro j u hj
        match j, hj with
        | 0, hj => simp at hj; subst hj; exact (Blk.new _ [_] _).cell 0
      case c2 => intro u hu; simp at hu; subst hu; rfl
      case c3 => unfold maxLen; omega
      case c4 => omega
      case c5 => simp; omega
      intro v' w1 hown' hgrow _
      have f := rs_grown HR.out hgrow
      obtain ⟨a', cap', rfl⟩ := own_shape hown'
      obtain ⟨k1, k2⟩ := rs_cell HR.out f
      have ST := rs_store (G := L ++ [n]) (a' := a') (cap' := cap') HR.out (by simpa using hown') f
      rw [show (L ++ [n]).length = L.length + 1 by simp] at ST
      have HS : Hid (_ ∧ _) := ST
      have FR : Hid (∀ v, Fr w'.heap.size (b :: ob a L.length cap) w' (w1.setCell ⟨b, 0, none⟩ v)) := fun v => rs_fr b (rs_grown2 hgrow) _ (fun _ h => h) v
      clear hown' hgrow ST
      go_wp2
      go_ret
      exact ⟨rfl, ⟨_, _, HS.out.1⟩, FR.out _⟩
  · have i2 : ic n = false := by simpa using i
    rw [i2] at D
    rw [show tkE L n = 3 by unfold tkE; rw [if_neg i], show tkL L n = L by unfold tkL; rw [if_neg i]]
    clear h i i2 C c0
    go_enter Try.func12, Try.ntmps12
    go_wp2_with fail
    refine (D.out ()).mono ?_
    rintro e w' ⟨rfl, rfl⟩
    go_wp2
    go_ret
    exact ⟨rfl, ⟨_, _, HR.out⟩, Fr.refl _ _ _⟩

theorem gt_fr {w w1 : World} {v : Value} {G : List Int} {base : Nat} (g : Gt w w1 v G) (h : base ≤ w.heap.size) : Fr base [] w w1 := (Fr.of_below g.bel).less h

set_option maxHeartbeats 1000000 in
theorem rleave_any {b base : Nat} {L : List Int} {a : Option Addr} {cap : Nat} (n : Int) (w : World) (h : RS w b base L a cap) (hl : (L.length : Int) ≤ 64) (hn : L.Nodup) :
    Calls Try.prog 10 #[.pointer (some ⟨b, 0, none⟩), .int .i64 n] w fun e w' => e = .returned (.int .i64 (lvE L n)) ∧ (∃ a' c', RS w' b base (lvL L n) a' c') ∧ Fr w.heap.size (b :: ob a L.length cap) w w' := by
  have c0 := h.c0
  have C : Hid (∀ _ : Unit, _) := fun _ => core_any n w
  have D : Hid (∀ _ : Unit, _) := fun _ => without_any L _ n w (by omega) h.row
  have HR : Hid (RS w b base L a cap) := h
  have hr := h.row
  by_cases i : ic n = true
  · rw [i] at C
    cases L with
    | nil =>
      rw [show lvE [] n = 17 by unfold lvE; rw [if_pos i]; rfl, show lvL [] n = [] by unfold lvL; rw [if_pos i]; rfl]
      clear h hl hr hn i D
      go_enter Try.func10, Try.ntmps10
      go_wp2_with fail
      refine (C.out ()).mono ?_
      rintro e w' ⟨rfl, rfl⟩
      go_wp2
      go_ret
      exact ⟨rfl, ⟨_, _, HR.out⟩, Fr.refl _ _ _⟩
    | cons x t =>
      obtain ⟨g, off, rfl, hc⟩ : ∃ g off, a = some ⟨g, off, none⟩ ∧ w.cell? ⟨g, off, none⟩ = some (.int .i64 x) := by
        rcases hr with ⟨e, _⟩ | ⟨g, off, cap2, hv, _, hc⟩
        · cases e
        · have k0 := hc 0 (by simp)
          simp only [Value.slice.injEq] at hv
          exact ⟨g, off, hv.1, by simpa using k0⟩
      have hp : (0 : Int) < (x :: t).length := by simp
      have z0 : ((((x :: t).length : Nat) : Int) == 0) = false := by simp; omega
      by_cases m : x = n
      · have o : owns (x :: t) n = true := decide_eq_true ⟨by simp, m⟩
        rw [show lvE (x :: t) n = 0 by unfold lvE; rw [if_pos i, if_pos o], show lvL (x :: t) n = t by unfold lvL; rw [if_pos i, if_pos o]; rfl]
        subst m
        rw [wo_head t x hn] at D
        have HS : Hid (∀ (w1 : World) (a' : Option Addr) (c' : Nat), Gt w w1 (.slice a' t.length c') t → (_ ∧ _) ∧ _) := fun w1 a' c' g =>
          ⟨rs_cell HR.out (gt_fr g HR.out.le), rs_store (G := t) (a' := a') (cap' := c') HR.out (own_base g.own HR.out.le) (gt_fr g HR.out.le)⟩
        clear hn HR o i h hr hl
        generalize (x :: t).length = l at *
        go_enter Try.func10, Try.ntmps10
        go_wp2_with fail
        refine (C.out ()).mono ?_
        rintro e w' ⟨rfl, rfl⟩
        go_wp2_with fail
        refine (D.out ()).mono ?_
        rintro e w1 ⟨v', rfl, g⟩
        obtain ⟨a', c', rfl⟩ := own_shape g.own
        obtain ⟨⟨k1, k2⟩, hs⟩ := HS.out w1 a' c' g
        have H2 : Hid (_ ∧ _) := hs
        have FR : Hid (∀ S v, Fr w'.heap.size (b :: S) w' (w1.setCell ⟨b, 0, none⟩ v)) := fun S v => rs_fr b (Fr.of_below g.bel) S (fun _ h => by cases h) v
        clear hs g
        go_wp2
        go_ret
        exact ⟨rfl, ⟨_, _, H2.out.1⟩, FR.out _ _⟩
      · have o : ¬ owns (x :: t) n = true := by
          unfold owns
          simp [m]
        rw [show lvE (x :: t) n = 17 by unfold lvE; rw [if_pos i, if_neg o], show lvL (x :: t) n = x :: t by unfold lvL; rw [if_pos i, if_neg o]]
        have e2 : (x != n) = true := by simpa using m
        clear hn D o i h hr hl m
        generalize (x :: t).length = l at *
        go_enter Try.func10, Try.ntmps10
        go_wp2_with fail
        refine (C.out ()).mono ?_
        rintro e w' ⟨rfl, rfl⟩
        go_wp2
        go_ret
        exact ⟨rfl, ⟨_, _, HR.out⟩, Fr.refl _ _ _⟩
  · have i2 : ic n = false := by simpa using i
    rw [i2] at C
    rw [show lvE L n = 3 by unfold lvE; rw [if_neg i], show lvL L n = L by unfold lvL; rw [if_neg i]]
    clear h i i2 D c0 hr
    go_enter Try.func10, Try.ntmps10
    go_wp2_with fail
    refine (C.out ()).mono ?_
    rintro e w' ⟨rfl, rfl⟩
    go_wp2
    go_ret
    exact ⟨rfl, ⟨_, _, HR.out⟩, Fr.refl _ _ _⟩

/-- A new lock. -/
theorem zero_spin : ∃ Z : Array Value, Hid (Z = ((List.replicate 64 (0 : Int)).map (Value.int .i64) ++ [Value.int .i64 0]).toArray) ∧ ∀ w, (zeroValue 26).run Try.prog w = .ok (.agg Z) w :=
  ⟨_, rfl, fun w => by kernel_rfl⟩

theorem sp_new (w : World) {cs : Array Value} (h : cs = ((List.replicate 64 (0 : Int)).map (Value.int .i64) ++ [Value.int .i64 0]).toArray) : SP (w.alloc (.cells cs 26)) w.heap.size (List.replicate 64 0) [] := by
  subst h
  exact ⟨Blk.new w _ _, by simp, by simp, ln_nil⟩

set_option maxHeartbeats 2000000 in
theorem known_yes (w : World) : Calls Try.prog 16 #[] w fun e w' => e = .returned (.bool true) ∧ Below w.heap.size w w' := by
  obtain ⟨Z, hZ, hz⟩ := zero_spin
  have S0 : Hid (SP (w.alloc (.cells Z 26)) w.heap.size (List.replicate 64 0) []) := sp_new w hZ.out
  have B0 : Hid (Fr w.heap.size [w.heap.size] w (w.alloc (.cells Z 26))) := ((Fr.refl _ _ _).alloc (Nat.le_refl _) _)
  have Z0 : Hid (w.heap.size < (w.alloc (.cells Z 26)).heap.size) := by unfold Hid; simp
  have Z1 : Hid (∀ w1 w2 : World, w.heap.size < w1.heap.size → Fr w.heap.size [w.heap.size] w w1 → Fr w1.heap.size [w.heap.size] w1 w2 → Fr w.heap.size [w.heap.size] w w2 ∧ w.heap.size < w2.heap.size) := fun w1 w2 h a b => ⟨a.trans (b.less (by omega)), by have := b.size; omega⟩
  have C1 : Hid (∀ _ : Unit, _) := fun _ => take_any 1 _ S0.out
  rw [show tkE [] 1 = 0 by decide, show tkL [] 1 = [1] by decide] at C1
  clear hZ
  go_enter Try.func16, Try.ntmps16
  go_wp2_with fail
  refine (C1.out ()).mono ?_
  rintro e w1 ⟨rfl, ⟨A1, s1⟩, f1⟩
  have F1 : Hid (_ ∧ _) := Z1.out _ _ Z0.out B0.out f1
  have C2 : Hid (∀ _ : Unit, _) := fun _ => take_any 2 _ s1
  rw [show tkE [1] 2 = 0 by decide, show tkL [1] 2 = [1, 2] by decide] at C2
  clear s1 f1
  go_wp2_with fail
  refine (C2.out ()).mono ?_
  rintro e w2 ⟨rfl, ⟨A2, s2⟩, f2⟩
  have F2 : Hid (_ ∧ _) := Z1.out _ _ F1.out.2 F1.out.1 f2
  have C3 : Hid (∀ _ : Unit, _) := fun _ => owner_any _ s2
  rw [show List.headD ([1, 2] : List Int) 0 = 1 from rfl, show decide (([1, 2] : List Int) ≠ []) = true by decide] at C3
  have C4 : Hid (∀ _ : Unit, _) := fun _ => leave_any 2 _ s2
  rw [show lvE [1, 2] 2 = 17 by decide, show lvL [1, 2] 2 = [1, 2] by decide] at C4
  clear s2 f2
  go_wp2_with fail
  refine (C3.out ()).mono ?_
  rintro e w3 ⟨rfl, rfl⟩
  go_wp2_with fail
  refine (C4.out ()).mono ?_
  rintro e w4 ⟨rfl, ⟨A4, s4⟩, f4⟩
  have F4 : Hid (_ ∧ _) := Z1.out _ _ F2.out.2 F2.out.1 f4
  have C5 : Hid (∀ _ : Unit, _) := fun _ => leave_any 1 _ s4
  rw [show lvE [1, 2] 1 = 0 by decide, show lvL [1, 2] 1 = [2] by decide] at C5
  clear s4 f4
  go_wp2_with fail
  refine (C5.out ()).mono ?_
  rintro e w5 ⟨rfl, ⟨A5, s5⟩, f5⟩
  have F5 : Hid (_ ∧ _) := Z1.out _ _ F4.out.2 F4.out.1 f5
  have C6 : Hid (∀ _ : Unit, _) := fun _ => owner_any _ s5
  rw [show List.headD ([2] : List Int) 0 = 2 from rfl, show decide (([2] : List Int) ≠ []) = true by decide] at C6
  clear s5 f5
  go_wp2_with fail
  refine (C6.out ()).mono ?_
  rintro e w6 ⟨rfl, rfl⟩
  go_wp2
  go_ret
  exact ⟨rfl, F5.out.1.below (by simp)⟩
end Go.Proofs.Ytaomcakgeiiclaa
