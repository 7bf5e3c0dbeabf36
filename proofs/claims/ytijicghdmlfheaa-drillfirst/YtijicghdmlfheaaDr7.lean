/- What the program's Script answers: events that are gathered while the iterator rolls them. -/
import Derived.Test.YtijicghdmlfheaaRows
import Derived.Test.YtijicghdmlfheaaDr6
import Derived.WalkKit
import Derived.ProofKit
import Derived.OpenShut
import Derived.BigQuiet
import Derived.WalkSmall
import Derived.WalkSpells
namespace Go.Proofs.Ytijicghdmlfheaa.Dri
open Go.ChangeShapes Go.WideShapes Go.ChangeAt Go.RowKit
open Mm
set_option linter.unusedVariables false
set_option linter.unusedSimpArgs false
set_option maxRecDepth 100000

theorem abd_below {N B : Nat} {w : World} (h : N ≤ w.heap.size) (hB : N ≤ B) : Abd B fun W => Below N w W :=
  ⟨fun W o x => x.alloc (Nat.le_trans h x.size) o, fun W l o o' hl _ _ x => ⟨x.os, x.tape, x.output, by simpa using x.size, fun k hk => (World.putObj_heap_other (by omega)).trans (x.block k hk)⟩⟩
theorem abd_blk (B b : Nat) (cs : List Value) (t : TypeId) : Abd B fun W => Blk W b cs t :=
  ⟨fun W o h => h.alloc o, fun W l o o' _ ho hc h => by
    by_cases e : b = l
    · subst e
      rw [show W.heap[b]? = _ from h] at ho
      cases ho
      cases hc
    · exact (World.putObj_heap_other e).trans h⟩
theorem abd_own {B base n s : Nat} {t : TypeId} {v : Value} {xs : List Value} : Abd B fun W => W.ownsRow base t s v n xs :=
  ⟨fun W o h => h.alloc o, fun W l o o' _ ho hc h => by
    refine ⟨h.1, ?_⟩
    rcases h.2 with hn | ⟨g, cap, cur, hv, hb, hh, rest⟩
    · exact Or.inl hn
    · refine Or.inr ⟨g, cap, cur, hv, hb, (World.putObj_heap_other (fun e => ?_)).trans hh, rest⟩
      subst e
      rw [hh] at ho
      cases ho
      cases hc⟩
theorem Abd.ex {α : Type} {B : Nat} {p : α → World → Prop} (h : ∀ x, Abd B (p x)) : Abd B fun W => ∃ x, p x W :=
  ⟨fun W o ⟨x, hx⟩ => ⟨x, (h x).new W o hx⟩, fun W l o o' a b c ⟨x, hx⟩ => ⟨x, (h x).turn W l o o' a b c hx⟩⟩

theorem SG.cap {B z x : Nat} {D : TypeId} {w u : World} {v : Value} {Y : List Ev} (h : SG B D w z x v Y u) : ∃ a cap, v = .slice a Y.length cap ∧ Y.length ≤ cap := by
  rcases h.own.2 with ⟨hv, hn⟩ | ⟨g, cap, cur, hv, _, _, hc, _⟩
  · exact ⟨none, 0, by rw [hv, hn], by omega⟩
  · exact ⟨_, cap, hv, hc⟩
/-- What is there while the program's script is gathered: the dice ahead of the j-th event, the list of the first k, its variable, the iterator's three. -/
structure PI (c : Int) (x n : Nat) (w : World) (z lb bm bd bc j k : Nat) (v : Value) (W : World) : Prop where
  g : SG w.heap.size 44 w z (scrS x j) v (scr c x k) W
  hl : Blk W lb [v] 35
  hm : Blk W bm [.int .i64 (n : Int)] 3
  hd : Blk W bd [.pointer (some ⟨z, 0, none⟩)] 24
  hc : Blk W bc [.int .i64 c] 3
  ll : w.heap.size ≤ lb
section
variable {c : Int} {x n z lb bm bd bc j k : Nat} {w W W' : World} {v : Value}
theorem abd_pi1 {B : Nat} (hB : w.heap.size ≤ B) (v : Value) : Abd B fun W => PI c x n w z lb bm bd bc j k v W :=
  ⟨fun W o h => ⟨h.g.below ((Below.refl _ _).alloc (Nat.le_refl _) o), h.hl.alloc o, h.hm.alloc o, h.hd.alloc o, h.hc.alloc o, h.ll⟩,
   fun W l o o' a b q h => ⟨⟨(abd_below (Nat.le_refl _) hB).turn W l o o' a b q h.g.bel, abd_own.turn W l o o' a b q h.g.own, h.g.ge, (abd_blk B _ _ _).turn W l o o' a b q h.g.hd, h.g.zB, h.g.sz⟩,
     (abd_blk B _ _ _).turn W l o o' a b q h.hl, (abd_blk B _ _ _).turn W l o o' a b q h.hm, (abd_blk B _ _ _).turn W l o o' a b q h.hd, (abd_blk B _ _ _).turn W l o o' a b q h.hc, h.ll⟩⟩
theorem abd_pi {B : Nat} (hB : w.heap.size ≤ B) : Abd B fun W => ∃ v, PI c x n w z lb bm bd bc j k v W := Abd.ex fun v => abd_pi1 hB v
theorem PI.it (h : PI c x n w z lb bm bd bc k k v W) : IT c x n z bm bd bc k W := ⟨h.g.hd, h.hm.cell 0, h.hd.cell 0, h.hc.cell 0⟩
theorem PI.roll (h : PI c x n w z lb bm bd bc k k v W) (s : Sr x z k W W') : PI c x n w z lb bm bd bc (k + 1) k v W' := by
  have f := s.2
  have n1 := h.g.hd.ne h.hl (by decide)
  have n2 := h.g.hd.ne h.hm (by decide)
  have n3 := h.g.hd.ne h.hd (by decide)
  have n4 := h.g.hd.ne h.hc (by decide)
  exact ⟨h.g.roll neD s.1 f, h.hl.keep f h.hl.lt (by simp; omega), h.hm.keep f h.hm.lt (by simp; omega), h.hd.keep f h.hd.lt (by simp; omega), h.hc.keep f h.hc.lt (by simp; omega), h.ll⟩
/-- What holds no cells lies as it lay. -/
def Kp (W W' : World) : Prop := ∀ (i : Nat) (o : Obj), o.isCells = false → W.heap[i]? = some o → W'.heap[i]? = some o
theorem sr_tw {B : Nat} (h : PI c x n w z lb bm bd bc k k v W) (s : Sr x z k W W') (t : Tws B W) : Tw2 B W W' := t.keep fun i o ho hi => by
  refine (s.2.block i (Array.getElem?_eq_some_iff.1 hi).1 ?_).trans hi
  simp
  intro e
  subst e
  rw [show W.heap[i]? = _ from h.g.hd] at hi
  cases hi
  cases ho
/-- One more. -/
theorem PI.app (h : PI c x n w z lb bm bd bc (k + 1) k v W) (hk : k + 1 ≤ 3000) (E : Ev) (hE : evN (scrS x k) c = E) :
    ∃ a cap a2 c2 u2, v = .slice a k cap ∧
      (Builtin.append_ #[35, 35] 35 #[.slice a k cap, .slice (some ⟨W.heap.size, 0, none⟩) 1 1]).run Try.prog (W.alloc (.cells #[.int .i64 E.kind, .int .i64 E.cpu, .int .i64 E.id, .int .u64 E.mask, .int .i64 E.n] 33)) = .ok (.slice a2 (k + 1) c2) u2 ∧
      PI c x n w z lb bm bd bc (k + 1) (k + 1) (.slice a2 (k + 1) c2) (u2.setCell ⟨lb, 0, none⟩ (.slice a2 (k + 1) c2)) ∧ Kp W (u2.setCell ⟨lb, 0, none⟩ (.slice a2 (k + 1) c2)) ∧
      u2.cell? ⟨lb, 0, none⟩ = some (.slice a k cap) ∧ u2.frozen? ⟨lb, 0, none⟩ = false := by
  obtain ⟨a, cap, hv⟩ := h.g.shape
  rw [scr_len] at hv
  subst hv
  have g1 := h.g
  obtain ⟨a2, c2, u2, r1, g2, f2⟩ := g1.app neD E (by rw [scr_len]; exact hk)
  rw [scr_len] at r1 g2
  have q : ∀ {b : Nat} {cs : List Value} {t : TypeId}, (33 : Nat) ≠ t → Blk W b cs t → Blk u2 b cs t := fun ne k => k.keep f2 k.lt (fun hz => owng_ne g1.own k ne (by simpa using hz) rfl)
  have L2 := q (by decide) h.hl
  have M2 := q (by decide) h.hm
  have D2 := q (by decide) h.hd
  have C2 := q (by decide) h.hc
  have nz := g2.hd.ne L2 (by decide)
  have f3 : Fr u2.heap.size [lb] u2 (u2.setCell ⟨lb, 0, none⟩ (.slice a2 (k + 1) c2)) := (Fr.refl _ _ _).setCell (Or.inr (by simp)) _
  have nm := M2.ne L2 (by decide)
  have nd := D2.ne L2 (by decide)
  have nc := C2.ne L2 (by decide)
  refine ⟨a, cap, a2, c2, u2, rfl, r1, ⟨⟨?_, ?_, g2.ge, g2.hd.keep f3 g2.hd.lt (by simp; omega), g2.zB, g2.sz⟩, L2.set 0 _, M2.keep f3 M2.lt (by simp; omega), D2.keep f3 D2.lt (by simp; omega), C2.keep f3 C2.lt (by simp; omega), h.ll⟩, ?_, L2.cell 0, L2.free 0⟩
  · exact g2.bel.trans ((f3.less (Nat.le_trans g2.sz g2.bel.size)).below (by simp; exact h.ll))
  · rw [scr_succ, hE]
    exact owng_keep g2.own f3 fun g e => ⟨owng_lt g2.own e, by simp; exact fun e2 => owng_ne g2.own L2 (by decide) e e2.symm⟩
  · intro i o ho hi
    have hi2 : u2.heap[i]? = some o := by
      refine (f2.block i (Array.getElem?_eq_some_iff.1 hi).1 ?_).trans hi
      intro hz
      have hz' : (Value.slice a k cap).ownBlock = some i := by simpa using hz
      rcases g1.own.2 with ⟨e, _⟩ | ⟨g, cap', cur, e, _, hh, _⟩
      · rw [e] at hz'; cases hz'
      · rw [e] at hz'
        simp [Value.ownBlock] at hz'
        subst hz'
        rw [hh] at hi
        cases hi
        cases ho
    refine (Below.heap_setCell _ _ _ _ ?_).trans hi2
    intro e
    have e' : i = lb := e
    subst e'
    rw [show u2.heap[i]? = _ from L2] at hi2
    cases hi2
    cases ho
end
theorem evs_any (z n s : Nat) (c : Int) (w : World) (hs : w.heap.size = s) :
    Calls Try.prog 21 #[.pointer (some ⟨z, 0, none⟩), .int .i64 c, .int .i64 (n : Int)] w fun e w' => e = .returned (.func (.func 29) #[] #[.pointer (some ⟨s + 1 + 1, 0, none⟩), .pointer (some ⟨s, 0, none⟩), .pointer (some ⟨s + 1, 0, none⟩)]) ∧
      w' = ((w.alloc (.cells #[.pointer (some ⟨z, 0, none⟩)] 24)).alloc (.cells #[.int .i64 c] 3)).alloc (.cells #[.int .i64 (n : Int)] 3) := by
  subst hs
  go_enter Try.func21, Try.ntmps21
  go_wp2
  go_ret
  exact ⟨by simp, rfl⟩
theorem made_ev (n : Nat) (hn : n ≤ 1000) : ∃ Z : Array Value, Z.size = n * 5 ∧ ∀ w : World, (Instr.makeSlice 35 (.int .i64 0) (.int .i64 (n : Int))).run Try.prog w = .ok (.slice (some ⟨w.heap.size, 0, none⟩) 0 n) (w.alloc (.cells Z 33)) := by
  obtain ⟨i0, hi, hz0, hz1, hz2⟩ := info_parts infoE
  refine ⟨_, ?_, fun w => run_make (P := Try.prog) w 35 33 i0 _ Try.underlying35 hi hz0 .i64 .i64 0 (n : Int) (by omega) (by omega) (by rw [hz2]; omega) (by omega)⟩
  rw [hz1, size_madeCells]
  simp

theorem start_pi (w : World) (c : Int) (x n : Nat) (Z : Array Value) (hZ : Z.size = n * 5) (hn : n ≤ 1000) :
    PI c x n w (w.heap.size + 1 + 1) (w.heap.size + 1) (w.heap.size + 1 + 1 + 1 + 1 + 1) (w.heap.size + 1 + 1 + 1) (w.heap.size + 1 + 1 + 1 + 1) 0 0 (.slice (some ⟨w.heap.size, 0, none⟩) 0 n)
      ((((((w.alloc (.cells Z 33)).alloc (.cells #[.slice (some ⟨w.heap.size, 0, none⟩) 0 n] 35)).alloc (.cells #[.int .u64 (x : Int)] 44)).alloc (.cells #[.pointer (some ⟨w.heap.size + 1 + 1, 0, none⟩)] 24)).alloc (.cells #[.int .i64 c] 3)).alloc (.cells #[.int .i64 (n : Int)] 3)) := by
  have z0 : (w.alloc (.cells Z 33)).heap[w.heap.size]? = some (.cells Z 33 (0, 0)) := World.alloc_heap_new w _
  have z1 := Blk.new (w.alloc (.cells Z 33)) [.slice (some ⟨w.heap.size, 0, none⟩) 0 n] 35
  have z2 := Blk.new ((w.alloc (.cells Z 33)).alloc (.cells #[.slice (some ⟨w.heap.size, 0, none⟩) 0 n] 35)) [.int .u64 (x : Int)] 44
  have z3 := Blk.new (((w.alloc (.cells Z 33)).alloc (.cells #[.slice (some ⟨w.heap.size, 0, none⟩) 0 n] 35)).alloc (.cells #[.int .u64 (x : Int)] 44)) [.pointer (some ⟨w.heap.size + 1 + 1, 0, none⟩)] 24
  have z4 := Blk.new ((((w.alloc (.cells Z 33)).alloc (.cells #[.slice (some ⟨w.heap.size, 0, none⟩) 0 n] 35)).alloc (.cells #[.int .u64 (x : Int)] 44)).alloc (.cells #[.pointer (some ⟨w.heap.size + 1 + 1, 0, none⟩)] 24)) [.int .i64 c] 3
  have z5 := Blk.new (((((w.alloc (.cells Z 33)).alloc (.cells #[.slice (some ⟨w.heap.size, 0, none⟩) 0 n] 35)).alloc (.cells #[.int .u64 (x : Int)] 44)).alloc (.cells #[.pointer (some ⟨w.heap.size + 1 + 1, 0, none⟩)] 24)).alloc (.cells #[.int .i64 c] 3)) [.int .i64 (n : Int)] 3
  simp only [World.size_alloc] at z1 z2 z3 z4 z5
  have bel := ((((((Below.refl w.heap.size w).alloc (Nat.le_refl _) (.cells Z 33)).alloc (by simp) (.cells #[.slice (some ⟨w.heap.size, 0, none⟩) 0 n] 35)).alloc (by simp; omega) (.cells #[.int .u64 (x : Int)] 44)).alloc (by simp; omega) (.cells #[.pointer (some ⟨w.heap.size + 1 + 1, 0, none⟩)] 24)).alloc (by simp; omega) (.cells #[.int .i64 c] 3)).alloc (by simp; omega) (.cells #[.int .i64 (n : Int)] 3)
  refine ⟨⟨bel, ?_, fun g hg => ?_, ((z2.alloc _).alloc _).alloc _, by omega, Nat.le_refl _⟩, (((z1.alloc _).alloc _).alloc _).alloc _, z5, (z3.alloc _).alloc _, z4.alloc _, by omega⟩
  · have o0 : (w.alloc (.cells Z 33)).ownsRow 0 33 5 (.slice (some ⟨w.heap.size, 0, none⟩) 0 n) 0 [] := ⟨rfl, Or.inr ⟨w.heap.size, n, Z, rfl, Nat.zero_le _, z0, Nat.zero_le _, by unfold maxLen; omega, hZ, by simp⟩⟩
    exact ((((o0.alloc _).alloc _).alloc _).alloc _).alloc _
  · simp [Value.ownBlock] at hg
    omega
attribute [local go_sem] Oper.semAt_some
set_option maxHeartbeats 8000000 in
theorem script_cap (c : Int) (x n : Nat) (w : World) (h1 : 1 ≤ c) (h2 : c ≤ 64) (hx : x < 18446744073709551616) (hn : n ≤ 600) :
    Calls Try.prog 13 #[.int .i64 c, .int .u64 (x : Int), .int .i64 (n : Int)] w fun e w' => ∃ v, e = .returned (.tuple #[v, .int .i64 0]) ∧ LRow evy w' v (scr c x n) ∧ Below w.heap.size w w' ∧ ∃ a cap, v = .slice a n cap ∧ n ≤ cap := by
  have CI : Hid (∀ v, _) := fun v => cpus_any c v
  rw [show okc c = true by unfold okc; rw [decide_eq_true h1, decide_eq_true h2]; rfl] at CI
  have e3 : decide ((n : Int) < 0) = false := decide_eq_false (by omega)
  have e4 : decide (600 < (n : Int)) = false := decide_eq_false (by omega)
  have CN : Hid (∀ v, _) := fun v => new_any x v
  have CV : Hid (∀ (z s : Nat) (v : World), v.heap.size = s → _) := fun z s v hs => evs_any z n s c v hs
  obtain ⟨Z, hZ, hmk⟩ := made_ev n (by omega)
  have HC : Hid (1 ≤ c ∧ c ≤ 64 ∧ x < 18446744073709551616 ∧ n ≤ 600 ∧ Z.size = n * 5) := ⟨h1, h2, hx, hn, hZ⟩
  have hn2 : (n : Int) ≤ 600 := by omega
  clear h1 h2 hx hn hZ
  refine (callsIn_wide (n := 4)).1 ?_
  refine callsIn_of_wp_marks Try.func13 rfl trivial ?_ rfl
  simp only [Try.ntmps13, List.size_toArray, List.length_cons, List.length_nil, Nat.reduceAdd, Nat.reduceSub, Array.replicate_succ, Array.replicate_zero, List.push_toArray, List.append_toArray, List.nil_append, List.cons_append]
  gi_wp2_with fail
  refine ⟨trivial, (callsIn_wide.2 (CI.out _)).mono ?_⟩
  rintro e w' ⟨rfl, rfl⟩
  gi_wp2_with fail
  refine ⟨trivial, (callsIn_wide.2 (CN.out _)).mono ?_⟩
  rintro e w2 ⟨rfl, rfl⟩
  gi_wp2_with fail
  refine ⟨trivial, (callsIn_wide.2 (CV.out _ (w'.heap.size + 1 + 1 + 1) _ (by simp))).mono ?_⟩
  rintro e w3 ⟨rfl, rfl⟩
  have P0 : Hid (PI c x n w' (w'.heap.size + 1 + 1) (w'.heap.size + 1) (w'.heap.size + 1 + 1 + 1 + 1 + 1) (w'.heap.size + 1 + 1 + 1) (w'.heap.size + 1 + 1 + 1 + 1) 0 0 (.slice (some ⟨w'.heap.size, 0, none⟩) 0 n) ((((((w'.alloc (.cells Z 33)).alloc (.cells #[.slice (some ⟨w'.heap.size, 0, none⟩) 0 n] 35)).alloc (.cells #[.int .u64 (x : Int)] 44)).alloc (.cells #[.pointer (some ⟨w'.heap.size + 1 + 1, 0, none⟩)] 24)).alloc (.cells #[.int .i64 c] 3)).alloc (.cells #[.int .i64 (n : Int)] 3))) := start_pi w' c x n Z HC.out.2.2.2.2 (by have := HC.out.2.2.2.1; omega)
  gi_wp2
  obtain ⟨F, hF⟩ : ∃ F : Nat → Ev, ∀ k, evN (scrS x k) c = F k := ⟨_, fun _ => rfl⟩
  refine range_step (gf := 29) (cs := #[.pointer (some ⟨w'.heap.size + 1 + 1 + 1 + 1 + 1, 0, none⟩), .pointer (some ⟨w'.heap.size + 1 + 1 + 1, 0, none⟩), .pointer (some ⟨w'.heap.size + 1 + 1 + 1 + 1, 0, none⟩)]) rfl (enters_of Try.func29 (by kernel_rfl) rfl) n (fun k => #[evV (F k)]) (fun _ => rfl)
    (fun k W => ∃ v, PI c x n w' (w'.heap.size + 1 + 1) (w'.heap.size + 1) (w'.heap.size + 1 + 1 + 1 + 1 + 1) (w'.heap.size + 1 + 1 + 1) (w'.heap.size + 1 + 1 + 1 + 1) k k v W) (fun k W => ∃ v, PI c x n w' (w'.heap.size + 1 + 1) (w'.heap.size + 1) (w'.heap.size + 1 + 1 + 1 + 1 + 1) (w'.heap.size + 1 + 1 + 1) (w'.heap.size + 1 + 1 + 1 + 1) (k + 1) k v W) (Sr x (w'.heap.size + 1 + 1)) (fun _ => False)
    (fun k => abd_pi (by simp; omega)) (fun k => abd_pi (by simp; omega)) (Abd.pure _ _) (fun k W W' hk s ⟨v, h⟩ => ⟨v, h.roll s⟩) (fun k W W' hk s ⟨v, h⟩ t => sr_tw h s t) ⟨_, P0.out⟩
    (fun k q => { tmps := #[.int .i64 c, .int .u64 (x : Int), .int .i64 (n : Int), undef, undef, undef, .slice none 0 0, .int .i64 0, .pointer (some ⟨w'.heap.size + 1, 0, none⟩), .pointer (some ⟨q, 0, none⟩), .int .i64 c, .bool true, .bool false, .bool false, .int .i64 (n : Int), .bool false, .bool false, .bool false, .int .i64 (n : Int), .bool false, .bool false, .int .i64 (n : Int), .slice (some ⟨w'.heap.size, 0, none⟩) 0 n, .int .u64 (x : Int), .pointer (some ⟨w'.heap.size + 1 + 1, 0, none⟩), .int .i64 c, .int .i64 (n : Int), .func (.func 29) #[] #[.pointer (some ⟨w'.heap.size + 1 + 1 + 1 + 1 + 1, 0, none⟩), .pointer (some ⟨w'.heap.size + 1 + 1 + 1, 0, none⟩), .pointer (some ⟨w'.heap.size + 1 + 1 + 1 + 1, 0, none⟩)], evV (F k), undef, undef, undef, undef, undef], defers := [] })
    (fun k => (.cells #[.int .i64 (F k).kind, .int .i64 (F k).cpu, .int .i64 (F k).id, .int .u64 (F k).mask, .int .i64 (F k).n] 33))
    (fun l J J' Jx W hJ hS h0 hY => ev_it HC.out.1 HC.out.2.1 HC.out.2.2.1 HC.out.2.2.2.1 l J J' Jx W (fun k W hj => by
      obtain ⟨v, h⟩ := hJ k W hj
      exact h.it) hS h0 (fun k W hk h => by rw [hF k]; exact hY k W hk h)) ?assign ?body ?done ?stop
  case assign =>
    intro l k W K hk hK
    clear hF
    generalize F k = E at *
    obtain ⟨q0, q1, q2, q3, q4⟩ := E
    dsimp only [evV] at hK ⊢
    gi_wp2
    exact hK
  case body =>
    intro l k q W hk hsz hq ⟨v, hI⟩
    have hE := hF k
    generalize F k = E at *
    obtain ⟨q0, q1, q2, q3, q4⟩ := E
    obtain ⟨a, cap, a2, c2, u2, hv, r1, P2, kp, cc, ff⟩ := hI.app (by have := HC.out.2.2.2.1; omega) _ hE
    subst hv
    simp only [World.size_alloc] at hsz ⊢
    have TW : Hid (Tw2 _ W _) := hsz.keep kp
    have PX : Hid _ := P2
    have l0 := hI.hl.cell 0
    have x0 : W.cell? ⟨q, 0, none⟩ = some (.int .i64 q0) := Blk.cell (cs := [.int .i64 q0, .int .i64 q1, .int .i64 q2, .int .u64 q3, .int .i64 q4]) hq 0
    have x1 : W.cell? ⟨q, 1, none⟩ = some (.int .i64 q1) := Blk.cell (cs := [.int .i64 q0, .int .i64 q1, .int .i64 q2, .int .u64 q3, .int .i64 q4]) hq 1
    have x2 : W.cell? ⟨q, 2, none⟩ = some (.int .i64 q2) := Blk.cell (cs := [.int .i64 q0, .int .i64 q1, .int .i64 q2, .int .u64 q3, .int .i64 q4]) hq 2
    have x3 : W.cell? ⟨q, 3, none⟩ = some (.int .u64 q3) := Blk.cell (cs := [.int .i64 q0, .int .i64 q1, .int .i64 q2, .int .u64 q3, .int .i64 q4]) hq 3
    have x4 : W.cell? ⟨q, 4, none⟩ = some (.int .i64 q4) := Blk.cell (cs := [.int .i64 q0, .int .i64 q1, .int .i64 q2, .int .u64 q3, .int .i64 q4]) hq 4
    simp only [List.getElem?_cons_zero] at l0
    clear hI P2 kp hsz hq hE hF
    dsimp only [evV]
    gi_wp2_with (guard_target =~ wpListIn _ _ _ _ _ (Oper.mk _ (Op.call _) _ _ _ _ :: _) _ _; refine wpListIn_rung rfl (.tmp 29) (.tmp 31) 35 rfl rfl rfl r1 ?_)
    exact ⟨TW.out, _, PX.out⟩
  case done =>
    rintro W ⟨v, hI⟩ hK
    simp only [World.size_alloc] at hK ⊢
    have l0 := hI.hl.cell 0
    simp only [List.getElem?_cons_zero] at l0
    have E7 : Hid _ := (abd_pi1 (by omega) v).turn _ _ _ (.deferred none) (Nat.le_refl _) hK rfl hI
    have HK6 : Hid _ := hK
    clear hI hK hF
    gi_wp2
    refine ⟨by simp, .inl ⟨_, _, rfl, run_takeDeferred HK6.out, ?_⟩⟩
    exact ⟨_, results_tmp2 rfl _ _ _, _, rfl, E7.out.g.row, E7.out.g.bel, by have := E7.out.g.cap; rwa [scr_len] at this⟩
  case stop =>
    rintro W h hK
    exact h.elim
theorem script_ok (c : Int) (x n : Nat) (w : World) (h1 : 1 ≤ c) (h2 : c ≤ 64) (hx : x < 18446744073709551616) (hn : n ≤ 600) :
    Calls Try.prog 13 #[.int .i64 c, .int .u64 (x : Int), .int .i64 (n : Int)] w fun e w' => ∃ v, e = .returned (.tuple #[v, .int .i64 0]) ∧ LRow evy w' v (scr c x n) ∧ Below w.heap.size w w' :=
  (script_cap c x n w h1 h2 hx hn).mono fun e w' ⟨v, q1, q2, q3, _⟩ => ⟨v, q1, q2, q3⟩
set_option maxHeartbeats 4000000 in
theorem script_no (c : Int) (x : Nat) (m : Int) (w : World) (h : oks c m = false) :
    Calls Try.prog 13 #[.int .i64 c, .int .u64 (x : Int), .int .i64 m] w fun e w' => e = .returned (.tuple #[.slice none 0 0, .int .i64 2]) ∧ w' = w := by
  have CI : Hid (∀ v, _) := fun v => cpus_any c v
  unfold oks at h
  cases hc : okc c with
  | false =>
    rw [hc] at CI
    clear h hc
    go_enter Try.func13, Try.ntmps13
    go_wp2_with fail
    refine (CI.out _).mono ?_
    rintro e w' ⟨rfl, rfl⟩
    go_wp2
    go_ret2
    exact ⟨rfl, rfl⟩
  | true =>
    rw [hc] at CI h
    rw [Bool.true_and] at h
    clear hc
    by_cases h3 : m < 0
    · have e3 : decide (m < 0) = true := decide_eq_true h3
      clear h
      go_enter Try.func13, Try.ntmps13
      go_wp2_with fail
      refine (CI.out _).mono ?_
      rintro e w' ⟨rfl, rfl⟩
      go_wp2
      go_ret2
      exact ⟨rfl, rfl⟩
    · have e3 : decide (m < 0) = false := decide_eq_false h3
      rw [decide_eq_true (show 0 ≤ m by omega), Bool.true_and] at h
      have h4 : 600 < m := by simpa using h
      have e4 : decide (600 < m) = true := decide_eq_true h4
      clear h
      go_enter Try.func13, Try.ntmps13
      go_wp2_with fail
      refine (CI.out _).mono ?_
      rintro e w' ⟨rfl, rfl⟩
      go_wp2
      go_ret2
      exact ⟨rfl, rfl⟩

/-- The program's Script, at all arguments. -/
theorem script_any (c : Int) (x : Nat) (m : Int) (w : World) (hx : x < 18446744073709551616) :
    Calls Try.prog 13 #[.int .i64 c, .int .u64 (x : Int), .int .i64 m] w fun e w' => ScP c x m w e w' := by
  unfold ScP
  by_cases h : oks c m = true
  · rw [if_pos h, if_pos h]
    unfold oks okc at h
    simp only [Bool.and_eq_true, decide_eq_true_eq] at h
    obtain ⟨n, rfl⟩ := Int.eq_ofNat_of_zero_le h.2.1
    exact script_ok c x n w h.1.1 h.1.2 hx (by omega)
  · rw [if_neg h, if_neg h]
    exact (script_no c x m w (by simpa using h)).mono fun e w' ⟨h1, h2⟩ => ⟨_, h1, Or.inl ⟨rfl, none, 0, rfl⟩, h2 ▸ Below.refl _ _⟩
end Go.Proofs.Ytijicghdmlfheaa.Dri
