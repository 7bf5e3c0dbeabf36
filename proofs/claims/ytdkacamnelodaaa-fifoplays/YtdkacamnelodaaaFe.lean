/- What the calls of the document's queue answer and leave (davitref03), for every queue. -/
import Derived.Test.YtdkacamnelodaaaRows
import Derived.Test.YtdkacamnelodaaaFd
import Derived.WalkKit
import Derived.ProofKit
import Derived.OpenShut
import Derived.BigQuiet
namespace Go.Proofs.Ytdkacamnelodaaa
open Go.ChangeShapes Go.WideShapes Go.ChangeAt Go.RowKit
open Fm

/-- The document's queue at block b; its list lies in a block from 'base' on. -/
structure R (w : World) (b base m : Nat) (L : List Int) (a : Option Addr) (cap : Nat) : Prop where
  sb : Blk w b [.int .i64 (m : Int), .slice a L.length cap] 40
  own : w.ownsRow base 3 1 (.slice a L.length cap) L.length (L.map (Value.int .i64))
  lt : b < base
  le : base ≤ w.heap.size

theorem R.c0 {w : World} {b base m : Nat} {L : List Int} {a : Option Addr} {cap : Nat} (h : R w b base m L a cap) : w.cell? ⟨b, 0, none⟩ = some (.int .i64 (m : Int)) := h.sb.cell 0
theorem R.c1 {w : World} {b base m : Nat} {L : List Int} {a : Option Addr} {cap : Nat} (h : R w b base m L a cap) : w.cell? ⟨b, 1, none⟩ = some (.slice a L.length cap) := h.sb.cell 1
theorem R.f1 {w : World} {b base m : Nat} {L : List Int} {a : Option Addr} {cap : Nat} (h : R w b base m L a cap) : w.frozen? ⟨b, 1, none⟩ = false := h.sb.free 1
theorem R.row {w : World} {b base m : Nat} {L : List Int} {a : Option Addr} {cap : Nat} (h : R w b base m L a cap) : Row w (.slice a L.length cap) L := row_of_owns h.own
theorem R.drewN {w : World} {b base m : Nat} {L : List Int} {a : Option Addr} {cap : Nat} (h : R w b base m L a cap) (n : Nat) : R (w.drewN n) b base m L a cap := ⟨h.sb, h.own, h.lt, h.le⟩
theorem R.keep {B : Nat} {S : List Nat} {w w' : World} {b base m : Nat} {L : List Int} {a : Option Addr} {cap : Nat} (h : R w b base m L a cap) (f : Fr B S w w') (hB : w.heap.size ≤ B) (hS : ∀ k ∈ S, k < base) (hb : b ∉ S) : R w' b base m L a cap :=
  ⟨h.sb.keep f (by have := h.lt; have := h.le; omega) hb, owns_keep h.own f hB hS, h.lt, Nat.le_trans h.le f.size⟩

/-- Behind the store of a new list that the call itself made. -/
theorem r_store {w w1 : World} {b base m : Nat} {L G : List Int} {a a' : Option Addr} {cap cap' : Nat} (h : R w b base m L a cap)
    (own : w1.ownsRow base 3 1 (.slice a' G.length cap') G.length (G.map (Value.int .i64))) (f : Fr base [] w w1) :
    R (w1.setCell ⟨b, 1, none⟩ (.slice a' G.length cap')) b base m G a' cap' ∧ Fr base [b] w (w1.setCell ⟨b, 1, none⟩ (.slice a' G.length cap')) := by
  have sb := (h.sb.keep f h.lt (by simp)).set 1 (.slice a' G.length cap')
  refine ⟨⟨sb, ownsRow_setCell_below own (by exact h.lt) _, h.lt, ?_⟩, ?_⟩
  · have := f.size
    have := h.le
    simp [World.setCell]
    omega
  · exact (f.mono (Nat.le_refl _) (by simp)).setCell (Or.inr (by simp)) _

/-- What an append to the list leaves. -/
theorem r_grown {w w1 : World} {b base m : Nat} {L : List Int} {a : Option Addr} {cap : Nat} {o : Obj} (h : R w b base m L a cap) (hg : (w.alloc o).grownBy w1 (Value.slice a L.length cap).ownBlock) : Fr base [] w w1 := by
  refine ((Fr.refl base [] w).alloc h.le o).grown hg (by have := h.le; simp; omega) fun k hk => Or.inl (h.own.lt k hk).1

theorem r_grown_cell {w w1 : World} {b base m : Nat} {L : List Int} {a : Option Addr} {cap : Nat} (h : R w b base m L a cap) (f : Fr base [] w w1) : w1.cell? ⟨b, 1, none⟩ = some (.slice a L.length cap) ∧ w1.frozen? ⟨b, 1, none⟩ = false := by
  have sb := h.sb.keep f h.lt (by simp)
  exact ⟨sb.cell 1, sb.free 1⟩

set_option maxHeartbeats 400000 in
theorem rnew_any (m : Nat) (w : World) (h1 : (1 : Int) ≤ m) (h2 : (m : Int) ≤ 1024) :
    Calls Try.prog 8 #[.int .i64 (m : Int)] w fun e w' => e = .returned (.tuple #[.pointer (some ⟨w.heap.size, 0, none⟩), .int .i64 0]) ∧ R w' w.heap.size (w.heap.size + 1) m [] none 0 ∧ Fr w.heap.size [] w w' := by
  have F : Hid (∀ o1, Fr w.heap.size [] w (w.alloc o1)) := fun o1 => (Fr.refl _ _ _).alloc (Nat.le_refl _) o1
  go_enter Try.func8, Try.ntmps8
  go_wp2
  go_ret2
  refine ⟨rfl, ⟨?_, World.ownsRow_nil _ _ _ _, by omega, by simp⟩, F.out _⟩
  have := Blk.new w [.int .i64 (m : Int), .slice none 0 0] 40
  simpa using this

theorem rnew_bad (m : Int) (w : World) (h : m < 1 ∨ 1024 < m) :
    Calls Try.prog 8 #[.int .i64 m] w fun e w' => e = .returned (.tuple #[.pointer none, .int .i64 2]) ∧ w' = w := by
  rcases h with h | h
  · go_enter Try.func8, Try.ntmps8
    go_wp2
    go_ret2
    exact ⟨rfl, rfl⟩
  · have h2 : (1 : Int) ≤ m := by omega
    go_enter Try.func8, Try.ntmps8
    go_wp2
    go_ret2
    exact ⟨rfl, rfl⟩

set_option maxHeartbeats 400000 in
theorem rfront_any {b base m : Nat} {L : List Int} {a : Option Addr} {cap : Nat} (w : World) (h : R w b base m L a cap) (hl : (L.length : Int) ≤ 1024) :
    Calls Try.prog 19 #[.pointer (some ⟨b, 0, none⟩)] w fun e w' => e = .returned (.tuple #[.int .i64 (L.headD 0), .int .i64 (fE L)]) ∧ w' = w := by
  have c1 := h.c1
  have hr := h.row
  cases L with
  | nil =>
    rw [show fE [] = 12 from rfl, show List.headD ([] : List Int) 0 = 0 from rfl]
    clear h hl hr
    go_enter Try.func19, Try.ntmps19
    go_wp2
    go_ret2
    exact ⟨rfl, rfl⟩
  | cons x t =>
    rw [show fE (x :: t) = 0 from rfl, show List.headD (x :: t) 0 = x from rfl]
    rcases hr with ⟨e, _⟩ | ⟨g, off, cap2, hv, _, hc⟩
    · cases e
    · have c0 := hc 0 (by simp)
      simp only [Value.slice.injEq] at hv
      obtain ⟨rfl, _, rfl⟩ := hv
      rw [Nat.add_zero, show (x :: t).getD 0 0 = x from rfl] at c0
      have hp : (0 : Int) < (x :: t).length := by simp
      generalize (x :: t).length = l at *
      clear h hc
      go_enter Try.func19, Try.ntmps19
      go_wp2
      go_ret2
      exact ⟨rfl, rfl⟩

set_option maxHeartbeats 1000000 in
theorem rpush_any {b base m : Nat} {L : List Int} {a : Option Addr} {cap : Nat} (n : Int) (w : World) (h : R w b base m L a cap) (hl : (L.length : Int) ≤ m) (hm : (m : Int) ≤ 1024) :
    Calls Try.prog 11 #[.pointer (some ⟨b, 0, none⟩), .int .i64 n] w fun e w' => e = .returned (.int .i64 (pE m L n)) ∧ (∃ a' c', R w' b base m (pL m L n) a' c') ∧ Fr base [b] w w' := by
  have c0 := h.c0
  have c1 := h.c1
  have C : Hid (∀ _ : Unit, _) := fun _ => rhas_any L _ n w (by omega) h.row
  have HR : Hid (R w b base m L a cap) := h
  by_cases c : n ∈ L
  · rw [decide_eq_true c] at C
    rw [show pE m L n = 6 from if_pos c, show pL m L n = L from if_pos c]
    clear h c c0
    go_enter Try.func11, Try.ntmps11
    go_wp2_with fail
    refine (C.out ()).mono ?_
    rintro e w' ⟨rfl, rfl⟩
    go_wp2
    go_ret
    exact ⟨rfl, ⟨_, _, HR.out⟩, Fr.refl _ _ _⟩
  · rw [decide_eq_false c] at C
    by_cases d : m ≤ L.length
    · rw [show pE m L n = 5 by unfold pE; rw [if_neg c, if_pos d], show pL m L n = L by unfold pL; rw [if_neg c, if_pos d]]
      have d2 : (m : Int) ≤ L.length := by omega
      clear h c d
      go_enter Try.func11, Try.ntmps11
      go_wp2_with fail
      refine (C.out ()).mono ?_
      rintro e w' ⟨rfl, rfl⟩
      go_wp2
      go_quiet (fail)
      go_wp2
      go_ret
      exact ⟨rfl, ⟨_, _, HR.out.drewN _⟩, (Fr.refl _ _ _).drewN _⟩
    · rw [show pE m L n = 0 by unfold pE; rw [if_neg c, if_neg d], show pL m L n = L ++ [n] by unfold pL; rw [if_neg c, if_neg d]]
      have d2 : (L.length : Int) < m := by omega
      obtain ⟨i0, hi, hz0, hz1, hz2⟩ := info_parts Try.info3
      have hle := h.le
      clear h c d
      go_enter Try.func11, Try.ntmps11
      go_wp2_with fail
      refine (C.out ()).mono ?_
      rintro e w' ⟨rfl, rfl⟩
      go_wp2
      go_quiet (fail)
      go_wp2_with (at_builtin; refine wpList_append_own _ rfl _ _ 38 rfl base 3 i0 (.int .i64 0) 1 8 Try.underlying38 hi hz0 hz1 hz2 rfl (by decide) _ _ _ rfl ((HR.out.drewN _).own.alloc _) ⟨_, 0, none⟩ 1 1 [.int .i64 n] rfl rfl ?c1 ?c2 ?c3 ?c4 ?c5 ?_)
      case c1 =>
        intro j u hj
        match j, hj with
        | 0, hj => simp at hj; subst hj; exact (Blk.new _ [_] _).cell 0
      case c2 => intro u hu; simp at hu; subst hu; rfl
      case c3 => unfold maxLen; omega
      case c4 => omega
      case c5 => simp; omega
      intro v' w1 hown' hgrow _
      have f := r_grown (HR.out.drewN _) hgrow
      obtain ⟨a', cap', rfl⟩ := own_shape hown'
      obtain ⟨k1, k2⟩ := r_grown_cell (HR.out.drewN _) f
      have ST := r_store (G := L ++ [n]) (a' := a') (cap' := cap') (HR.out.drewN _) (by simpa using hown') f
      rw [show (L ++ [n]).length = L.length + 1 by simp] at ST
      have HS : Hid (_ ∧ _) := ST
      clear hown' hgrow ST
      go_wp2
      go_ret
      exact ⟨rfl, ⟨_, _, HS.out.1⟩, ((Fr.refl _ _ _).drewN _).trans HS.out.2⟩

theorem gt_fr {w w1 : World} {v : Value} {G : List Int} {base : Nat} (g : Gt w w1 v G) (h : base ≤ w.heap.size) : Fr base [] w w1 := (Fr.of_below g.bel).less h

set_option maxHeartbeats 1000000 in
theorem rpop_any {b base m : Nat} {L : List Int} {a : Option Addr} {cap : Nat} (w : World) (h : R w b base m L a cap) (hl : (L.length : Int) ≤ 1024) (hn : L.Nodup) :
    Calls Try.prog 13 #[.pointer (some ⟨b, 0, none⟩)] w fun e w' => e = .returned (.tuple #[.int .i64 (L.headD 0), .int .i64 (fE L)]) ∧ (∃ a' c', R w' b base m L.tail a' c') ∧ Fr base [b] w w' := by
  have c1 := h.c1
  have C : Hid (∀ _ : Unit, _) := fun _ => rfront_any w h hl
  have D : Hid (∀ _ : Unit, _) := fun _ => without_any L _ (L.headD 0) w (by omega) h.row
  have HR : Hid (R w b base m L a cap) := h
  clear h
  cases L with
  | nil =>
    rw [show fE [] = 12 from rfl, show List.headD ([] : List Int) 0 = 0 from rfl] at C
    rw [show fE [] = 12 from rfl, show List.headD ([] : List Int) 0 = 0 from rfl, show ([] : List Int).tail = [] from rfl]
    clear D hl hn c1
    go_enter Try.func13, Try.ntmps13
    go_wp2_with fail
    refine (C.out ()).mono ?_
    rintro e w' ⟨rfl, rfl⟩
    go_wp2
    go_ret2
    exact ⟨rfl, ⟨_, _, HR.out⟩, Fr.refl _ _ _⟩
  | cons x t =>
    rw [show fE (x :: t) = 0 from rfl, show List.headD (x :: t) 0 = x from rfl] at C
    rw [show List.headD (x :: t) 0 = x from rfl, wo_head t x hn] at D
    rw [show fE (x :: t) = 0 from rfl, show List.headD (x :: t) 0 = x from rfl, show (x :: t).tail = t from rfl]
    have HS : Hid (∀ (w1 : World) (a' : Option Addr) (c' : Nat), Gt w w1 (.slice a' t.length c') t → (_ ∧ _) ∧ _) := fun w1 a' c' g =>
      ⟨r_grown_cell HR.out (gt_fr g HR.out.le), r_store (G := t) (a' := a') (cap' := c') HR.out (own_base g.own HR.out.le) (gt_fr g HR.out.le)⟩
    clear hn HR
    generalize (x :: t).length = l at *
    go_enter Try.func13, Try.ntmps13
    go_wp2_with fail
    refine (C.out ()).mono ?_
    rintro e w' ⟨rfl, rfl⟩
    go_wp2_with fail
    refine (D.out ()).mono ?_
    rintro e w1 ⟨v', rfl, g⟩
    obtain ⟨a', c', rfl⟩ := own_shape g.own
    obtain ⟨⟨k1, k2⟩, hs⟩ := HS.out w1 a' c' g
    have H2 : Hid (_ ∧ _) := hs
    clear hs g
    go_wp2
    go_ret2
    exact ⟨rfl, ⟨_, _, H2.out.1⟩, H2.out.2⟩

set_option maxHeartbeats 1000000 in
theorem rdrop_any {b base m : Nat} {L : List Int} {a : Option Addr} {cap : Nat} (n : Int) (w : World) (h : R w b base m L a cap) (hl : (L.length : Int) ≤ 1024) :
    Calls Try.prog 15 #[.pointer (some ⟨b, 0, none⟩), .int .i64 n] w fun e w' => e = .returned (.int .i64 (dE L n)) ∧ (∃ a' c', R w' b base m (wo L n) a' c') ∧ Fr base [b] w w' := by
  have c1 := h.c1
  have C : Hid (∀ _ : Unit, _) := fun _ => rhas_any L _ n w (by omega) h.row
  have D : Hid (∀ _ : Unit, _) := fun _ => without_any L _ n w (by omega) h.row
  have HR : Hid (R w b base m L a cap) := h
  clear h
  by_cases c : n ∈ L
  · rw [decide_eq_true c] at C
    rw [show dE L n = 0 from if_pos c]
    have HS : Hid (∀ (w1 : World) (a' : Option Addr) (c' : Nat), Gt w w1 (.slice a' (wo L n).length c') (wo L n) → (_ ∧ _) ∧ _) := fun w1 a' c' g =>
      ⟨r_grown_cell HR.out (gt_fr g HR.out.le), r_store (G := wo L n) (a' := a') (cap' := c') HR.out (own_base g.own HR.out.le) (gt_fr g HR.out.le)⟩
    clear HR c
    generalize wo L n = W at *
    go_enter Try.func15, Try.ntmps15
    go_wp2_with fail
    refine (C.out ()).mono ?_
    rintro e w' ⟨rfl, rfl⟩
    go_wp2_with fail
    refine (D.out ()).mono ?_
    rintro e w1 ⟨v', rfl, g⟩
    obtain ⟨a', c', rfl⟩ := own_shape g.own
    obtain ⟨⟨k1, k2⟩, hs⟩ := HS.out w1 a' c' g
    have H2 : Hid (_ ∧ _) := hs
    clear hs g
    go_wp2
    go_ret
    exact ⟨rfl, ⟨_, _, H2.out.1⟩, H2.out.2⟩
  · rw [decide_eq_false c] at C
    rw [show dE L n = 4 from if_neg c, wo_miss L n c]
    clear D c
    go_enter Try.func15, Try.ntmps15
    go_wp2_with fail
    refine (C.out ()).mono ?_
    rintro e w' ⟨rfl, rfl⟩
    go_wp2
    go_ret
    exact ⟨rfl, ⟨_, _, HR.out⟩, Fr.refl _ _ _⟩

set_option maxHeartbeats 1000000 in
theorem rturn_any {b base m : Nat} {L : List Int} {a : Option Addr} {cap : Nat} (w : World) (h : R w b base m L a cap) (hl : (L.length : Int) ≤ 1024) (hn : L.Nodup) :
    Calls Try.prog 17 #[.pointer (some ⟨b, 0, none⟩)] w fun e w' => e = .returned (.int .i64 (fE L)) ∧ (∃ a' c', R w' b base m (tL L) a' c') ∧ Fr base [b] w w' := by
  have C : Hid (∀ _ : Unit, _) := fun _ => rpop_any w h hl hn
  clear h
  cases L with
  | nil =>
    rw [show fE [] = 12 from rfl, show List.headD ([] : List Int) 0 = 0 from rfl, show ([] : List Int).tail = [] from rfl] at C
    rw [show fE [] = 12 from rfl, show tL [] = [] from rfl]
    clear hl hn
    go_enter Try.func17, Try.ntmps17
    go_wp2_with fail
    refine (C.out ()).mono ?_
    rintro e w' ⟨rfl, ⟨a', c', hr⟩, hf⟩
    go_wp2
    go_ret
    exact ⟨rfl, ⟨_, _, hr⟩, hf⟩
  | cons x t =>
    rw [show fE (x :: t) = 0 from rfl, show List.headD (x :: t) 0 = x from rfl, show (x :: t).tail = t from rfl] at C
    rw [show fE (x :: t) = 0 from rfl, show tL (x :: t) = t ++ [x] from rfl]
    obtain ⟨i0, hi, hz0, hz1, hz2⟩ := info_parts Try.info3
    have ht : (t.length : Int) ≤ 1024 := by simp at hl; omega
    clear hl hn
    go_enter Try.func17, Try.ntmps17
    go_wp2_with fail
    refine (C.out ()).mono ?_
    rintro e w' ⟨rfl, ⟨a', c', hr⟩, hf⟩
    have k0 := hr.c1
    have hle := hr.le
    have HR : Hid (R w' b base m t a' c') := hr
    have HF : Hid (Fr base [b] w w') := hf
    clear hr hf
    go_wp2_with (at_builtin; refine wpList_append_own _ rfl _ _ 38 rfl base 3 i0 (.int .i64 0) 1 8 Try.underlying38 hi hz0 hz1 hz2 rfl (by decide) _ _ _ rfl (HR.out.own.alloc _) ⟨_, 0, none⟩ 1 1 [.int .i64 x] rfl rfl ?c1 ?c2 ?c3 ?c4 ?c5 ?_)
    case c1 =>
      intro j u hj
      match j, hj with
      | 0, hj => simp at hj; subst hj; exact (Blk.new _ [_] _).cell 0
    case c2 => intro u hu; simp at hu; subst hu; rfl
    case c3 => unfold maxLen; omega
    case c4 => omega
    case c5 => simp; omega
    intro v' w1 hown' hgrow _
    have f := r_grown HR.out hgrow
    obtain ⟨a2, cap2, rfl⟩ := own_shape hown'
    obtain ⟨k1, k2⟩ := r_grown_cell HR.out f
    have ST := r_store (G := t ++ [x]) (a' := a2) (cap' := cap2) HR.out (by simpa using hown') f
    rw [show (t ++ [x]).length = t.length + 1 by simp] at ST
    have HS : Hid (_ ∧ _) := ST
    clear hown' hgrow ST k0
    go_wp2
    go_ret
    exact ⟨rfl, ⟨_, _, HS.out.1⟩, HF.out.trans HS.out.2⟩
end Go.Proofs.Ytdkacamnelodaaa
