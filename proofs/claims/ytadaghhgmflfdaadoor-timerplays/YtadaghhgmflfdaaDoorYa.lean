/- The document's wheel as it lies in memory; what its New, Find, When, Next, Go and Drop answer and leave. -/
import Derived.Test.YtadaghhgmflfdaaDoorRows
import Derived.Test.YtadaghhgmflfdaaDoorWi
import Derived.Test.YtadaghhgmflfdaaDoorWp
import Derived.Test.YtadaghhgmflfdaaDoorWk
import Derived.Test.YtadaghhgmflfdaaDoorWn
import Derived.WalkKit
import Derived.ProofKit
import Derived.OpenShut
import Derived.BigQuiet
namespace Go.Proofs.YtadaghhgmflfdaaDoor
open Go.ChangeShapes Go.WideShapes Go.ChangeAt Go.RowKit
open Wm

theorem Tryd.infoItem : (Tryd.prog.info? 93).map (fun i => (i.zero, i.size, i.bytes)) = some (some (.agg #[.int .i64 0, .int .i64 0]), 2, 16) := by kernel_rfl

/-- The wheel's struct at block s; its list v holds L. -/
structure DV (w : World) (s : Nat) (now : Int) (v : Value) (L : List It) : Prop where
  st : Blk w s [.int .i64 now, v] 48
  own : Own 93 w v L
  srt : Srt L
  uni : Uni L
/-- .. told by its blocks alone. -/
def DD (w : World) (s : Nat) (now : Int) (L : List It) (F : List Nat) : Prop := ∃ v, DV w s now v L ∧ F = s :: ob v

theorem DV.nb {w : World} {s : Nat} {now : Int} {v : Value} {L : List It} (h : DV w s now v L) : s ∉ ob v := fun e => h.own.ne h.st (by decide) (mem_ob.1 e) rfl
theorem DV.keep {B : Nat} {S : List Nat} {w w' : World} {s : Nat} {now : Int} {v : Value} {L : List It} (h : DV w s now v L) (f : Fr B S w w') (hB : w.heap.size ≤ B) (hS : ∀ g ∈ s :: ob v, g ∉ S) : DV w' s now v L :=
  ⟨h.st.keep f (Nat.lt_of_lt_of_le h.st.lt hB) (hS s List.mem_cons_self), h.own.keep f fun g hg => ⟨Nat.lt_of_lt_of_le (h.own.lt hg) hB, hS g (List.mem_cons_of_mem _ (mem_ob.2 hg))⟩, h.srt, h.uni⟩
theorem DV.below {w w' : World} {s : Nat} {now : Int} {v : Value} {L : List It} (h : DV w s now v L) (f : Below w.heap.size w w') : DV w' s now v L := h.keep (Fr.of_below f) (Nat.le_refl _) (by simp)
theorem DD.keep {B : Nat} {S : List Nat} {w w' : World} {s : Nat} {now : Int} {L : List It} {F : List Nat} (h : DD w s now L F) (f : Fr B S w w') (hB : w.heap.size ≤ B) (hS : ∀ g ∈ F, g ∉ S) : DD w' s now L F := by
  obtain ⟨v, h, rfl⟩ := h
  exact ⟨v, h.keep f hB hS, rfl⟩
theorem DD.below {w w' : World} {s : Nat} {now : Int} {L : List It} {F : List Nat} (h : DD w s now L F) (f : Below w.heap.size w w') : DD w' s now L F := h.keep (Fr.of_below f) (Nat.le_refl _) (by simp)
theorem DD.lt {w : World} {s : Nat} {now : Int} {L : List It} {F : List Nat} (h : DD w s now L F) {g : Nat} (hg : g ∈ F) : g < w.heap.size := by
  obtain ⟨v, h, rfl⟩ := h
  rcases List.mem_cons.1 hg with e | e
  · rw [e]; exact h.st.lt
  · exact h.own.lt (mem_ob.1 e)
theorem DV.at {w : World} {s : Nat} {now : Int} {a : Option Addr} {n cap : Nat} {L : List It} (h : DV w s now (.slice a n cap) L) {i : Nat} (hi : i < L.length) : ∃ (g : Nat) (y : It), a = some ⟨g, 0, none⟩ ∧ L[i]? = some y ∧ w.cell? ⟨g, i * 2, none⟩ = some (.int .i64 y.2) ∧ w.cell? ⟨g, i * 2 + 1, none⟩ = some (.int .i64 y.1) := by
  obtain ⟨g, e, hh⟩ := h.own.cell hi
  have hy := List.getElem?_eq_getElem hi
  obtain ⟨h1, h2⟩ := hh _ hy
  exact ⟨g, L[i], e, hy, h1, h2⟩

theorem rnew_yes (now : Int) (w : World) (h : isT now) :
    Calls Tryd.prog 31 #[.int .i64 now] w fun e w' => e = .returned (.tuple #[.pointer (some ⟨w.heap.size, 0, none⟩), .int .i64 0]) ∧ DD w' w.heap.size now [] [w.heap.size] ∧ Below w.heap.size w w' := by
  obtain ⟨h1, h2⟩ := h
  have h3 : ¬ now < 0 := by omega
  have F : Hid (DD (w.alloc (.cells #[.int .i64 now, .slice none 0 0] 48)) w.heap.size now [] [w.heap.size]) := ⟨.slice none 0 0, ⟨Blk.new w [.int .i64 now, .slice none 0 0] _, own_nil _ _, List.Pairwise.nil, List.Pairwise.nil⟩, rfl⟩
  go_enter Tryd.func31, Tryd.ntmps31
  go_wp2
  go_ret2
  exact ⟨rfl, F.out, (Below.refl _ w).alloc (Nat.le_refl _) _⟩
theorem rnew_no (now : Int) (w : World) (h : ¬ isT now) :
    Calls Tryd.prog 31 #[.int .i64 now] w fun e w' => e = .returned (.tuple #[.pointer none, .int .i64 2]) ∧ w' = w := by
  unfold isT at h
  by_cases h1 : now < 0
  · clear h
    go_enter Tryd.func31, Tryd.ntmps31
    go_wp2
    go_ret2
    exact ⟨rfl, rfl⟩
  · have h2 : 1152921504606846976 < now := by omega
    clear h
    go_enter Tryd.func31, Tryd.ntmps31
    go_wp2
    go_ret2
    exact ⟨rfl, rfl⟩

/-- Where a number stands. -/
def ixI (L : List It) (id : Int) : Int := match wn L id with | none => -1 | some d => (at_ L (d, id) : Nat)
theorem at_self {L : List It} (h : Srt L) {k : Nat} {y : It} (hk : L[k]? = some y) : at_ L y = k := by
  have hl := (List.getElem?_eq_some_iff.1 hk).1
  refine at_is (by omega) (fun t z ht hz => ?_) (fun t z ht hz hlt => ?_)
  · rcases srt_le h (by omega : t ≤ k) hz hk with e | e
    · exfalso
      subst e
      obtain ⟨h1, e1⟩ := List.getElem?_eq_some_iff.1 hz
      obtain ⟨h2, e2⟩ := List.getElem?_eq_some_iff.1 hk
      have := List.pairwise_iff_getElem.1 h t k h1 h2 ht
      rw [e1, e2] at this
      exact lt_irrefl _ this
    · exact e
  · rcases srt_le h ht hk hz with e | e
    · rw [e] at hlt; exact lt_irrefl _ hlt
    · exact lt_asymm e hlt
theorem at_elem {L : List It} (h : Srt L) {x : It} (hx : x ∈ L) : L[at_ L x]? = some x := by
  obtain ⟨i, hi, e⟩ := List.mem_iff_getElem.1 hx
  have e2 : L[i]? = some x := by rw [← e]; exact List.getElem?_eq_getElem hi
  rw [at_self h e2]
  exact e2
theorem ix_at {L : List It} (h : Srt L) (u : Uni L) {k : Nat} {y : It} (hk : L[k]? = some y) : ixI L y.2 = k := by
  unfold ixI
  rw [wn_some u (List.mem_of_getElem? hk)]
  show ((at_ L (y.1, y.2) : Nat) : Int) = k
  rw [show (y.1, y.2) = y from rfl, at_self h hk]

set_option maxRecDepth 100000 in
set_option maxHeartbeats 1000000 in
theorem rfind_any {w : World} {s : Nat} {now : Int} {L : List It} {F : List Nat} (id : Int) (h : DD w s now L F) (hl : L.length ≤ 1000) :
    Calls Tryd.prog 41 #[.pointer (some ⟨s, 0, none⟩), .int .i64 id] w fun e w' => e = .returned (.int .i64 (ixI L id)) ∧ w' = w := by
  obtain ⟨v, h, rfl⟩ := h
  obtain ⟨a, cap, rfl⟩ := h.own.shape
  have c1 : w.cell? ⟨s, 1, none⟩ = some (.slice a L.length cap) := h.st.cell 1
  obtain ⟨R, hR⟩ : ∃ R, R = ixI L id := ⟨_, rfl⟩
  rw [← hR]
  have AT : Hid (∀ i, i < L.length → ∃ (g : Nat) (y : It), a = some ⟨g, 0, none⟩ ∧ w.cell? ⟨g, i * 2, none⟩ = some (.int .i64 y.2) ∧ (y.2 = id → R = i) ∧ Hid (L[i]? = some y)) := fun i hi => by
    obtain ⟨g, y, e, hy, h1, h2⟩ := h.at hi
    exact ⟨g, y, e, h1, fun e2 => by rw [hR, ← e2, ix_at h.srt h.uni hy], hy⟩
  have NO : Hid ((∀ t y, t < L.length → L[t]? = some y → y.2 ≠ id) → R = -1) := fun hh => by
    have : wn L id = none := wn_none.2 fun x hx => by
      obtain ⟨i, hi, e⟩ := List.mem_iff_getElem.1 hx
      exact hh i x hi (by rw [← e]; exact List.getElem?_eq_getElem hi)
    rw [hR]
    unfold ixI
    rw [this]
  obtain ⟨n, hn⟩ : ∃ n, n = L.length := ⟨_, rfl⟩
  rw [← hn] at c1 AT NO hl
  have hl2 : (n : Int) ≤ 1000 := by omega
  clear h hR hn hl
  go_enter Tryd.func41, Tryd.ntmps41
  go_wp2
  go_loopw [5] (fun i wr => wr = w ∧ ∃ k : Nat, (k : Int) ≤ n ∧ i = .int .i64 k ∧ Hid (∀ t y, t < k → L[t]? = some y → y.2 ≠ id)) (fun i _ => n - (intOf i).toNat)
  case atStart => exact ⟨rfl, 0, by omega, rfl, fun t y ht => absurd ht (Nat.not_lt_zero _)⟩
  case round =>
    obtain ⟨rfl, k, hk, rfl, I⟩ := hrel
    by_cases e : (k : Int) < n
    · obtain ⟨g, y, rfl, hc, hy, HY⟩ := AT.out k (by omega)
      by_cases ey : y.2 = id
      · have hR := hy ey
        subst hR
        rw [ey] at hc
        clear hy
        go_wp2
        go_ret
        exact ⟨rfl, rfl⟩
      · have I2 : Hid (∀ t y, t < k + 1 → L[t]? = some y → y.2 ≠ id) := fun t z ht hz => by
          by_cases e2 : t = k
          · subst e2
            rw [HY.out] at hz
            cases hz
            exact ey
          · exact I.out t z (by omega) hz
        generalize y.2 = y2 at *
        clear hy HY I
        go_wp2
        go_roundw
        case rel => exact ⟨trivial, k + 1, by omega, by go_num, I2⟩
        case measure => simp [intOf]; omega
    · obtain rfl : k = n := by omega
      obtain rfl := NO.out fun t y ht hy => I.out t y ht hy
      go_wp2
      go_ret
      exact ⟨rfl, rfl⟩

theorem ix_none {L : List It} {id : Int} (h : wn L id = none) : ixI L id = -1 := by unfold ixI; rw [h]
theorem ix_some {L : List It} {id d : Int} (h : wn L id = some d) : ixI L id = (at_ L (d, id) : Nat) := by unfold ixI; rw [h]

set_option maxRecDepth 100000 in
set_option maxHeartbeats 1000000 in
theorem rwhen_any {w : World} {s : Nat} {now : Int} {L : List It} {F : List Nat} (id : Int) (h : DD w s now L F) (hl : L.length ≤ 1000) :
    Calls Tryd.prog 43 #[.pointer (some ⟨s, 0, none⟩), .int .i64 id] w fun e w' => e = .returned (.tuple #[.int .i64 (whN L id), .bool (whB L id)]) ∧ w' = w := by
  have C : Hid (∀ _ : Unit, _) := fun _ => rfind_any id h hl
  unfold whN whB
  cases e : wn L id with
  | none =>
    rw [ix_none e] at C
    simp only [Option.getD_none, Option.isSome_none]
    clear h
    go_enter Tryd.func43, Tryd.ntmps43
    go_wp2_with fail
    refine (C.out ()).mono ?_
    rintro e w' ⟨rfl, rfl⟩
    go_wp2
    go_ret2
    exact ⟨rfl, rfl⟩
  | some d =>
    rw [ix_some e] at C
    simp only [Option.getD_some, Option.isSome_some]
    obtain ⟨v, h, rfl⟩ := h
    obtain ⟨a, cap, rfl⟩ := h.own.shape
    have c1 : w.cell? ⟨s, 1, none⟩ = some (.slice a L.length cap) := h.st.cell 1
    have hlt := at_lt h.srt (wn_mem e)
    obtain ⟨g, y, rfl, hy, h1, h2⟩ := h.at hlt
    have ey : y = (d, id) := by
      have e1 := at_elem h.srt (wn_mem e)
      rw [e1] at hy
      cases hy
      rfl
    subst ey
    generalize at_ L (d, id) = k at *
    generalize L.length = n at *
    have k1 : (k : Int) < n := by omega
    have k2 : (n : Int) ≤ 1000 := by omega
    clear h e hy hlt hl
    go_enter Tryd.func43, Tryd.ntmps43
    go_wp2_with fail
    refine (C.out ()).mono ?_
    rintro e w' ⟨rfl, rfl⟩
    go_wp2
    go_ret2
    exact ⟨rfl, rfl⟩

/-- What is appended: nothing, or things that lie somewhere. -/
def Src2 (w : World) (u : Value) (M : List It) : Prop := (u = .slice none 0 0 ∧ M = []) ∨ ∃ ad c, u = .slice (some ad) M.length c ∧ ∀ j x, (cls M)[j]? = some x → w.cell? (ad.add j) = some x

/-- An append onto a list of one's own. -/
theorem app_any {w : World} {v u : Value} {L M : List It} (o : Own 93 w v L) (h : Src2 w u M) (hl : L.length + M.length ≤ 3000) :
    ∃ a c w', (∀ ty, (Builtin.append_ #[46, 46] ty #[v, u]).run Tryd.prog w = .ok (.slice a (L.length + M.length) c) w') ∧ Own 93 w' (.slice a (L.length + M.length) c) (L ++ M) ∧ Fr w.heap.size (ob v) w w' ∧ ∀ g ∈ ob (.slice a (L.length + M.length) c), g ∈ ob v ∨ w.heap.size ≤ g := by
  obtain ⟨i0, hi0, hz0, hzs, hzb⟩ := info_parts Tryd.infoItem
  rcases h with ⟨rfl, rfl⟩ | ⟨ad, c, rfl, hc⟩
  · have r := fun ty => run_append_owned_none (P := Tryd.prog) w 0 46 ty 93 i0 2 Tryd.underlying46 hi0 v L.length (cls L) o
    obtain ⟨a, cap, rfl⟩ := o.shape
    exact ⟨a, cap, w, r, by rw [List.append_nil]; exact o, Fr.refl _ _ _, fun g hg => Or.inl hg⟩
  · obtain ⟨v', w', r, o', gr, bl'⟩ := run_appg (P := Tryd.prog) w 46 0 93 i0 _ 2 16 Tryd.underlying46 hi0 hz0 hzs hzb rfl (by decide) (by decide) o ad M.length c (cls M) (cls_len M) hc (cls_one M) hl
    have o2 : Own 93 w' v' (L ++ M) := by
      unfold Own
      rw [List.length_append, cls_app]
      exact o'
    obtain ⟨a, cap, e⟩ := o2.shape
    rw [List.length_append] at e
    subst e
    refine ⟨a, cap, w', fun ty => r, o2, (Fr.refl _ _ _).grown gr (Nat.le_refl _) (fun k hk => Or.inr (mem_ob.2 hk)), fun g hg => ?_⟩
    rcases bl' g (mem_ob.1 hg) with q | q
    · exact Or.inl (mem_ob.2 q)
    · exact Or.inr q

/-- The list of a wheel from a place on, or up to it. -/
theorem src_take {w : World} {a : Option Addr} {cap : Nat} {L : List It} {t : TypeId} (o : Own t w (.slice a L.length cap) L) {k : Nat} (hk : k ≤ L.length) : Src2 w (.slice a k cap) (L.take k) := by
  rcases o.cases with ⟨e, rfl⟩ | ⟨g, c, cur, e, hb, h1, h2, h3, h4⟩
  · simp at e
    obtain ⟨rfl, rfl⟩ := e
    simp at hk
    subst hk
    exact Or.inl ⟨rfl, rfl⟩
  · simp only [Value.slice.injEq] at e
    obtain ⟨rfl, _, rfl⟩ := e
    refine Or.inr ⟨⟨g, 0, none⟩, cap, by rw [List.length_take, Nat.min_eq_left hk], fun j x hj => ?_⟩
    rw [Addr.add_lit, Nat.zero_add]
    have hl := (List.getElem?_eq_some_iff.1 hj).1
    rw [← cls_take, List.getElem?_take] at hj
    split at hj
    · have := o.cells 0 j x (by simpa using hj)
      simpa using this
    · cases hj
theorem src_drop {w : World} {a : Option Addr} {cap : Nat} {L : List It} {t : TypeId} (o : Own t w (.slice a L.length cap) L) {k : Nat} (hk : k ≤ L.length) (ad : Option Addr) (had : (a = none → ad = none) ∧ (∀ g, a = some ⟨g, 0, none⟩ → ad = if cap = k then some ⟨g, 0, none⟩ else some ⟨g, k * 2, none⟩)) (c : Nat) (hc : a = none → c = 0) : Src2 w (.slice ad (L.length - k) c) (L.drop k) := by
  rcases o.cases with ⟨e, rfl⟩ | ⟨g, c', cur, e, hb, h1, h2, h3, h4⟩
  · simp at e
    obtain ⟨rfl, rfl⟩ := e
    rw [had.1 rfl, hc rfl]
    simp at hk
    subst hk
    exact Or.inl ⟨rfl, rfl⟩
  · simp only [Value.slice.injEq] at e
    obtain ⟨rfl, _, rfl⟩ := e
    have e2 := had.2 g rfl
    by_cases q : cap = k
    · rw [if_pos q] at e2
      subst e2
      have e3 : L.drop k = [] := List.drop_eq_nil_of_le (by omega)
      refine Or.inr ⟨⟨g, 0, none⟩, c, by rw [List.length_drop], fun j x hj => ?_⟩
      rw [e3] at hj
      simp [cls] at hj
    · rw [if_neg q] at e2
      subst e2
      refine Or.inr ⟨⟨g, k * 2, none⟩, c, by rw [List.length_drop], fun j x hj => ?_⟩
      rw [Addr.add_lit]
      exact o.cells k j x hj
theorem Src2.below {w w' : World} {u : Value} {M : List It} (h : Src2 w u M) (f : Below w.heap.size w w') : Src2 w' u M := by
  rcases h with h | ⟨ad, c, e, hc⟩
  · exact Or.inl h
  · refine Or.inr ⟨ad, c, e, fun j x hj => ?_⟩
    have q := hc j x hj
    rw [f.cell (World.block_lt_of_cell? w _ q)]
    exact q

/-- Behind the store of another list. -/
theorem dv_store {w w2 : World} {s : Nat} {now : Int} {v v' : Value} {L L' : List It} (h : DV w s now v L) (f : Below w.heap.size w w2) (o2 : Own 93 w2 v' L') (nw : ∀ g ∈ ob v', w.heap.size ≤ g) (srt : Srt L') (uni : Uni L') :
    DD (w2.setCell ⟨s, 1, none⟩ v') s now L' (s :: ob v') ∧ Mv w (w2.setCell ⟨s, 1, none⟩ v') (s :: ob v) (s :: ob v') ∧ w2.cell? ⟨s, 1, none⟩ = some v ∧ w2.frozen? ⟨s, 1, none⟩ = false := by
  have s2 := (h.below f).st
  have F : Fr w2.heap.size [s] w2 (w2.setCell ⟨s, 1, none⟩ v') := (Fr.refl _ _ _).setCell (Or.inr (by simp)) _
  refine ⟨⟨v', ⟨s2.set 1 v', o2.keep F fun g hg => ⟨o2.lt hg, by simp; exact fun e => o2.ne s2 (by decide) hg e.symm⟩, srt, uni⟩, rfl⟩, ⟨?_, fun g hg => ?_⟩, s2.cell 1, s2.free 1⟩
  · exact ((Fr.of_below f).mono (Nat.le_refl _) (by simp)).trans (F.mono f.size fun k _ hk hm => hk (by simp at hm; simp [hm]))
  · rcases List.mem_cons.1 hg with e | e
    · exact Or.inl (by rw [e]; exact List.mem_cons_self)
    · exact Or.inr (nw g e)
end Go.Proofs.YtadaghhgmflfdaaDoor
