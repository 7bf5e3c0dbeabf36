/- Events as lines: an event's line. -/
import Derived.Test.YtcifjdnmnmmhoaaDoorRows
import Derived.Test.YtcifjdnmnmmhoaaDoorWd6
import Derived.WalkKit
import Derived.ProofKit
import Derived.OpenShut
import Derived.BigQuiet
import Derived.WalkSmall
import Derived.WalkSpells
import Derived.Lib.OthersKept
import Derived.Laws.RangeAny
import Derived.Laws.Concat
namespace Go.Proofs.YtcifjdnmnmmhoaaDoor
open Go.ChangeShapes Go.WideShapes Go.ChangeAt Go.RowKit
open Wd Mm
set_option linter.unusedVariables false
set_option linter.unusedSimpArgs false
set_option maxRecDepth 100000

theorem add_str {P : Program} (a b : List UInt8) (h : a.length + b.length ≤ 1000000) (W : World) : (Op.stringOp .add (sb a) (sb b)).run P W = .ok (.string (sb (a ++ b))) W := by
  rw [run_string_add_sum W _ _ (by rw [sb_size, sb_size]; omega), sb_app]

theorem clr_wf {e : V} (h : e.wf) (l : UInt8) : (clr e l).wf := by
  unfold clr
  split
  · exact ⟨h.k, z_in, h.i, h.m, h.n⟩
  · split
    · exact ⟨h.k, h.c, z_in, h.m, h.n⟩
    · split
      · exact ⟨h.k, h.c, h.i, by show (0 : Nat) < _; omega, h.n⟩
      · exact ⟨h.k, h.c, h.i, h.m, z_in⟩
theorem clrs_wf {e : V} (h : e.wf) : ∀ L : List UInt8, (clrs e L).wf := by
  intro L
  induction L generalizing e with
  | nil => exact h
  | cons l L ih => exact ih (clr_wf h l)
theorem clrs_snoc (e : V) (L : List UInt8) (l : UInt8) : clrs e (L ++ [l]) = clr (clrs e L) l := by simp [clrs]
theorem clr_k (e : V) (l : UInt8) : (clr e l).k = e.k := by
  unfold clr
  split
  · rfl
  · split
    · rfl
    · split <;> rfl
theorem clrs_k : ∀ (L : List UInt8) (e : V), (clrs e L).k = e.k
  | [], e => rfl
  | l :: L, e => (clrs_k L (clr e l)).trans (clr_k e l)
theorem lw_snoc : ∀ (L : List UInt8) (e : V) (l : UInt8), lw (L ++ [l]) e = lw L e ++ (32 :: fld (clrs e L) l)
  | [], e, l => by simp [lw, clrs]
  | x :: L, e, l => by
    rw [List.cons_append, lw, lw, lw_snoc L (clr e x) l]
    simp [clrs]
theorem lw_len : ∀ (L : List UInt8) (e : V), e.wf → (lw L e).length ≤ 193 * L.length
  | [], e, _ => by simp [lw]
  | x :: L, e, h => by
    have i := lw_len L (clr e x) (clr_wf h x)
    have := (fld_len e h x).1
    rw [lw, List.length_cons, List.length_append, List.length_cons]
    omega
theorem lt_is {L : List UInt8} (h : Lt L) : (∀ l ∈ L, isL l) ∧ L.length ≤ 2 ∧ (∀ l ∈ L, l.toNat < 128) := by
  cases h <;> simp [isL]

theorem next_l {P : Program} (w : World) (j : Nat) (L : List UInt8) (k : Nat) (ty : TypeId) (h : w.heap[j]? = some (.stringIter (sb L) k)) (hk : k < L.length) (ha : L[k].toNat < 128) :
    (Instr.next (.pointer (some ⟨j, 0, none⟩)) true ty).run P w = .ok (.tuple #[.bool true, .int .i64 k, .int .i32 (L[k].toNat : Nat)]) (w.iterAt j (sb L) (k + 1)) := by
  have hs : k < (sb L).size := by rw [sb_size]; exact hk
  have he : (sb L)[k]'hs = L[k] := by simp [sb, ByteArray.getElem_eq_getElem_data]
  rw [Lib.run_next_any_at w j (sb L) k ty h hs, decode_ascii (sb L) k hs (by rw [he]; exact ha), he]
theorem next_e {P : Program} (w : World) (j : Nat) (L : List UInt8) (ty : TypeId) (h : w.heap[j]? = some (.stringIter (sb L) L.length)) :
    (Instr.next (.pointer (some ⟨j, 0, none⟩)) true ty).run P w = .ok (.tuple #[.bool false]) w :=
  Lib.run_next_end_at w j (sb L) _ ty h (by rw [sb_size]; omega)
theorem pos_of {w : World} {k : Nat} {s : ByteArray} {p : Nat} (h : w.heap[k]? = some (.stringIter s p)) : w.iterPos k = p := by simp [World.iterPos, h]

/-- What a line's loop keeps. -/
structure LS (w wr : World) (e r : V) (L : List UInt8) (k : Nat) : Prop where
  it : wr.heap[w.heap.size + 1 + 1]? = some (.stringIter (sb L) k)
  bx : Blk wr w.heap.size (V.vals e) 24
  rs : Blk wr (w.heap.size + 1) (V.vals r) 24
  bel : Below w.heap.size w wr

theorem LS.next {w wr : World} {e r : V} {L : List UInt8} {k : Nat} (h : LS w wr e r L k) (p : Nat) : LS w (wr.iterAt (w.heap.size + 1 + 1) (sb L) p) e r L p :=
  ⟨Lib.iterAt_heap wr _ (sb L) k p h.it, (Lib.iterAt_other wr _ _ (sb L) p (by omega)).trans h.bx, (Lib.iterAt_other wr _ _ (sb L) p (by omega)).trans h.rs, Lib.below_iterAt h.bel (by omega) (sb L) p⟩
theorem LS.take {w wr u : World} {e r r' : V} {L : List UInt8} {k : Nat} (h : LS w wr e r L k) (t : TK wr u (w.heap.size + 1) r') : LS w u e r' L k := by
  have hl : w.heap.size + 1 + 1 < wr.heap.size := lt_of_block h.it
  exact ⟨(t.fr.block _ hl (by simp)).trans h.it, h.bx.keep t.fr (by omega) (by simp), t.blk, h.bel.trans ((t.fr.less h.bel.size).below (by simp))⟩

/-- The world in which a line's loop begins. -/
theorem ls_start (w : World) (e : V) (L : List UInt8) : LS w (((w.alloc (.cells (V.vals e).toArray 24)).alloc (.cells (V.vals e).toArray 24)).iter (sb L) 0) e e L 0 := by
  have e1 : (w.alloc (.cells (V.vals e).toArray 24)).heap.size = w.heap.size + 1 := World.size_alloc _ _
  have e2 : ((w.alloc (.cells (V.vals e).toArray 24)).alloc (.cells (V.vals e).toArray 24)).heap.size = w.heap.size + 1 + 1 := by rw [World.size_alloc, e1]
  have h := World.iter_heap ((w.alloc (.cells (V.vals e).toArray 24)).alloc (.cells (V.vals e).toArray 24)) (sb L) 0
  rw [e2] at h
  refine ⟨h, ((Blk.new w _ _).alloc _).alloc _, ?_, (((Below.refl _ _).alloc (Nat.le_refl _) _).alloc (by rw [e1]; omega) _).alloc (by rw [e2]; omega) _⟩
  have := (Blk.new (w.alloc (.cells (V.vals e).toArray 24)) (V.vals e) 24).alloc (.stringIter (sb L) 0)
  rwa [e1] at this

theorem below_two (w : World) (o1 o2 : Obj) : Below w.heap.size w ((w.alloc o1).alloc o2) := ((Below.refl _ _).alloc (Nat.le_refl _) _).alloc (by simp) _

def lineR (e : V) : Value := match lineOf e with
  | some l => .tuple #[.string (sb l), .int .i64 0]
  | none => .tuple #[.string (sb []), .int .i64 2]

set_option maxHeartbeats 4000000 in
theorem line_any (e : V) (he : e.wf) (w : World) (g : GW w) :
    Calls Tryd.prog 7 #[.agg (V.vals e).toArray] w fun r w' => r = .returned (lineR e) ∧ Below w.heap.size w w' := by
  have CN : Hid (∀ (u : World), Below w.heap.size w u → _) := fun u b => name_any e.k u (g.below b)
  have BA : Hid (Below w.heap.size w (w.alloc (.cells (V.vals e).toArray 24))) := (Below.refl _ _).alloc (Nat.le_refl _) _
  by_cases hk : isK e.k
  · obtain ⟨n, hn⟩ := Int.eq_ofNat_of_zero_le (by unfold isK at hk; omega : 0 ≤ e.k)
    have hn31 : n < 31 := by unfold isK at hk; omega
    have hn0 : n ≠ 0 := by unfold isK at hk; omega
    have ne : nmI e.k = nmk n := by rw [hn]; exact if_pos (by omega)
    have nn : (nmk n == []) = false := by
      rw [beq_eq_false_iff_ne]
      intro h
      have := kOf_nm ⟨n, hn31⟩
      simp only at this
      rw [h] at this
      exact hn0 this.symm
    have nn2 : ¬ nmk n = [] := by simpa using nn
    have LR : Hid ((clrs e (ltk n) = ⟨(n : Int), 0, 0, 0, 0⟩ → lineR e = .tuple #[.string (sb (nmk n ++ lw (ltk n) e)), .int .i64 0]) ∧ (¬ clrs e (ltk n) = ⟨(n : Int), 0, 0, 0, 0⟩ → lineR e = .tuple #[.string (sb []), .int .i64 2])) := by
      show _ ∧ _
      have : e.k.toNat = n := by omega
      unfold lineR lineOf
      rw [this, hn]
      exact ⟨fun hc => by rw [if_pos ⟨by rw [← hn]; exact hk, hc⟩], fun hc => by rw [if_neg (fun h => hc h.2)]⟩
    have c0 : ((w.alloc (.cells (V.vals e).toArray 24)).alloc (.cells (V.vals e).toArray 24)).cell? ⟨0, n * 2 + 1, none⟩ = some (.string (sb (ltk n))) := by
      rw [Nat.mul_comm]
      exact (g.below (below_two w _ _)).lt n hn31
    have hL := lt_is (lt_all n)
    have hnl : (nmk n).length ≤ 7 := (nm_no ⟨n, hn31⟩).2.2.1
    rw [ne] at CN
    have S0 : Hid (LS w _ e e (ltk n) 0) := ls_start w e (ltk n)
    have LK : Hid (∀ k, k ≤ (ltk n).length → (lw ((ltk n).take k) e).length ≤ 193 * 2) := fun k hk => by
      have := lw_len ((ltk n).take k) e he
      have h2 := hL.2.1
      have h3 : ((ltk n).take k).length ≤ 2 := by rw [List.length_take]; omega
      omega
    generalize ltk n = L at *
    generalize nmk n = nm at *
    obtain ⟨R, hR⟩ : ∃ R, lineR e = R := ⟨_, rfl⟩
    rw [hR] at LR ⊢
    obtain ⟨k0, c, i, m, x⟩ := e
    obtain rfl : k0 = (n : Int) := hn
    have HL : Hid ((∀ l ∈ L, isL l) ∧ L.length ≤ 2 ∧ (∀ l ∈ L, l.toNat < 128)) := hL
    have HW : Hid (V.wf ⟨(n : Int), c, i, m, x⟩) := he
    have HG : Hid (GW w) := g
    have hni : (n : Int) < 31 := by omega
    clear hn0 hn31 hk ne hL he g hR
    dsimp only [V.vals] at c0 BA S0 ⊢
    go_enter Tryd.func7, Tryd.ntmps7
    go_wp2_with fail
    refine ((CN.out _ BA.out)).mono ?_
    rintro r w' ⟨rfl, rfl⟩
    clear CN BA
    go_wp2
    obtain ⟨E, hE⟩ : ∃ E : V, (⟨(n : Int), c, i, m, x⟩ : V) = E := ⟨_, rfl⟩
    have HE : Hid (E = ⟨(n : Int), c, i, m, x⟩) := hE.symm
    rw [hE] at S0 LR LK HW
    clear hE
    go_loopw [4] (fun v wr => ∃ (k : Nat) (r : V), (k : Int) ≤ L.length ∧ v = .string (sb (nm ++ lw (L.take k) E)) ∧ Hid (r = clrs E (L.take k)) ∧ Hid (LS w wr E r L k)) (fun _ wr => L.length - wr.iterPos (w.heap.size + 1 + 1))
    case atStart => exact ⟨0, E, by omega, by simp [lw], rfl, S0.out⟩
    case round =>
      obtain ⟨k, r, hk, rfl, hr, S⟩ := hrel
      have hp0 := pos_of S.out.it
      by_cases h : (k : Int) < L.length
      · have hkL : k < L.length := by omega
        have hnx : ∀ ty, (Instr.next (.pointer (some ⟨w.heap.size + 1 + 1, 0, none⟩)) true ty).run Tryd.prog wr = _ := fun ty => next_l wr _ L k ty S.out.it hkL (HL.out.2.2 _ (List.getElem_mem hkL))
        have S1 := S.out.next (k + 1)
        have l1 := HL.out.1 _ (List.getElem_mem hkL)
        have e1 := take_next L k hkL
        generalize L[k] = l at *
        generalize hW : wr.iterAt (w.heap.size + 1 + 1) (sb L) (k + 1) = W1 at *
        have rw1 : r.wf := by rw [hr.out]; exact clrs_wf HW.out _
        have CT : Hid (∀ _ : Unit, _) := fun _ => take_any (w.heap.size + 1) r rw1 l l1 W1 (HG.out.below S1.bel) S1.rs
        have len1 := (fld_len r rw1 l).1
        have len2 := LK.out k (by omega)
        have A1 : ∀ W, (Op.stringOp .add (sb [32]) (sb (fld r l))).run Tryd.prog W = .ok (.string (sb (32 :: fld r l))) W := fun W => add_str [32] (fld r l) (by simp; omega) W
        have A2 : ∀ W, (Op.stringOp .add (sb (nm ++ lw (L.take k) E)) (sb (32 :: fld r l))).run Tryd.prog W = .ok (.string (sb (nm ++ lw (L.take k) E ++ 32 :: fld r l))) W := fun W => add_str (nm ++ lw (L.take k) E) (32 :: fld r l) (by simp; omega) W
        have RS : Hid (nm ++ lw (L.take k) E ++ 32 :: fld r l = nm ++ lw (L.take (k + 1)) E ∧ clr r l = clrs E (L.take (k + 1))) := by
          show _ ∧ _
          rw [e1, lw_snoc, clrs_snoc, ← hr.out]
          simp
        generalize nm ++ lw (L.take k) E = X at *
        generalize fld r l = F at *
        have HS1 : Hid (LS w W1 E r L (k + 1)) := S1
        clear S1 l1 e1 hW rw1 len1 len2 hkL
        go_wp2_with fail
        refine (CT.out ()).mono ?_
        rintro e u1 ⟨rfl, tk⟩
        have S2 : Hid _ := HS1.out.take tk
        clear tk
        go_wp2
        go_roundw
        case rel => exact ⟨k + 1, clr r l, by omega, by rw [← RS.out.1], RS.out.2, S2.out⟩
        case measure => rw [hp0, pos_of S2.out.it]; omega
      · obtain rfl : k = L.length := by omega
        have hnx : ∀ ty, (Instr.next (.pointer (some ⟨w.heap.size + 1 + 1, 0, none⟩)) true ty).run Tryd.prog wr = _ := fun ty => next_e wr _ L ty S.out.it
        rw [List.take_length] at hr ⊢
        have kk : r.k = (n : Int) := by rw [hr.out, clrs_k, HE.out]
        have BW : Hid (Below w.heap.size w wr) := S.out.bel
        have t0 : wr.cell? ⟨w.heap.size, 0, none⟩ = some (.int .i64 (n : Int)) := by have := S.out.bx.cell 0; rw [HE.out] at this; exact this
        have s0 : wr.cell? ⟨w.heap.size + 1, 0, none⟩ = some (.int .i64 (n : Int)) := by have := S.out.rs.cell 0; dsimp only [V.vals] at this; rw [kk] at this; exact this
        have s1 : wr.cell? ⟨w.heap.size + 1, 1, none⟩ = some (.int .i64 r.c) := S.out.rs.cell 1
        have s2 : wr.cell? ⟨w.heap.size + 1, 2, none⟩ = some (.int .i64 r.i) := S.out.rs.cell 2
        have s3 : wr.cell? ⟨w.heap.size + 1, 3, none⟩ = some (.int .u64 ((r.m : Nat) : Int)) := S.out.rs.cell 3
        have s4 : wr.cell? ⟨w.heap.size + 1, 4, none⟩ = some (.int .i64 r.n) := S.out.rs.cell 4
        have PP : (r.c = 0 ∧ r.i = 0 ∧ ((r.m : Nat) : Int) = 0 ∧ r.n = 0 ∧ R = .tuple #[.string (sb (nm ++ lw L E)), .int .i64 0]) ∨ ((r.c ≠ 0 ∨ r.i ≠ 0 ∨ ((r.m : Nat) : Int) ≠ 0 ∨ r.n ≠ 0) ∧ R = .tuple #[.string (sb []), .int .i64 2]) := by
          by_cases hc : clrs E L = ⟨(n : Int), 0, 0, 0, 0⟩
          · have hr2 := hr.out
            rw [hc] at hr2
            rw [hr2]
            exact Or.inl ⟨rfl, rfl, rfl, rfl, LR.out.1 hc⟩
          · refine Or.inr ⟨?_, LR.out.2 hc⟩
            rw [← hr.out] at hc
            have h2 : ¬ (r.c = 0 ∧ r.i = 0 ∧ ((r.m : Nat) : Int) = 0 ∧ r.n = 0) := by
              rintro ⟨a, b, c, d⟩
              apply hc
              have : r.m = 0 := by omega
              cases r
              simp_all
            by_cases a : r.c = 0
            · by_cases b : r.i = 0
              · by_cases c : ((r.m : Nat) : Int) = 0
                · exact Or.inr (Or.inr (Or.inr fun d => h2 ⟨a, b, c, d⟩))
                · exact Or.inr (Or.inr (Or.inl c))
              · exact Or.inr (Or.inl b)
            · exact Or.inl a
        generalize r.c = rc at *
        generalize r.i = ri at *
        generalize ((r.m : Nat) : Int) = rm at *
        generalize r.n = rx at *
        generalize nm ++ lw L E = X at *
        clear hr S LR kk LK HE HW S0 hp0 h
        rcases PP with ⟨rfl, rfl, rfl, rfl, rfl⟩ | ⟨hh, rfl⟩
        · go_wp2
          go_ret2
          exact ⟨rfl, BW.out⟩
        · rcases hh with hh | hh | hh | hh
          all_goals
            have q := beq_eq_false_iff_ne.2 hh
            go_wp2
            go_ret2
            exact ⟨rfl, BW.out⟩
  · have ne : nmI e.k = [] := by
      unfold nmI
      unfold isK at hk
      by_cases h : 0 ≤ e.k ∧ e.k < 31
      · rw [if_pos h, show e.k = 0 by omega]
        rfl
      · rw [if_neg h]
    have LR : lineR e = .tuple #[.string (sb []), .int .i64 2] := by
      unfold lineR lineOf
      rw [if_neg (fun h => hk h.1)]
    rw [ne] at CN
    rw [LR]
    have nn : (([] : List UInt8) == []) = true := rfl
    obtain ⟨k, c, i, m, x⟩ := e
    dsimp only [V.vals] at BA ⊢
    clear LR ne hk he g
    go_enter Tryd.func7, Tryd.ntmps7
    go_wp2_with fail
    refine ((CN.out _ BA.out)).mono ?_
    rintro r w' ⟨rfl, rfl⟩
    clear CN
    go_wp2
    go_ret2
    exact ⟨rfl, BA.out⟩
end Go.Proofs.YtcifjdnmnmmhoaaDoor
