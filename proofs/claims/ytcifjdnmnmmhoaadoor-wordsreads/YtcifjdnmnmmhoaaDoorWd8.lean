/- Events as lines: what a line's words tell. -/
import Derived.Test.YtcifjdnmnmmhoaaDoorRows
import Derived.Test.YtcifjdnmnmmhoaaDoorWd7
import Derived.WalkKit
import Derived.ProofKit
import Derived.OpenShut
import Derived.BigQuiet
import Derived.WalkSmall
import Derived.WalkSpells
import Derived.Lib.OthersKept
import Derived.Laws.RangeAny
namespace Go.Proofs.YtcifjdnmnmmhoaaDoor
open Go.ChangeShapes Go.WideShapes Go.ChangeAt Go.RowKit
open Wd Mm
set_option linter.unusedVariables false
set_option linter.unusedSimpArgs false
set_option maxRecDepth 100000

theorem z_vals (k : Int) : V.vals ⟨k, 0, 0, 0, 0⟩ = [.int .i64 k, .int .i64 0, .int .i64 0, .int .u64 0, .int .i64 0] := rfl
theorem zz_vals : V.vals V.z = [.int .i64 0, .int .i64 0, .int .i64 0, .int .u64 0, .int .i64 0] := rfl

/-- The event that words are. -/
def evW : List (List UInt8) → Option V
  | [] => none
  | w :: ws => if kOf w = 0 then none else if ws.length = (ltk (kOf w)).length then sets ⟨(kOf w : Nat), 0, 0, 0, 0⟩ (ltk (kOf w)) ws else none
theorem evOf_w (l : List UInt8) : evOf l = evW (parts 32 l) := by
  unfold evOf evW
  cases parts 32 l <;> rfl

theorem size_ev : (Tryd.prog.info? 24).map (·.size) = some 5 := by kernel_rfl
theorem ev_ret {w : World} {z : Nat} {e : V} {tmps : Array Value} (h : Blk w z (V.vals e) 24) (h2 : tmps.getD 2 undef = .pointer (some ⟨z, 0, none⟩)) :
    (results Tryd.f25 tmps).run Tryd.prog w = .ok (.agg (V.vals e).toArray) w :=
  results_cell_row (p := 2) (ty := 24) rfl tmps w z 24 (V.vals e).toArray (0, 0) _ h2 h Tryd.underlying24 rfl (by rw [size_ev]; rfl)

theorem ls_start2 (w : World) (e r : V) (L : List UInt8) : LS w (((w.alloc (.cells (V.vals e).toArray 24)).alloc (.cells (V.vals r).toArray 24)).iter (sb L) 0) e r L 0 := by
  have e1 : (w.alloc (.cells (V.vals e).toArray 24)).heap.size = w.heap.size + 1 := World.size_alloc _ _
  have e2 : ((w.alloc (.cells (V.vals e).toArray 24)).alloc (.cells (V.vals r).toArray 24)).heap.size = w.heap.size + 1 + 1 := by rw [World.size_alloc, e1]
  have h := World.iter_heap ((w.alloc (.cells (V.vals e).toArray 24)).alloc (.cells (V.vals r).toArray 24)) (sb L) 0
  rw [e2] at h
  refine ⟨h, ((Blk.new w _ _).alloc _).alloc _, ?_, (((Below.refl _ _).alloc (Nat.le_refl _) _).alloc (by rw [e1]; omega) _).alloc (by rw [e2]; omega) _⟩
  have := (Blk.new (w.alloc (.cells (V.vals e).toArray 24)) (V.vals r) 24).alloc (.stringIter (sb L) 0)
  rwa [e1] at this
theorem LS.put {w wr u : World} {e r r' : V} {L : List UInt8} {k : Nat} (h : LS w wr e r L k) (t : PT wr u (w.heap.size + 1) r') : LS w u e r' L k := h.take ⟨t.blk, t.fr⟩

set_option maxHeartbeats 4000000 in
theorem event_any (ws : List (List UInt8)) (hn : ws ≠ []) (hw : ∀ x ∈ ws, x.length ≤ 300) (b : Nat) (w : World) (g : GW w) (hr : ORow str w (.slice (some ⟨b, 0, none⟩) ws.length ws.length) ws) (hl : ws.length ≤ 1000) :
    Calls Tryd.prog 25 #[.slice (some ⟨b, 0, none⟩) ws.length ws.length] w fun r w' => (match evW ws with | some e => r = .returned (.agg (V.vals e).toArray) | none => r = .panicked bad) ∧ Below w.heap.size w w' := by
  obtain ⟨hd, rest, rfl⟩ : ∃ h t, ws = h :: t := by
    cases ws with
    | nil => exact absurd rfl hn
    | cons h t => exact ⟨h, t, rfl⟩
  have BZ : Hid (Below w.heap.size w (w.alloc (.cells (V.vals V.z).toArray 24))) := (Below.refl _ _).alloc (Nat.le_refl _) _
  have CK : Hid (∀ (u : World), Below w.heap.size w u → _) := fun u bu => kind_any hd u (g.below bu)
  have CY : Hid (∀ u, _) := fun u => must_yes u
  have CN : Hid (∀ u, _) := fun u => must_no u
  have HC : Hid (∀ (u : World), Below w.heap.size w u → ∀ i (hi : i < (hd :: rest).length), u.cell? ⟨b, i, none⟩ = some (.string (sb (hd :: rest)[i]))) := fun u bu i hi => by
    obtain ⟨b0, off, he, hlt, hc0⟩ := orow_cell (hr.below bu) (List.getElem?_eq_getElem hi)
    obtain ⟨rfl, rfl⟩ : b = b0 ∧ 0 = off := by
      simp only [Option.some.injEq, Addr.mk.injEq] at he
      exact ⟨he.1, he.2.1⟩
    rw [Nat.zero_add] at hc0
    exact hc0
  have c00 : (w.alloc (.cells (V.vals V.z).toArray 24)).cell? ⟨b, 0, none⟩ = some (.string (sb hd)) := HC.out _ BZ.out 0 (by simp)
  have pos : (0 : Int) < ((hd :: rest).length : Nat) := by rw [List.length_cons]; omega
  have B2 : Hid (∀ e : V, Below w.heap.size w ((w.alloc (.cells (V.vals V.z).toArray 24)).alloc (.cells (V.vals e).toArray 24))) := fun e => below_two w _ _
  obtain ⟨R, hR⟩ : ∃ R, evW (hd :: rest) = R := ⟨_, rfl⟩
  rw [hR]
  obtain ⟨N, hN⟩ : ∃ N, (hd :: rest).length = N := ⟨_, rfl⟩
  have HN : Hid (rest.length + 1 = N) := by show _ = _; rw [← hN, List.length_cons]
  rw [hN] at pos hl ⊢
  by_cases hk : kOf hd = 0
  · have hR2 : R = none := by rw [← hR]; show (if kOf hd = 0 then none else _) = none; rw [if_pos hk]
    subst hR2
    rw [hk] at CK
    have HB3 : Hid _ := B2.out ⟨0, 0, 0, 0, 0⟩
    clear hR hk hn hw g hr hl B2 HC CY hN
    simp only [z_vals, zz_vals] at c00 BZ HB3
    go_enter Tryd.func25, Tryd.ntmps25
    go_wp2_with fail
    refine (CK.out _ BZ.out).mono ?_
    rintro e u1 ⟨rfl, rfl⟩
    go_wp2_with fail
    refine (CN.out _).mono ?_
    rintro e u1 ⟨rfl, rfl⟩
    go_wp2
    simp only [bodyPost]
    exact ⟨trivial, trivial, HB3.out⟩
  · have hk31 := (kOf_some hk).1
    have S0 : Hid (LS w _ V.z ⟨(kOf hd : Nat), 0, 0, 0, 0⟩ (ltk (kOf hd)) 0) := ls_start2 w V.z ⟨(kOf hd : Nat), 0, 0, 0, 0⟩ (ltk (kOf hd))
    have c0 : ((w.alloc (.cells (V.vals V.z).toArray 24)).alloc (.cells (V.vals ⟨(kOf hd : Nat), 0, 0, 0, 0⟩).toArray 24)).cell? ⟨0, kOf hd * 2 + 1, none⟩ = some (.string (sb (ltk (kOf hd)))) := by
      rw [Nat.mul_comm]
      exact (g.below (below_two w _ _)).lt _ hk31
    have HL : Hid (Lt (ltk (kOf hd))) := lt_all _
    have hL2 : ((ltk (kOf hd)).length : Int) ≤ 2 := by have := (lt_is HL.out).2.1; omega
    have RR : Hid (R = if rest.length = (ltk (kOf hd)).length then sets ⟨(kOf hd : Nat), 0, 0, 0, 0⟩ (ltk (kOf hd)) rest else none) := by
      show _ = _
      rw [← hR]
      show (if kOf hd = 0 then none else _) = _
      rw [if_neg hk]
    have hB2 : Hid _ := B2.out ⟨(kOf hd : Nat), 0, 0, 0, 0⟩
    have hk2 : ((kOf hd : Nat) : Int) < 31 := by omega
    have hk0 : ¬ ((kOf hd : Nat) : Int) = 0 := by omega
    have hk3 : (((kOf hd : Nat) : Int) == 0) = false := beq_eq_false_iff_ne.2 hk0
    have hk5 : (((kOf hd : Nat) : Int) != 0) = true := by unfold bne; rw [hk3]; rfl
    generalize ltk (kOf hd) = L at *
    generalize kOf hd = n at *
    have HW : Hid (∀ x ∈ hd :: rest, x.length ≤ 300) := hw
    have HG : Hid (GW w) := g
    clear hR hn g hr B2 hN hw hk31 hk
    by_cases hl2 : rest.length = L.length
    · have HR2 := RR.out
      rw [if_pos hl2] at HR2
      have HRS : Hid (R = sets ⟨(n : Nat), 0, 0, 0, 0⟩ L rest) := HR2
      have q : ((N : Int) == 1 + (L.length : Int)) = true := by rw [beq_iff_eq]; have := HN.out; omega
      have q2 : (N : Int) = 1 + (L.length : Int) := by have := HN.out; omega
      have HQ : Hid (rest.length = L.length) := hl2
      clear RR HR2 hl2
      simp only [z_vals, zz_vals] at c00 BZ hB2 S0 c0
      obtain ⟨E0, hE0⟩ : ∃ E : V, V.z = E := ⟨_, rfl⟩
      obtain ⟨E1, hE1⟩ : ∃ E : V, (⟨(n : Int), 0, 0, 0, 0⟩ : V) = E := ⟨_, rfl⟩
      rw [hE0, hE1] at S0
      rw [hE1] at HRS
      clear hE0 hE1 q2
      go_enter Tryd.func25, Tryd.ntmps25
      go_wp2_with fail
      refine (CK.out _ BZ.out).mono ?_
      rintro e u1 ⟨rfl, rfl⟩
      go_wp2_with fail
      refine (CY.out _).mono ?_
      rintro e u1 ⟨rfl, rfl⟩
      go_wp2_with fail
      refine (CY.out _).mono ?_
      rintro e u1 ⟨rfl, rfl⟩
      go_wp2
      go_loopw [5] (fun _ wr => ∃ (k : Nat) (r : V), (k : Int) ≤ L.length ∧ Hid (R = sets r (L.drop k) (rest.drop k)) ∧ Hid (LS w wr E0 r L k)) (fun _ wr => L.length - wr.iterPos (w.heap.size + 1 + 1))
      case atStart => exact ⟨0, E1, by omega, HRS, S0.out⟩
      case round =>
        obtain ⟨k, r, hk, hr, S⟩ := hrel
        have hp0 := pos_of S.out.it
        by_cases h : (k : Int) < L.length
        · have hkL : k < L.length := by omega
          have hkR : k < rest.length := by rw [HQ.out]; exact hkL
          have hnx : ∀ ty, (Instr.next (.pointer (some ⟨w.heap.size + 1 + 1, 0, none⟩)) true ty).run Tryd.prog wr = _ := fun ty => next_l wr _ L k ty S.out.it hkL ((lt_is HL.out).2.2 _ (List.getElem_mem hkL))
          have S1 := S.out.next (k + 1)
          have l1 := (lt_is HL.out).1 _ (List.getElem_mem hkL)
          have x1 := HW.out rest[k] (by simp)
          have hr2 := hr.out
          rw [List.drop_eq_getElem_cons hkL, List.drop_eq_getElem_cons hkR] at hr2
          have hc1 := HC.out _ S1.bel (1 + k) (by rw [List.length_cons]; omega)
          have hc2 : (hd :: rest)[1 + k]'(by rw [List.length_cons]; omega) = rest[k] := by
            simp only [Nat.add_comm 1 k, List.getElem_cons_succ]
          rw [hc2] at hc1
          have hbd : (1 : Int) + (k : Int) < (N : Int) := by have := HN.out; omega
          generalize L[k] = l at *
          generalize rest[k] = x at *
          generalize hW : wr.iterAt (w.heap.size + 1 + 1) (sb L) (k + 1) = W1 at *
          have CP := put_any (w.heap.size + 1) r l l1 x x1 W1 (HG.out.below S1.bel) S1.rs
          have HS1 : Hid (LS w W1 E0 r L (k + 1)) := S1
          rw [sets] at hr2
          cases hs : stf r l x with
          | none =>
            rw [hs] at CP hr2
            have C1 : Hid (∀ _ : Unit, _) := fun _ => CP
            obtain rfl : R = none := hr2
            clear CP S1 l1 x1 hW hs hkL hkR hc2 hr
            go_wp2_with fail
            refine (C1.out ()).mono ?_
            rintro e u1 ⟨rfl, bu⟩
            go_wp2
            simp only [bodyPost]
            exact ⟨trivial, trivial, HS1.out.bel.trans (bu.mono HS1.out.bel.size)⟩
          | some r' =>
            rw [hs] at CP hr2
            have C1 : Hid (∀ _ : Unit, _) := fun _ => CP
            have H2 : Hid (R = sets r' (L.drop (k + 1)) (rest.drop (k + 1))) := hr2
            clear CP S1 l1 x1 hW hs hkL hkR hc2 hr hr2
            go_wp2_with fail
            refine (C1.out ()).mono ?_
            rintro e u1 ⟨rfl, pt⟩
            have S2 : Hid _ := HS1.out.put pt
            clear pt
            go_wp2
            go_roundw
            case rel => exact ⟨k + 1, r', by omega, H2, S2.out⟩
            case measure => rw [hp0, pos_of S2.out.it]; omega
        · obtain rfl : k = L.length := by omega
          have hnx : ∀ ty, (Instr.next (.pointer (some ⟨w.heap.size + 1 + 1, 0, none⟩)) true ty).run Tryd.prog wr = _ := fun ty => next_e wr _ L ty S.out.it
          have hr2 := hr.out
          rw [List.drop_length, sets] at hr2
          subst hr2
          have BW : Hid (Below w.heap.size w wr) := S.out.bel
          have s0 : wr.cell? ⟨w.heap.size + 1, 0, none⟩ = some (.int .i64 r.k) := S.out.rs.cell 0
          have s1 : wr.cell? ⟨w.heap.size + 1, 1, none⟩ = some (.int .i64 r.c) := S.out.rs.cell 1
          have s2 : wr.cell? ⟨w.heap.size + 1, 2, none⟩ = some (.int .i64 r.i) := S.out.rs.cell 2
          have s3 : wr.cell? ⟨w.heap.size + 1, 3, none⟩ = some (.int .u64 ((r.m : Nat) : Int)) := S.out.rs.cell 3
          have s4 : wr.cell? ⟨w.heap.size + 1, 4, none⟩ = some (.int .i64 r.n) := S.out.rs.cell 4
          have y0 : wr.cell? ⟨w.heap.size, 0, none⟩ = some (.int .i64 E0.k) := S.out.bx.cell 0
          have y1 : wr.cell? ⟨w.heap.size, 1, none⟩ = some (.int .i64 E0.c) := S.out.bx.cell 1
          have y2 : wr.cell? ⟨w.heap.size, 2, none⟩ = some (.int .i64 E0.i) := S.out.bx.cell 2
          have y3 : wr.cell? ⟨w.heap.size, 3, none⟩ = some (.int .u64 ((E0.m : Nat) : Int)) := S.out.bx.cell 3
          have y4 : wr.cell? ⟨w.heap.size, 4, none⟩ = some (.int .i64 E0.n) := S.out.bx.cell 4
          have f0 : wr.frozen? ⟨w.heap.size, 0, none⟩ = false := S.out.bx.free 0
          have f1 : wr.frozen? ⟨w.heap.size, 1, none⟩ = false := S.out.bx.free 1
          have f2 : wr.frozen? ⟨w.heap.size, 2, none⟩ = false := S.out.bx.free 2
          have f3 : wr.frozen? ⟨w.heap.size, 3, none⟩ = false := S.out.bx.free 3
          have f4 : wr.frozen? ⟨w.heap.size, 4, none⟩ = false := S.out.bx.free 4
          have FB : Hid (∀ k c i m n : Value, Blk (((((wr.setCell ⟨w.heap.size, 0, none⟩ k).setCell ⟨w.heap.size, 1, none⟩ c).setCell ⟨w.heap.size, 2, none⟩ i).setCell ⟨w.heap.size, 3, none⟩ m).setCell ⟨w.heap.size, 4, none⟩ n) w.heap.size [k, c, i, m, n] 24) := fun k c i m n => ((((S.out.bx.set 0 k).set 1 c).set 2 i).set 3 m).set 4 n
          have FR : Hid (∀ k c i m n : Value, Below w.heap.size w (((((wr.setCell ⟨w.heap.size, 0, none⟩ k).setCell ⟨w.heap.size, 1, none⟩ c).setCell ⟨w.heap.size, 2, none⟩ i).setCell ⟨w.heap.size, 3, none⟩ m).setCell ⟨w.heap.size, 4, none⟩ n)) := fun k c i m n =>
            ((((((Fr.of_below S.out.bel).mono (Nat.le_refl _) (fun _ _ _ => by simp)).st w.heap.size 0 k (by simp)).st w.heap.size 1 c (by simp)).st w.heap.size 2 i (by simp)).st w.heap.size 3 m (by simp) |>.st w.heap.size 4 n (List.mem_singleton.2 rfl)).below (fun j hj => by rw [List.mem_singleton.1 hj]; exact Nat.le_refl _)
          clear hr S
          go_wp2
          exact bodyPost_ret (ev_ret (FB.out _ _ _ _ _) rfl) rfl ⟨rfl, FR.out _ _ _ _ _⟩
    · have HR2 := RR.out
      rw [if_neg hl2] at HR2
      subst HR2
      have q : ((N : Int) == 1 + (L.length : Int)) = false := by rw [beq_eq_false_iff_ne]; have := HN.out; omega
      have q2 : ¬ (N : Int) = 1 + (L.length : Int) := by have := HN.out; omega
      clear RR hl2 S0 HC
      simp only [z_vals, zz_vals] at c00 BZ hB2 c0
      go_enter Tryd.func25, Tryd.ntmps25
      go_wp2_with fail
      refine (CK.out _ BZ.out).mono ?_
      rintro e u1 ⟨rfl, rfl⟩
      go_wp2_with fail
      refine (CY.out _).mono ?_
      rintro e u1 ⟨rfl, rfl⟩
      go_wp2_with fail
      refine (CN.out _).mono ?_
      rintro e u1 ⟨rfl, rfl⟩
      go_wp2
      simp only [bodyPost]
      exact ⟨trivial, trivial, hB2.out⟩
end Go.Proofs.YtcifjdnmnmmhoaaDoor
