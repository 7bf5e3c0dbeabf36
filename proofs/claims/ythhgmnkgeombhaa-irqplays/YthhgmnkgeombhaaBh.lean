/- The document's table of interrupts as it lies in memory (davitref15); what its New, Is, wanted, Ready and List, and davitref11's Right, answer and leave. -/
import Derived.Test.YthhgmnkgeombhaaRows
import Derived.Test.YthhgmnkgeombhaaBb
import Derived.Test.YthhgmnkgeombhaaKh
import Derived.Test.YthhgmnkgeombhaaKf
import Derived.WalkKit
import Derived.ProofKit
import Derived.OpenShut
import Derived.BigQuiet
import Derived.Laws.MakeOwn
namespace Go.Proofs.Ythhgmnkgeombhaa
open Go.ChangeShapes Go.WideShapes Go.ChangeAt Go.RowKit
open Mm Bm

/-- The cells of a list. -/
structure Jcs (cs : List Value) (X : Nat → Iq) : Prop where
  len : cs.length = 64
  t : ∀ i, i < 16 → Four cs (i * 4) (X i)
theorem Jcs.upd {cs cs' : List Value} {i : Nat} {X : Nat → Iq} {t : Iq} (h : Jcs cs X) (hl : cs'.length = cs.length) (ho : ∀ k, (k < i * 4 ∨ i * 4 + 4 ≤ k) → cs'[k]? = cs[k]?) (h4 : Four cs' (i * 4) t) : Jcs cs' (sx X i t) := by
  refine ⟨hl.trans h.len, fun j hj => ?_⟩
  by_cases e : j = i
  · subst e
    rw [sx_same]
    exact h4
  · rw [sx_other X e]
    obtain ⟨a0, a1, a2, a3⟩ := h.t j hj
    exact ⟨(ho _ (by omega)).trans a0, (ho _ (by omega)).trans a1, (ho _ (by omega)).trans a2, (ho _ (by omega)).trans a3⟩

/-- The table at block g + 1, its list at block g, for c cores. -/
structure RI (w : World) (g c : Nat) (X : Nat → Iq) : Prop where
  sb : Blk w (g + 1) [.int .i64 (c : Int), .slice (some ⟨g, 0, none⟩) 16 16] 49
  bk : ∃ cs, Blk w g cs 46 ∧ Jcs cs X

theorem RI.hi {w : World} {g c : Nat} {X : Nat → Iq} (h : RI w g c X) : g + 2 ≤ w.heap.size := h.sb.lt
theorem RI.heap {w w1 : World} {g c : Nat} {X : Nat → Iq} (h : RI w g c X) (e : w1.heap = w.heap) : RI w1 g c X := by
  obtain ⟨cs, hb, hc⟩ := h.bk
  exact ⟨h.sb.heap e, cs, hb.heap e, hc⟩
theorem RI.keep {B : Nat} {S : List Nat} {w w' : World} {g c : Nat} {X : Nat → Iq} (h : RI w g c X) (f : Fr B S w w') (hB : g + 2 ≤ B) (h0 : g ∉ S) (h1 : g + 1 ∉ S) : RI w' g c X := by
  obtain ⟨cs, hb, hc⟩ := h.bk
  exact ⟨h.sb.keep f (by omega) h1, cs, hb.keep f (by omega) h0, hc⟩
theorem RI.below {w w' : World} {g c : Nat} {X : Nat → Iq} (h : RI w g c X) (f : Below w.heap.size w w') : RI w' g c X := h.keep (Fr.of_below f) h.hi (by simp) (by simp)
theorem RI.k0 {w : World} {g c : Nat} {X : Nat → Iq} (h : RI w g c X) : w.cell? ⟨g + 1, 0, none⟩ = some (.int .i64 (c : Int)) := h.sb.cell 0
theorem RI.k1 {w : World} {g c : Nat} {X : Nat → Iq} (h : RI w g c X) : w.cell? ⟨g + 1, 1, none⟩ = some (.slice (some ⟨g, 0, none⟩) 16 16) := h.sb.cell 1
theorem RI.free {w : World} {g c : Nat} {X : Nat → Iq} (h : RI w g c X) (k : Nat) : w.frozen? ⟨g, k, none⟩ = false := by
  obtain ⟨cs, hb, hc⟩ := h.bk
  exact hb.free k
/-- The cells of an interrupt. -/
theorem RI.four {w : World} {g c i : Nat} {X : Nat → Iq} (h : RI w g c X) (hi : i < 16) :
    w.cell? ⟨g, i * 4, none⟩ = some (.bool (X i).wt) ∧ w.cell? ⟨g, i * 4 + 1, none⟩ = some (.bool (X i).ms) ∧ w.cell? ⟨g, i * 4 + 2, none⟩ = some (.bool (X i).pd) ∧ w.cell? ⟨g, i * 4 + 3, none⟩ = some (.int .u64 ((X i).bs : Int)) := by
  obtain ⟨cs, hb, hc⟩ := h.bk
  obtain ⟨a0, a1, a2, a3⟩ := hc.t i hi
  exact ⟨(hb.cell _).trans a0, (hb.cell _).trans a1, (hb.cell _).trans a2, (hb.cell _).trans a3⟩

theorem Try.infoIq : (Try.prog.info? 46).map (fun i => (i.zero, i.size, i.bytes)) = some (some (.agg #[.bool false, .bool false, .bool false, .int .u64 0]), 4, 16) := by kernel_rfl

theorem imade : madeCells #[.bool false, .bool false, .bool false, .int .u64 0] 64 = (List.replicate 16 z4).flatten.toArray := by kernel_rfl
theorem jcs_new : Jcs (List.replicate 16 z4).flatten fun _ => zi := by
  refine ⟨by rfl, fun i hi => ?_⟩
  have g : ∀ j, j < 4 → (List.replicate 16 z4).flatten[i * 4 + j]? = z4[j]? := fun j hj => irep_at z4 rfl 16 i j hi hj
  exact ⟨g 0 (by omega), g 1 (by omega), g 2 (by omega), g 3 (by omega)⟩
theorem imake (w : World) : (Instr.makeSlice 47 (.int .i64 16) (.int .i64 16)).run Try.prog w = .ok (.slice (some ⟨w.heap.size, 0, none⟩) 16 16) (w.alloc (.cells (List.replicate 16 z4).flatten.toArray 46)) := by
  obtain ⟨i0, hi, hz0, hz1, hz2⟩ := info_parts Try.infoIq
  have := run_make (P := Try.prog) w 47 46 i0 _ Try.underlying47 hi hz0 .i64 .i64 16 16 (by decide) (by decide) (by rw [hz2]; decide) (by decide)
  rw [hz1] at this
  rw [this]
  have e : madeCells (Value.agg #[.bool false, .bool false, .bool false, .int .u64 0]).cells ((16 : Int).toNat * 4) = (List.replicate 16 z4).flatten.toArray := imade
  rw [e]
  rfl

set_option maxRecDepth 100000 in
set_option maxHeartbeats 400000 in
theorem rinew_any (c : Nat) (w : World) (h1 : (1 : Int) ≤ c) (h2 : (c : Int) ≤ 64) :
    Calls Try.prog 10 #[.int .i64 (c : Int)] w fun e w' => e = .returned (.tuple #[.pointer (some ⟨w.heap.size + 1, 0, none⟩), .int .i64 0]) ∧ RI w' w.heap.size c (fun _ => zi) ∧ Below w.heap.size w w' ∧ w'.heap.size = w.heap.size + 2 := by
  have hm := imake w
  have hj : Hid (Jcs (List.replicate 16 z4).flatten fun _ => zi) := jcs_new
  have F : Hid (∀ o1 o2, Below w.heap.size w ((w.alloc o1).alloc o2)) := fun o1 o2 => ((Below.refl _ _).alloc (Nat.le_refl _) o1).alloc (by simp) o2
  generalize (List.replicate 16 z4).flatten = Z at *
  go_enter Try.func10, Try.ntmps10
  go_wp2
  go_ret2
  refine ⟨rfl, ⟨?_, Z, (Blk.new w Z 46).alloc _, hj.out⟩, F.out _ _, by simp⟩
  have := Blk.new (w.alloc (.cells Z.toArray 46)) [.int .i64 (c : Int), .slice (some ⟨w.heap.size, 0, none⟩) 16 16] 49
  simpa using this
set_option maxRecDepth 100000 in
theorem rinew_bad (c : Int) (w : World) (h : c < 1 ∨ 64 < c) :
    Calls Try.prog 10 #[.int .i64 c] w fun e w' => e = .returned (.tuple #[.pointer none, .int .i64 2]) ∧ w' = w := by
  rcases h with h | h
  · go_enter Try.func10, Try.ntmps10
    go_wp2
    go_ret2
    exact ⟨rfl, rfl⟩
  · have h2 : (1 : Int) ≤ c := by omega
    go_enter Try.func10, Try.ntmps10
    go_wp2
    go_ret2
    exact ⟨rfl, rfl⟩

set_option maxRecDepth 100000 in
set_option maxHeartbeats 400000 in
theorem riright_any (c m : Nat) (w : World) (hm : m < 18446744073709551616) :
    Calls Try.prog 58 #[.int .i64 (c : Int), .int .u64 (m : Int)] w fun e w' => e = .returned (.bool (can c m)) ∧ Below w.heap.size w w' := by
  by_cases h0 : m = 0
  · subst h0
    rw [show can c 0 = false from rfl]
    clear hm
    go_enter Try.func58, Try.ntmps58
    go_wp2
    go_ret
    exact ⟨rfl, Below.refl _ _⟩
  · have C1 : Hid (∀ w, _) := fun w => krefupto_any (c : Int) w
    have C2 : Hid (∀ w, _) := fun w => krefnot_any m (up (c : Int)) w hm (up_lt _)
    rw [show can c m = (((nt m (up (c : Int)) : Nat) : Int) == 0) by
      unfold can
      rw [decide_eq_true h0, Bool.true_and]
      by_cases e : nt m (up (c : Int)) = 0
      · rw [e]; rfl
      · rw [decide_eq_false e]; symm; rw [beq_eq_false_iff_ne]; omega]
    have hp : ((m : Int) != 0) = true := by rw [bne_iff_ne]; omega
    generalize nt m (up (c : Int)) = P at *
    generalize up (c : Int) = U at *
    clear hm h0
    go_enter Try.func58, Try.ntmps58
    go_wp2_with fail
    refine (C1.out _).mono ?_
    rintro e w' ⟨rfl, rfl⟩
    go_wp2_with fail
    refine (C2.out _).mono ?_
    rintro e w2 ⟨rfl, b2⟩
    go_wp2
    go_ret
    exact ⟨rfl, b2⟩

set_option maxRecDepth 100000 in
theorem riis_any {g c : Nat} {X : Nat → Iq} (n : Int) (w : World) (h : RI w g c X) :
    Calls Try.prog 19 #[.pointer (some ⟨g + 1, 0, none⟩), .int .i64 n] w fun e w' => e = .returned (.bool (is n)) ∧ w' = w := by
  have k1 := h.k1
  clear h
  by_cases h1 : n < 0
  · rw [show is n = false from decide_eq_false (by omega)]
    go_enter Try.func19, Try.ntmps19
    go_wp2
    go_ret
    exact ⟨rfl, rfl⟩
  · have h2 : 0 ≤ n := by omega
    by_cases h3 : n < 16
    · rw [show is n = true from decide_eq_true (by omega)]
      clear h1
      go_enter Try.func19, Try.ntmps19
      go_wp2
      go_ret
      exact ⟨rfl, rfl⟩
    · rw [show is n = false from decide_eq_false (by omega)]
      clear h1
      go_enter Try.func19, Try.ntmps19
      go_wp2
      go_ret
      exact ⟨rfl, rfl⟩

set_option maxRecDepth 100000 in
theorem riwa_any {g c : Nat} {X : Nat → Iq} (n : Int) (w : World) (h : RI w g c X) :
    Calls Try.prog 59 #[.pointer (some ⟨g + 1, 0, none⟩), .int .i64 n] w fun e w' => e = .returned (.int .i64 (waE X n)) ∧ w' = w := by
  have C : Hid (∀ _ : Unit, _) := fun _ => riis_any n w h
  have k1 := h.k1
  cases e : is n with
  | false =>
    rw [show waE X n = 3 by unfold waE; rw [e]; rfl]
    rw [e] at C
    clear h e
    go_enter Try.func59, Try.ntmps59
    go_wp2_with fail
    refine (C.out ()).mono ?_
    rintro e w' ⟨rfl, rfl⟩
    go_wp2
    go_ret
    exact ⟨rfl, rfl⟩
  | true =>
    rw [e] at C
    obtain ⟨i, hi, rfl, e2⟩ := is_some e
    have hi2 : (i : Int) < 16 := by omega
    obtain ⟨a0, -, -, -⟩ := h.four hi
    rw [show waE X (i : Int) = if (X i).wt = true then 0 else 4 by unfold waE; rw [e, e2]; rfl]
    cases q : (X i).wt with
    | true =>
      rw [if_pos rfl]
      rw [q] at a0
      clear h e e2 q
      go_enter Try.func59, Try.ntmps59
      go_wp2_with fail
      refine (C.out ()).mono ?_
      rintro e w' ⟨rfl, rfl⟩
      go_wp2
      go_ret
      exact ⟨rfl, rfl⟩
    | false =>
      rw [if_neg (by simp)]
      rw [q] at a0
      clear h e e2 q
      go_enter Try.func59, Try.ntmps59
      go_wp2_with fail
      refine (C.out ()).mono ?_
      rintro e w' ⟨rfl, rfl⟩
      go_wp2
      go_ret
      exact ⟨rfl, rfl⟩

set_option maxRecDepth 100000 in
set_option maxHeartbeats 1000000 in
theorem riready_any {g c : Nat} {X : Nat → Iq} (n : Int) (w : World) (h : RI w g c X) :
    Calls Try.prog 14 #[.pointer (some ⟨g + 1, 0, none⟩), .int .i64 n] w fun e w' => e = .returned (.bool (rdB X n)) ∧ w' = w := by
  have C : Hid (∀ _ : Unit, _) := fun _ => riis_any n w h
  have k1 := h.k1
  cases e : is n with
  | false =>
    rw [show rdB X n = false by unfold rdB; rw [e]; rfl]
    rw [e] at C
    clear h e
    go_enter Try.func14, Try.ntmps14
    go_wp2_with fail
    refine (C.out ()).mono ?_
    rintro e w' ⟨rfl, rfl⟩
    go_wp2
    go_ret
    exact ⟨rfl, rfl⟩
  | true =>
    rw [e] at C
    obtain ⟨i, hi, rfl, e2⟩ := is_some e
    have hi2 : (i : Int) < 16 := by omega
    obtain ⟨a0, a1, a2, -⟩ := h.four hi
    rw [show rdB X (i : Int) = ((X i).wt && (X i).pd && !(X i).ms) by unfold rdB; rw [e, e2]; rfl]
    clear h e e2
    cases q : (X i).wt <;> cases q2 : (X i).pd <;> cases q3 : (X i).ms
    all_goals (
      rw [q] at a0
      rw [q3] at a1
      rw [q2] at a2
      clear q q2 q3
      go_enter Try.func14, Try.ntmps14
      go_wp2_with fail
      refine (C.out ()).mono ?_
      rintro e w' ⟨rfl, rfl⟩
      go_wp2
      go_ret
      exact ⟨rfl, rfl⟩)

set_option maxRecDepth 100000 in
set_option maxHeartbeats 1000000 in
theorem rilist_any {g c : Nat} {X : Nat → Iq} (w : World) (h : RI w g c X) :
    Calls Try.prog 17 #[.pointer (some ⟨g + 1, 0, none⟩)] w fun e w' => ∃ v, e = .returned v ∧ Gat w w' v (fun i => (X i).wt) 16 := by
  obtain ⟨i0, hi, hz0, hz1, hz2⟩ := info_parts Try.info3
  have HC : Hid (∀ wr : World, Below w.heap.size w wr → wr.cell? ⟨g + 1, 1, none⟩ = some (.slice (some ⟨g, 0, none⟩) 16 16) ∧ ∀ k : Nat, (k : Int) < 16 → wr.cell? ⟨g, k * 4, none⟩ = some (.bool (X k).wt)) := fun wr hb => ⟨(h.below hb).k1, fun k hk => ((h.below hb).four (by omega)).1⟩
  clear h
  go_enter Try.func17, Try.ntmps17
  go_wp2
  go_loopw [3, 4] (fun v i wr => ∃ k : Nat, (k : Int) ≤ 16 ∧ Gat w wr v (fun i => (X i).wt) k ∧ i = .int .i64 (k : Int)) (fun _ i _ => 16 - (intOf i).toNat)
  case atStart => exact ⟨0, by omega, gat_start w _, rfl⟩
  case round =>
    obtain ⟨k, hk, gt, rfl⟩ := hrel
    obtain ⟨c1, cc⟩ := HC.out wr gt.bel
    by_cases e : (k : Int) < 16
    · have a0 := cc k e
      clear cc
      cases q : (X k).wt with
      | true =>
        rw [q] at a0
        have hsz := gt.bel.size
        have hgl := KK_le (fun i => (X i).wt) k
        have HQ : Hid ((fun i => (X i).wt) k = true) := q
        clear q
        go_wp2_with (at_builtin; refine wpList_append_own _ rfl _ _ 37 rfl w.heap.size 3 i0 (.int .i64 0) 1 8 Try.underlying37 hi hz0 hz1 hz2 rfl (by decide) _ _ _ rfl (gt.own.alloc _) ⟨_, 0, none⟩ 1 1 [.int .i64 (k : Int)] rfl rfl ?c1 ?c2 ?c3 ?c4 ?c5 ?_)
        case c2 => first | rfl | (intro u hu; simp at hu; subst hu; rfl)
        case c3 => unfold maxLen; omega
        case c4 => omega
        case c5 => first | omega | (simp; omega)
        intro v' w2 hown' hgrow _
        have G3 := gat_keep gt HQ.out hown' hgrow
        clear hown' hgrow
        go_wp2
        go_roundw
        case rel => exact ⟨k + 1, by omega, G3, by go_num⟩
        case measure => simp [intOf]; omega
      | false =>
        rw [q] at a0
        have G2 := gat_drop gt q
        clear gt q
        go_wp2
        go_roundw
        case rel => exact ⟨k + 1, by omega, G2, by go_num⟩
        case measure => simp [intOf]; omega
    · obtain rfl : k = 16 := by omega
      have G : Hid (Gat w wr _ (fun i => (X i).wt) 16) := gt
      obtain ⟨a, cap, rfl⟩ := own_shape gt.own
      clear gt cc
      go_wp2
      go_ret
      exact ⟨_, rfl, G.out⟩
end Go.Proofs.Ythhgmnkgeombhaa
