/- The document's table of threads as it lies in memory (davitref11); what its New, Right, Find and List answer and leave. -/
import Derived.Test.YtghnpmkibnggeaaDoorRows
import Derived.Test.YtghnpmkibnggeaaDoorFw
import Derived.Test.YtghnpmkibnggeaaDoorFg
import Derived.Test.YtghnpmkibnggeaaDoorFz
import Derived.Test.YtghnpmkibnggeaaDoorTm
import Derived.Test.YtghnpmkibnggeaaDoorKf
import Derived.WalkKit
import Derived.ProofKit
import Derived.OpenShut
import Derived.BigQuiet
namespace Go.Proofs.YtghnpmkibnggeaaDoor
open Go.ChangeShapes Go.WideShapes Go.ChangeAt Go.RowKit
open Mm Sl Tm

theorem Tryd.infoTh : (Tryd.prog.info? 46).map (fun i => (i.zero, i.size, i.bytes)) = some (some (.agg #[.int .i64 0, .int .i64 0, .int .u64 0, .int .i64 0, .bool false, .bool false, .int .i64 0]), 7, 48) := by kernel_rfl

/-- The seven cells of a thread of the document; those of a list. -/
def sv (x : Nat × Th) : List Value := [.int .i64 ((x.1 : Int) + 1), .int .i64 x.2.prio, .int .u64 (x.2.mask : Int), .int .i64 x.2.cpu, .bool x.2.forced, .bool x.2.sleeps, .int .i64 x.2.timer]
def fy (Y : List (Nat × Th)) : List Value := Y.flatMap sv

theorem fy_cons (x : Nat × Th) (Y : List (Nat × Th)) : fy (x :: Y) = sv x ++ fy Y := rfl
theorem fy_app (X Y : List (Nat × Th)) : fy (X ++ Y) = fy X ++ fy Y := by unfold fy; rw [List.flatMap_append]
theorem fy_len (Y : List (Nat × Th)) : (fy Y).length = Y.length * 7 := by
  induction Y with
  | nil => rfl
  | cons x r ih => rw [fy_cons, List.length_append, ih, List.length_cons, show (sv x).length = 7 from rfl]; omega
theorem fy_at (Y : List (Nat × Th)) (k j : Nat) (h : k < Y.length) (hj : j < 7) : (fy Y)[k * 7 + j]? = (sv (Y.getD k (0, zt)))[j]? := by
  induction Y generalizing k with
  | nil => simp at h
  | cons x r ih =>
    rw [fy_cons]
    cases k with
    | zero => rw [List.getElem?_append_left (by show 0 * 7 + j < 7; omega), Nat.zero_mul, Nat.zero_add]; rfl
    | succ k =>
      rw [List.getElem?_append_right (by show 7 ≤ (k + 1) * 7 + j; omega), show (k + 1) * 7 + j - (sv x).length = k * 7 + j by show (k + 1) * 7 + j - 7 = _; omega, ih k (by simpa using h)]
      rfl
theorem fy_take (Y : List (Nat × Th)) (k : Nat) : (fy Y).take (k * 7) = fy (Y.take k) := by
  induction Y generalizing k with
  | nil => simp [fy]
  | cons x r ih =>
    cases k with
    | zero => simp [fy]
    | succ k =>
      rw [List.take_succ_cons, fy_cons, fy_cons, List.take_append, List.take_of_length_le (by show 7 ≤ _; omega), show (k + 1) * 7 - (sv x).length = k * 7 by show (k + 1) * 7 - 7 = _; omega, ih]
theorem fy_drop (Y : List (Nat × Th)) (k : Nat) : (fy Y).drop (k * 7) = fy (Y.drop k) := by
  induction Y generalizing k with
  | nil => simp [fy]
  | cons x r ih =>
    cases k with
    | zero => simp
    | succ k =>
      rw [List.drop_succ_cons, fy_cons, List.drop_append, List.drop_of_length_le (by show 7 ≤ _; omega), show (k + 1) * 7 - (sv x).length = k * 7 by show (k + 1) * 7 - 7 = _; omega, ih]
      rfl
theorem fy_one (Y : List (Nat × Th)) : ∀ u ∈ fy Y, u.oneCell' = true := by
  intro u h
  obtain ⟨x, _, hx⟩ := List.mem_flatMap.1 h
  simp only [sv, List.mem_cons, List.not_mem_nil, or_false] at hx
  rcases hx with rfl | rfl | rfl | rfl | rfl | rfl | rfl <;> rfl

theorem yl_get (O : Nat → Bool) (X : Nat → Th) {k : Nat} (h : k < (dn O).length) : (yl O X).getD k (0, zt) = ((dn O).getD k 0, X ((dn O).getD k 0)) := by
  unfold yl
  rw [List.getD_eq_getElem?_getD, List.getElem?_map, List.getD_eq_getElem?_getD, List.getElem?_eq_getElem h]
  rfl

/-- The table at block b, its list v, for c cores. -/
structure RD (w : World) (b : Nat) (v : Value) (c : Nat) (O : Nat → Bool) (X : Nat → Th) : Prop where
  sb : Blk w b [.int .i64 (c : Int), v] 49
  own : w.ownsRow 0 46 7 v (dn O).length (fy (yl O X))
  c1 : 1 ≤ c
  c2 : c ≤ 64

/-- What a call of the table at block b leaves: all but it and its list; its list lies where it lay, or in a new block. -/
structure DC (w w' : World) (b : Nat) (v v' : Value) : Prop where
  fr : Fr w.heap.size (b :: v.ownBlock.toList) w w'
  nw : ∀ g, v'.ownBlock = some g → v.ownBlock = some g ∨ w.heap.size ≤ g

theorem DC.refl (w : World) (b : Nat) (v : Value) : DC w w b v v := ⟨Fr.refl _ _ _, fun _ h => Or.inl h⟩
theorem DC.of_below {w w' : World} {b : Nat} {v : Value} (h : Below w.heap.size w w') : DC w w' b v v := ⟨(Fr.of_below h).mono (Nat.le_refl _) (fun _ _ _ => by simp), fun _ h => Or.inl h⟩
theorem DC.from {w w1 w2 : World} {b : Nat} {v v' : Value} (h : Below w.heap.size w w1) (k : DC w1 w2 b v v') : DC w w2 b v v' :=
  ⟨((Fr.of_below h).mono (Nat.le_refl _) (fun _ _ _ => by simp)).trans (k.fr.less h.size), fun g hg => (k.nw g hg).imp id (fun e => Nat.le_trans h.size e)⟩

theorem RD.ob {w : World} {b c : Nat} {v : Value} {O : Nat → Bool} {X : Nat → Th} (h : RD w b v c O X) {g : Nat} (e : v.ownBlock = some g) : b ≠ g ∧ g < w.heap.size :=
  ⟨owng_ne h.own h.sb (by decide) e, owng_lt h.own e⟩
theorem RD.keep {B : Nat} {S : List Nat} {w w' : World} {b c : Nat} {v : Value} {O : Nat → Bool} {X : Nat → Th} (h : RD w b v c O X) (f : Fr B S w w') (hb : b < B ∧ b ∉ S) (hg : ∀ g, v.ownBlock = some g → g < B ∧ g ∉ S) : RD w' b v c O X :=
  ⟨h.sb.keep f hb.1 hb.2, owng_keep h.own f hg, h.c1, h.c2⟩
theorem RD.below {w w' : World} {b c : Nat} {v : Value} {O : Nat → Bool} {X : Nat → Th} (h : RD w b v c O X) (f : Below w.heap.size w w') : RD w' b v c O X :=
  h.keep (Fr.of_below f) ⟨h.sb.lt, by simp⟩ fun g e => ⟨(h.ob e).2, by simp⟩
theorem RD.heap {w w1 : World} {b c : Nat} {v : Value} {O : Nat → Bool} {X : Nat → Th} (h : RD w b v c O X) (e : w1.heap = w.heap) : RD w1 b v c O X :=
  ⟨h.sb.heap e, ⟨h.own.1, by rw [e]; exact h.own.2⟩, h.c1, h.c2⟩
theorem RD.shape {w : World} {b c : Nat} {v : Value} {O : Nat → Bool} {X : Nat → Th} (h : RD w b v c O X) : ∃ a cap, v = .slice a (dn O).length cap := owng_shape h.own
theorem RD.k0 {w : World} {b c : Nat} {v : Value} {O : Nat → Bool} {X : Nat → Th} (h : RD w b v c O X) : w.cell? ⟨b, 0, none⟩ = some (.int .i64 (c : Int)) := h.sb.cell 0
theorem RD.k1 {w : World} {b c : Nat} {v : Value} {O : Nat → Bool} {X : Nat → Th} (h : RD w b v c O X) : w.cell? ⟨b, 1, none⟩ = some v := h.sb.cell 1
/-- The cells of the k-th thread. -/
theorem RD.at {w : World} {b c : Nat} {a : Option Addr} {n cap : Nat} {O : Nat → Bool} {X : Nat → Th} (h : RD w b (.slice a n cap) c O X) {k : Nat} (hk : k < (dn O).length) :
    ∃ g, a = some ⟨g, 0, none⟩ ∧ n = (dn O).length ∧ n ≤ cap ∧ (∀ j, w.frozen? ⟨g, j, none⟩ = false) ∧ ∀ j, j < 7 → w.cell? ⟨g, k * 7 + j, none⟩ = (sv ((dn O).getD k 0, X ((dn O).getD k 0)))[j]? := by
  rcases h.own.2 with ⟨e, e2⟩ | ⟨g, cap', cur, e, _, _, hc, _⟩
  · omega
  · simp only [Value.slice.injEq] at e
    obtain ⟨rfl, rfl, rfl⟩ := e
    refine ⟨g, rfl, rfl, hc, fun j => h.own.frozenAt j, fun j hj => ?_⟩
    rw [h.own.cellAt _ (by omega), fy_at _ k j (by rw [yl_len]; exact hk) hj, yl_get O X hk]

set_option maxRecDepth 100000 in
theorem rdnew_any (c : Nat) (w : World) (h1 : (1 : Int) ≤ c) (h2 : (c : Int) ≤ 64) :
    Calls Tryd.prog 10 #[.int .i64 (c : Int)] w fun e w' => e = .returned (.tuple #[.pointer (some ⟨w.heap.size, 0, none⟩), .int .i64 0]) ∧ RD w' w.heap.size (.slice none 0 0) c (fun _ => false) (fun _ => zt) ∧ Below w.heap.size w w' ∧ w'.heap.size = w.heap.size + 1 := by
  go_enter Tryd.func10, Tryd.ntmps10
  go_wp2
  go_ret2
  have e : dn (fun _ => false) = [] := by decide
  exact ⟨rfl, ⟨Blk.new w [.int .i64 (c : Int), .slice none 0 0] _, by unfold yl; rw [e]; exact World.ownsRow_nil _ _ _ _, by omega, by omega⟩, (Below.refl _ w).alloc (Nat.le_refl _) _, by simp⟩
set_option maxRecDepth 100000 in
theorem rdnew_bad (c : Int) (w : World) (h : c < 1 ∨ 64 < c) :
    Calls Tryd.prog 10 #[.int .i64 c] w fun e w' => e = .returned (.tuple #[.pointer none, .int .i64 2]) ∧ w' = w := by
  rcases h with h | h
  · go_enter Tryd.func10, Tryd.ntmps10
    go_wp2
    go_ret2
    exact ⟨rfl, rfl⟩
  · have h2 : (1 : Int) ≤ c := by omega
    go_enter Tryd.func10, Tryd.ntmps10
    go_wp2
    go_ret2
    exact ⟨rfl, rfl⟩

set_option maxRecDepth 100000 in
set_option maxHeartbeats 400000 in
theorem right_any (c m : Nat) (w : World) (hm : m < 18446744073709551616) :
    Calls Tryd.prog 57 #[.int .i64 (c : Int), .int .u64 (m : Int)] w fun e w' => e = .returned (.bool (can c m)) ∧ Below w.heap.size w w' := by
  by_cases h0 : m = 0
  · subst h0
    rw [show can c 0 = false from rfl]
    clear hm
    go_enter Tryd.func57, Tryd.ntmps57
    go_wp2
    go_ret
    exact ⟨rfl, Below.refl _ _⟩
  · have C1 : Hid (∀ w, _) := fun w => krefupto_any (c : Int) w
    have C2 : Hid (∀ w, _) := fun w => krefnot_any m (up (c : Int)) w hm (up_lt _)
    rw [show can c m = (((nt m (up (c : Int)) : Nat) : Int) == 0) by
      unfold can
      rw [decide_eq_true h0, Bool.true_and]
      by_cases e : nt m (up (c : Int)) = 0
      · rw [e]; rfl
      · rw [decide_eq_false e]; symm; rw [beq_eq_false_iff_ne]; omega]
    have hp : ((m : Int) != 0) = true := by rw [bne_iff_ne]; omega
    generalize nt m (up (c : Int)) = P at *
    generalize up (c : Int) = U at *
    clear hm h0
    go_enter Tryd.func57, Tryd.ntmps57
    go_wp2_with fail
    refine (C1.out _).mono ?_
    rintro e w' ⟨rfl, rfl⟩
    go_wp2_with fail
    refine (C2.out _).mono ?_
    rintro e w2 ⟨rfl, b2⟩
    go_wp2
    go_ret
    exact ⟨rfl, b2⟩

set_option maxRecDepth 100000 in
set_option maxHeartbeats 1000000 in
theorem rdfind_any {b c : Nat} {v : Value} {O : Nat → Bool} {X : Nat → Th} (n : Int) (w : World) (h : RD w b v c O X) :
    Calls Tryd.prog 17 #[.pointer (some ⟨b, 0, none⟩), .int .i64 n] w fun e w' => e = .returned (.int .i64 (fd O n)) ∧ w' = w := by
  obtain ⟨a, cap, rfl⟩ := h.shape
  have c1 := h.k1
  have HQ : Hid (RD w b (.slice a (dn O).length cap) c O X) := h
  have hl : ((dn O).length : Int) ≤ 32 := by have := dn_le O; omega
  obtain ⟨R, hR⟩ : ∃ R, fd O n = R := ⟨_, rfl⟩
  have HR : Hid (fd O n = R) := hR
  obtain ⟨l, hl2⟩ : ∃ l, (dn O).length = l := ⟨_, rfl⟩
  have HN : Hid ((dn O).length = l) := hl2
  rw [hR]
  rw [hl2] at c1 hl HQ
  clear h hR hl2
  go_enter Tryd.func17, Tryd.ntmps17
  go_wp2
  go_loop [5] (fun i => ∃ k : Nat, (k : Int) ≤ l ∧ Hid (∀ j, j < k → (((dn O).getD j 0 : Nat) : Int) + 1 ≠ n) ∧ i = .int .i64 k) (fun i => l - (intOf i).toNat)
  case atStart => exact ⟨0, by omega, fun j hj => by omega, rfl⟩
  case round =>
    obtain ⟨k, hk, hB, rfl⟩ := hrel
    by_cases e : (k : Int) < l
    · have hk2 : k < (dn O).length := by have := HN.out; omega
      obtain ⟨g, rfl, _, hcp, -, hc⟩ := HQ.out.at hk2
      have d0 : w.cell? ⟨g, k * 7, none⟩ = some (.int .i64 ((((dn O).getD k 0 : Nat) : Int) + 1)) := hc 0 (by omega)
      clear hc
      by_cases hit : (((dn O).getD k 0 : Nat) : Int) + 1 = n
      · have e2 : (k : Int) = R := by rw [← HR.out]; exact (fd_hit hk2 hit).symm
        have e3 : (n == n) = true := by simp
        rw [hit] at d0
        subst e2
        clear hk2 hit
        go_wp2
        go_ret
        exact ⟨rfl, rfl⟩
      · have s : Hid (∀ j, j < k + 1 → (((dn O).getD j 0 : Nat) : Int) + 1 ≠ n) := fun j hj => by
          by_cases c : j = k
          · subst c; exact hit
          · exact hB.out j (by omega)
        have e3 : ((((dn O).getD k 0 : Nat) : Int) + 1 == n) = false := by simpa using hit
        generalize (((dn O).getD k 0 : Nat) : Int) + 1 = x at *
        clear hk2 hit
        go_wp2
        go_round
        case rel => exact ⟨k + 1, by omega, s, by go_num⟩
        case measure => simp [intOf]; omega
    · have e2 : -1 = R := by
        rw [← HR.out]
        exact (fd_miss fun j hj => hB.out j (by have := HN.out; omega)).symm
      subst e2
      go_wp2
      go_ret
      exact ⟨rfl, rfl⟩

set_option maxRecDepth 100000 in
set_option maxHeartbeats 1000000 in
theorem rdlist_any {b c : Nat} {v : Value} {O : Nat → Bool} {X : Nat → Th} (w : World) (h : RD w b v c O X) :
    Calls Tryd.prog 15 #[.pointer (some ⟨b, 0, none⟩)] w fun e w' => ∃ v', e = .returned v' ∧ Gt w w' v' (li 32 O) := by
  obtain ⟨i0, hi, hz0, hz1, hz2⟩ := info_parts Tryd.info3
  obtain ⟨a, cap, rfl⟩ := h.shape
  have hl : ((dn O).length : Int) ≤ 32 := by have := dn_le O; omega
  have HQ : Hid (RD w b (.slice a (dn O).length cap) c O X) := h
  obtain ⟨R, hR⟩ : ∃ R, li 32 O = R := ⟨_, rfl⟩
  have HR : Hid (li 32 O = R) := hR
  obtain ⟨l, hl2⟩ : ∃ l, (dn O).length = l := ⟨_, rfl⟩
  have HN : Hid ((dn O).length = l) := hl2
  have HC : Hid (∀ wr : World, Below w.heap.size w wr → wr.cell? ⟨b, 1, none⟩ = some (.slice a l cap)) := fun wr hb => by
    have := (h.below hb).k1
    rw [hl2] at this
    exact this
  have HS : Hid (∀ k : Nat, (k : Int) < l → R.take (k + 1) = R.take k ++ [(((dn O).getD k 0 : Nat) : Int) + 1]) := fun k hk => by
    have hk2 : k < (dn O).length := by omega
    rw [← hR, li_dn, ← List.map_take, ← List.map_take, List.take_succ_eq_append_getElem hk2, List.map_append, List.getD_eq_getElem?_getD, List.getElem?_eq_getElem hk2]
    simp
  have HE : Hid (R.take l = R) := by
    rw [← hR, List.take_of_length_le (by rw [li_dn, List.length_map]; omega)]
    exact rfl
  rw [hR]
  rw [hl2] at hl HQ
  clear h hR hl2
  go_enter Tryd.func15, Tryd.ntmps15
  go_wp2
  go_loopw [3, 4] (fun v i wr => ∃ (k : Nat) (G : List Int), (k : Int) ≤ l ∧ Gt w wr v G ∧ Hid (G = R.take k) ∧ i = .int .i64 (k : Int)) (fun _ i _ => l - (intOf i).toNat)
  case atStart => exact ⟨0, [], by omega, gt_start w, by simp [Hid], rfl⟩
  case round =>
    obtain ⟨k, G, hk, gt, hG, rfl⟩ := hrel
    have c0 := HC.out wr gt.bel
    by_cases e : (k : Int) < l
    · obtain ⟨g, rfl, _, hcp, -, hc⟩ := (HQ.out.below gt.bel).at (k := k) (by have := HN.out; omega)
      have d0 : wr.cell? ⟨g, k * 7, none⟩ = some (.int .i64 ((((dn O).getD k 0 : Nat) : Int) + 1)) := hc 0 (by omega)
      have s : Hid (G ++ [(((dn O).getD k 0 : Nat) : Int) + 1] = R.take (k + 1)) := by rw [HS.out k e, hG.out]; exact rfl
      have hgl : (G.length : Int) ≤ 32 := by rw [hG.out, List.length_take]; omega
      have hsz := gt.bel.size
      generalize (((dn O).getD k 0 : Nat) : Int) + 1 = x at *
      clear hc
      go_wp2_with (at_builtin; refine wpList_append_own _ rfl _ _ 36 rfl w.heap.size 3 i0 (.int .i64 0) 1 8 Tryd.underlying36 hi hz0 hz1 hz2 rfl (by decide) _ _ _ rfl (gt.own.alloc _) ⟨_, 0, none⟩ 1 1 [.int .i64 x] rfl rfl ?c1 ?c2 ?c3 ?c4 ?c5 ?_)
      case c1 =>
        intro j u hj
        match j, hj with
        | 0, hj => simp at hj; subst hj; exact (Blk.new _ [_] _).cell 0
      case c2 => intro u hu; simp at hu; subst hu; rfl
      case c3 => unfold maxLen; omega
      case c4 => omega
      case c5 => simp; omega
      intro v' w2 hown' hgrow _
      have G3 := gt_app gt hown' hgrow
      clear hown' hgrow
      go_wp2
      go_roundw
      case rel => exact ⟨k + 1, _, by omega, G3, s, by go_num⟩
      case measure => simp [intOf]; omega
    · have e2 : G = R := by rw [hG.out, show k = l by omega]; exact HE.out
      subst e2
      go_wp2
      go_ret
      exact ⟨_, rfl, gt⟩
end Go.Proofs.YtghnpmkibnggeaaDoor
