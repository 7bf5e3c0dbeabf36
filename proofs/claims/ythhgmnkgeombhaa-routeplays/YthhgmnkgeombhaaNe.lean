/- The document's route as it lies in memory (davitref16); what its New, Set, Off, Of, On and Cores answer and leave. -/
import Derived.Test.YthhgmnkgeombhaaRows
import Derived.Test.YthhgmnkgeombhaaNm
import Derived.Test.YthhgmnkgeombhaaFg
import Derived.Test.YthhgmnkgeombhaaKd
import Derived.Test.YthhgmnkgeombhaaKh
import Derived.WalkKit
import Derived.ProofKit
import Derived.OpenShut
import Derived.BigQuiet
namespace Go.Proofs.Ythhgmnkgeombhaa
open Go.ChangeShapes Go.WideShapes Go.ChangeAt Go.RowKit
open Mm Nm

/-- A route that is being made at block b: its list so far. -/
structure DN (w : World) (b c : Nat) (L : List Int) (a : Option Addr) (cap : Nat) : Prop where
  sb : Blk w b [.int .i64 (c : Int), .slice a L.length cap] 89
  own : w.ownsRow (b + 1) 3 1 (.slice a L.length cap) L.length (L.map (Value.int .i64))

theorem DN.lt {w : World} {b c : Nat} {L : List Int} {a : Option Addr} {cap : Nat} (h : DN w b c L a cap) : b + 1 ≤ w.heap.size := h.sb.lt
theorem dn_store {w w1 : World} {b c : Nat} {L G : List Int} {a a' : Option Addr} {cap cap' : Nat} (h : DN w b c L a cap)
    (own : w1.ownsRow (b + 1) 3 1 (.slice a' G.length cap') G.length (G.map (Value.int .i64))) (f : Fr (b + 1) [] w w1) :
    DN (w1.setCell ⟨b, 1, none⟩ (.slice a' G.length cap')) b c G a' cap' ∧ Fr b [] w (w1.setCell ⟨b, 1, none⟩ (.slice a' G.length cap')) :=
  ⟨⟨(h.sb.keep f (by omega) (by simp)).set 1 (.slice a' G.length cap'), ownsRow_setCell_below own (by exact Nat.lt_succ_self b) _⟩, (f.less (B' := b) (by omega)).setCell (p := ⟨b, 1, none⟩) (Or.inl (Nat.le_refl _)) _⟩
theorem dn_grown {w w1 : World} {b c : Nat} {L : List Int} {a : Option Addr} {cap : Nat} {o : Obj} (h : DN w b c L a cap) (hg : (w.alloc o).grownBy w1 (Value.slice a L.length cap).ownBlock) : Fr (b + 1) [] w w1 :=
  ((Fr.refl (b + 1) [] w).alloc h.lt o).grown hg (by have := h.lt; simp; omega) fun k hk => Or.inl (h.own.lt k hk).1

/-- The document's route at block b, its list at block g. -/
structure RN (w : World) (b g cap c : Nat) (P : Nat → Int) : Prop where
  sb : Blk w b [.int .i64 (c : Int), .slice (some ⟨g, 0, none⟩) 16 cap] 89
  bk : ∃ cs, Blk w g cs 3 ∧ 16 ≤ cs.length ∧ ∀ i, i < 16 → cs[i]? = some (.int .i64 (P i))
  cp : 16 ≤ cap
  lt : b < g
  c1 : 1 ≤ c
  ok : okP c P

theorem RN.hi {w : World} {b g cap c : Nat} {P : Nat → Int} (h : RN w b g cap c P) : g < w.heap.size := by
  obtain ⟨cs, k, _⟩ := h.bk
  exact k.lt
theorem RN.keep {B : Nat} {S : List Nat} {w w' : World} {b g cap c : Nat} {P : Nat → Int} (h : RN w b g cap c P) (f : Fr B S w w') (hB : g < B) (h0 : b ∉ S) (h1 : g ∉ S) : RN w' b g cap c P := by
  obtain ⟨cs, k, r⟩ := h.bk
  exact ⟨h.sb.keep f (by have := h.lt; omega) h0, ⟨cs, k.keep f hB h1, r⟩, h.cp, h.lt, h.c1, h.ok⟩
theorem RN.below {w w' : World} {b g cap c : Nat} {P : Nat → Int} (h : RN w b g cap c P) (f : Below w.heap.size w w') : RN w' b g cap c P := h.keep (Fr.of_below f) h.hi (by simp) (by simp)
theorem RN.heap {w w1 : World} {b g cap c : Nat} {P : Nat → Int} (h : RN w b g cap c P) (e : w1.heap = w.heap) : RN w1 b g cap c P := by
  obtain ⟨cs, k, r⟩ := h.bk
  exact ⟨h.sb.heap e, ⟨cs, k.heap e, r⟩, h.cp, h.lt, h.c1, h.ok⟩
theorem RN.k0 {w : World} {b g cap c : Nat} {P : Nat → Int} (h : RN w b g cap c P) : w.cell? ⟨b, 0, none⟩ = some (.int .i64 (c : Int)) := h.sb.cell 0
theorem RN.k1 {w : World} {b g cap c : Nat} {P : Nat → Int} (h : RN w b g cap c P) : w.cell? ⟨b, 1, none⟩ = some (.slice (some ⟨g, 0, none⟩) 16 cap) := h.sb.cell 1
theorem RN.one {w : World} {b g cap c i : Nat} {P : Nat → Int} (h : RN w b g cap c P) (hi : i < 16) : w.cell? ⟨g, i, none⟩ = some (.int .i64 (P i)) ∧ w.frozen? ⟨g, i, none⟩ = false := by
  obtain ⟨cs, k, _, r⟩ := h.bk
  exact ⟨(k.cell i).trans (r i hi), k.free i⟩
theorem RN.row {w : World} {b g cap c : Nat} {P : Nat → Int} (h : RN w b g cap c P) : Row w (.slice (some ⟨g, 0, none⟩) 16 cap) ((List.range 16).map P) := by
  refine Or.inr ⟨g, 0, cap, by simp, h.hi, fun i hi => ?_⟩
  have hi : i < 16 := by simpa using hi
  rw [Nat.zero_add, (h.one hi).1, List.getD_eq_getElem?_getD, List.getElem?_map, List.getElem?_range hi]
  rfl
theorem rn_set {w : World} {b g cap c i : Nat} {P : Nat → Int} (h : RN w b g cap c P) (hi : i < 16) (u : Int) (h1 : -1 ≤ u) (h2 : u < c) : RN (w.setCell ⟨g, i, none⟩ (.int .i64 u)) b g cap c (sp P i u) ∧ Fr w.heap.size [g] w (w.setCell ⟨g, i, none⟩ (.int .i64 u)) := by
  have hlt := h.lt
  have f : Fr w.heap.size [g] w (w.setCell ⟨g, i, none⟩ (.int .i64 u)) := (Fr.refl _ _ _).setCell (Or.inr (by simp)) _
  obtain ⟨cs, k, l, r⟩ := h.bk
  refine ⟨⟨h.sb.keep f h.sb.lt (by simp; omega), ⟨_, k.set i (.int .i64 u), by simp [l], fun j hj => ?_⟩, h.cp, h.lt, h.c1, okP_sp h.ok i h1 h2⟩, f⟩
  rw [List.getElem?_set]
  by_cases q : i = j
  · subst q
    rw [if_pos rfl, if_pos (by omega), sp_same]
  · rw [if_neg q, sp_other P (Ne.symm q)]
    exact r j hj
theorem rn_of {w : World} {b c : Nat} {a : Option Addr} {cap : Nat} (h : DN w b c (List.replicate 16 (-1)) a cap) (h1 : 1 ≤ c) : ∃ g, RN w b g cap c (fun _ => -1) ∧ a = some ⟨g, 0, none⟩ := by
  rcases h.own.2 with ⟨_, e⟩ | ⟨g, cap', cur, e, hb, hc, hn, _, hs, ht⟩
  · simp at e
  · simp only [Value.slice.injEq] at e
    obtain ⟨rfl, _, rfl⟩ := e
    rw [List.length_replicate] at hn
    rw [List.length_replicate, Nat.mul_one] at ht
    refine ⟨g, ⟨by have := h.sb; rwa [List.length_replicate] at this, ⟨cur.toList, ?_, ?_, fun i hi => ?_⟩, hn, by omega, h1, okP_new c h1⟩, rfl⟩
    · unfold Blk
      rw [Array.toArray_toList]
      exact hc
    · rw [Array.length_toList, hs, Nat.mul_one]
      exact hn
    · have := congrArg (fun l : List Value => l[i]?) ht
      simp only [List.getElem?_take, if_pos hi, List.getElem?_map, List.getElem?_replicate] at this
      exact this

set_option maxRecDepth 100000 in
set_option maxHeartbeats 1000000 in
theorem rnnew_any (c : Nat) (w : World) (h1 : (1 : Int) ≤ c) (h2 : (c : Int) ≤ 64) :
    Calls Try.prog 29 #[.int .i64 (c : Int)] w fun e w' => e = .returned (.tuple #[.pointer (some ⟨w.heap.size, 0, none⟩), .int .i64 0]) ∧ (∃ g cap, RN w' w.heap.size g cap c (fun _ => -1)) ∧ Below w.heap.size w w' := by
  obtain ⟨i0, hi, hz0, hz1, hz2⟩ := info_parts Try.info3
  have B0 : Hid (DN (w.alloc (.cells #[.int .i64 (c : Int), .slice none 0 0] 89)) w.heap.size c [] none 0 ∧ Below w.heap.size w (w.alloc (.cells #[.int .i64 (c : Int), .slice none 0 0] 89))) := ⟨⟨Blk.new w [.int .i64 (c : Int), .slice none 0 0] _, World.ownsRow_nil _ _ _ _⟩, (Below.refl _ _).alloc (Nat.le_refl _) _⟩
  obtain ⟨b, hb⟩ : ∃ b, w.heap.size = b := ⟨_, rfl⟩
  have HB : Hid (w.heap.size = b) := hb
  rw [hb] at B0 ⊢
  have H1 : Hid (1 ≤ c) := by unfold Hid; omega
  clear hb
  go_enter Try.func29, Try.ntmps29
  go_wp2
  rw [HB.out]
  go_loopw [5] (fun i wr => ∃ (k : Nat) (L : List Int) (a : Option Addr) (cap : Nat), (k : Int) ≤ 16 ∧ Hid (L = List.replicate k (-1)) ∧ DN wr b c L a cap ∧ Below b w wr ∧ i = .int .i64 (k : Int)) (fun i _ => 16 - (intOf i).toNat)
  case atStart => exact ⟨0, [], none, 0, by omega, rfl, B0.out.1, B0.out.2, rfl⟩
  case round =>
    obtain ⟨k, L, a, cap, hk, hL, d, bel, rfl⟩ := hrel
    clear B0
    by_cases e : (k : Int) < 16
    · have c1 : wr.cell? ⟨b, 1, none⟩ = some (.slice a L.length cap) := d.sb.cell 1
      have hlen : L.length = k := by rw [hL.out, List.length_replicate]
      have hsz := d.lt
      have HD : Hid (DN wr b c L a cap) := d
      have HBel : Hid (Below b w wr) := bel
      have hl2 : (L.length : Int) ≤ 16 := by omega
      have HLL : Hid (L ++ [-1] = List.replicate (k + 1) (-1)) := by unfold Hid; rw [hL.out, List.replicate_succ']
      clear d bel hL hlen
      go_wp2_with (at_builtin; refine wpList_append_own _ rfl _ _ 37 rfl (b + 1) 3 i0 (.int .i64 0) 1 8 Try.underlying37 hi hz0 hz1 hz2 rfl (by decide) _ _ _ rfl (HD.out.own.alloc _) ⟨_, 0, none⟩ 1 1 [.int .i64 (-1)] rfl rfl ?c1 ?c2 ?c3 ?c4 ?c5 ?_)
      case c1 =>
        intro j u hj
        match j, hj with
        | 0, hj => simp at hj; subst hj; exact (Blk.new _ [_] _).cell 0
      case c2 => first | rfl | (intro u hu; simp at hu; subst hu; rfl)
      case c3 => unfold maxLen; omega
      case c4 => omega
      case c5 => first | omega | (simp; omega)
      intro v' w1 hown' hgrow _
      have f := dn_grown HD.out hgrow
      obtain ⟨a', cap', rfl⟩ := own_shape hown'
      have sb1 := HD.out.sb.keep f (by omega) (by simp)
      have k1 : w1.cell? ⟨b, 1, none⟩ = some (.slice a L.length cap) := sb1.cell 1
      have k2 : w1.frozen? ⟨b, 1, none⟩ = false := sb1.free 1
      have ST := dn_store (G := L ++ [-1]) (a' := a') (cap' := cap') HD.out (by simpa using hown') f
      rw [show (L ++ [(-1 : Int)]).length = L.length + 1 by simp] at ST
      have HS : Hid (_ ∧ _) := ST
      clear hown' hgrow ST sb1 f
      go_wp2
      go_roundw
      case rel => exact ⟨k + 1, L ++ [-1], _, _, by omega, HLL, HS.out.1, HBel.out.trans (HS.out.2.below (by simp)), by go_num⟩
      case measure => simp [intOf]; omega
    · obtain rfl : k = 16 := by omega
      have hL' := hL.out
      subst hL'
      obtain ⟨g, rn, _⟩ := rn_of d H1.out
      have RR : Hid ((∃ g cap, RN wr b g cap c (fun _ => -1)) ∧ Below b w wr) := ⟨⟨g, _, rn⟩, bel⟩
      clear d rn bel hL
      go_wp2
      go_ret2
      exact ⟨rfl, RR.out⟩
set_option maxRecDepth 100000 in
theorem rnnew_bad (c : Int) (w : World) (h : c < 1 ∨ 64 < c) :
    Calls Try.prog 29 #[.int .i64 c] w fun e w' => e = .returned (.tuple #[.pointer none, .int .i64 2]) ∧ w' = w := by
  rcases h with h | h
  · go_enter Try.func29, Try.ntmps29
    go_wp2
    go_ret2
    exact ⟨rfl, rfl⟩
  · have h2 : (1 : Int) ≤ c := by omega
    go_enter Try.func29, Try.ntmps29
    go_wp2
    go_ret2
    exact ⟨rfl, rfl⟩

set_option maxRecDepth 100000 in
set_option maxHeartbeats 400000 in
theorem rnset_any {b g cap c : Nat} {P : Nat → Int} (n u : Int) (w : World) (h : RN w b g cap c P) :
    Calls Try.prog 34 #[.pointer (some ⟨b, 0, none⟩), .int .i64 n, .int .i64 u] w fun e w' => e = .returned (.int .i64 (stE c n u)) ∧ RN w' b g cap c (stp (stE c n u) P n u) ∧ Fr w.heap.size [g] w w' := by
  have HT : Hid (RN w b g cap c P) := h
  have k0 := h.k0
  have k1 := h.k1
  have hcp : (16 : Int) ≤ cap := by have := h.cp; omega
  cases e : is n with
  | false =>
    rw [show stE c n u = 3 by unfold stE; rw [e]; rfl, stp_no (by decide)]
    have tl : n < 0 ∨ (0 ≤ n ∧ 16 ≤ n) := by have := is_none e; omega
    clear h e
    rcases tl with q | ⟨q, q2⟩
    all_goals (
      go_enter Try.func34, Try.ntmps34
      go_wp2
      go_ret
      exact ⟨rfl, HT.out, Fr.refl _ _ _⟩)
  | true =>
    obtain ⟨i, hi, rfl, e2⟩ := is_some e
    have hi2 : (i : Int) < 16 := by omega
    cases e3 : inC c u with
    | false =>
      rw [show stE c (i : Int) u = 3 by unfold stE; rw [e, e3]; rfl, stp_no (by decide)]
      have tl : u < 0 ∨ (0 ≤ u ∧ (c : Int) ≤ u) := by have := of_decide_eq_false e3; omega
      clear h e e2 e3
      rcases tl with q | ⟨q, q2⟩
      all_goals (
        go_enter Try.func34, Try.ntmps34
        go_wp2
        go_ret
        exact ⟨rfl, HT.out, Fr.refl _ _ _⟩)
    | true =>
      rw [show stE c (i : Int) u = 0 by unfold stE; rw [e, e3]; rfl, stp_ok, e2]
      obtain ⟨u0, u1⟩ := of_decide_eq_true e3
      have HS : Hid (_ ∧ _) := rn_set h hi u (by omega) u1
      obtain ⟨a0, a1⟩ := h.one hi
      clear h e e2 e3
      go_enter Try.func34, Try.ntmps34
      go_wp2
      go_ret
      exact ⟨rfl, HS.out⟩

set_option maxRecDepth 100000 in
set_option maxHeartbeats 400000 in
theorem rnoff_any {b g cap c : Nat} {P : Nat → Int} (n : Int) (w : World) (h : RN w b g cap c P) :
    Calls Try.prog 32 #[.pointer (some ⟨b, 0, none⟩), .int .i64 n] w fun e w' => e = .returned (.int .i64 (ofE P n)) ∧ RN w' b g cap c (stp (ofE P n) P n (-1)) ∧ Fr w.heap.size [g] w w' := by
  have HT : Hid (RN w b g cap c P) := h
  have k1 := h.k1
  have hcp : (16 : Int) ≤ cap := by have := h.cp; omega
  cases e : is n with
  | false =>
    rw [show ofE P n = 3 by unfold ofE; rw [e]; rfl, stp_no (by decide)]
    have tl : n < 0 ∨ (0 ≤ n ∧ 16 ≤ n) := by have := is_none e; omega
    clear h e
    rcases tl with q | ⟨q, q2⟩
    all_goals (
      go_enter Try.func32, Try.ntmps32
      go_wp2
      go_ret
      exact ⟨rfl, HT.out, Fr.refl _ _ _⟩)
  | true =>
    obtain ⟨i, hi, rfl, e2⟩ := is_some e
    have hi2 : (i : Int) < 16 := by omega
    obtain ⟨a0, a1⟩ := h.one hi
    cases e3 : th P i with
    | false =>
      rw [show ofE P (i : Int) = 4 by unfold ofE; rw [e, e2, e3]; rfl, stp_no (by decide)]
      have q : P i < 0 := by have := of_decide_eq_false e3; omega
      clear h e e2 e3
      generalize P i = v at *
      go_enter Try.func32, Try.ntmps32
      go_wp2
      go_ret
      exact ⟨rfl, HT.out, Fr.refl _ _ _⟩
    | true =>
      rw [show ofE P (i : Int) = 0 by unfold ofE; rw [e, e2, e3]; rfl, stp_ok, e2]
      have q : 0 ≤ P i := of_decide_eq_true e3
      have HS : Hid (_ ∧ _) := rn_set h hi (-1) (by omega) (by have := h.c1; omega)
      clear h e e2 e3
      generalize P i = v at a0 q
      go_enter Try.func32, Try.ntmps32
      go_wp2
      go_ret
      exact ⟨rfl, HS.out⟩

set_option maxRecDepth 100000 in
set_option maxHeartbeats 400000 in
theorem rnof_any {b g cap c : Nat} {P : Nat → Int} (n : Int) (w : World) (h : RN w b g cap c P) :
    Calls Try.prog 36 #[.pointer (some ⟨b, 0, none⟩), .int .i64 n] w fun e w' => e = .returned (.tuple #[.int .i64 (ofN P n), .bool (ofB P n)]) ∧ Sm w' w := by
  have k1 := h.k1
  have hcp : (16 : Int) ≤ cap := by have := h.cp; omega
  cases e : is n with
  | false =>
    rw [show ofN P n = 0 by unfold ofN; rw [e]; rfl, show ofB P n = false by unfold ofB; rw [e]; rfl]
    have tl : n < 0 ∨ (0 ≤ n ∧ 16 ≤ n) := by have := is_none e; omega
    clear h e
    rcases tl with q | ⟨q, q2⟩
    all_goals (
      go_enter Try.func36, Try.ntmps36
      go_wp2
      go_ret2
      exact ⟨rfl, rfl, rfl, rfl, rfl⟩)
  | true =>
    obtain ⟨i, hi, rfl, e2⟩ := is_some e
    have hi2 : (i : Int) < 16 := by omega
    obtain ⟨a0, a1⟩ := h.one hi
    rw [show ofN P (i : Int) = cp P i by unfold ofN; rw [e, e2]; rfl, show ofB P (i : Int) = th P i by unfold ofB; rw [e, e2]; rfl]
    by_cases q : 0 ≤ P i
    · rw [show cp P i = P i from if_pos q, show th P i = true from decide_eq_true q]
      clear h e e2
      generalize P i = v at *
      go_enter Try.func36, Try.ntmps36
      go_wp2
      go_ret2
      exact ⟨rfl, rfl, rfl, rfl, rfl⟩
    · rw [show cp P i = 0 from if_neg q, show th P i = false from decide_eq_false q]
      have q2 : P i < 0 := by omega
      clear h e e2 q
      generalize P i = v at *
      go_enter Try.func36, Try.ntmps36
      go_wp2
      go_ret2
      exact ⟨rfl, rfl, rfl, rfl, rfl⟩

set_option maxRecDepth 100000 in
theorem rncores_any {b g cap c : Nat} {P : Nat → Int} (w : World) (h : RN w b g cap c P) :
    Calls Try.prog 40 #[.pointer (some ⟨b, 0, none⟩)] w fun e w' => e = .returned (.int .u64 (cl P 16 : Nat)) ∧ w' = w := by
  have C : Hid (∀ _ : Unit, _) := fun _ => krefof_any ((List.range 16).map P) _ w (by simp) h.row
  have k1 := h.k1
  rw [show wl 0 ((List.range 16).map P) = cl P 16 from rfl] at C
  generalize cl P 16 = M at *
  clear h
  go_enter Try.func40, Try.ntmps40
  go_wp2_with fail
  refine (C.out ()).mono ?_
  rintro e w' ⟨rfl, rfl⟩
  go_wp2
  go_ret
  exact ⟨rfl, rfl⟩

theorem KK_none (p : Nat → Bool) (h : ∀ i, p i = false) (k : Nat) : KK p k = [] := by
  induction k with
  | zero => rfl
  | succ k ih => rw [KK_miss p k (h k), ih]

set_option maxRecDepth 100000 in
set_option maxHeartbeats 1000000 in
theorem rnon_any {b g cap c : Nat} {P : Nat → Int} (u : Int) (w : World) (h : RN w b g cap c P) :
    Calls Try.prog 38 #[.pointer (some ⟨b, 0, none⟩), .int .i64 u] w fun e w' => ∃ v, e = .returned v ∧ Gat w w' v (on P u) 16 := by
  obtain ⟨i0, hi, hz0, hz1, hz2⟩ := info_parts Try.info3
  have hcp : (16 : Int) ≤ cap := by have := h.cp; omega
  have HC : Hid (∀ wr : World, Below w.heap.size w wr → wr.cell? ⟨b, 1, none⟩ = some (.slice (some ⟨g, 0, none⟩) 16 cap) ∧ ∀ k : Nat, (k : Int) < 16 → wr.cell? ⟨g, k, none⟩ = some (.int .i64 (P k))) := fun wr hb => ⟨(h.below hb).k1, fun k hk => ((h.below hb).one (by omega)).1⟩
  clear h
  by_cases hu : u < 0
  · have HG : Hid (Gat w w (.slice none 0 0) (on P u) 16) := by
      refine ⟨?_, Below.refl _ _⟩
      rw [KK_none _ (on_neg P u hu)]
      exact World.ownsRow_nil _ _ _ _
    go_enter Try.func38, Try.ntmps38
    go_wp2
    go_loopw [5, 6] (fun v i wr => v = .slice none 0 0 ∧ i = .int .i64 0 ∧ wr = w) (fun _ _ _ => 0)
    case atStart => exact ⟨rfl, rfl, rfl⟩
    case round =>
      obtain ⟨rfl, rfl, rfl⟩ := hrel
      obtain ⟨c1, -⟩ := HC.out wr (Below.refl _ _)
      go_wp2
      go_ret
      exact ⟨_, rfl, HG.out⟩
  · have hu2 : 0 ≤ u := by omega
    have HP : Hid (∀ k, on P u k = (P k == u)) := fun k => on_at P u k hu2
    clear hu
    go_enter Try.func38, Try.ntmps38
    go_wp2
    go_loopw [5, 6] (fun v i wr => ∃ k : Nat, (k : Int) ≤ 16 ∧ Gat w wr v (on P u) k ∧ i = .int .i64 (k : Int)) (fun _ i _ => 16 - (intOf i).toNat)
    case atStart => exact ⟨0, by omega, gat_start w _, rfl⟩
    case round =>
      obtain ⟨k, hk, gt, rfl⟩ := hrel
      obtain ⟨c1, cc⟩ := HC.out wr gt.bel
      by_cases e : (k : Int) < 16
      · have a0 := cc k e
        have hp := HP.out k
        clear cc
        by_cases q : P k = u
        · have e3 : (P k == u) = true := by simpa using q
          rw [e3] at hp
          have hsz := gt.bel.size
          have hgl := KK_le (on P u) k
          have HQ : Hid (on P u k = true) := hp
          generalize P k = v1 at *
          clear hp q
          go_wp2_with (at_builtin; refine wpList_append_own _ rfl _ _ 37 rfl w.heap.size 3 i0 (.int .i64 0) 1 8 Try.underlying37 hi hz0 hz1 hz2 rfl (by decide) _ _ _ rfl (gt.own.alloc _) ⟨_, 0, none⟩ 1 1 [.int .i64 (k : Int)] rfl rfl ?c1 ?c2 ?c3 ?c4 ?c5 ?_)
          case c1 =>
            intro j u hj
            match j, hj with
            | 0, hj => simp at hj; subst hj; exact (Blk.new _ [_] _).cell 0
          case c2 => first | rfl | (intro u hu; simp at hu; subst hu; rfl)
          case c3 => unfold maxLen; omega
          case c4 => omega
          case c5 => first | omega | (simp; omega)
          intro v' w2 hown' hgrow _
          have G3 := gat_keep gt HQ.out hown' hgrow
          clear hown' hgrow
          go_wp2
          go_roundw
          case rel => exact ⟨k + 1, by omega, G3, by go_num⟩
          case measure => simp [intOf]; omega
        · have e3 : (P k == u) = false := by simpa using q
          rw [e3] at hp
          have G2 := gat_drop gt hp
          generalize P k = v1 at *
          clear gt q hp
          go_wp2
          go_roundw
          case rel => exact ⟨k + 1, by omega, G2, by go_num⟩
          case measure => simp [intOf]; omega
      · obtain rfl : k = 16 := by omega
        have G : Hid (Gat w wr _ (on P u) 16) := gt
        obtain ⟨a, cap, rfl⟩ := own_shape gt.own
        clear gt cc
        go_wp2
        go_ret
        exact ⟨_, rfl, G.out⟩
end Go.Proofs.Ythhgmnkgeombhaa
