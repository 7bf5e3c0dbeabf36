/- What mask's And, Upto, First, List, Has and Many, and the document's Has answer, for all masks and numbers (where the table of the lowest bits reads as the program's text lays it). -/
import Derived.Test.YtpmjojemcpgpiaaDoorRows
import Derived.Test.YtpmjojemcpgpiaaDoorMc
import Derived.Test.YtpmjojemcpgpiaaDoorFj
import Derived.Test.YtpmjojemcpgpiaaDoorFg
import Derived.WalkKit
import Derived.ProofKit
import Derived.OpenShut
import Derived.Laws.Bits64b
import Derived.Laws.BitsAllLaws
namespace Go.Proofs.YtpmjojemcpgpiaaDoor
open Go.ChangeShapes Go.WideShapes Go.ChangeAt Go.RowKit
open Mm

set_option maxRecDepth 100000 in
set_option maxHeartbeats 400000 in
theorem vbit_any (c : Int) (w : World) :
    Calls Tryd.prog 73 #[.int .i64 c] w fun e w' => e = .returned (.int .u64 (bv c : Nat)) ∧ w' = w := by
  by_cases h : 0 ≤ c ∧ c < 64
  · obtain ⟨k, rfl⟩ := Int.eq_ofNat_of_zero_le h.1
    have hw : IntKind.u64.wrap ((2 : Int) ^ k) = ((2 ^ k : Nat) : Int) := by
      have := wrapN (2 ^ k) (by have := bv_lt (k : Int); rw [bv_some _ h] at this; simpa using this)
      simpa using this
    have hk : (k : Int) < 64 := h.2
    rw [bv_some _ h, Int.toNat_natCast]
    generalize 2 ^ k = P at *
    clear h
    go_enter Tryd.func73, Tryd.ntmps73
    go_wp2
    go_ret
    exact ⟨rfl, rfl⟩
  · rw [bv_none c h]
    by_cases h1 : c < 0
    · go_enter Tryd.func73, Tryd.ntmps73
      go_wp2
      go_ret
      exact ⟨rfl, rfl⟩
    · have h2 : (64 : Int) ≤ c := by omega
      clear h
      go_enter Tryd.func73, Tryd.ntmps73
      go_wp2
      go_ret
      exact ⟨rfl, rfl⟩

set_option maxRecDepth 100000 in
set_option maxHeartbeats 400000 in
theorem vhas_any (m : Nat) (c : Int) (w : World) (hm : m < 18446744073709551616) :
    Calls Tryd.prog 76 #[.int .u64 m, .int .i64 c] w fun e w' => e = .returned (.bool (tb m c)) ∧ w' = w := by
  have B : Hid (∀ w, _) := fun w => vbit_any c w
  have hb := bits_and_u64_nat m (bv c) hm (bv_lt c)
  have hz := and_bv m c
  generalize m &&& bv c = P at *
  generalize bv c = b at *
  cases ht : tb m c with
  | false =>
    rw [ht] at hz
    have : P = 0 := by rw [hz]
    subst this
    clear hz ht hm
    go_enter Tryd.func76, Tryd.ntmps76
    go_wp2_with (go_at_call 73; refine (B.out _).mono ?_; rintro e w' ⟨rfl, rfl⟩)
    go_ret
    exact ⟨rfl, rfl⟩
  | true =>
    rw [ht] at hz
    have hP : ((P : Int) != 0) = true := by
      rw [bne_iff_ne]
      intro e
      have : P = 0 := by omega
      rw [hz] at this
      cases this
    clear hz ht hm
    go_enter Tryd.func76, Tryd.ntmps76
    go_wp2_with (go_at_call 73; refine (B.out _).mono ?_; rintro e w' ⟨rfl, rfl⟩)
    go_ret
    exact ⟨rfl, rfl⟩

set_option maxRecDepth 100000 in
set_option maxHeartbeats 400000 in
theorem vrefhas_any (m : Nat) (c : Int) (w : World) (hm : m < 18446744073709551616) :
    Calls Tryd.prog 64 #[.int .u64 m, .int .i64 c] w fun e w' => e = .returned (.bool (tb m c)) ∧ w' = w := by
  by_cases h : 0 ≤ c ∧ c < 64
  · obtain ⟨k, rfl⟩ := Int.eq_ofNat_of_zero_le h.1
    have e := tb_some m k h
    rw [Int.toNat_natCast, Nat.testBit_eq_decide_div_mod_eq] at e
    obtain ⟨d, hd⟩ : ∃ d, m / 2 ^ k = d := ⟨_, rfl⟩
    have hd' : (m : Int) / 2 ^ k = (d : Int) := by rw [← hd]; simp
    rw [hd] at e
    have hk : (k : Int) < 64 := h.2
    have hdl : (d : Int) ≤ 18446744073709551615 := by
      have : d ≤ m := by rw [← hd]; exact Nat.div_le_self _ _
      omega
    rw [e]
    clear e h hm hd
    by_cases h1 : d % 2 = 1
    · have h2 : ((d : Int) % 2 == 1) = true := by rw [beq_iff_eq]; omega
      simp only [h1, decide_true]
      clear h1
      go_enter Tryd.func64, Tryd.ntmps64
      go_wp2
      go_ret
      exact ⟨rfl, rfl⟩
    · have h2 : ((d : Int) % 2 == 1) = false := by rw [beq_eq_false_iff_ne]; omega
      simp only [h1, decide_false]
      clear h1
      go_enter Tryd.func64, Tryd.ntmps64
      go_wp2
      go_ret
      exact ⟨rfl, rfl⟩
  · rw [tb_none m c h]
    by_cases h1 : c < 0
    · go_enter Tryd.func64, Tryd.ntmps64
      go_wp2
      go_ret
      exact ⟨rfl, rfl⟩
    · have h2 : (64 : Int) ≤ c := by omega
      clear h
      go_enter Tryd.func64, Tryd.ntmps64
      go_wp2
      go_ret
      exact ⟨rfl, rfl⟩

set_option maxRecDepth 100000 in
set_option maxHeartbeats 400000 in
theorem vand_any (a b : Nat) (w : World) (ha : a < 18446744073709551616) (hb : b < 18446744073709551616) :
    Calls Tryd.prog 60 #[.int .u64 a, .int .u64 b] w fun e w' => e = .returned (.int .u64 (a &&& b : Nat)) ∧ w' = w := by
  have h := bits_and_u64_nat a b ha hb
  generalize a &&& b = P at *
  clear ha hb
  go_enter Tryd.func60, Tryd.ntmps60
  go_wp2
  go_ret
  exact ⟨rfl, rfl⟩

set_option maxRecDepth 100000 in
set_option maxHeartbeats 400000 in
theorem vmany_any (a : Nat) (w : World) (ha : a < 18446744073709551616) :
    Calls Tryd.prog 75 #[.int .u64 a] w fun e w' => e = .returned (.int .i64 ((ls a).length : Nat)) ∧ w' = w := by
  have N : Hid (∀ w, _) := fun w => ones_any a w ha
  generalize (ls a).length = P at *
  clear ha
  go_enter Tryd.func75, Tryd.ntmps75
  go_wp2_with (go_at_call 80; refine (N.out _).mono ?_; rintro e w' ⟨rfl, rfl⟩)
  go_ret
  exact ⟨rfl, rfl⟩

set_option maxRecDepth 100000 in
set_option maxHeartbeats 400000 in
theorem vupto_any (n : Int) (w : World) :
    Calls Tryd.prog 61 #[.int .i64 n] w fun e w' => e = .returned (.int .u64 (up n : Nat)) ∧ w' = w := by
  by_cases h1 : n < 1
  · rw [show up n = 0 from if_pos h1]
    go_enter Tryd.func61, Tryd.ntmps61
    go_wp2
    go_ret
    exact ⟨rfl, rfl⟩
  · by_cases h2 : 64 ≤ n
    · rw [show up n = 18446744073709551615 from (if_neg h1).trans (if_pos h2)]
      go_enter Tryd.func61, Tryd.ntmps61
      go_wp2
      go_ret
      exact ⟨rfl, rfl⟩
    · have e : up n = bv n - 1 := by rw [bv_some n (by omega)]; exact (if_neg h1).trans (if_neg h2)
      have p : 0 < bv n := by rw [bv_some n (by omega)]; exact Nat.two_pow_pos _
      have l := bv_lt n
      have B : Hid (∀ w, _) := fun w => vbit_any n w
      rw [e]
      generalize bv n = b at *
      have hw : IntKind.u64.wrap ((b : Int) - 1) = ((b - 1 : Nat) : Int) := by rw [IntKind.wrap_u64]; omega
      obtain ⟨c, hc⟩ : ∃ c, b - 1 = c := ⟨_, rfl⟩
      rw [hc] at hw ⊢
      clear e l p hc
      go_enter Tryd.func61, Tryd.ntmps61
      go_wp2_with (go_at_call 73; refine (B.out _).mono ?_; rintro e w' ⟨rfl, rfl⟩)
      go_ret
      exact ⟨rfl, rfl⟩

set_option maxRecDepth 100000 in
set_option maxHeartbeats 400000 in
theorem vfirst_any (m : Nat) (w : World) (hm : m < 18446744073709551616) (ht : Tab w) :
    Calls Tryd.prog 62 #[.int .u64 m] w fun e w' => e = .returned (.tuple #[.int .i64 (hd (ls m) : Nat), .int .i64 (er (ls m))]) ∧ w' = w := by
  by_cases h0 : m = 0
  · subst h0
    rw [ls_zero]
    clear ht hm
    go_enter Tryd.func62, Tryd.ntmps62
    go_wp2
    go_ret2
    exact ⟨rfl, rfl⟩
  · have T : Hid (∀ w, _ → _) := fun w ht => tz_any m w (by omega) hm ht
    obtain ⟨q, e, hk⟩ := odd_spec 64 m (by omega) hm
    have hh := hd_of m _ q hk e
    have hn : ls m ≠ [] := fun h => h0 (ls_nil m hm h)
    have he : er (ls m) = 0 := if_neg hn
    rw [hh, he]
    generalize Lib.ntzAux 64 m = k at *
    have h1 : (1 : Int) ≤ m := by omega
    have HT : Hid (Tab w) := ht
    clear ht hm e hk hh hn he h0
    go_enter Tryd.func62, Tryd.ntmps62
    go_wp2_with (go_at_call 74; refine (T.out _ HT.out).mono ?_; rintro e w' ⟨rfl, rfl⟩)
    go_ret2
    exact ⟨rfl, rfl⟩

def KK (p : Nat → Bool) (k : Nat) : List Int := ((List.range k).filter p).map fun i : Nat => (i : Int)

theorem KK_le (p : Nat → Bool) (k : Nat) : (KK p k).length ≤ k := by
  unfold KK
  rw [List.length_map]
  have := List.length_filter_le p (List.range k)
  simpa using this

theorem KK_hit (p : Nat → Bool) (k : Nat) (h : p k = true) : KK p (k + 1) = KK p k ++ [(k : Int)] := by
  unfold KK
  rw [List.range_succ, List.filter_append, List.map_append]
  simp [h]

theorem KK_miss (p : Nat → Bool) (k : Nat) (h : p k = false) : KK p (k + 1) = KK p k := by
  unfold KK
  rw [List.range_succ, List.filter_append, List.map_append]
  simp [h]

/-- What has been gathered so far: v owns it; nothing that was there has turned. -/
structure Gat (w wr : World) (v : Value) (p : Nat → Bool) (k : Nat) : Prop where
  own : wr.ownsRow w.heap.size 3 1 v (KK p k).length ((KK p k).map (Value.int .i64))
  bel : Below w.heap.size w wr

theorem gat_start (w : World) (p : Nat → Bool) : Gat w w (.slice none 0 0) p 0 := ⟨World.ownsRow_nil _ _ _ _, Below.refl _ _⟩

theorem gat_drop {w wr : World} {v : Value} {p : Nat → Bool} {k : Nat} (g : Gat w wr v p k) (h : p k = false) : Gat w wr v p (k + 1) := by
  refine ⟨?_, g.bel⟩
  rw [KK_miss p k h]
  exact g.own

theorem gat_keep {w wr w1 : World} {v v' : Value} {p : Nat → Bool} {k : Nat} {o : Obj} (g : Gat w wr v p k) (h : p k = true)
    (hown' : w1.ownsRow w.heap.size 3 1 v' ((KK p k).length + 1) ((KK p k).map (Value.int .i64) ++ [.int .i64 (k : Int)])) (hgrow : (wr.alloc o).grownBy w1 v.ownBlock) : Gat w w1 v' p (k + 1) := by
  have hs := g.bel.size
  refine ⟨?_, (g.bel.alloc hs o).grown hgrow (by simp; omega) (fun j hj => (g.own.lt j hj).1)⟩
  rw [KK_hit p k h]
  simpa using hown'

/-- All cores of a mask, rising, as integers. -/
def li (m : Nat) : List Int := KK (fun i => m.testBit i) 64

set_option maxRecDepth 100000 in
set_option maxHeartbeats 1000000 in
theorem vlist_any (m : Nat) (w : World) (hm : m < 18446744073709551616) :
    Calls Tryd.prog 63 #[.int .u64 m] w fun e w' => ∃ v, e = .returned v ∧ Gt w w' v (li m) := by
  obtain ⟨i0, hi, hz0, hz1, hz2⟩ := info_parts Tryd.info3
  obtain ⟨p, hp⟩ : ∃ p : Nat → Bool, (fun i => m.testBit i) = p := ⟨_, rfl⟩
  have HP : Hid (∀ k : Nat, (k : Int) < 64 → p k = tb m k) := fun k hk => by rw [← hp]; exact (tb_nat m k (by omega)).symm
  rw [show li m = KK p 64 by rw [li, hp]]
  have CM : Hid (∀ (c : Int) (w : World), _) := fun c w => vhas_any m c w hm
  have CN : Hid (∀ w, _) := fun w => vmany_any m w hm
  have hN := ls_le m
  generalize (ls m).length = N at *
  clear hp hm
  go_enter Tryd.func63, Tryd.ntmps63
  go_wp2_with fail
  refine (CN.out _).mono ?_
  rintro e w' ⟨rfl, rfl⟩
  go_wp2_with (at_make; refine wpList_make_own _ rfl _ _ 39 rfl w'.heap.size 3 i0 (.int .i64 0) 1 Tryd.underlying39 hi hz0 hz1 _ _ _ N rfl rfl (by omega) (by rw [hz2]; omega) (by unfold maxLen; omega) (Nat.le_refl _) ?_; intro w0 hown0 hgrow0)
  have G0 : Gat w' w0 (.slice (some ⟨w'.heap.size, 0, none⟩) 0 N) p 0 := ⟨hown0, (Below.refl _ _).grown hgrow0 (Nat.le_refl _) (fun k hk => by cases hk)⟩
  clear hown0 hgrow0
  obtain ⟨w, rfl⟩ : ∃ w, w = w' := ⟨_, rfl⟩
  go_loopw [3, 8] (fun v i wr => ∃ k : Nat, (k : Int) ≤ 64 ∧ i = .int .i64 k ∧ Gat w wr v p k) (fun _ i _ => 64 - (intOf i).toNat)
  case atStart => exact ⟨0, by omega, rfl, G0⟩
  case round =>
    obtain ⟨k, hk, rfl, g⟩ := hrel
    by_cases h : (k : Int) < 64
    · have hpk := HP.out k h
      cases ha : tb m k with
      | false =>
        have C1 : Hid (∀ w, _) := fun w => CM.out k w
        rw [ha] at C1 hpk
        have G2 := gat_drop g hpk
        clear ha hpk
        go_wp2_with fail
        refine (C1.out _).mono ?_
        rintro e w' ⟨rfl, rfl⟩
        go_wp2
        go_roundw
        case rel => exact ⟨k + 1, by omega, by go_num, G2⟩
        case measure => simp [intOf]; omega
      | true =>
        have C1 : Hid (∀ w, _) := fun w => CM.out k w
        rw [ha] at C1 hpk
        have hkl := KK_le p k
        have hsz := g.bel.size
        have HK : Hid (p k = true) := hpk
        clear ha hpk
        go_wp2_with fail
        refine (C1.out _).mono ?_
        rintro e w' ⟨rfl, rfl⟩
        go_wp2_with (at_builtin; refine wpList_append_own _ rfl _ _ 39 rfl w.heap.size 3 i0 (.int .i64 0) 1 8 Tryd.underlying39 hi hz0 hz1 hz2 rfl (by decide) _ _ _ rfl (g.own.alloc _) ⟨_, 0, none⟩ 1 1 [.int .i64 (k : Int)] rfl rfl ?c1 ?c2 ?c3 ?c4 ?c5 ?_)
        case c1 =>
          intro j u hj
          match j, hj with
          | 0, hj => simp at hj; subst hj; simp [Addr.add]
        case c2 => intro u hu; simp at hu; subst hu; rfl
        case c3 => unfold maxLen; omega
        case c4 => omega
        case c5 => simp; omega
        intro v' w1 hown' hgrow _
        have G2 := gat_keep g HK.out hown' hgrow
        clear hown' hgrow
        go_wp2
        go_roundw
        case rel => exact ⟨k + 1, by omega, by go_num, G2⟩
        case measure => simp [intOf]; omega
    · obtain rfl : k = 64 := by omega
      have HG : Hid (Gt w wr u3 (KK p 64)) := ⟨g.own, g.bel⟩
      obtain ⟨a, cap, hv⟩ := own_shape g.own
      rw [hv] at HG
      clear g
      go_wp2
      go_ret
      exact ⟨_, rfl, HG.out⟩
end Go.Proofs.YtpmjojemcpgpiaaDoor
