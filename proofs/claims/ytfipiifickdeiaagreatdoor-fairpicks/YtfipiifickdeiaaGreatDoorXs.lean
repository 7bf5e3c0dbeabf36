/- The texts Sl Sa Sb of one layer, laid together. -/
import Derived.Test.YtfipiifickdeiaaGreatDoorRows
import Derived.Test.YtfipiifickdeiaaGreatDoorXb
import Derived.WalkKit
import Derived.ProofKit
import Derived.OpenShut
import Derived.BigQuiet
import Derived.Deep.OwnRows
import Derived.Laws.Bits64b
import Derived.Laws.BitsAllLaws
namespace Go.Proofs.YtfipiifickdeiaaGreatDoor.Sl
open Mm
/-- A set with one number in it, or out of it. -/
def st (O : Nat → Bool) (n : Nat) (v : Bool) : Nat → Bool := fun j => if j = n then v else O j
/-- All that are given out, rising. -/
def li (m : Nat) (O : Nat → Bool) : List Int := ((List.range m).filter fun i => O (i + 1)).map fun i : Nat => ((i + 1 : Nat) : Int)
/-- The lowest one that is free, one less. -/
def ff (m : Nat) (O : Nat → Bool) : Option Nat := (List.range m).find? fun i => !O (i + 1)
def tN : Option Nat → Int | some i => ((i + 1 : Nat) : Int) | none => 0
def tE : Option Nat → Int | some _ => 0 | none => 5
def tO (O : Nat → Bool) : Option Nat → (Nat → Bool) | some i => st O (i + 1) true | none => O
/-- Is a number given out? -/
def hs (m : Nat) (O : Nat → Bool) (n : Int) : Bool := decide (1 ≤ n ∧ n ≤ m) && O n.toNat
def gE (m : Nat) (O : Nat → Bool) (n : Int) : Int := if hs m O n = true then 0 else 4
def gO (m : Nat) (O : Nat → Bool) (n : Int) : Nat → Bool := if hs m O n = true then st O n.toNat false else O
theorem ff_some (m : Nat) (O : Nat → Bool) (i : Nat) (hi : i < m) (h : O (i + 1) = false) (g : ∀ j, j < i → O (j + 1) = true) : ff m O = some i := by
  unfold ff
  rw [List.find?_range_eq_some]
  refine ⟨by simp [h], List.mem_range.2 hi, fun j hj => ?_⟩
  simp [g j hj]
theorem ff_none (m : Nat) (O : Nat → Bool) (g : ∀ j, j < m → O (j + 1) = true) : ff m O = none := by
  unfold ff
  rw [List.find?_eq_none]
  intro x hx
  simp [g x (List.mem_range.1 hx)]
/-- The words hold the set. -/
structure Wd (m : Nat) (W : List Nat) (O : Nat → Bool) : Prop where
  len : W.length = (m + 63) / 64
  m1 : 1 ≤ m
  m2 : m ≤ 1024
  lt : ∀ j, j < W.length → W.getD j 0 < 18446744073709551616
  bit : ∀ j i, j < W.length → i < 64 → (W.getD j 0).testBit i = (decide (64 * j + i < m) && O (64 * j + i + 1))
theorem getD_setN (r : List Nat) (p q : Nat) (n : Nat) (hp : p < r.length) : (r.set p n).getD q 0 = if q = p then n else r.getD q 0 := by
  simp only [List.getD, List.getElem?_set]
  by_cases h : p = q
  · subst h; simp [hp]
  · have : ¬ q = p := fun e => h e.symm
    simp [h, this]
theorem wd_new (m : Nat) (h1 : 1 ≤ m) (h2 : m ≤ 1024) : Wd m (List.replicate ((m + 63) / 64) 0) fun _ => false := by
  have e : ∀ j, (List.replicate ((m + 63) / 64) 0).getD j 0 = 0 := by
    intro j
    simp only [List.getD, List.getElem?_replicate]
    split <;> rfl
  refine ⟨by simp, h1, h2, fun j _ => by rw [e]; omega, fun j i _ _ => by rw [e]; simp⟩
theorem wd_set {m : Nat} {W : List Nat} {O : Nat → Bool} (h : Wd m W O) (j i : Nat) (hj : j < W.length) (hi : i < 64) (hm : 64 * j + i < m) :
    Wd m (W.set j (W.getD j 0 ||| 2 ^ i)) (st O (64 * j + i + 1) true) := by
  refine ⟨by simp [h.len], h.m1, h.m2, fun t ht => ?_, fun t s ht hs => ?_⟩
  · rw [getD_setN _ _ _ _ hj]
    split
    · exact or_lt (h.lt j hj) (Nat.lt_of_lt_of_eq (Nat.pow_lt_pow_right (by omega) hi) rfl)
    · exact h.lt t (by simpa using ht)
  · rw [getD_setN _ _ _ _ hj]
    have hb := h.bit t s (by simpa using ht) hs
    by_cases c : t = j
    · subst c
      rw [if_pos rfl, Nat.testBit_or, hb, Nat.testBit_two_pow]
      unfold st
      by_cases d : i = s
      · subst d
        simp [hm]
      · have d2 : ¬ s = i := fun e => d e.symm
        simp [d, d2]
    · rw [if_neg c, hb]
      unfold st
      rw [if_neg (by omega)]
theorem wd_clr {m : Nat} {W : List Nat} {O : Nat → Bool} (h : Wd m W O) (j i : Nat) (hj : j < W.length) (hi : i < 64) :
    Wd m (W.set j (nt (W.getD j 0) (2 ^ i))) (st O (64 * j + i + 1) false) := by
  have hp : 2 ^ i < 18446744073709551616 := Nat.lt_of_lt_of_eq (Nat.pow_lt_pow_right (by omega) hi) rfl
  refine ⟨by simp [h.len], h.m1, h.m2, fun t ht => ?_, fun t s ht hs => ?_⟩
  · rw [getD_setN _ _ _ _ hj]
    split
    · exact nt_lt _ _
    · exact h.lt t (by simpa using ht)
  · rw [getD_setN _ _ _ _ hj]
    have hb := h.bit t s (by simpa using ht) hs
    by_cases c : t = j
    · subst c
      rw [if_pos rfl, nt, Nat.testBit_and, hb, bit_max _ _ hp, Nat.testBit_two_pow]
      unfold st
      by_cases d : i = s
      · subst d
        simp
      · have d2 : ¬ s = i := fun e => d e.symm
        simp [d, d2, hs]
    · rw [if_neg c, hb]
      unfold st
      rw [if_neg (by omega)]
theorem wd_has {m : Nat} {W : List Nat} {O : Nat → Bool} (h : Wd m W O) (n : Nat) (h1 : 1 ≤ n) (h2 : n ≤ m) :
    (n - 1) / 64 < W.length ∧ ((W.getD ((n - 1) / 64) 0 &&& 2 ^ ((n - 1) % 64) = 0) = (O n = false)) := by
  have hj : (n - 1) / 64 < W.length := by rw [h.len]; omega
  refine ⟨hj, ?_⟩
  have hb := h.bit ((n - 1) / 64) ((n - 1) % 64) hj (by omega)
  have e : 64 * ((n - 1) / 64) + (n - 1) % 64 = n - 1 := by omega
  rw [e, show n - 1 + 1 = n by omega] at hb
  have hd : decide (n - 1 < m) = true := decide_eq_true (by omega)
  rw [hd, Bool.true_and] at hb
  have hc : 0 ≤ (((n - 1) % 64 : Nat) : Int) ∧ (((n - 1) % 64 : Nat) : Int) < 64 := by omega
  have k := and_bv (W.getD ((n - 1) / 64) 0) (((n - 1) % 64 : Nat) : Int)
  rw [bv_some _ hc, tb_nat _ _ (by omega), hb, Int.toNat_natCast] at k
  exact k
/-- What the first k words hold, as a list. -/
def lk (W : List Nat) (k : Nat) : List Int := (List.range k).flatMap fun j => (ls (W.getD j 0)).map fun i : Nat => ((64 * j + i + 1 : Nat) : Int)
theorem lk_succ (W : List Nat) (k : Nat) : lk W (k + 1) = lk W k ++ (ls (W.getD k 0)).map fun i : Nat => ((64 * k + i + 1 : Nat) : Int) := by
  unfold lk
  rw [List.range_succ, List.flatMap_append]
  simp
theorem lk_is {m : Nat} {W : List Nat} {O : Nat → Bool} (h : Wd m W O) : ∀ k, k ≤ W.length → lk W k = ((List.range (64 * k)).filter fun t => decide (t < m) && O (t + 1)).map fun t : Nat => ((t + 1 : Nat) : Int)
  | 0, _ => by simp [lk]
  | k + 1, hk => by
    rw [lk_succ, lk_is h k (by omega), show 64 * (k + 1) = 64 * k + 64 by omega, List.range_add, List.filter_append, List.map_append, List.filter_map, List.map_map]
    congr 1
    have e : ls (W.getD k 0) = (List.range 64).filter ((fun t => decide (t < m) && O (t + 1)) ∘ fun x => 64 * k + x) := by
      unfold ls
      apply List.filter_congr
      intro i hi
      exact h.bit k i (by omega) (List.mem_range.1 hi)
    rw [e]
    rfl
theorem lk_all {m : Nat} {W : List Nat} {O : Nat → Bool} (h : Wd m W O) : lk W W.length = li m O := by
  rw [lk_is h W.length (Nat.le_refl _)]
  have hl := h.len
  obtain ⟨d, hd⟩ : ∃ d, 64 * W.length = m + d := ⟨64 * W.length - m, by omega⟩
  rw [hd, List.range_add, List.filter_append, List.map_append]
  have e1 : (List.range m).filter (fun t => decide (t < m) && O (t + 1)) = (List.range m).filter fun i => O (i + 1) := by
    apply List.filter_congr
    intro i hi
    simp [List.mem_range.1 hi]
  have e2 : ((List.range d).map fun x => m + x).filter (fun t => decide (t < m) && O (t + 1)) = [] := by
    rw [List.filter_eq_nil_iff]
    intro t ht
    obtain ⟨x, _, rfl⟩ := List.mem_map.1 ht
    rw [decide_eq_false (show ¬ m + x < m by omega)]
    simp
  rw [e1, e2]
  simp [li]
theorem li_le (m : Nat) (O : Nat → Bool) : (li m O).length ≤ m := by
  unfold li
  rw [List.length_map]
  have := List.length_filter_le (fun i => O (i + 1)) (List.range m)
  simpa using this
theorem lk_le (W : List Nat) (k : Nat) : (lk W k).length ≤ 64 * k := by
  induction k with
  | zero => simp [lk]
  | succ k ih =>
    rw [lk_succ, List.length_append, List.length_map]
    have := ls_le (W.getD k 0)
    omega
/-- Without its lowest bit. -/
theorem and_pred_bit (x k q : Nat) (e : x = 2 ^ k * (2 * q + 1)) (i : Nat) : (x &&& (x - 1)).testBit i = (x.testBit i && decide (i ≠ k)) := by
  have hp := Nat.two_pow_pos k
  have e1 : x - 1 = 2 ^ k * (2 * q) + (2 ^ k - 1) := by
    rw [e, Nat.mul_add, Nat.mul_one]
    omega
  have b1 : x.testBit i = (decide (k ≤ i) && (2 * q + 1).testBit (i - k)) := by rw [e, Nat.mul_comm, Nat.testBit_mul_two_pow]
  rw [Nat.testBit_and, b1, e1, Nat.testBit_two_pow_mul_add _ (by omega)]
  by_cases c : i < k
  · have : ¬ k ≤ i := by omega
    simp [this]
  · rw [if_neg c]
    by_cases d : i = k
    · subst d
      simp
    · obtain ⟨t, ht⟩ : ∃ t, i - k = t + 1 := ⟨i - k - 1, by omega⟩
      rw [ht]
      have a1 : (2 * q + 1).testBit (t + 1) = q.testBit t := by rw [Nat.testBit_add_one]; congr 1; omega
      have a2 : (2 * q).testBit (t + 1) = q.testBit t := by rw [Nat.testBit_add_one]; congr 1; omega
      rw [a1, a2]
      cases q.testBit t <;> simp [d]
theorem ls_pred (x k q : Nat) (hk : k < 64) (e : x = 2 ^ k * (2 * q + 1)) : ls x = k :: ls (x &&& (x - 1)) := by
  have h1 : hd (ls x) = k := hd_of x k q hk e
  have hm : k ∈ ls x := by
    rw [mem_ls]
    refine ⟨hk, ?_⟩
    rw [e, Nat.mul_comm, Nat.testBit_mul_two_pow]
    simp
  have h2 : ls (x &&& (x - 1)) = (ls x).filter fun i => decide (i ≠ k) := by
    unfold ls
    rw [List.filter_filter]
    apply List.filter_congr
    intro i _
    rw [and_pred_bit x k q e i, Bool.and_comm]
  have hn : (ls x).Nodup := List.Pairwise.filter _ List.nodup_range
  rw [h2]
  cases hc : ls x with
  | nil => rw [hc] at hm; simp at hm
  | cons a r =>
    rw [hc] at h1 hn
    have : a = k := by simpa [hd] using h1
    subst this
    rw [List.nodup_cons] at hn
    congr 1
    rw [List.filter_cons, if_neg (by simp)]
    symm
    rw [List.filter_eq_self]
    intro b hb
    have : b ≠ a := fun e2 => hn.1 (e2 ▸ hb)
    simp [this]
end Go.Proofs.YtfipiifickdeiaaGreatDoor.Sl
namespace Go.Proofs.YtfipiifickdeiaaGreatDoor.Slt
open Go.ChangeShapes Go.WideShapes Go.ChangeAt Go.RowKit
open Mm Sl
theorem Tryz.infoW : (Tryz.prog.info? 23).map (fun i => (i.zero, i.size, i.bytes)) = some (some (.int .u64 0), 1, 8) := by kernel_rfl
def wv (x : Nat) : Value := .int .u64 (x : Int)
theorem made_word (n : Nat) : madeCells #[Value.int .u64 0] n = ((List.replicate n 0).map wv).toArray := by
  apply Array.ext
  · simp [size_madeCells]
  · intro i h1 h2
    simp [madeCells, Nat.mod_one, wv]
theorem getD_map_wv (xs : List Nat) (i : Nat) (h : i < xs.length) : (xs.map wv)[i]? = some (.int .u64 ((xs.getD i 0 : Nat) : Int)) := by
  rw [List.getElem?_map, List.getElem?_eq_getElem h, List.getD_eq_getElem?_getD, List.getElem?_eq_getElem h]
  rfl
/-- The table at block b, its words at block g. -/
structure T (w : World) (b g m : Nat) (W : List Nat) (O : Nat → Bool) : Prop where
  sb : Blk w b [.slice (some ⟨g, 0, none⟩) W.length W.length, .int .i64 (m : Int)] 213
  sg : Blk w g (W.map wv) 23
  wd : Wd m W O
theorem T.c0 {w : World} {b g m : Nat} {W : List Nat} {O : Nat → Bool} (h : T w b g m W O) : w.cell? ⟨b, 0, none⟩ = some (.slice (some ⟨g, 0, none⟩) W.length W.length) := h.sb.cell 0
theorem T.c1 {w : World} {b g m : Nat} {W : List Nat} {O : Nat → Bool} (h : T w b g m W O) : w.cell? ⟨b, 1, none⟩ = some (.int .i64 (m : Int)) := h.sb.cell 1
theorem T.ne {w : World} {b g m : Nat} {W : List Nat} {O : Nat → Bool} (h : T w b g m W O) : b ≠ g := h.sb.ne h.sg (by decide)
theorem T.heap {w w1 : World} {b g m : Nat} {W : List Nat} {O : Nat → Bool} (h : T w b g m W O) (e : w1.heap = w.heap) : T w1 b g m W O := ⟨h.sb.heap e, h.sg.heap e, h.wd⟩
theorem T.keep {B : Nat} {S : List Nat} {w w' : World} {b g m : Nat} {W : List Nat} {O : Nat → Bool} (h : T w b g m W O) (k : Fr B S w w') (hb : b < B ∧ g < B) (hs : b ∉ S ∧ g ∉ S) : T w' b g m W O :=
  ⟨h.sb.keep k hb.1 hs.1, h.sg.keep k hb.2 hs.2, h.wd⟩
theorem T.word {w : World} {b g m : Nat} {W : List Nat} {O : Nat → Bool} (h : T w b g m W O) {j : Nat} (hj : j < W.length) : w.cell? ⟨g, j, none⟩ = some (.int .u64 ((W.getD j 0 : Nat) : Int)) := by
  rw [h.sg.cell, getD_map_wv W j hj]
theorem T.len {w : World} {b g m : Nat} {W : List Nat} {O : Nat → Bool} (h : T w b g m W O) : (W.length : Int) ≤ 16 := by have := h.wd.len; have := h.wd.m2; omega
/-- Behind a store into a word. -/
theorem t_store {w : World} {b g m : Nat} {W : List Nat} {O O' : Nat → Bool} (h : T w b g m W O) (j x : Nat) (k : Wd m (W.set j x) O') :
    T (w.setCell ⟨g, j, none⟩ (.int .u64 (x : Int))) b g m (W.set j x) O' := by
  refine ⟨?_, ?_, k⟩
  · have := h.sb.other (p := ⟨g, j, none⟩) h.ne (.int .u64 (x : Int))
    simpa using this
  · have := h.sg.set j (.int .u64 (x : Int))
    rw [show Value.int .u64 (x : Int) = wv x from rfl] at this ⊢
    rwa [← List.map_set] at this
set_option maxHeartbeats 400000 in
theorem new_any (m : Nat) (w : World) (h1 : (1 : Int) ≤ m) (h2 : (m : Int) ≤ 1024) :
    Calls Tryz.prog 47 #[.int .i64 (m : Int)] w fun e w' => e = .returned (.tuple #[.pointer (some ⟨w.heap.size + 1, 0, none⟩), .int .i64 0]) ∧ (∃ W, T w' (w.heap.size + 1) w.heap.size m W fun _ => false) ∧ Fr w.heap.size [] w w' := by
  obtain ⟨n, hn⟩ : ∃ n, (m + 63) / 64 = n := ⟨_, rfl⟩
  have G := wd_new m (by omega) (by omega)
  rw [hn] at G
  have hq : ((m : Int) + 64 - 1).tdiv 64 = (n : Int) := by rw [Int.tdiv_eq_ediv_of_nonneg (by omega)]; omega
  have hmk := run_make_row' (P := Tryz.prog) 211 23 (.int .u64 0) 8 Tryz.underlying211 Tryz.infoW rfl .i64 .i64 n (by omega) (by omega)
  have F : Hid (∀ o1 o2, Fr w.heap.size [] w ((w.alloc o1).alloc o2)) := fun o1 o2 => ((Fr.refl _ _ _).alloc (Nat.le_refl _) o1).alloc (by simp) o2
  have HG : Hid (Wd m (List.replicate n 0) fun _ => false) := G
  clear G
  go_enter Tryz.func47, Tryz.ntmps47
  go_wp2
  go_ret2
  refine ⟨rfl, ⟨List.replicate n 0, ?_, ?_, HG.out⟩, F.out _ _⟩
  · have := Blk.new (w.alloc (Obj.cells (madeCells #[Value.int IntKind.u64 0] n) 23)) [.slice (some ⟨w.heap.size, 0, none⟩) n n, .int .i64 (m : Int)] 213
    simpa using this
  · rw [made_word]
    exact (Blk.new w _ 23).alloc _
theorem number_any (j i : Nat) (w : World) (hj : (j : Int) ≤ 16) (hi : (i : Int) ≤ 64) :
    Calls Tryz.prog 250 #[.int .i64 (j : Int), .int .i64 (i : Int)] w fun e w' => e = .returned (.int .i64 ((64 * j + i + 1 : Nat) : Int)) ∧ w' = w := by
  rw [show ((64 * j + i + 1 : Nat) : Int) = (j : Int) * 64 + i + 1 by omega]
  go_enter Tryz.func250, Tryz.ntmps250
  go_wp2
  go_ret
  exact ⟨rfl, rfl⟩
theorem ret_place {a b c d : Int} (h : a = b) (g : c = d) : Ending.returned (.tuple #[.int .i64 a, .int .u64 c]) = .returned (.tuple #[.int .i64 b, .int .u64 d]) := by rw [h, g]
theorem pow_word (k : Nat) (h : k < 64) : IntKind.u64.wrap ((2 : Int) ^ k) = ((2 ^ k : Nat) : Int) := by
  have hp : 2 ^ k < 18446744073709551616 := Nat.lt_of_lt_of_eq (Nat.pow_lt_pow_right (by omega) h) rfl
  have e : ((2 : Int) ^ k) = ((2 ^ k : Nat) : Int) := by simp
  rw [e]
  exact wrapN _ hp
theorem pow_lt (k : Nat) (h : k < 64) : 2 ^ k < 18446744073709551616 := Nat.lt_of_lt_of_eq (Nat.pow_lt_pow_right (by omega) h) rfl
set_option maxHeartbeats 400000 in
theorem place_any (n : Nat) (w : World) (h1 : (1 : Int) ≤ n) (h2 : (n : Int) ≤ 1024) :
    Calls Tryz.prog 244 #[.int .i64 (n : Int)] w fun e w' => e = .returned (.tuple #[.int .i64 (((n - 1) / 64 : Nat) : Int), .int .u64 ((2 ^ ((n - 1) % 64) : Nat) : Int)]) ∧ w' = w := by
  have P : Hid (IntKind.u64.wrap ((2 : Int) ^ ((n - 1) % 64)) = ((2 ^ ((n - 1) % 64) : Nat) : Int)) := pow_word _ (by omega)
  have D : Hid (((n : Int) - 1) / 64 = (((n - 1) / 64 : Nat) : Int)) := by unfold Hid; omega
  go_enter Tryz.func244, Tryz.ntmps244
  go_wp2
  go_ret2
  exact ⟨ret_place D.out P.out, rfl⟩
set_option maxHeartbeats 400000 in
theorem len_any {b g m : Nat} {W : List Nat} {O : Nat → Bool} (w : World) (h : T w b g m W O) :
    Calls Tryz.prog 337 #[.pointer (some ⟨b, 0, none⟩)] w fun e w' => e = .returned (.int .i64 ((li m O).length : Int)) ∧ w' = w := by
  have c0 := h.c0
  have hl := h.len
  have HW : Hid (∀ j : Nat, (j : Int) < W.length → w.cell? ⟨g, j, none⟩ = some (.int .u64 ((W.getD j 0 : Nat) : Int)) ∧ W.getD j 0 < 18446744073709551616) := fun j hj => ⟨h.word (by omega), h.wd.lt j (by omega)⟩
  have HE : Hid ((li m O).length = (lk W W.length).length) := by rw [lk_all h.wd]; exact rfl
  rw [HE.out]
  clear h
  obtain ⟨nw, hn⟩ : ∃ nw, W.length = nw := ⟨_, rfl⟩
  rw [hn] at c0 hl HW ⊢
  obtain ⟨R, hR⟩ : ∃ R, (lk W nw).length = R := ⟨_, rfl⟩
  have HR : Hid ((lk W nw).length = R) := hR
  rw [hR]
  clear hn hR HE
  go_enter Tryz.func337, Tryz.ntmps337
  go_wp2
  go_loop [12, 3] (fun i c => ∃ k C : Nat, (k : Int) ≤ nw ∧ Hid ((lk W k).length = C) ∧ (C : Int) ≤ 64 * k ∧ i = .int .i64 k ∧ c = .int .i64 C) (fun i _ => nw - (intOf i).toNat)
  case atStart => exact ⟨0, 0, by omega, rfl, by omega, rfl, rfl⟩
  case round =>
    obtain ⟨k, C, hk, hC, hcl, rfl, rfl⟩ := hrel
    by_cases e : (k : Int) < nw
    · obtain ⟨cg, lt⟩ := HW.out k e
      have D : Hid (∀ w, _) := fun w => ones_any (W.getD k 0) w lt
      have s : Hid ((lk W (k + 1)).length = C + (ls (W.getD k 0)).length) := by rw [lk_succ, List.length_append, List.length_map, hC.out]; exact rfl
      have hle : ((ls (W.getD k 0)).length : Int) ≤ 64 := by have := ls_le (W.getD k 0); omega
      generalize (ls (W.getD k 0)).length = q at *
      generalize W.getD k 0 = x at *
      clear lt
      go_wp2_with fail
      refine (D.out _).mono ?_
      rintro e w' ⟨rfl, rfl⟩
      go_wp2
      go_round
      case rel => exact ⟨k + 1, C + q, by omega, s, by omega, by go_num, by go_num⟩
      case measure => simp [intOf]; omega
    · have e2 : C = R := by rw [← hC.out, ← HR.out, show k = nw by omega]
      subst e2
      go_wp2
      go_ret
      exact ⟨rfl, rfl⟩
end Go.Proofs.YtfipiifickdeiaaGreatDoor.Slt
namespace Go.Proofs.YtfipiifickdeiaaGreatDoor.Slt
open Go.ChangeShapes Go.WideShapes Go.ChangeAt Go.RowKit
open Mm Sl
theorem not_bit {x i : Nat} (hx : x < 18446744073709551616) (hi : i < 64) : (18446744073709551615 - x).testBit i = !x.testBit i := by
  rw [bit_max x i hx, decide_eq_true hi, Bool.true_and]
theorem not_word (x : Nat) (hx : x < 18446744073709551616) : bits .xor .u64 IntKind.u64.max (x : Int) = ((18446744073709551615 - x : Nat) : Int) := by
  have e : (18446744073709551615 : Nat) ^^^ x = 18446744073709551615 - x := by
    apply Nat.eq_of_testBit_eq
    intro i
    rw [Nat.testBit_xor, bit_max x i hx, max_eq, Nat.testBit_two_pow_sub_one]
    by_cases hi : i < 64
    · simp [hi]
    · rw [bit_hi hx (by omega)]
      simp [hi]
  have h := u64_xor_nat 18446744073709551615 x (by omega) hx
  rw [e] at h
  exact h
theorem low_zero {y f q : Nat} (e : y = 2 ^ f * (2 * q + 1)) {i : Nat} (hi : i < f) : y.testBit i = false := by
  rw [e, Nat.mul_comm, Nat.testBit_mul_two_pow]
  have : ¬ f ≤ i := by omega
  simp [this]
theorem low_one {y f q : Nat} (e : y = 2 ^ f * (2 * q + 1)) : y.testBit f = true := by
  rw [e, Nat.mul_comm, Nat.testBit_mul_two_pow]
  simp
/-- A word all whose bits are 1. -/
theorem full_word {m : Nat} {W : List Nat} {O : Nat → Bool} (h : Wd m W O) {k : Nat} (hk : k < W.length) (e : W.getD k 0 = 18446744073709551615) (g : ∀ t, t < 64 * k → t < m → O (t + 1) = true) : ∀ t, t < 64 * (k + 1) → t < m → O (t + 1) = true := by
  intro t ht hm
  by_cases c : t < 64 * k
  · exact g t c hm
  · have hb := h.bit k (t - 64 * k) hk (by omega)
    rw [e, show 64 * k + (t - 64 * k) = t by omega] at hb
    have : (18446744073709551615 : Nat).testBit (t - 64 * k) = true := by
      rw [max_eq, Nat.testBit_two_pow_sub_one]
      exact decide_eq_true (by omega)
    rw [this] at hb
    have := hb.symm
    rw [Bool.and_eq_true] at this
    exact this.2
/-- The lowest bit of a word that is 0. -/
theorem part_word {m : Nat} {W : List Nat} {O : Nat → Bool} (h : Wd m W O) {k f q : Nat} (hk : k < W.length) (hf : f < 64) (e : 18446744073709551615 - W.getD k 0 = 2 ^ f * (2 * q + 1)) (g : ∀ t, t < 64 * k → t < m → O (t + 1) = true) :
    (∀ t, t < 64 * k + f → O (t + 1) = true ∨ m ≤ t) ∧ (64 * k + f < m → O (64 * k + f + 1) = false) := by
  have hx := h.lt k hk
  refine ⟨fun t ht => ?_, fun hm => ?_⟩
  · by_cases c : t < 64 * k
    · by_cases d : t < m
      · exact Or.inl (g t c d)
      · exact Or.inr (by omega)
    · have hb := h.bit k (t - 64 * k) hk (by omega)
      have hl := low_zero e (show t - 64 * k < f by omega)
      rw [not_bit hx (by omega), hb, show 64 * k + (t - 64 * k) = t by omega] at hl
      simp at hl
      exact Or.inl hl.2
  · have hb := h.bit k f hk hf
    have hl := low_one e
    rw [not_bit hx hf, hb, decide_eq_true hm] at hl
    simpa using hl
/-- What is gathered while one word is gone over: what is left of it. -/
theorem word_step {W : List Nat} {k x q f : Nat} {G : List Int} (hf : f < 64) (e : x = 2 ^ f * (2 * q + 1)) (h : G ++ (ls x).map (fun i : Nat => ((64 * k + i + 1 : Nat) : Int)) = lk W (k + 1)) :
    (G ++ [((64 * k + f + 1 : Nat) : Int)]) ++ (ls (x &&& (x - 1))).map (fun i : Nat => ((64 * k + i + 1 : Nat) : Int)) = lk W (k + 1) := by
  rw [ls_pred x f q hf e] at h
  rw [← h]
  simp
theorem and_pred_lt (x : Nat) (h : 0 < x) : x &&& (x - 1) < x := by
  have := Nat.and_le_right (n := x) (m := x - 1)
  omega
set_option maxRecDepth 100000 in
set_option maxHeartbeats 2000000 in
theorem list_any {b g m : Nat} {W : List Nat} {O : Nat → Bool} (w : World) (h : T w b g m W O) (ht : Tab w) (hs : 0 < w.heap.size) :
    Calls Tryz.prog 303 #[.pointer (some ⟨b, 0, none⟩)] w fun e w' => ∃ v, e = .returned v ∧ Gt w w' v (li m O) := by
  obtain ⟨i0, hi, hz0, hz1, hz2⟩ := info_parts Tryz.info3
  have C : Hid (∀ _ : Unit, _) := fun _ => len_any w h
  have c0 := h.c0
  have hl := h.len
  have HT : Hid (T w b g m W O) := h
  have HB : Hid (∀ wr, Below w.heap.size w wr → Tab wr) := fun wr hb => ht.keep hs (by simp) (Fr.of_below hb)
  have HC : Hid (∀ wr, Below w.heap.size w wr → wr.cell? ⟨b, 0, none⟩ = some (.slice (some ⟨g, 0, none⟩) W.length W.length)) := fun wr hb => (hb.cell (p := ⟨b, 0, none⟩) h.sb.lt).trans h.c0
  have HW : Hid (∀ (wr : World) (j : Nat), Below w.heap.size w wr → (j : Int) < W.length → wr.cell? ⟨g, j, none⟩ = some (.int .u64 ((W.getD j 0 : Nat) : Int)) ∧ W.getD j 0 < 18446744073709551616) := fun wr j hb hj => ⟨(hb.cell (p := ⟨g, j, none⟩) h.sg.lt).trans (h.word (by omega)), h.wd.lt j (by omega)⟩
  have hlen : ((li m O).length : Int) ≤ 1024 := by have := li_le m O; have := h.wd.m2; omega
  have HE : Hid (lk W W.length = li m O) := lk_all h.wd
  obtain ⟨R, hR⟩ : ∃ R, li m O = R := ⟨_, rfl⟩
  rw [hR] at C hlen HE ⊢
  obtain ⟨N, hN⟩ : ∃ N, R.length = N := ⟨_, rfl⟩
  rw [hN] at C hlen
  obtain ⟨nw, hn⟩ : ∃ nw, W.length = nw := ⟨_, rfl⟩
  rw [hn] at c0 hl HC HW HE
  clear h ht hR hN hn
  go_enter Tryz.func303, Tryz.ntmps303
  go_wp2_with fail
  refine (C.out ()).mono ?_
  rintro e w' ⟨rfl, rfl⟩
  go_wp2_with (at_make; refine wpList_make_own _ rfl _ _ 22 rfl w'.heap.size 3 i0 (.int .i64 0) 1 Tryz.underlying22 hi hz0 hz1 _ _ _ N rfl rfl (by omega) (by rw [hz2]; omega) (by unfold maxLen; omega) (Nat.le_refl _) ?_; intro w0 hown0 hgrow0; have g0 : Gt w' w0 (.slice (some ⟨w'.heap.size, 0, none⟩) 0 N) [] := ⟨hown0, (Below.refl _ _).grown hgrow0 (Nat.le_refl _) (fun k hk => by cases hk)⟩; have k0 := HC.out w0 g0.bel; clear hown0 hgrow0)
  go_loopw [3, 16] (fun v i wr => ∃ (k : Nat) (G : List Int), (k : Int) ≤ nw ∧ i = .int .i64 k ∧ Gt w' wr v G ∧ Hid (G = lk W k)) (fun _ i _ => nw - (intOf i).toNat)
  case atStart => exact ⟨0, [], by omega, rfl, g0, rfl⟩
  case round =>
    obtain ⟨k, G, hk, rfl, gt, hG⟩ := hrel
    clear g0 k0
    by_cases e : (k : Int) < nw
    · have c1 := HC.out wr gt.bel
      obtain ⟨cg, lt⟩ := HW.out wr k gt.bel e
      have HG : Hid (G ++ (ls (W.getD k 0)).map (fun i : Nat => ((64 * k + i + 1 : Nat) : Int)) = lk W (k + 1)) := by rw [hG.out, lk_succ]; exact rfl
      generalize W.getD k 0 = x at *
      have GT : Hid (Gt w' wr _ G) := gt
      have lx : Hid ((x : Int) < 18446744073709551616) := by unfold Hid; omega
      clear hG gt lt
      go_wp2
      go_loopw [3, 5] (fun v l wr => ∃ (x : Nat) (G : List Int), l = .int .u64 x ∧ Hid ((x : Int) < 18446744073709551616) ∧ Gt w' wr v G ∧ Hid (G ++ (ls x).map (fun i : Nat => ((64 * k + i + 1 : Nat) : Int)) = lk W (k + 1))) (fun _ l _ => (intOf l).toNat)
      case atStart => exact ⟨x, G, rfl, lx, GT.out, HG⟩
      case round =>
        obtain ⟨y, G2, rfl, hY, gt2, hG2⟩ := hrel
        have hy := hY.out
        clear GT HG c1 cg lx
        by_cases z : y = 0
        · subst z
          have hG3 : Hid (G2 = lk W (k + 1)) := by
            have := hG2.out
            rw [ls_zero, List.map_nil, List.append_nil] at this
            exact this
          clear hG2 hy
          go_wp2
          go_roundw
          case rel => exact ⟨k + 1, G2, by omega, by go_num, gt2, hG3⟩
          case measure => simp [intOf]; omega
        · have Z : Hid (∀ _ : Unit, _) := fun _ => tz_any y wr (by omega) (by omega) (HB.out wr gt2.bel)
          obtain ⟨q, eq, hf⟩ := odd_spec 64 y (by omega) (by omega)
          generalize Lib.ntzAux 64 y = f at *
          have NM : Hid (∀ w, _) := fun w => number_any k f w (by omega) (by omega)
          have hG3 : Hid _ := word_step hf eq hG2.out
          have hgl : (G2.length : Int) ≤ 1100 := by
            have h1 := congrArg List.length hG2.out
            have h2 := lk_le W (k + 1)
            rw [List.length_append] at h1
            omega
          have y1 : (1 : Int) ≤ y := by omega
          have ha : bits .and .u64 (y : Int) (IntKind.u64.wrap ((y : Int) - 1)) = ((y &&& (y - 1) : Nat) : Int) := by
            rw [show IntKind.u64.wrap ((y : Int) - 1) = ((y - 1 : Nat) : Int) by rw [IntKind.wrap_u64]; omega]
            exact bits_and_u64_nat y (y - 1) (by omega) (by omega)
          have hlt : ((y &&& (y - 1) : Nat) : Int) < y := by have := and_pred_lt y (by omega); omega
          have hsz := gt2.bel.size
          have GT2 : Hid (Gt w' wr _ G2) := gt2
          obtain ⟨n, hn⟩ : ∃ n, ((64 * k + f + 1 : Nat) : Int) = n := ⟨_, rfl⟩
          rw [hn] at NM hG3
          generalize y &&& (y - 1) = y2 at *
          have hY2 : Hid ((y2 : Int) < 18446744073709551616) := by unfold Hid; omega
          have yb : ((y : Int) != 0) = true := by simp; omega
          have HA : Hid (bits .and .u64 (y : Int) (IntKind.u64.wrap ((y : Int) - 1)) = (y2 : Int)) := ha
          clear hG2 eq hf z hn gt2 hy y1 ha
          go_wp2_with fail
          refine (Z.out ()).mono ?_
          rintro e w1 ⟨rfl, rfl⟩
          go_wp2_with fail
          refine (NM.out _).mono ?_
          rintro e w1 ⟨rfl, rfl⟩
          go_wp2_with (at_builtin; refine wpList_append_own _ rfl _ _ 22 rfl w'.heap.size 3 i0 (.int .i64 0) 1 8 Tryz.underlying22 hi hz0 hz1 hz2 rfl (by decide) _ _ _ rfl (GT2.out.own.alloc _) ⟨_, 0, none⟩ 1 1 [.int .i64 n] rfl rfl ?c1 ?c2 ?c3 ?c4 ?c5 ?_)
          case c1 =>
            intro j u hj
            match j, hj with
            | 0, hj => simp at hj; subst hj; exact (Blk.new _ [_] _).cell 0
          case c2 => intro u hu; simp at hu; subst hu; rfl
          case c3 => unfold maxLen; omega
          case c4 => omega
          case c5 => simp; omega
          intro v' w2 hown' hgrow _
          have G3 := gt_app GT2.out hown' hgrow
          have ha := HA.out
          clear hown' hgrow yb
          go_wp2
          go_roundw
          case rel => exact ⟨y2, _, rfl, hY2, G3, hG3⟩
          case measure => simp [intOf]; omega
    · have e2 : G = R := by rw [hG.out, show k = nw by omega]; exact HE.out
      subst e2
      go_wp2
      go_ret
      exact ⟨_, rfl, gt⟩
end Go.Proofs.YtfipiifickdeiaaGreatDoor.Slt
