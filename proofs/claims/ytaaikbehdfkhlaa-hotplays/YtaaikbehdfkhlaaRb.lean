/- The document's run as it lies in memory (davitref21); what its calls answer and leave, for every one. -/
import Derived.Test.YtaaikbehdfkhlaaRows
import Derived.Test.YtaaikbehdfkhlaaRm
import Derived.Test.YtaaikbehdfkhlaaFg
import Derived.WalkKit
import Derived.ProofKit
import Derived.OpenShut
import Derived.BigQuiet
import Derived.Deep.OwnRows
namespace Go.Proofs.Ytaaikbehdfkhlaa
open Go.ChangeShapes Go.WideShapes Go.ChangeAt Go.RowKit
open Rm

/-- Truths of which the first d are true. -/
def tl (n d : Nat) : List Value := (List.range n).map fun i => Value.bool (decide (i < d))
theorem tl_at {n d i : Nat} (h : i < n) : (tl n d)[i]? = some (.bool (decide (i < d))) := by
  unfold tl
  rw [List.getElem?_map, List.getElem?_range h]
  rfl
theorem tl_set {n d k e : Nat} (v : Bool) (h : ∀ i, i < n → (if i = k then v else decide (i < d)) = decide (i < e)) : (tl n d).set k (.bool v) = tl n e := by
  unfold tl
  apply List.ext_getElem?
  intro i
  rw [List.getElem?_set]
  by_cases hi : i < n
  · have g := h i hi
    by_cases hk : k = i
    · subst hk
      rw [if_pos rfl] at g
      rw [if_pos rfl, if_pos (by simpa using hi), List.getElem?_map, List.getElem?_range hi, g]
      rfl
    · rw [if_neg (fun e => hk e.symm)] at g
      rw [if_neg hk, List.getElem?_map, List.getElem?_map, List.getElem?_range hi]
      simp only [Option.map_some]
      rw [g]
  · rw [List.getElem?_eq_none (show ((List.range n).map fun i => Value.bool (decide (i < e))).length ≤ i by simp; omega)]
    split
    · split
      · rename_i h1 h2
        simp at h2
        omega
      · rfl
    · exact List.getElem?_eq_none (by simp; omega)

/-- The document's run at block r, its list at block l. -/
structure RD (w : World) (r l n d : Nat) (bk : Bool) : Prop where
  sb : Blk w r [.slice (some ⟨l, 0, none⟩) n n, .bool bk] 67
  sl : Blk w l (tl n d) 4
  n1 : 1 ≤ n
  n2 : n ≤ 64
  dn : d ≤ n

section
variable {w w1 : World} {r l n d : Nat} {bk : Bool}
theorem RD.c0 (q : RD w r l n d bk) : w.cell? ⟨r, 0, none⟩ = some (.slice (some ⟨l, 0, none⟩) n n) := q.sb.cell 0
theorem RD.c1 (q : RD w r l n d bk) : w.cell? ⟨r, 1, none⟩ = some (.bool bk) := q.sb.cell 1
theorem RD.f1 (q : RD w r l n d bk) : w.frozen? ⟨r, 1, none⟩ = false := q.sb.free 1
theorem RD.at (q : RD w r l n d bk) {i : Nat} (h : i < n) : w.cell? ⟨l, i, none⟩ = some (.bool (decide (i < d))) := (q.sl.cell i).trans (tl_at h)
theorem RD.fl (q : RD w r l n d bk) (i : Nat) : w.frozen? ⟨l, i, none⟩ = false := q.sl.free i
theorem RD.ne (q : RD w r l n d bk) : r ≠ l := q.sb.ne q.sl (by decide)
theorem RD.heap (q : RD w r l n d bk) (e : w1.heap = w.heap) : RD w1 r l n d bk := ⟨q.sb.heap e, q.sl.heap e, q.n1, q.n2, q.dn⟩
theorem RD.keep {B : Nat} {S : List Nat} (q : RD w r l n d bk) (k : Fr B S w w1) (hb : r < B) (hs : r ∉ S) (hb2 : l < B) (hs2 : l ∉ S) : RD w1 r l n d bk := ⟨q.sb.keep k hb hs, q.sl.keep k hb2 hs2, q.n1, q.n2, q.dn⟩
theorem rd_b (q : RD w r l n d bk) (x : Bool) : RD (w.setCell ⟨r, 1, none⟩ (.bool x)) r l n d x := ⟨q.sb.set 1 _, q.sl.other q.ne.symm _, q.n1, q.n2, q.dn⟩
theorem rd_up (q : RD w r l n d bk) (h : d < n) : RD (w.setCell ⟨l, d, none⟩ (.bool true)) r l n (d + 1) bk := by
  refine ⟨q.sb.other q.ne _, ?_, q.n1, q.n2, h⟩
  have := q.sl.set d (.bool true)
  rwa [tl_set (e := d + 1) true (fun i hi => by by_cases e : i = d <;> simp [e]; omega)] at this
theorem rd_down (q : RD w r l n d bk) (h : 0 < d) : RD (w.setCell ⟨l, d - 1, none⟩ (.bool false)) r l n (d - 1) bk := by
  refine ⟨q.sb.other q.ne _, ?_, q.n1, q.n2, by have := q.dn; omega⟩
  have := q.sl.set (d - 1) (.bool false)
  rwa [tl_set (e := d - 1) false (fun i hi => by by_cases e : i = d - 1 <;> simp [e]; omega)] at this
end

theorem Try.infoB : (Try.prog.info? 4).map (fun i => (i.zero, i.size, i.bytes)) = some (some (.bool false), 1, 1) := by kernel_rfl
theorem tl_made (n : Nat) : madeCells #[Value.bool false] n = (tl n 0).toArray := by
  apply Array.ext
  · simp [size_madeCells, tl]
  · intro i h1 h2
    simp [madeCells, Nat.mod_one, tl]

theorem dnew_bad (n : Int) (w : World) (h : n < 1 ∨ 64 < n) :
    Calls Try.prog 10 #[.int .i64 n] w fun e w' => e = .returned (.tuple #[.pointer none, .int .i64 2]) ∧ Sm w' w := by
  rcases h with h | h
  · go_enter Try.func10, Try.ntmps10
    go_wp2
    go_ret2
    exact ⟨rfl, rfl, rfl, rfl, rfl⟩
  · have h2 : ¬ n < 1 := by omega
    go_enter Try.func10, Try.ntmps10
    go_wp2
    go_ret2
    exact ⟨rfl, rfl, rfl, rfl, rfl⟩
set_option maxHeartbeats 400000 in
theorem dnew_any (n : Nat) (w : World) (h1 : (1 : Int) ≤ n) (h2 : (n : Int) ≤ 64) :
    Calls Try.prog 10 #[.int .i64 (n : Int)] w fun e w' => e = .returned (.tuple #[.pointer (some ⟨w.heap.size + 1, 0, none⟩), .int .i64 0]) ∧ RD w' (w.heap.size + 1) w.heap.size n 0 false ∧ Below w.heap.size w w' := by
  have hmk := run_make_row' (P := Try.prog) 22 4 (.bool false) 1 Try.underlying22 Try.infoB rfl .i64 .i64 n (by omega) (by omega)
  have B : Hid (∀ o1 o2, Below w.heap.size w ((w.alloc o1).alloc o2)) := fun o1 o2 => ((Below.refl _ _).alloc (Nat.le_refl _) o1).alloc (by simp) o2
  have G : Hid (RD ((w.alloc (.cells (madeCells #[.bool false] n) 4)).alloc (.cells #[.slice (some ⟨w.heap.size, 0, none⟩) n n, .bool false] 67)) (w.heap.size + 1) w.heap.size n 0 false) := by
    refine ⟨?_, ?_, by omega, by omega, by omega⟩
    · have := Blk.new (w.alloc (.cells (madeCells #[.bool false] n) 4)) [.slice (some ⟨w.heap.size, 0, none⟩) n n, .bool false] 67
      simpa using this
    · rw [tl_made]
      exact (Blk.new w _ 4).alloc _
  go_enter Try.func10, Try.ntmps10
  go_wp2
  go_ret2
  exact ⟨rfl, G.out, B.out _ _⟩

set_option maxHeartbeats 1000000 in
theorem dat_any {r l n d : Nat} {bk : Bool} (w : World) (q : RD w r l n d bk) :
    Calls Try.prog 17 #[.pointer (some ⟨r, 0, none⟩)] w fun e w' => e = .returned (.tuple #[.int .i64 ((atK n d bk : Nat) : Int), .bool bk, .bool (ov n d bk)]) ∧ w' = w := by
  have c0 := q.c0
  have c1 := q.c1
  have HA : Hid (∀ i, i < n → w.cell? ⟨l, i, none⟩ = some (.bool (decide (i < d)))) := fun i h => q.at h
  have n2 : (n : Int) ≤ 64 := by have := q.n2; omega
  have dn : (d : Int) ≤ n := by have := q.dn; omega
  cases bk
  · have hq : (ov n d false = false ∧ atK n d false = d ∧ (d : Int) < n) ∨ (ov n d false = true ∧ atK n d false = 0 ∧ ¬ (d : Int) < n) := by
      rcases four false q.dn with ⟨e, _⟩ | ⟨e, _⟩ | ⟨_, h⟩ | ⟨_, h⟩
      · cases e
      · cases e
      · exact Or.inl ⟨ov_f h, at_f h, by omega⟩
      · subst h
        exact Or.inr ⟨ov_n _, at_n _, by omega⟩
    generalize ov n d false = o at *
    generalize atK n d false = a at *
    clear q
    go_enter Try.func17, Try.ntmps17
    go_wp2
    go_loop [6] (fun i => ∃ k : Nat, (k : Int) ≤ d ∧ i = .int .i64 k) (fun i => d - (intOf i).toNat)
    case atStart => exact ⟨0, by omega, rfl⟩
    case round =>
      obtain ⟨k, hk, rfl⟩ := hrel
      by_cases e : (k : Int) < d
      · have h1 : (k : Int) < n := by omega
        have hc := HA.out k (by omega)
        rw [decide_eq_true (by omega)] at hc
        clear hq
        go_wp2
        go_round
        case rel => exact ⟨k + 1, by omega, by go_num⟩
        case measure => simp [intOf]; omega
      · obtain rfl : k = d := by omega
        rcases hq with ⟨rfl, rfl, h⟩ | ⟨rfl, rfl, h⟩
        · have hc := HA.out a (by omega)
          rw [decide_eq_false (by omega)] at hc
          clear e
          go_wp2
          go_ret3
          exact ⟨rfl, rfl⟩
        · have hd : decide ((k : Int) < n) = false := decide_eq_false (by omega)
          clear e
          go_wp2
          go_ret3
          exact ⟨rfl, rfl⟩
  · have hq : (ov n d true = false ∧ (d : Int) - 1 = ((atK n d true : Nat) : Int) ∧ (0 : Int) < d) ∨ (ov n d true = true ∧ atK n d true = 0 ∧ d = 0) := by
      rcases four true q.dn with ⟨_, h⟩ | ⟨_, h⟩ | ⟨e, _⟩ | ⟨e, _⟩
      · subst h
        exact Or.inr ⟨ov_b0 _, at_b0 _, rfl⟩
      · exact Or.inl ⟨ov_b h, by rw [at_b]; omega, by omega⟩
      · cases e
      · cases e
    generalize ov n d true = o at *
    generalize atK n d true = a at *
    clear q
    go_enter Try.func17, Try.ntmps17
    go_wp2
    go_loop [5] (fun i => ∃ k : Nat, (d : Int) ≤ k ∧ (k : Int) ≤ n ∧ i = .int .i64 k) (fun i => (intOf i).toNat)
    case atStart => exact ⟨n, by omega, by omega, rfl⟩
    case round =>
      obtain ⟨k, hk, hk2, rfl⟩ := hrel
      by_cases e : (d : Int) < k
      · obtain ⟨p, rfl⟩ : ∃ p, k = p + 1 := ⟨k - 1, by omega⟩
        have hc := HA.out p (by omega)
        rw [decide_eq_false (by omega)] at hc
        have h0 : (0 : Int) < ((p + 1 : Nat) : Int) := by omega
        have hp : ((p + 1 : Nat) : Int) - 1 = (p : Int) := by omega
        have hpn : (p : Int) < n := by omega
        have hm : (intOf (.int .i64 (p : Int))).toNat < (intOf (.int .i64 ((p + 1 : Nat) : Int))).toNat := by simp [intOf]
        have R : Hid ((d : Int) ≤ p ∧ (p : Int) ≤ n) := ⟨by omega, by omega⟩
        generalize ((p + 1 : Nat) : Int) = y at *
        clear hq e
        go_wp2
        go_round
        case rel => exact ⟨p, R.out.1, R.out.2, rfl⟩
        case measure => exact hm
      · obtain rfl : k = d := by omega
        rcases hq with ⟨rfl, ha, h⟩ | ⟨rfl, rfl, rfl⟩
        · have hc := HA.out a (by omega)
          rw [decide_eq_true (by omega)] at hc
          have han : (a : Int) < n := by omega
          clear e
          go_wp2
          go_ret3
          exact ⟨rfl, rfl⟩
        · clear e hk
          go_wp2
          go_ret3
          exact ⟨rfl, rfl⟩
set_option maxHeartbeats 1000000 in
theorem dmany_any {r l n d : Nat} {bk : Bool} (w : World) (q : RD w r l n d bk) :
    Calls Try.prog 21 #[.pointer (some ⟨r, 0, none⟩)] w fun e w' => e = .returned (.int .i64 (d : Int)) ∧ w' = w := by
  have c0 := q.c0
  have HA : Hid (∀ i, i < n → w.cell? ⟨l, i, none⟩ = some (.bool (decide (i < d)))) := fun i h => q.at h
  have n2 : (n : Int) ≤ 64 := by have := q.n2; omega
  have dn : (d : Int) ≤ n := by have := q.dn; omega
  clear q
  go_enter Try.func21, Try.ntmps21
  go_wp2
  go_loop [3, 4] (fun c i => ∃ k m : Nat, (k : Int) ≤ n ∧ Hid (m = min k d) ∧ (m : Int) ≤ k ∧ c = .int .i64 m ∧ i = .int .i64 k) (fun _ i => n - (intOf i).toNat)
  case atStart => exact ⟨0, 0, by omega, by show 0 = min 0 d; omega, by omega, rfl, rfl⟩
  case round =>
    obtain ⟨k, m, hk, hm, hmk, rfl, rfl⟩ := hrel
    by_cases h : (k : Int) < n
    · have hc := HA.out k (by omega)
      by_cases e : k < d
      · rw [decide_eq_true e] at hc
        have HS : Hid (m + 1 = min (k + 1) d) := by have := hm.out; show m + 1 = min (k + 1) d; omega
        clear e
        go_wp2
        go_round
        case rel => exact ⟨k + 1, m + 1, by omega, HS, by omega, by go_num, by go_num⟩
        case measure => simp [intOf]; omega
      · rw [decide_eq_false e] at hc
        have HS : Hid (m = min (k + 1) d) := by have := hm.out; show m = min (k + 1) d; omega
        clear e
        go_wp2
        go_round
        case rel => exact ⟨k + 1, m, by omega, HS, by omega, rfl, by go_num⟩
        case measure => simp [intOf]; omega
    · obtain rfl : m = d := by have := hm.out; omega
      have hd : decide ((k : Int) < n) = false := decide_eq_false (by omega)
      go_wp2
      go_ret
      exact ⟨rfl, rfl⟩
set_option maxHeartbeats 400000 in
theorem ddone_any {r l n d : Nat} {bk : Bool} (w : World) (q : RD w r l n d bk) :
    Calls Try.prog 13 #[.pointer (some ⟨r, 0, none⟩)] w fun e w' => e = .returned (.int .i64 (dnE n d bk)) ∧ RD w' r l n (dnD n d bk) bk ∧ Fr w.heap.size [r, l] w w' := by
  have A : Hid (∀ _ : Unit, _) := fun _ => dat_any w q
  have Q : Hid (RD w r l n d bk) := q
  have c0 := q.c0
  have n2 : (n : Int) ≤ 64 := by have := q.n2; omega
  have h1 : (d : Int) ≤ n := by have := q.dn; omega
  rcases four bk q.dn with ⟨rfl, rfl⟩ | ⟨rfl, h⟩ | ⟨rfl, h⟩ | ⟨rfl, rfl⟩
  · rw [ov_b0, at_b0] at A
    rw [show dnE n 0 true = 6 from rfl, show dnD n 0 true = 0 from rfl]
    clear q
    go_enter Try.func13, Try.ntmps13
    go_wp2_with fail
    refine (A.out ()).mono ?_
    rintro e w1 ⟨rfl, rfl⟩
    go_wp2
    go_ret
    exact ⟨rfl, Q.out, Fr.refl _ _ _⟩
  · rw [ov_b h, at_b] at A
    rw [show dnE n d true = 0 by simp [dnE, ov_b h], show dnD n d true = d - 1 by simp [dnD, ov_b h]]
    have G : Hid (RD (w.setCell ⟨l, d - 1, none⟩ (.bool false)) r l n (d - 1) true) := rd_down q h
    have f := q.fl (d - 1)
    have c := q.at (i := d - 1) (by have := q.dn; omega)
    rw [decide_eq_true (by omega)] at c
    have hp : ((d - 1 : Nat) : Int) < n := by omega
    generalize d - 1 = p at *
    clear q h
    go_enter Try.func13, Try.ntmps13
    go_wp2_with fail
    refine (A.out ()).mono ?_
    rintro e w1 ⟨rfl, rfl⟩
    go_wp2
    go_ret
    exact ⟨rfl, G.out, (Fr.refl _ _ _).setCell (Or.inr (by simp)) _⟩
  · rw [ov_f h, at_f h] at A
    rw [show dnE n d false = 0 by simp [dnE, ov_f h], show dnD n d false = d + 1 by simp [dnD, ov_f h]]
    have G : Hid (RD (w.setCell ⟨l, d, none⟩ (.bool true)) r l n (d + 1) false) := rd_up q h
    have f := q.fl d
    have c := q.at (i := d) h
    rw [decide_eq_false (by omega)] at c
    have hp : (d : Int) < n := by omega
    generalize d + 1 = p at *
    clear q h h1
    go_enter Try.func13, Try.ntmps13
    go_wp2_with fail
    refine (A.out ()).mono ?_
    rintro e w1 ⟨rfl, rfl⟩
    go_wp2
    go_ret
    exact ⟨rfl, G.out, (Fr.refl _ _ _).setCell (Or.inr (by simp)) _⟩
  · rw [ov_n, at_n] at A
    rw [show dnE d d false = 6 by simp [dnE, ov_n], show dnD d d false = d by simp [dnD, ov_n]]
    clear q h1
    go_enter Try.func13, Try.ntmps13
    go_wp2_with fail
    refine (A.out ()).mono ?_
    rintro e w1 ⟨rfl, rfl⟩
    go_wp2
    go_ret
    exact ⟨rfl, Q.out, Fr.refl _ _ _⟩
set_option maxHeartbeats 400000 in
theorem dfail_any {r l n d : Nat} {bk : Bool} (w : World) (q : RD w r l n d bk) :
    Calls Try.prog 15 #[.pointer (some ⟨r, 0, none⟩)] w fun e w' => e = .returned (.int .i64 (flE n d bk)) ∧ RD w' r l n d (flB n d bk) ∧ Fr w.heap.size [r, l] w w' := by
  have A : Hid (∀ _ : Unit, _) := fun _ => dat_any w q
  have Q : Hid (RD w r l n d bk) := q
  have c1 := q.c1
  have f1 := q.f1
  rcases four bk q.dn with ⟨rfl, rfl⟩ | ⟨rfl, h⟩ | ⟨rfl, h⟩ | ⟨rfl, rfl⟩
  · rw [ov_b0, at_b0] at A
    rw [show flE n 0 true = 6 from rfl, show flB n 0 true = true from rfl]
    clear q
    go_enter Try.func15, Try.ntmps15
    go_wp2_with fail
    refine (A.out ()).mono ?_
    rintro e w1 ⟨rfl, rfl⟩
    go_wp2
    go_ret
    exact ⟨rfl, Q.out, Fr.refl _ _ _⟩
  · rw [ov_b h] at A
    rw [show flE n d true = 6 by simp [flE], show flB n d true = true by simp [flB]]
    generalize atK n d true = k at *
    clear q h
    go_enter Try.func15, Try.ntmps15
    go_wp2_with fail
    refine (A.out ()).mono ?_
    rintro e w1 ⟨rfl, rfl⟩
    go_wp2
    go_ret
    exact ⟨rfl, Q.out, Fr.refl _ _ _⟩
  · rw [ov_f h] at A
    rw [show flE n d false = 0 by simp [flE, ov_f h], show flB n d false = true by simp [flB, ov_f h]]
    generalize atK n d false = k at *
    clear q h
    go_enter Try.func15, Try.ntmps15
    go_wp2_with fail
    refine (A.out ()).mono ?_
    rintro e w1 ⟨rfl, rfl⟩
    go_wp2
    go_ret
    exact ⟨rfl, rd_b Q.out _, (Fr.refl _ _ _).setCell (Or.inr (by simp)) _⟩
  · rw [ov_n, at_n] at A
    rw [show flE d d false = 6 by simp [flE, ov_n], show flB d d false = false by simp [flB, ov_n]]
    clear q
    go_enter Try.func15, Try.ntmps15
    go_wp2_with fail
    refine (A.out ()).mono ?_
    rintro e w1 ⟨rfl, rfl⟩
    go_wp2
    go_ret
    exact ⟨rfl, Q.out, Fr.refl _ _ _⟩
set_option maxHeartbeats 400000 in
theorem dwhy_any {r l n d : Nat} {bk : Bool} (w : World) (q : RD w r l n d bk) :
    Calls Try.prog 19 #[.pointer (some ⟨r, 0, none⟩)] w fun e w' => e = .returned (.int .i64 (whE n d bk)) ∧ w' = w := by
  have A : Hid (∀ _ : Unit, _) := fun _ => dat_any w q
  rcases four bk q.dn with ⟨rfl, rfl⟩ | ⟨rfl, h⟩ | ⟨rfl, h⟩ | ⟨rfl, rfl⟩
  · rw [ov_b0, at_b0] at A
    rw [show whE n 0 true = 11 from rfl]
    clear q
    go_enter Try.func19, Try.ntmps19
    go_wp2_with fail
    refine (A.out ()).mono ?_
    rintro e w1 ⟨rfl, rfl⟩
    go_wp2
    go_ret
    exact ⟨rfl, rfl⟩
  · rw [ov_b h] at A
    rw [show whE n d true = 7 by simp [whE, ov_b h]]
    generalize atK n d true = k at *
    clear q h
    go_enter Try.func19, Try.ntmps19
    go_wp2_with fail
    refine (A.out ()).mono ?_
    rintro e w1 ⟨rfl, rfl⟩
    go_wp2
    go_ret
    exact ⟨rfl, rfl⟩
  · rw [ov_f h] at A
    rw [show whE n d false = 7 by simp [whE, ov_f h]]
    generalize atK n d false = k at *
    clear q h
    go_enter Try.func19, Try.ntmps19
    go_wp2_with fail
    refine (A.out ()).mono ?_
    rintro e w1 ⟨rfl, rfl⟩
    go_wp2
    go_ret
    exact ⟨rfl, rfl⟩
  · rw [ov_n, at_n] at A
    rw [show whE d d false = 0 by simp [whE, ov_n]]
    clear q
    go_enter Try.func19, Try.ntmps19
    go_wp2_with fail
    refine (A.out ()).mono ?_
    rintro e w1 ⟨rfl, rfl⟩
    go_wp2
    go_ret
    exact ⟨rfl, rfl⟩
end Go.Proofs.Ytaaikbehdfkhlaa
