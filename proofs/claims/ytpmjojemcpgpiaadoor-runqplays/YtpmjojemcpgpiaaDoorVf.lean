/- What runq's Busiest and Idlest answer, for all masks and queues of cores. -/
import Derived.Test.YtpmjojemcpgpiaaDoorVm
import Derived.Test.YtpmjojemcpgpiaaDoorUc
import Derived.WalkKit
import Derived.ProofKit
import Derived.OpenShut
import Derived.BigQuiet
namespace Go.Proofs.YtpmjojemcpgpiaaDoor
open Go.ChangeShapes Go.WideShapes Go.ChangeAt Go.RowKit
open Fm Qm

def btG (x y : Int) : Bool := decide (y < x)
def btL (x y : Int) : Bool := decide (x < y)

theorem more_any (x y : Int) (w : World) : Calls Tryd.prog 41 #[.int .i64 x, .int .i64 y] w fun e w' => e = .returned (.bool (btG x y)) ∧ w' = w := by
  unfold btG
  go_enter Tryd.func41, Tryd.ntmps41
  go_wp2
  go_ret
  exact ⟨rfl, rfl⟩
theorem less_any (x y : Int) (w : World) : Calls Tryd.prog 43 #[.int .i64 x, .int .i64 y] w fun e w' => e = .returned (.bool (btL x y)) ∧ w' = w := by
  unfold btL
  go_enter Tryd.func43, Tryd.ntmps43
  go_wp2
  go_ret
  exact ⟨rfl, rfl⟩

set_option maxRecDepth 100000 in
set_option maxHeartbeats 2000000 in
theorem bestG {w : World} {s n m : Nat} {K : Ks} (mk : Nat) (hm : mk < 18446744073709551616) (ht : Tab w) (h : RR w s n m K) :
    Calls Tryd.prog 40 #[.pointer (some ⟨s + 2, 0, none⟩), .int .u64 mk, .func (.func 41) #[] #[]] w fun e w' => e = .returned (.tuple #[.int .i64 (bsN (loN n K) btG (bc mk n)), .int .i64 (bsE (bc mk n))]) ∧ Below w.heap.size w w' := by
  have hn := h.rb.n2
  have hu : mk &&& Mm.up n < 18446744073709551616 := Nat.lt_of_le_of_lt Nat.and_le_left hm
  have U : Hid (∀ _ : Unit, _) := fun _ => vupto_any (n : Int) w
  have N : Hid (∀ _ : Unit, _) := fun _ => vand_any mk (Mm.up n) w hm (Mm.up_lt n)
  have F : Hid (∀ _ : Unit, _) := fun _ => vfirst_any (mk &&& Mm.up n) w hu ht
  have L : Hid (∀ _ : Unit, _) := fun _ => vlist_any (mk &&& Mm.up n) w hu
  rw [li_hd, li_er, li_up mk n hn] at F
  rw [li_up mk n hn] at L
  have hE : bsE (bc mk n) = if bc mk n = [] then 12 else 0 := rfl
  rw [← hE] at F
  rw [← fs0_end]
  have H0 : fs0 (loN n K) btG (bc mk n) 0 = (bc mk n).headD 0 := if_pos rfl
  rw [← H0] at F
  have hl : (bc mk n).length ≤ 64 := Nat.le_trans (KK_le _ _) hn
  have ST : Hid (∀ j, j < (bc mk n).length → _) := fun j hj => fs0_step (loN n K) btG (KK_pos _ _) (L := bc mk n) hj
  have LD : Hid (∀ (w2 : World) (c : Int), Below w.heap.size w w2 → Calls Tryd.prog 12 #[.pointer (some ⟨s + 2, 0, none⟩), .int .i64 c] w2 fun e w' => e = .returned (.int .i64 (loN n K c)) ∧ w' = w2) := fun w2 c f => load_any c (h.below f)
  obtain ⟨bt, hbt⟩ : ∃ bt, btG = bt := ⟨_, rfl⟩
  have HF : Hid (∀ (x y : Int) (w : World), _) := more_any
  rw [hbt] at HF ST F
  rw [hbt]
  clear hbt
  have c0 := h.rb.c0
  generalize bsE (bc mk n) = ee at *
  generalize bc mk n = B at *
  generalize mk &&& Mm.up n = mu at *
  generalize Mm.up n = mv at *
  generalize loN n K = f at *
  clear h hm ht hu hE H0
  obtain ⟨l, hl'⟩ : ∃ l, B.length = l := ⟨_, rfl⟩
  rw [hl'] at ST hl
  rw [hl']
  have HL : Hid (B.length = l) := hl'
  clear hl'
  go_enter Tryd.func40, Tryd.ntmps40
  go_wp2_with fail
  refine (U.out ()).mono ?_
  rintro e w' ⟨rfl, rfl⟩
  go_wp2_with fail
  refine (N.out ()).mono ?_
  rintro e w' ⟨rfl, rfl⟩
  go_wp2_with fail
  refine (F.out ()).mono ?_
  rintro e w' ⟨rfl, rfl⟩
  go_wp2_with fail
  refine (L.out ()).mono ?_
  rintro e w2 ⟨v, rfl, g2⟩
  have o2 := g2.own
  rw [HL.out] at o2
  have b2 : Hid (Below w'.heap.size w' w2) := g2.bel
  obtain ⟨a2, c2, rfl⟩ := own_shape o2
  have CE : Hid (∀ j : Nat, (j : Int) < l → ∃ b, a2 = some ⟨b, 0, none⟩ ∧ w2.cell? ⟨b, j, none⟩ = some (.int .i64 (B.getD j 0))) := fun j hj => own_cell o2 hj
  have cap2 : (l : Int) ≤ c2 := by
    rcases o2.2 with ⟨e, e2⟩ | ⟨g, cap, cur, e, _, _, hc, _⟩
    · omega
    · simp only [Value.slice.injEq] at e; omega
  clear g2 o2 F L N U c0
  go_wp2
  go_loop [9, 31] (fun a i => ∃ j : Nat, (j : Int) ≤ l ∧ i = .int .i64 (j : Int) ∧ a = .int .i64 (fs0 f bt B j)) (fun _ i => l - (intOf i).toNat)
  case atStart => exact ⟨0, by omega, rfl, rfl⟩
  case round =>
    obtain ⟨j, hj, rfl, rfl⟩ := hrel
    by_cases c : (j : Int) < l
    · obtain ⟨bb, rfl, hc⟩ := CE.out j c
      have s1 := ST.out j (by omega)
      have L1 : Hid (∀ _ : Unit, _) := fun _ => LD.out w2 (B.getD j 0) b2.out
      have L2 : Hid (∀ _ : Unit, _) := fun _ => LD.out w2 (fs0 f bt B j) b2.out
      have L3 : Hid (∀ _ : Unit, _) := fun _ => HF.out (f (B.getD j 0)) (f (fs0 f bt B j)) w2
      obtain ⟨q, hq⟩ : ∃ q, bt (f (B.getD j 0)) (f (fs0 f bt B j)) = q := ⟨_, rfl⟩
      rw [hq] at s1 L3
      generalize B.getD j 0 = x at *
      have S1 : Hid (fs0 f bt B (j + 1) = if q = true then x else fs0 f bt B j) := s1
      generalize fs0 f bt B j = y at *
      clear s1 hq
      go_wp2_with fail
      refine (L1.out ()).mono ?_
      rintro e w3 ⟨rfl, rfl⟩
      go_wp2_with fail
      refine (L2.out ()).mono ?_
      rintro e w3 ⟨rfl, rfl⟩
      go_wp2_with fail
      refine (L3.out ()).mono ?_
      rintro e w3 ⟨rfl, rfl⟩
      cases q with
      | true =>
        go_wp2
        go_round
        case rel => exact ⟨j + 1, by omega, by go_num, by rw [S1.out]; rfl⟩
        case measure => simp [intOf]; omega
      | false =>
        go_wp2
        go_round
        case rel => exact ⟨j + 1, by omega, by go_num, by rw [S1.out]; rfl⟩
        case measure => simp [intOf]; omega
    · obtain rfl : j = l := by omega
      go_wp2
      go_ret2
      exact ⟨rfl, b2.out⟩

set_option maxRecDepth 100000 in
set_option maxHeartbeats 2000000 in
theorem bestL {w : World} {s n m : Nat} {K : Ks} (mk : Nat) (hm : mk < 18446744073709551616) (ht : Tab w) (h : RR w s n m K) :
    Calls Tryd.prog 40 #[.pointer (some ⟨s + 2, 0, none⟩), .int .u64 mk, .func (.func 43) #[] #[]] w fun e w' => e = .returned (.tuple #[.int .i64 (bsN (loN n K) btL (bc mk n)), .int .i64 (bsE (bc mk n))]) ∧ Below w.heap.size w w' := by
  have hn := h.rb.n2
  have hu : mk &&& Mm.up n < 18446744073709551616 := Nat.lt_of_le_of_lt Nat.and_le_left hm
  have U : Hid (∀ _ : Unit, _) := fun _ => vupto_any (n : Int) w
  have N : Hid (∀ _ : Unit, _) := fun _ => vand_any mk (Mm.up n) w hm (Mm.up_lt n)
  have F : Hid (∀ _ : Unit, _) := fun _ => vfirst_any (mk &&& Mm.up n) w hu ht
  have L : Hid (∀ _ : Unit, _) := fun _ => vlist_any (mk &&& Mm.up n) w hu
  rw [li_hd, li_er, li_up mk n hn] at F
  rw [li_up mk n hn] at L
  have hE : bsE (bc mk n) = if bc mk n = [] then 12 else 0 := rfl
  rw [← hE] at F
  rw [← fs0_end]
  have H0 : fs0 (loN n K) btL (bc mk n) 0 = (bc mk n).headD 0 := if_pos rfl
  rw [← H0] at F
  have hl : (bc mk n).length ≤ 64 := Nat.le_trans (KK_le _ _) hn
  have ST : Hid (∀ j, j < (bc mk n).length → _) := fun j hj => fs0_step (loN n K) btL (KK_pos _ _) (L := bc mk n) hj
  have LD : Hid (∀ (w2 : World) (c : Int), Below w.heap.size w w2 → Calls Tryd.prog 12 #[.pointer (some ⟨s + 2, 0, none⟩), .int .i64 c] w2 fun e w' => e = .returned (.int .i64 (loN n K c)) ∧ w' = w2) := fun w2 c f => load_any c (h.below f)
  obtain ⟨bt, hbt⟩ : ∃ bt, btL = bt := ⟨_, rfl⟩
  have HF : Hid (∀ (x y : Int) (w : World), _) := less_any
  rw [hbt] at HF ST F
  rw [hbt]
  clear hbt
  have c0 := h.rb.c0
  generalize bsE (bc mk n) = ee at *
  generalize bc mk n = B at *
  generalize mk &&& Mm.up n = mu at *
  generalize Mm.up n = mv at *
  generalize loN n K = f at *
  clear h hm ht hu hE H0
  obtain ⟨l, hl'⟩ : ∃ l, B.length = l := ⟨_, rfl⟩
  rw [hl'] at ST hl
  rw [hl']
  have HL : Hid (B.length = l) := hl'
  clear hl'
  go_enter Tryd.func40, Tryd.ntmps40
  go_wp2_with fail
  refine (U.out ()).mono ?_
  rintro e w' ⟨rfl, rfl⟩
  go_wp2_with fail
  refine (N.out ()).mono ?_
  rintro e w' ⟨rfl, rfl⟩
  go_wp2_with fail
  refine (F.out ()).mono ?_
  rintro e w' ⟨rfl, rfl⟩
  go_wp2_with fail
  refine (L.out ()).mono ?_
  rintro e w2 ⟨v, rfl, g2⟩
  have o2 := g2.own
  rw [HL.out] at o2
  have b2 : Hid (Below w'.heap.size w' w2) := g2.bel
  obtain ⟨a2, c2, rfl⟩ := own_shape o2
  have CE : Hid (∀ j : Nat, (j : Int) < l → ∃ b, a2 = some ⟨b, 0, none⟩ ∧ w2.cell? ⟨b, j, none⟩ = some (.int .i64 (B.getD j 0))) := fun j hj => own_cell o2 hj
  have cap2 : (l : Int) ≤ c2 := by
    rcases o2.2 with ⟨e, e2⟩ | ⟨g, cap, cur, e, _, _, hc, _⟩
    · omega
    · simp only [Value.slice.injEq] at e; omega
  clear g2 o2 F L N U c0
  go_wp2
  go_loop [9, 31] (fun a i => ∃ j : Nat, (j : Int) ≤ l ∧ i = .int .i64 (j : Int) ∧ a = .int .i64 (fs0 f bt B j)) (fun _ i => l - (intOf i).toNat)
  case atStart => exact ⟨0, by omega, rfl, rfl⟩
  case round =>
    obtain ⟨j, hj, rfl, rfl⟩ := hrel
    by_cases c : (j : Int) < l
    · obtain ⟨bb, rfl, hc⟩ := CE.out j c
      have s1 := ST.out j (by omega)
      have L1 : Hid (∀ _ : Unit, _) := fun _ => LD.out w2 (B.getD j 0) b2.out
      have L2 : Hid (∀ _ : Unit, _) := fun _ => LD.out w2 (fs0 f bt B j) b2.out
      have L3 : Hid (∀ _ : Unit, _) := fun _ => HF.out (f (B.getD j 0)) (f (fs0 f bt B j)) w2
      obtain ⟨q, hq⟩ : ∃ q, bt (f (B.getD j 0)) (f (fs0 f bt B j)) = q := ⟨_, rfl⟩
      rw [hq] at s1 L3
      generalize B.getD j 0 = x at *
      have S1 : Hid (fs0 f bt B (j + 1) = if q = true then x else fs0 f bt B j) := s1
      generalize fs0 f bt B j = y at *
      clear s1 hq
      go_wp2_with fail
      refine (L1.out ()).mono ?_
      rintro e w3 ⟨rfl, rfl⟩
      go_wp2_with fail
      refine (L2.out ()).mono ?_
      rintro e w3 ⟨rfl, rfl⟩
      go_wp2_with fail
      refine (L3.out ()).mono ?_
      rintro e w3 ⟨rfl, rfl⟩
      cases q with
      | true =>
        go_wp2
        go_round
        case rel => exact ⟨j + 1, by omega, by go_num, by rw [S1.out]; rfl⟩
        case measure => simp [intOf]; omega
      | false =>
        go_wp2
        go_round
        case rel => exact ⟨j + 1, by omega, by go_num, by rw [S1.out]; rfl⟩
        case measure => simp [intOf]; omega
    · obtain rfl : j = l := by omega
      go_wp2
      go_ret2
      exact ⟨rfl, b2.out⟩

set_option maxRecDepth 100000 in
theorem busiest_any {w : World} {s n m : Nat} {K : Ks} (mk : Nat) (hm : mk < 18446744073709551616) (ht : Tab w) (h : RR w s n m K) :
    Calls Tryd.prog 17 #[.pointer (some ⟨s + 2, 0, none⟩), .int .u64 mk] w fun e w' => e = .returned (.tuple #[.int .i64 (bsN (loN n K) btG (bc mk n)), .int .i64 (bsE (bc mk n))]) ∧ Below w.heap.size w w' := by
  have C : Hid (∀ _ : Unit, _) := fun _ => bestG mk hm ht h
  generalize bsN (loN n K) btG (bc mk n) = x at *
  generalize bsE (bc mk n) = y at *
  clear h hm ht
  go_enter Tryd.func17, Tryd.ntmps17
  go_wp2_with fail
  refine (C.out ()).mono ?_
  rintro e w' ⟨rfl, b⟩
  go_wp2
  go_ret2
  exact ⟨rfl, b⟩
set_option maxRecDepth 100000 in
theorem idlest_any {w : World} {s n m : Nat} {K : Ks} (mk : Nat) (hm : mk < 18446744073709551616) (ht : Tab w) (h : RR w s n m K) :
    Calls Tryd.prog 19 #[.pointer (some ⟨s + 2, 0, none⟩), .int .u64 mk] w fun e w' => e = .returned (.tuple #[.int .i64 (bsN (loN n K) btL (bc mk n)), .int .i64 (bsE (bc mk n))]) ∧ Below w.heap.size w w' := by
  have C : Hid (∀ _ : Unit, _) := fun _ => bestL mk hm ht h
  generalize bsN (loN n K) btL (bc mk n) = x at *
  generalize bsE (bc mk n) = y at *
  clear h hm ht
  go_enter Tryd.func19, Tryd.ntmps19
  go_wp2_with fail
  refine (C.out ()).mono ?_
  rintro e w' ⟨rfl, b⟩
  go_wp2
  go_ret2
  exact ⟨rfl, b⟩
end Go.Proofs.YtpmjojemcpgpiaaDoor
