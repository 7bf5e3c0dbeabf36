/- What the document's Busiest and Idlest answer, for all masks and queues of cores. -/
import Derived.Test.YtpmjojemcpgpiaaDoorVf
import Derived.Test.YtpmjojemcpgpiaaDoorVb
import Derived.WalkKit
import Derived.ProofKit
import Derived.OpenShut
import Derived.BigQuiet
namespace Go.Proofs.YtpmjojemcpgpiaaDoor
open Go.ChangeShapes Go.WideShapes Go.ChangeAt Go.RowKit
open Fm Qm

set_option maxRecDepth 100000 in
set_option maxHeartbeats 4000000 in
theorem xbestG {w : World} {lo b g cap n : Nat} {A : Nat → Nat} {V : Nat → Value} {K : Ks} (mk : Nat) (hm : mk < 18446744073709551616) (h : RX w lo b g cap n A V K) :
    Calls Tryd.prog 42 #[.pointer (some ⟨b, 0, none⟩), .int .u64 mk, .bool true] w fun e w' => e = .returned (.tuple #[.int .i64 (bsN (loN n K) btG (bc mk n)), .int .i64 (bsE (bc mk n))]) ∧ Below w.heap.size w w' := by
  have hn := h.n2
  have RXW : Hid (∀ w2 : World, Below w.heap.size w w2 → RX w2 lo b g cap n A V K) := fun w2 f => h.below f
  have HS : Hid (∀ (k : Nat) (w2 : World), k < n → Calls Tryd.prog 64 #[.int .u64 mk, .int .i64 (k : Int)] w2 fun e w' => e = .returned (.bool (mk.testBit k)) ∧ w' = w2) := fun k w2 hk => by
    have := vrefhas_any mk (k : Int) w2 hm
    rwa [Mm.tb_nat mk k (by omega)] at this
  have LD : Hid (∀ (w2 : World) (c : Int), Below w.heap.size w w2 → Calls Tryd.prog 13 #[.pointer (some ⟨b, 0, none⟩), .int .i64 c] w2 fun e w' => e = .returned (.int .i64 (loN n K c)) ∧ Below w2.heap.size w2 w') := fun w2 c f => xload_any c (h.below f)
  have CC : Hid (∀ w2 : World, Below w.heap.size w w2 → w2.cell? ⟨b, 0, none⟩ = some (.slice (some ⟨g, 0, none⟩) n cap)) := fun w2 f => (h.below f).c0
  have hcap : (n : Int) ≤ cap := by have := h.nc; omega
  have HIT : Hid (∀ k, mk.testBit k = true → bs (loN n K) btG (bc mk (k + 1)) = if bs (loN n K) btG (bc mk k) < 0 ∨ btG (loN n K k) (loN n K (bs (loN n K) btG (bc mk k))) = true then (k : Int) else bs (loN n K) btG (bc mk k)) := fun k hk => by
    unfold bc
    rw [KK_hit _ k hk, bs_snoc]
  have MISS : Hid (∀ k, mk.testBit k = false → bs (loN n K) btG (bc mk (k + 1)) = bs (loN n K) btG (bc mk k)) := fun k hk => by
    unfold bc
    rw [KK_miss _ k hk]
  have EN : Hid ((bs (loN n K) btG (bc mk n) < 0 ∧ bsN (loN n K) btG (bc mk n) = 0 ∧ bsE (bc mk n) = 12) ∨ (¬ bs (loN n K) btG (bc mk n) < 0 ∧ bsN (loN n K) btG (bc mk n) = bs (loN n K) btG (bc mk n) ∧ bsE (bc mk n) = 0)) := by
    by_cases e : bc mk n = []
    · exact Or.inl ⟨by rw [e]; show (-1 : Int) < 0; decide, if_pos e, if_pos e⟩
    · exact Or.inr ⟨by have := bs_pos (loN n K) btG e (KK_pos _ _); omega, if_neg e, if_neg e⟩
  generalize bsE (bc mk n) = ee at *
  generalize bsN (loN n K) btG (bc mk n) = nn at *
  obtain ⟨q, hq⟩ : ∃ q : Nat → Int, (fun k => bs (loN n K) btG (bc mk k)) = q := ⟨_, rfl⟩
  have HQ : ∀ k, bs (loN n K) btG (bc mk k) = q k := fun k => congrFun hq k
  simp only [HQ] at HIT MISS EN
  have q0 : q 0 = -1 := by rw [← HQ]; rfl
  generalize loN n K = f at *
  clear h hm hq HQ
  go_enter Tryd.func42, Tryd.ntmps42
  go_wp2
  go_loopw [8, 9] (fun a i wr => ∃ k : Nat, (k : Int) ≤ n ∧ i = .int .i64 (k : Int) ∧ a = .int .i64 (q k) ∧ Below w.heap.size w wr) (fun _ i _ => n - (intOf i).toNat)
  case atStart => exact ⟨0, by omega, rfl, by rw [q0], Below.refl _ _⟩
  case round =>
    obtain ⟨k, hk, rfl, rfl, B⟩ := hrel
    have c0 := CC.out wr B
    by_cases c : (k : Int) < n
    · have H1 : Hid (∀ _ : Unit, _) := fun _ => HS.out k wr (by omega)
      have HB : Hid (Below w.heap.size w wr) := B
      have L1 : Hid (∀ _ : Unit, _) := fun _ => LD.out wr (k : Int) B
      have L2 : Hid (∀ w2 : World, Below wr.heap.size wr w2 → _) := fun w2 f2 => LD.out w2 (q k) (B.trans (f2.mono B.size))
      clear B
      cases e : mk.testBit k with
      | false =>
        rw [e] at H1
        have s1 : Hid (q (k + 1) = q k) := MISS.out k e
        generalize q k = y at *
        go_wp2_with fail
        refine (H1.out ()).mono ?_
        rintro e w3 ⟨rfl, rfl⟩
        go_wp2
        go_roundw
        case rel => exact ⟨k + 1, by omega, by go_num, by rw [s1.out], HB.out⟩
        case measure => simp [intOf]; omega
      | true =>
        rw [e] at H1
        have s0 := HIT.out k e
        by_cases c1 : q k < 0
        · rw [if_pos (Or.inl c1)] at s0
          have s1 : Hid (q (k + 1) = k) := s0
          generalize q k = y at *
          clear s0
          go_wp2_with fail
          refine (H1.out ()).mono ?_
          rintro e w3 ⟨rfl, rfl⟩
          go_wp2
          go_roundw
          case rel => exact ⟨k + 1, by omega, by go_num, by rw [s1.out], HB.out⟩
          case measure => simp [intOf]; omega
        · have s2 : q (k + 1) = if btG (f k) (f (q k)) = true then (k : Int) else q k := by
            rw [s0]
            by_cases d : btG (f k) (f (q k)) = true
            · rw [if_pos d, if_pos (Or.inr d)]
            · rw [if_neg d, if_neg (fun e => e.elim c1 d)]
          generalize q k = y at *
          generalize f (k : Int) = x1 at *
          generalize f y = x2 at *
          unfold btG at s2
          by_cases d : x2 < x1
          · rw [if_pos (decide_eq_true d)] at s2
            have s1 : Hid (q (k + 1) = k) := s2
            clear s0 s2
            go_wp2_with fail
            refine (H1.out ()).mono ?_
            rintro e w3 ⟨rfl, rfl⟩
            go_wp2_with fail
            refine (L1.out ()).mono ?_
            rintro e w4 ⟨rfl, b4⟩
            go_wp2_with fail
            refine (L2.out w4 b4).mono ?_
            rintro e w5 ⟨rfl, b5⟩
            go_wp2
            go_roundw
            case rel => exact ⟨k + 1, by omega, by go_num, by rw [s1.out], HB.out.trans ((b4.trans (b5.mono b4.size)).mono HB.out.size)⟩
            case measure => simp [intOf]; omega
          · rw [if_neg (by rw [decide_eq_true_eq]; exact d)] at s2
            have s1 : Hid (q (k + 1) = y) := s2
            clear s0 s2
            go_wp2_with fail
            refine (H1.out ()).mono ?_
            rintro e w3 ⟨rfl, rfl⟩
            go_wp2_with fail
            refine (L1.out ()).mono ?_
            rintro e w4 ⟨rfl, b4⟩
            go_wp2_with fail
            refine (L2.out w4 b4).mono ?_
            rintro e w5 ⟨rfl, b5⟩
            go_wp2
            go_roundw
            case rel => exact ⟨k + 1, by omega, by go_num, by rw [s1.out], HB.out.trans ((b4.trans (b5.mono b4.size)).mono HB.out.size)⟩
            case measure => simp [intOf]; omega
    · obtain rfl : k = n := by omega
      rcases EN.out with ⟨e1, e2, e3⟩ | ⟨e1, e2, e3⟩
      · subst e2
        subst e3
        generalize q k = y at *
        go_wp2
        go_ret2
        exact ⟨rfl, B⟩
      · subst e3
        obtain ⟨y, hy⟩ : ∃ y, q k = y := ⟨_, rfl⟩
        rw [hy] at e1 e2
        subst e2
        rw [hy]
        go_wp2
        go_ret2
        exact ⟨rfl, B⟩

set_option maxRecDepth 100000 in
theorem xbusiest_any {w : World} {lo b g cap n : Nat} {A : Nat → Nat} {V : Nat → Value} {K : Ks} (mk : Nat) (hm : mk < 18446744073709551616) (h : RX w lo b g cap n A V K) :
    Calls Tryd.prog 18 #[.pointer (some ⟨b, 0, none⟩), .int .u64 mk] w fun e w' => e = .returned (.tuple #[.int .i64 (bsN (loN n K) btG (bc mk n)), .int .i64 (bsE (bc mk n))]) ∧ Below w.heap.size w w' := by
  have C : Hid (∀ _ : Unit, _) := fun _ => xbestG mk hm h
  generalize bsN (loN n K) btG (bc mk n) = x at *
  generalize bsE (bc mk n) = y at *
  clear h hm
  go_enter Tryd.func18, Tryd.ntmps18
  go_wp2_with fail
  refine (C.out ()).mono ?_
  rintro e w' ⟨rfl, b⟩
  go_wp2
  go_ret2
  exact ⟨rfl, b⟩

set_option maxRecDepth 100000 in
set_option maxHeartbeats 4000000 in
theorem xbestL {w : World} {lo b g cap n : Nat} {A : Nat → Nat} {V : Nat → Value} {K : Ks} (mk : Nat) (hm : mk < 18446744073709551616) (h : RX w lo b g cap n A V K) :
    Calls Tryd.prog 42 #[.pointer (some ⟨b, 0, none⟩), .int .u64 mk, .bool false] w fun e w' => e = .returned (.tuple #[.int .i64 (bsN (loN n K) btL (bc mk n)), .int .i64 (bsE (bc mk n))]) ∧ Below w.heap.size w w' := by
  have hn := h.n2
  have RXW : Hid (∀ w2 : World, Below w.heap.size w w2 → RX w2 lo b g cap n A V K) := fun w2 f => h.below f
  have HS : Hid (∀ (k : Nat) (w2 : World), k < n → Calls Tryd.prog 64 #[.int .u64 mk, .int .i64 (k : Int)] w2 fun e w' => e = .returned (.bool (mk.testBit k)) ∧ w' = w2) := fun k w2 hk => by
    have := vrefhas_any mk (k : Int) w2 hm
    rwa [Mm.tb_nat mk k (by omega)] at this
  have LD : Hid (∀ (w2 : World) (c : Int), Below w.heap.size w w2 → Calls Tryd.prog 13 #[.pointer (some ⟨b, 0, none⟩), .int .i64 c] w2 fun e w' => e = .returned (.int .i64 (loN n K c)) ∧ Below w2.heap.size w2 w') := fun w2 c f => xload_any c (h.below f)
  have CC : Hid (∀ w2 : World, Below w.heap.size w w2 → w2.cell? ⟨b, 0, none⟩ = some (.slice (some ⟨g, 0, none⟩) n cap)) := fun w2 f => (h.below f).c0
  have hcap : (n : Int) ≤ cap := by have := h.nc; omega
  have HIT : Hid (∀ k, mk.testBit k = true → bs (loN n K) btL (bc mk (k + 1)) = if bs (loN n K) btL (bc mk k) < 0 ∨ btL (loN n K k) (loN n K (bs (loN n K) btL (bc mk k))) = true then (k : Int) else bs (loN n K) btL (bc mk k)) := fun k hk => by
    unfold bc
    rw [KK_hit _ k hk, bs_snoc]
  have MISS : Hid (∀ k, mk.testBit k = false → bs (loN n K) btL (bc mk (k + 1)) = bs (loN n K) btL (bc mk k)) := fun k hk => by
    unfold bc
    rw [KK_miss _ k hk]
  have EN : Hid ((bs (loN n K) btL (bc mk n) < 0 ∧ bsN (loN n K) btL (bc mk n) = 0 ∧ bsE (bc mk n) = 12) ∨ (¬ bs (loN n K) btL (bc mk n) < 0 ∧ bsN (loN n K) btL (bc mk n) = bs (loN n K) btL (bc mk n) ∧ bsE (bc mk n) = 0)) := by
    by_cases e : bc mk n = []
    · exact Or.inl ⟨by rw [e]; show (-1 : Int) < 0; decide, if_pos e, if_pos e⟩
    · exact Or.inr ⟨by have := bs_pos (loN n K) btL e (KK_pos _ _); omega, if_neg e, if_neg e⟩
  generalize bsE (bc mk n) = ee at *
  generalize bsN (loN n K) btL (bc mk n) = nn at *
  obtain ⟨q, hq⟩ : ∃ q : Nat → Int, (fun k => bs (loN n K) btL (bc mk k)) = q := ⟨_, rfl⟩
  have HQ : ∀ k, bs (loN n K) btL (bc mk k) = q k := fun k => congrFun hq k
  simp only [HQ] at HIT MISS EN
  have q0 : q 0 = -1 := by rw [← HQ]; rfl
  generalize loN n K = f at *
  clear h hm hq HQ
  go_enter Tryd.func42, Tryd.ntmps42
  go_wp2
  go_loopw [8, 9] (fun a i wr => ∃ k : Nat, (k : Int) ≤ n ∧ i = .int .i64 (k : Int) ∧ a = .int .i64 (q k) ∧ Below w.heap.size w wr) (fun _ i _ => n - (intOf i).toNat)
  case atStart => exact ⟨0, by omega, rfl, by rw [q0], Below.refl _ _⟩
  case round =>
    obtain ⟨k, hk, rfl, rfl, B⟩ := hrel
    have c0 := CC.out wr B
    by_cases c : (k : Int) < n
    · have H1 : Hid (∀ _ : Unit, _) := fun _ => HS.out k wr (by omega)
      have HB : Hid (Below w.heap.size w wr) := B
      have L1 : Hid (∀ _ : Unit, _) := fun _ => LD.out wr (k : Int) B
      have L2 : Hid (∀ w2 : World, Below wr.heap.size wr w2 → _) := fun w2 f2 => LD.out w2 (q k) (B.trans (f2.mono B.size))
      clear B
      cases e : mk.testBit k with
      | false =>
        rw [e] at H1
        have s1 : Hid (q (k + 1) = q k) := MISS.out k e
        generalize q k = y at *
        go_wp2_with fail
        refine (H1.out ()).mono ?_
        rintro e w3 ⟨rfl, rfl⟩
        go_wp2
        go_roundw
        case rel => exact ⟨k + 1, by omega, by go_num, by rw [s1.out], HB.out⟩
        case measure => simp [intOf]; omega
      | true =>
        rw [e] at H1
        have s0 := HIT.out k e
        by_cases c1 : q k < 0
        · rw [if_pos (Or.inl c1)] at s0
          have s1 : Hid (q (k + 1) = k) := s0
          generalize q k = y at *
          clear s0
          go_wp2_with fail
          refine (H1.out ()).mono ?_
          rintro e w3 ⟨rfl, rfl⟩
          go_wp2
          go_roundw
          case rel => exact ⟨k + 1, by omega, by go_num, by rw [s1.out], HB.out⟩
          case measure => simp [intOf]; omega
        · have s2 : q (k + 1) = if btL (f k) (f (q k)) = true then (k : Int) else q k := by
            rw [s0]
            by_cases d : btL (f k) (f (q k)) = true
            · rw [if_pos d, if_pos (Or.inr d)]
            · rw [if_neg d, if_neg (fun e => e.elim c1 d)]
          generalize q k = y at *
          generalize f (k : Int) = x1 at *
          generalize f y = x2 at *
          unfold btL at s2
          by_cases d : x1 < x2
          · rw [if_pos (decide_eq_true d)] at s2
            have s1 : Hid (q (k + 1) = k) := s2
            clear s0 s2
            go_wp2_with fail
            refine (H1.out ()).mono ?_
            rintro e w3 ⟨rfl, rfl⟩
            go_wp2_with fail
            refine (L1.out ()).mono ?_
            rintro e w4 ⟨rfl, b4⟩
            go_wp2_with fail
            refine (L2.out w4 b4).mono ?_
            rintro e w5 ⟨rfl, b5⟩
            go_wp2
            go_roundw
            case rel => exact ⟨k + 1, by omega, by go_num, by rw [s1.out], HB.out.trans ((b4.trans (b5.mono b4.size)).mono HB.out.size)⟩
            case measure => simp [intOf]; omega
          · rw [if_neg (by rw [decide_eq_true_eq]; exact d)] at s2
            have s1 : Hid (q (k + 1) = y) := s2
            clear s0 s2
            go_wp2_with fail
            refine (H1.out ()).mono ?_
            rintro e w3 ⟨rfl, rfl⟩
            go_wp2_with fail
            refine (L1.out ()).mono ?_
            rintro e w4 ⟨rfl, b4⟩
            go_wp2_with fail
            refine (L2.out w4 b4).mono ?_
            rintro e w5 ⟨rfl, b5⟩
            go_wp2
            go_roundw
            case rel => exact ⟨k + 1, by omega, by go_num, by rw [s1.out], HB.out.trans ((b4.trans (b5.mono b4.size)).mono HB.out.size)⟩
            case measure => simp [intOf]; omega
    · obtain rfl : k = n := by omega
      rcases EN.out with ⟨e1, e2, e3⟩ | ⟨e1, e2, e3⟩
      · subst e2
        subst e3
        generalize q k = y at *
        go_wp2
        go_ret2
        exact ⟨rfl, B⟩
      · subst e3
        obtain ⟨y, hy⟩ : ∃ y, q k = y := ⟨_, rfl⟩
        rw [hy] at e1 e2
        subst e2
        rw [hy]
        go_wp2
        go_ret2
        exact ⟨rfl, B⟩

set_option maxRecDepth 100000 in
theorem xidlest_any {w : World} {lo b g cap n : Nat} {A : Nat → Nat} {V : Nat → Value} {K : Ks} (mk : Nat) (hm : mk < 18446744073709551616) (h : RX w lo b g cap n A V K) :
    Calls Tryd.prog 20 #[.pointer (some ⟨b, 0, none⟩), .int .u64 mk] w fun e w' => e = .returned (.tuple #[.int .i64 (bsN (loN n K) btL (bc mk n)), .int .i64 (bsE (bc mk n))]) ∧ Below w.heap.size w w' := by
  have C : Hid (∀ _ : Unit, _) := fun _ => xbestL mk hm h
  generalize bsN (loN n K) btL (bc mk n) = x at *
  generalize bsE (bc mk n) = y at *
  clear h hm
  go_enter Tryd.func20, Tryd.ntmps20
  go_wp2_with fail
  refine (C.out ()).mono ?_
  rintro e w' ⟨rfl, b⟩
  go_wp2
  go_ret2
  exact ⟨rfl, b⟩
end Go.Proofs.YtpmjojemcpgpiaaDoor
