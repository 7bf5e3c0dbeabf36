/- Proved: for every number cpus, every list acts and every mask of, davitlaw10.RunqPlays(cpus, acts, of) returns true: queues of any number of cores that are played with answer what the document says, each core has what it says, and which one has most, and least, is what it says (100 acts at most, as the law itself says), and acts is left alone; the condition: the table of math/bits that its row lists holds what the program's text lays there. -/
import Derived.Test.YtpmjojemcpgpiaaDoorRows
import Derived.Test.YtpmjojemcpgpiaaDoorTie
import Derived.Test.YtpmjojemcpgpiaaDoorCards
import Derived.Test.YtpmjojemcpgpiaaDoorMu
import Derived.Test.YtpmjojemcpgpiaaDoorFo
import Derived.Test.YtpmjojemcpgpiaaDoorVh
import Derived.Test.YtpmjojemcpgpiaaDoorVg
import Derived.Test.YtpmjojemcpgpiaaDoorFs
import Derived.Test.YtpmjojemcpgpiaaDoorFi
import Derived.Test.YtpmjojemcpgpiaaDoorUl
import Derived.WalkKit
import Derived.ProofKit
import Derived.OpenShut
import Derived.Stop.Joined
import Derived.ShutString
import Derived.ChangeOld
import Derived.Below
import Derived.Carry
import Derived.LaidMore
import Derived.SevenTiedAt
import Derived.Test.YtpmjojemcpgpiaaDoorFs
import Derived.Deep.RegionHeld3
namespace Go.Proofs.YtpmjojemcpgpiaaDoor.runqPlays
open Go.ChangeShapes Go.WideShapes Go.ChangeAt Go.RowKit
open Fm Qm
set_option linter.unusedVariables false
set_option linter.unusedSimpArgs false

set_option maxRecDepth 100000 in
set_option maxHeartbeats 16000000 in
theorem walk (a0 : Int) (a1 : Option Addr) (len1 cap1 : Nat) (X1 : Nat → Nat → Int) (a2 : Int) (w : World) (w0 : (Lit.int .i64 a0).wf = true) (w1 : SRow w (.slice a1 len1 cap1) len1 [true, true, true, true, true] X1) (z1 : ∀ i, i < len1 → ∀ j, j < [true, true, true, true, true].length → [true, true, true, true, true].getD j true = true → (Lit.int .i64 (X1 i j)).wf = true) (w2 : (Lit.int .u64 a2).wf = true) (ht : Tab w) (hs : 0 < w.heap.size) :
    Calls Tryd.prog 3 #[.int .i64 a0, .slice a1 len1 cap1, .int .u64 a2] w fun e w' => e = .returned (.bool true) ∧ Below w.heap.size w w' := by
  have KN : Hid (∀ w, _) := fun w => rqknown_yes w
  by_cases wrong : a0 < 1 ∨ 64 < a0
  · have C : Hid (∀ w, _) := fun w => rqnew_bad a0 w wrong
    have D : Hid (∀ w, _) := fun w => xnew_bad a0 w wrong
    clear wrong w0 w1 z1 w2 ht hs
    go_enter Tryd.func3, Tryd.ntmps3
    go_wp2_with fail
    refine (C.out _).mono ?_
    rintro e u1 ⟨rfl, rfl⟩
    go_wp2_with fail
    refine (D.out _).mono ?_
    rintro e u2 ⟨rfl, rfl⟩
    go_wp2_with fail
    refine (KN.out _).mono ?_
    rintro e u3 ⟨rfl, hb⟩
    go_wp2
    go_ret
    exact ⟨rfl, hb⟩
  · obtain ⟨n, rfl⟩ := Int.eq_ofNat_of_zero_le (show 0 ≤ a0 by omega)
    have n1 : (1 : Int) ≤ n := by omega
    have n2 : (n : Int) ≤ 64 := by omega
    obtain ⟨mk, rfl, hmk⟩ : ∃ mk : Nat, a2 = (mk : Int) ∧ mk < 18446744073709551616 := by
      simp only [Lit.wf, Bool.and_eq_true, decide_eq_true_eq] at w2
      have h1 : IntKind.u64.min = 0 := rfl
      have h2 : IntKind.u64.max = 18446744073709551615 := rfl
      exact ⟨a2.toNat, by omega, by omega⟩
    have C : Hid (∀ _ : Unit, _) := fun _ => rqnew_any n w n1 n2
    have D : Hid (∀ w1, _) := fun w1 => xnew_any n w1 n1 n2
    have HR : Hid (SRow w (.slice a1 len1 cap1) len1 [true, true, true, true, true] X1) := w1
    have HW : Hid (∀ i, i < len1 → (Lit.int .i64 (X1 i 4)).wf = true) := fun i hi => z1 i hi 4 (by decide) (by decide)
    obtain ⟨s, hs2⟩ : ∃ s, w.heap.size = s := ⟨_, rfl⟩
    have HS : Hid (w.heap.size = s) := hs2
    have HT : Hid (∀ w2 : World, Below s w w2 → Tab w2) := fun w2 f => ht.keep (B := s) (by omega) (by simp) (Fr.of_below f)
    rw [hs2] at C ⊢
    clear wrong w0 w1 z1 hs2 w2 ht hs
    go_enter Tryd.func3, Tryd.ntmps3
    go_wp2_with fail
    refine (C.out ()).mono ?_
    rintro e u1 ⟨rfl, q1, f1⟩
    have Q1 : Hid (RR u1 s n 0 fun _ => []) := q1
    have B1 : Hid (Below s w u1) := f1
    have D1 : Hid (∀ _ : Unit, _) := fun _ => D.out u1
    have hi1 : Hid (s + (3 + 17 * n) ≤ u1.heap.size) := q1.rb.hi
    clear q1 f1
    go_wp2_with fail
    refine (D1.out ()).mono ?_
    rintro e u2 ⟨rfl, ⟨g, cap, A, V, r2⟩, f2⟩
    have QQ0 : Hid (QQ w u2 s u1.heap.size u1.heap.size g cap n 0 A V fun _ => []) := ⟨Q1.out.below f2, r2, B1.out.trans (f2.mono (by have := hi1.out; omega)), hi1.out⟩
    clear r2 f2
    generalize u1.heap.size = b at *
    clear Q1 B1 D1 hi1
    go_wp2
    go_loopw [11] (fun i wr => ∃ (k : Nat) (K : Ks) (V : Nat → Value), (k : Int) ≤ 100 ∧ (k : Int) ≤ len1 ∧ QQ w wr s b b g cap n k A V K ∧ i = .int .i64 k) (fun i _ => 100 - (intOf i).toNat)
    case atStart => exact ⟨0, _, V, by omega, by omega, QQ0.out, rfl⟩
    case round =>
      obtain ⟨k, K, V, hk, hk2, p, rfl⟩ := hrel
      clear QQ0
      have HB : Hid (Below s w wr) := p.bel
      have hz : s ≤ wr.heap.size := by have := p.size; omega
      have tail : (¬ (k : Int) < len1 ∧ decide ((k : Int) < len1) = false) ∨ ((k : Int) < len1 ∧ ¬ (k : Int) < 100) ∨ ((k : Int) < len1 ∧ (k : Int) < 100) := by
        by_cases h : (k : Int) < len1
        · by_cases h2 : (k : Int) < 100
          · exact Or.inr (Or.inr ⟨h, h2⟩)
          · exact Or.inr (Or.inl ⟨h, h2⟩)
        · exact Or.inl ⟨h, decide_eq_false h⟩
      rw [← or_assoc] at tail
      rcases tail with tail | ⟨h, h2⟩
      · have P : Hid (QQ w wr s b b g cap n k A V K) := p
        have M1 : Hid (∀ _ : Unit, _) := fun _ => busiest_any mk hmk (HT.out wr p.bel) p.q
        have M2 : Hid (∀ w2 : World, Below wr.heap.size wr w2 → _) := fun w2 f => xbusiest_any mk hmk (p.keep f).r
        have M3 : Hid (∀ w2 : World, Below wr.heap.size wr w2 → _) := fun w2 f => idlest_any mk hmk (HT.out w2 (p.keep f).bel) (p.keep f).q
        have M4 : Hid (∀ w2 : World, Below wr.heap.size wr w2 → _) := fun w2 f => xidlest_any mk hmk (p.keep f).r
        generalize bsN (loN n K) btG (bc mk n) = e1 at *
        generalize bsN (loN n K) btL (bc mk n) = e2 at *
        generalize bsE (bc mk n) = e3 at *
        have g1 : (e1 == e1) = true := by simp
        have g2 : (e2 == e2) = true := by simp
        have g3 : (e3 == e3) = true := by simp
        clear p
        rcases tail with ⟨h, hd⟩ | ⟨h, h2⟩
        all_goals (
          go_wp2_with fail
          refine (M1.out ()).mono ?_
          rintro e v1 ⟨rfl, f1⟩
          have F1 : Hid (Below wr.heap.size wr v1) := f1
          clear f1
          go_wp2_with fail
          refine (M2.out v1 F1.out).mono ?_
          rintro e v2 ⟨rfl, f2⟩
          have F2 : Hid (Below wr.heap.size wr v2) := F1.out.trans (f2.mono F1.out.size)
          clear f2
          go_wp2_with fail
          refine (M3.out v2 F2.out).mono ?_
          rintro e v3 ⟨rfl, f3⟩
          have F3 : Hid (Below wr.heap.size wr v3) := F2.out.trans (f3.mono F2.out.size)
          clear f3
          go_wp2_with fail
          refine (M4.out v3 F3.out).mono ?_
          rintro e v4 ⟨rfl, f4⟩
          have F4 : Hid (Below wr.heap.size wr v4) := F3.out.trans (f4.mono F3.out.size)
          clear f4
          go_wp2_with fail
          refine (KN.out _).mono ?_
          rintro e v5 ⟨rfl, f5⟩
          have F5 : Hid (Below wr.heap.size wr v5) := F4.out.trans (f5.mono F4.out.size)
          clear f5
          go_wp2
          go_ret
          exact ⟨rfl, HB.out.trans (F5.out.mono hz)⟩)
      · obtain ⟨b0, off, rfl, hA⟩ := srow_cell (wr := wr) HR.out (by rw [HS.out]; exact p.bel) h
        have x0 := hA 0 (by decide)
        have x1 := hA 1 (by decide)
        have x2 := hA 2 (by decide)
        have x3 := hA 3 (by decide)
        have x4 := hA 4 (by decide)
        have hw4 := HW.out k (by omega)
        clear hA
        have y0' : wr.cell? ⟨b0, off + k * 5, none⟩ = some (.int .i64 (X1 k 0)) := x0
        have y1' : wr.cell? ⟨b0, off + k * 5 + 1, none⟩ = some (.int .i64 (X1 k 1)) := x1
        have y2' : wr.cell? ⟨b0, off + k * 5 + 2, none⟩ = some (.int .i64 (X1 k 2)) := x2
        have y3' : wr.cell? ⟨b0, off + k * 5 + 3, none⟩ = some (.int .i64 (X1 k 3)) := x3
        have y4' : wr.cell? ⟨b0, off + k * 5 + 4, none⟩ = some (.int .i64 (X1 k 4)) := x4
        clear x0 x1 x2 x3 x4
        generalize X1 k 0 = y0 at *
        generalize X1 k 1 = y1 at *
        generalize X1 k 2 = y2 at *
        generalize X1 k 3 = y3 at *
        generalize X1 k 4 = y4 at *
        have P : Hid (QQ w wr s b b g cap n k A V K) := p
        clear p
        have QB : Hid (QQ w (wr.alloc (.cells #[.int .i64 y0, .int .i64 y1, .int .i64 y2, .int .i64 y3, .int .i64 y4] 33)) s b b g cap n k A V K) := P.out.keep ((Below.refl _ _).alloc (Nat.le_refl _) _)
        have KB0 : Hid (Blk (wr.alloc (.cells #[.int .i64 y0, .int .i64 y1, .int .i64 y2, .int .i64 y3, .int .i64 y4] 33)) wr.heap.size [.int .i64 y0, .int .i64 y1, .int .i64 y2, .int .i64 y3, .int .i64 y4] 33 ∧ s + (3 + 17 * n) ≤ wr.heap.size) := ⟨Blk.new wr _ _, P.out.size⟩
        obtain ⟨wb, hwb⟩ : ∃ wb, wr.alloc (.cells #[.int .i64 y0, .int .i64 y1, .int .i64 y2, .int .i64 y3, .int .i64 y4] 33) = wb := ⟨_, rfl⟩
        have HWB : Hid (wr.alloc (.cells #[.int .i64 y0, .int .i64 y1, .int .i64 y2, .int .i64 y3, .int .i64 y4] 33) = wb) := hwb
        rw [hwb] at QB KB0
        have C1 : Hid (∀ _ : Unit, _) := fun _ => rqdo_any y0 y1 y2 y3 y4 hw4 wb (by omega) QB.out
        have HW4 : Hid ((Lit.int .i64 y4).wf = true) := hw4
        clear hwb hw4 P
        go_wp2_with fail
        rw [HWB.out]
        refine (C1.out ()).mono ?_
        rintro e u3 ⟨rfl, ⟨V3, K3, p3⟩, bx3⟩
        have B3 : Hid (Blk u3 wr.heap.size [.int .i64 y0, .int .i64 y1, .int .i64 y2, .int .i64 y3, .int .i64 y4] 33) := bx3 _ _ KB0.out.1 KB0.out.2
        have P3 : Hid (QQ w u3 s b b g cap n (k + 1) A V3 K3) := p3
        have T1 : Hid (∀ _ : Unit, _) := fun _ => where_any y4 HW4.out p3.q
        have T2 : Hid (∀ _ : Unit, _) := fun _ => xwhere_any y4 p3.r
        have T3 : Hid (∀ _ : Unit, _) := fun _ => rqprio_any y4 HW4.out p3.q
        have c4 : u3.cell? ⟨wr.heap.size, 4, none⟩ = some (.int .i64 y4) := B3.out.cell 4
        clear y0' y1' y2' y3' y4' C1 p3 bx3 QB KB0
        go_wp2_with fail
        refine (T1.out ()).mono ?_
        rintro e u4 ⟨rfl, rfl⟩
        go_wp2_with fail
        refine (T2.out ()).mono ?_
        rintro e u5 ⟨rfl, rfl⟩
        go_wp2_with fail
        refine (T3.out ()).mono ?_
        rintro e u6 ⟨rfl, f6⟩
        have P6 : Hid (QQ w u6 s b b g cap n (k + 1) A V3 K3) := P3.out.keep f6
        have B6 : Hid (Blk u6 wr.heap.size [.int .i64 y0, .int .i64 y1, .int .i64 y2, .int .i64 y3, .int .i64 y4] 33) := B3.out.keep (Fr.of_below f6) B3.out.lt (by simp)
        have T4 : Hid (∀ _ : Unit, _) := fun _ => xprio_any y4 P6.out.r
        have c6 : u6.cell? ⟨wr.heap.size, 4, none⟩ = some (.int .i64 y4) := B6.out.cell 4
        clear f6 T1 T2 T3 P3 B3 c4
        go_wp2_with fail
        refine (T4.out ()).mono ?_
        rintro e u7 ⟨rfl, rfl⟩
        have KB : Hid (∀ w1 : World, Below u7.heap.size u7 w1 → w1.cell? ⟨wr.heap.size, 1, none⟩ = some (.int .i64 y1) ∧ w1.cell? ⟨wr.heap.size, 2, none⟩ = some (.int .i64 y2)) := fun w1 b1 => by
          have := B6.out.keep (Fr.of_below b1) B6.out.lt (by simp)
          exact ⟨this.cell 1, this.cell 2⟩
        obtain ⟨z1, z2⟩ := KB.out u7 (Below.refl _ _)
        have L1 : Hid (∀ w1 : World, w1.heap = u7.heap → _) := fun w1 e => load_any y1 (P6.out.q.heap e)
        have L2 : Hid (∀ w1 : World, Sm w1 u7 → Calls Tryd.prog 13 #[.pointer (some ⟨b, 0, none⟩), .int .i64 y1] w1 fun e w' => e = .returned (.int .i64 (loN n K3 y1)) ∧ Below u7.heap.size u7 w') := fun w1 e => (xload_any y1 (P6.out.r.heap e.1)).mono fun _ w2 ⟨r1, r2⟩ => ⟨r1, by have := e.from r2; rwa [e.1] at this⟩
        have L3 : Hid (∀ (y : Int) (v1 w1 : World), Below u7.heap.size u7 v1 → Sm w1 v1 → Calls Tryd.prog 15 #[.pointer (some ⟨s + 2, 0, none⟩), .int .i64 y] w1 fun e w' => ∃ v, e = .returned v ∧ w'.ownsRow v1.heap.size 3 1 v (liL n K3 y).length ((liL n K3 y).map (Value.int .i64)) ∧ Below v1.heap.size v1 w') := fun y v1 w1 bv e => (rqlist_any y ((P6.out.keep bv).q.heap e.1)).mono fun _ w2 ⟨v, r1, r2, r3⟩ => ⟨v, r1, by rw [e.1] at r2; exact r2, by have := e.from r3; rwa [e.1] at this⟩
        have L4 : Hid (∀ (y : Int) (v1 w1 : World), Below u7.heap.size u7 v1 → Sm w1 v1 → Calls Tryd.prog 16 #[.pointer (some ⟨b, 0, none⟩), .int .i64 y] w1 fun e w' => ∃ v, e = .returned v ∧ w'.ownsRow v1.heap.size 3 1 v (liL n K3 y).length ((liL n K3 y).map (Value.int .i64)) ∧ Below v1.heap.size v1 w') := fun y v1 w1 bv e => (xlist_any y ((P6.out.keep bv).r.heap e.1)).mono fun _ w2 ⟨v, r1, r2⟩ => ⟨v, r1, by have := r2.own; rw [e.1] at this; exact this, by have := e.from r2.bel; rwa [e.1] at this⟩
        have LC : ∀ c : Int, (liL n K3 c).length ≤ 32 := fun c => by
          unfold liL
          by_cases hc : isC n c
          · have ok := P6.out.q.al.ok c.toNat (by unfold isC at hc; omega)
            rw [if_pos hc, len_cat ok.rg]
            exact ok.le
          · rw [if_neg hc]
            decide
        have L5 : Hid (∀ (c : Int) (v0 v1 v2 w1 : World) (x y : Value), v1.ownsRow v0.heap.size 3 1 x (liL n K3 c).length ((liL n K3 c).map (Value.int .i64)) → Below v1.heap.size v1 v2 → v2.ownsRow v1.heap.size 3 1 y (liL n K3 c).length ((liL n K3 c).map (Value.int .i64)) → w1.heap = v2.heap → Calls Tryd.prog 14 #[x, y] w1 fun e w' => e = .returned (.bool true) ∧ ∃ n, w' = w1.drewN n) := fun c v0 v1 v2 w1 x y o1 b2 o2 e => by
          have R1 : Row v2 x (liL n K3 c) := (row_of_owns o1).keep (B := v1.heap.size) (Fr.of_below b2) (Nat.le_refl _)
          have R2 : Row v2 y (liL n K3 c) := row_of_owns o2
          have := LC c
          exact ints_any (liL n K3 c) x y w1 (by omega) (R1.heap e) (R2.heap e)
        have FIN : Hid (∀ v1 w1 : World, Below u7.heap.size u7 v1 → Sm w1 v1 → QQ w w1 s b b g cap n (k + 1) A V3 K3) := fun v1 w1 b1 e => (P6.out.keep b1).sm e
        generalize whN n K3 y4 = n1 at *
        generalize whB n K3 y4 = n2 at *
        generalize rpN n K3 y4 = n3 at *
        generalize loN n K3 y1 = n4 at *
        have g1 : (n1 != n1) = false := by simp
        have g2 : (n2 != n2) = false := by simp
        have g3 : (n3 != n3) = false := by simp
        have g4 : (n4 != n4) = false := by simp
        clear P6 T4 c6 LC B6
        go_wp2_with fail
        go_region_held3 (fun w' => w'.cell? ⟨wr.heap.size, 1, none⟩ = some (.int .i64 y1) ∧ w'.cell? ⟨wr.heap.size, 2, none⟩ = some (.int .i64 y2)) (go_keep)
          (first | (go_at_call 12; refine (L1.out _ ?_).mono ?_; rfl; rintro e w' ⟨rfl, rfl⟩) | (go_at_call 13; refine (L2.out _ ?_).mono ?_; exact ⟨rfl, rfl, rfl, rfl⟩; rintro e v8 ⟨rfl, b8⟩; have E8 : Hid (Below u7.heap.size u7 v8) := b8; obtain ⟨k8, j8⟩ := KB.out v8 b8; clear b8) | (go_at_call 15; refine (L3.out y1 v8 _ E8.out ?_).mono ?_; exact ⟨rfl, rfl, rfl, rfl⟩; rintro e v9 ⟨r9, rfl, o9, b9⟩; obtain ⟨a9, c9, rfl⟩ := own_shape o9; have E9 : Hid (Below u7.heap.size u7 v9) := E8.out.trans (b9.mono E8.out.size); obtain ⟨k9, j9⟩ := KB.out v9 E9.out; have O9 : Hid (v9.ownsRow v8.heap.size 3 1 (.slice a9 (liL n K3 y1).length c9) (liL n K3 y1).length ((liL n K3 y1).map (Value.int .i64))) := o9; have B9 : Hid (Below v8.heap.size v8 v9) := b9; clear o9 b9 E8) | (go_at_call 16; refine (L4.out y1 v9 _ E9.out ?_).mono ?_; exact ⟨rfl, rfl, rfl, rfl⟩; rintro e v10 ⟨r10, rfl, o10, b10⟩; obtain ⟨a10, c10, rfl⟩ := own_shape o10; have E10 : Hid (Below u7.heap.size u7 v10) := E9.out.trans (b10.mono E9.out.size); obtain ⟨k10, j10⟩ := KB.out v10 E10.out; have O10 : Hid (v10.ownsRow v9.heap.size 3 1 (.slice a10 (liL n K3 y1).length c10) (liL n K3 y1).length ((liL n K3 y1).map (Value.int .i64))) := o10; have B10 : Hid (Below v9.heap.size v9 v10) := b10; clear o10 b10 E9) | (go_at_call 14; refine (L5.out y1 v8 v9 v10 _ _ _ O9.out B10.out O10.out ?_).mono ?_; rfl; rintro e w' ⟨rfl, d1, rfl⟩; clear O9 O10) | (go_at_call 15; refine (L3.out y2 v10 _ E10.out ?_).mono ?_; exact ⟨rfl, rfl, rfl, rfl⟩; rintro e v11 ⟨r11, rfl, o11, b11⟩; obtain ⟨a11, c11, rfl⟩ := own_shape o11; have E11 : Hid (Below u7.heap.size u7 v11) := E10.out.trans (b11.mono E10.out.size); obtain ⟨k11, j11⟩ := KB.out v11 E11.out; have O11 : Hid (v11.ownsRow v10.heap.size 3 1 (.slice a11 (liL n K3 y2).length c11) (liL n K3 y2).length ((liL n K3 y2).map (Value.int .i64))) := o11; have B11 : Hid (Below v10.heap.size v10 v11) := b11; clear o11 b11 E10) | (go_at_call 16; refine (L4.out y2 v11 _ E11.out ?_).mono ?_; exact ⟨rfl, rfl, rfl, rfl⟩; rintro e v12 ⟨r12, rfl, o12, b12⟩; obtain ⟨a12, c12, rfl⟩ := own_shape o12; have E12 : Hid (Below u7.heap.size u7 v12) := E11.out.trans (b12.mono E11.out.size); obtain ⟨k12, j12⟩ := KB.out v12 E12.out; have O12 : Hid (v12.ownsRow v11.heap.size 3 1 (.slice a12 (liL n K3 y2).length c12) (liL n K3 y2).length ((liL n K3 y2).map (Value.int .i64))) := o12; have B12 : Hid (Below v11.heap.size v11 v12) := b12; clear o12 b12 E11) | (go_at_call 14; refine (L5.out y2 v10 v11 v12 _ _ _ O11.out B12.out O12.out ?_).mono ?_; rfl; rintro e w' ⟨rfl, d2, rfl⟩))
        all_goals go_wp2
        go_roundw
        case rel => exact ⟨k + 1, K3, V3, by omega, by omega, FIN.out v12 _ E12.out ⟨rfl, rfl, rfl, rfl⟩, by go_num⟩
        case measure => simp [intOf]; omega

set_option maxRecDepth 100000 in
theorem lifted (os : Os) (started : os.Started) (H : Type) (enc : TypeId × Value → H) :
    ReturnsInHanded {} Tryd.checked os 3 .any (fun w args => (Rows.runqPlaysSpec.pre enc Tryd.prog Tryd.f3 [] false w args ∧ laidMetH Tryd.prog laidTab w) ∧ sizedMet enc Tryd.prog Tryd.f3 (OpenSpec.ofChange Rows.runqPlaysSpec) false w args)
      (Rows.runqPlaysSpec.post enc Tryd.prog Tryd.f3 false true false false) := by
  refine returnsInHanded_of_change_and (C := Tryd.checked) (X := fun w _ => laidMetH Tryd.prog laidTab w) (fun _ _ _ hh h => h.of_heap hh) own started (by kernel_rfl) Tryd.func3
    (ChangeSpec.witness_shaped (enc := enc) (C := Tryd.checked) (os := os) (X := fun w _ => laidMetH Tryd.prog laidTab w) false (World.doorLaid Tryd.prog 400 os) #[.int .i64 0, .slice none 0 0, .int .u64 0] 8 rfl (World.shaped_of_RefB (by kernel_rfl) (by kernel_rfl)) (by kernel_rfl) (by kernel_rfl) (by kernel_rfl) (door_met os _)) ?_
  intro W base args ds gs before hval0 hW _ _ hL _
  have hval : ∀ (j : Nat) t v, Tryd.f3.params[j]? = some t → args[j]? = some v → Value.okWide Tryd.prog W .any base t v := hval0
  have hW' := hW
  obtain ⟨p, q, hA0, hV, rfl, hfz, hnd⟩ := hW
  have hA : DataW.TrodAll enc Tryd.prog W 0 (fun _ => true) true Tryd.f3.params.toList args.toList ds p := hA0
  rw [Tryd.params3] at hA hval
  obtain ⟨v0, vs0, d0, ds0, p0, q0, hargs, rfl, rfl, h0, r0⟩ := trodAll_cons hA
  obtain ⟨v1, vs1, d1, ds1, p1, q1, rfl, rfl, rfl, h1, r1⟩ := trodAll_cons r0
  obtain ⟨v2, vs2, d2, ds2, p2, q2, rfl, rfl, rfl, h2, r2⟩ := trodAll_cons r1
  obtain ⟨rfl, rfl, rfl⟩ := trodAll_nil r2
  obtain rfl : args = #[v0, v1, v2] := by cases args; simp_all
  obtain ⟨rfl, rfl⟩ := trodVars_none hV
  obtain ⟨a0, rfl, rfl, rfl, w0⟩ := open_int Tryd.underlying3 (hval 0 3 v0 rfl rfl) h0
  obtain ⟨a1, len1, cap1, rfl⟩ := okWide_slice Tryd.underlying22 (hval 1 22 v1 rfl rfl)
  have k1 := h1
  have lt1 : ∀ x ∈ p1, x.block < W.heap.size := by obtain ⟨m, hm⟩ := k1; exact DataW.trod_lt m _ _ _ hm
  obtain ⟨X1, w1, z1⟩ : ∃ X : Nat → Nat → Int, SRow W (.slice a1 len1 cap1) len1 [true, true, true, true, true] X ∧ ∀ i, i < len1 → ∀ j, j < [true, true, true, true, true].length → [true, true, true, true, true].getD j true = true → (Lit.int .i64 (X i j)).wf = true := by
    obtain ⟨fuel, hf⟩ := h1
    exact open_recs [true, true, true, true, true] Tryd.underlying22 Tryd.underlying33 (by kernel_rfl) rfl (by decide) (fun | 0, _ => ⟨_, rfl, rfl, by kernel_rfl, Tryd.underlying3⟩ | 1, _ => ⟨_, rfl, rfl, by kernel_rfl, Tryd.underlying3⟩ | 2, _ => ⟨_, rfl, rfl, by kernel_rfl, Tryd.underlying3⟩ | 3, _ => ⟨_, rfl, rfl, by kernel_rfl, Tryd.underlying3⟩ | 4, _ => ⟨_, rfl, rfl, by kernel_rfl, Tryd.underlying3⟩ | n + 5, h => absurd h (by simp only [List.length]; omega)) hf
  obtain ⟨a2, rfl, rfl, rfl, w2⟩ := open_int Tryd.underlying23 (hval 2 23 v2 rfl rfl) h2
  obtain ⟨hT, hS⟩ := of_laid hL
  clear hA0 hval0
  refine (walk a0 a1 len1 cap1 X1 a2 W w0 w1 z1 w2 hT hS).mono fun e W' ⟨he, bel⟩ => ?_
  subst he
  exact ⟨_, rfl, _, _, _, [], _, [], hW', trodAll_mk1 (shut_bool Tryd.underlying4 _), (trodAll_cons_mk (shut_int Tryd.underlying3 w0) (trodAll_cons_mk (Below.trod laidOut (by kernel_rfl) (of_decide_eq_true (by kernel_rfl)) k1 bel lt1) (trodAll_cons_mk (shut_int Tryd.underlying23 w2) trodAll_mk0))), rfl, bel.frame _, fun h => by cases h⟩

theorem over : Rows.RunqPlaysSaid :=
  OpenClaim.holds_of_wide 3 Tryd.f3 rfl rfl rfl rfl rfl rfl rfl ⟨rfl, rfl, rfl, rfl, rfl⟩ rfl rfl rfl rfl rfl (by kernel_rfl) Tryd.func3 (by kernel_rfl)
    (of_decide_eq_true (by kernel_rfl)) (by unfold Func.isWrapper; first | (rw [if_pos (by decide +kernel)]; kernel_rfl) | (rw [if_neg (by decide +kernel)]; exact ⟨rfl, rfl⟩))
    (fun os started H enc _ => lifted os started H enc)
end Go.Proofs.YtpmjojemcpgpiaaDoor.runqPlays

namespace Go.Proofs.YtpmjojemcpgpiaaDoor
open Go
theorem runqPlays_card : Rows.RunqPlaysCardSaid :=
  Claim7.holds_tied_plain_at .later [] [.data] true (true, "87fdcc8c0e667e697086d02b05aea6f44724acde9f9bd9d0ce3fe22360106323") false
    runqPlays.over (fun _ h => by cases h) (by kernel_rfl) (fun _ h => by cases h) runqPlays_row_tie rfl ⟨rfl, rfl⟩ (by kernel_rfl) rfl
    (fun f fn hf hfn => by
      obtain rfl : f = 3 := Option.some.inj ((show Tryd.prog.funcNamed "davit/davitlaw10.RunqPlays" = some 3 by kernel_rfl).symm.trans hf) |>.symm
      obtain rfl : fn = Tryd.f3 := (Option.some.inj (Tryd.func3.symm.trans hfn)).symm
      exact ⟨by kernel_rfl, fun j t ht => by
        rw [Tryd.params3] at ht
        have hm : t ∈ [3, 22, 23] := by simpa using Array.mem_of_getElem? ht
        have hall : ([3, 22, 23].all fun u => !Tryd.prog.wantsStandIn u) = true := by kernel_rfl
        exact (show Tryd.prog.wantsStandIn t = false by simpa using List.all_eq_true.1 hall t hm)⟩)
    (by kernel_rfl)
#print axioms runqPlays_card
end Go.Proofs.YtpmjojemcpgpiaaDoor
