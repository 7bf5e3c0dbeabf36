/- A governor of the program as it lies in memory; what its New, Set, Feed, Freq, Busy and Limits answer and leave, for every one. -/
import Derived.Test.YtjfmokfjnjbheaaRows
import Derived.Test.YtjfmokfjnjbheaaGf
import Derived.WalkKit
import Derived.ProofKit
import Derived.OpenShut
import Derived.BigQuiet
import Derived.Deep.RegionHeld3
namespace Go.Proofs.Ytjfmokfjnjbheaa
open Go.ChangeShapes Go.WideShapes Go.ChangeAt Go.RowKit

/-- A governor at block s: its limits, its last four feeds, the eldest one ahead, which stands at place p. -/
structure PG (w : World) (s : Nat) (lo hi : Int) (q : List Fq) (p : Nat) : Prop where
  sb : Blk w s ([.int .i64 lo, .int .i64 hi] ++ fq.all (arr p q) ++ [.int .i64 (p : Int)]) 71
  ln : q.length = 4
  pl : p < 4
  ok : ∀ x ∈ q, Fok x

section
variable {w w1 : World} {s p : Nat} {lo hi : Int} {q : List Fq}
theorem PG.heap (h : PG w s lo hi q p) (e : w1.heap = w.heap) : PG w1 s lo hi q p := ⟨h.sb.heap e, h.ln, h.pl, h.ok⟩
theorem PG.keep {B : Nat} {S : List Nat} (h : PG w s lo hi q p) (k : Fr B S w w1) (hb : s < B) (hs : s ∉ S) : PG w1 s lo hi q p := ⟨h.sb.keep k hb hs, h.ln, h.pl, h.ok⟩
theorem PG.below (h : PG w s lo hi q p) (k : Below w.heap.size w w1) : PG w1 s lo hi q p := h.keep (Fr.of_below k) h.sb.lt (by simp)
theorem PG.c0 (h : PG w s lo hi q p) : w.cell? ⟨s, 0, none⟩ = some (.int .i64 lo) := h.sb.cell 0
theorem PG.c1 (h : PG w s lo hi q p) : w.cell? ⟨s, 1, none⟩ = some (.int .i64 hi) := h.sb.cell 1
theorem PG.f0 (h : PG w s lo hi q p) : w.frozen? ⟨s, 0, none⟩ = false := h.sb.free 0
theorem PG.f1 (h : PG w s lo hi q p) : w.frozen? ⟨s, 1, none⟩ = false := h.sb.free 1
theorem pg_set (h : PG w s lo hi q p) (a b : Int) : PG ((w.setCell ⟨s, 0, none⟩ (.int .i64 a)).setCell ⟨s, 1, none⟩ (.int .i64 b)) s a b q p :=
  ⟨(h.sb.set 0 _).set 1 _, h.ln, h.pl, h.ok⟩
end

theorem glimits_any {s p : Nat} {lo hi : Int} {q : List Fq} (w : World) (h : PG w s lo hi q p) :
    Calls Try.prog 26 #[.pointer (some ⟨s, 0, none⟩)] w fun e w' => e = .returned (.tuple #[.int .i64 lo, .int .i64 hi]) ∧ Sm w' w := by
  have c0 := h.c0
  have c1 := h.c1
  clear h
  go_enter Try.func26, Try.ntmps26
  go_wp2
  go_quiet (fail)
  go_wp2
  go_ret2
  exact ⟨rfl, rfl, rfl, rfl, rfl⟩

theorem arr_index (x0 x1 x2 x3 : Fq) (k : Nat) (h : k < 4) (w : World) : (Instr.index 69 (.agg #[.int .i64 x0.b, .int .i64 x0.a, .int .i64 x1.b, .int .i64 x1.a, .int .i64 x2.b, .int .i64 x2.a, .int .i64 x3.b, .int .i64 x3.a]) (.int .i64 (k : Int))).run Try.prog w = .ok (.agg #[.int .i64 ([x0, x1, x2, x3].getD k fz).b, .int .i64 ([x0, x1, x2, x3].getD k fz).a]) w := by
  obtain rfl | rfl | rfl | rfl : k = 0 ∨ k = 1 ∨ k = 2 ∨ k = 3 := by omega
  all_goals rfl

set_option maxHeartbeats 1000000 in
theorem gbusy_any {s p : Nat} {lo hi : Int} {q : List Fq} (w : World) (h : PG w s lo hi q p) :
    Calls Try.prog 29 #[.pointer (some ⟨s, 0, none⟩)] w fun e w' => e = .returned (.int .i64 (bz q)) ∧ Below w.heap.size w w' := by
  have hq : bz q = pc (sb (arr p q)) (sa (arr p q)) := by rw [arr_sb, arr_sa, bz]
  rw [hq]
  have hk : ∀ x ∈ arr p q, Fok x := fun x hx => by
    rcases List.mem_append.1 hx with e | e
    · exact h.ok x (List.mem_of_mem_drop e)
    · exact h.ok x (List.mem_of_mem_take e)
  have hb := h.sb
  have al := arr_len (p := p) h.ln
  obtain ⟨x0, x1, x2, x3, e⟩ := four_of al
  have ha := hb.alloc (.cells #[.int .i64 0, .int .i64 0] 68)
  rw [e] at ha
  have c2 : (w.alloc (.cells #[.int .i64 0, .int .i64 0] 68)).cell? ⟨s, 2, none⟩ = some (.int .i64 x0.b) := ha.cell 2
  have c3 : (w.alloc (.cells #[.int .i64 0, .int .i64 0] 68)).cell? ⟨s, 3, none⟩ = some (.int .i64 x0.a) := ha.cell 3
  have c4 : (w.alloc (.cells #[.int .i64 0, .int .i64 0] 68)).cell? ⟨s, 4, none⟩ = some (.int .i64 x1.b) := ha.cell 4
  have c5 : (w.alloc (.cells #[.int .i64 0, .int .i64 0] 68)).cell? ⟨s, 5, none⟩ = some (.int .i64 x1.a) := ha.cell 5
  have c6 : (w.alloc (.cells #[.int .i64 0, .int .i64 0] 68)).cell? ⟨s, 6, none⟩ = some (.int .i64 x2.b) := ha.cell 6
  have c7 : (w.alloc (.cells #[.int .i64 0, .int .i64 0] 68)).cell? ⟨s, 7, none⟩ = some (.int .i64 x2.a) := ha.cell 7
  have c8 : (w.alloc (.cells #[.int .i64 0, .int .i64 0] 68)).cell? ⟨s, 8, none⟩ = some (.int .i64 x3.b) := ha.cell 8
  have c9 : (w.alloc (.cells #[.int .i64 0, .int .i64 0] 68)).cell? ⟨s, 9, none⟩ = some (.int .i64 x3.a) := ha.cell 9
  have HI : Hid (∀ k, k < 4 → ∀ w, _) := fun k hk w => arr_index x0 x1 x2 x3 k hk w
  rw [← e] at HI
  generalize arr p q = A at *
  have HA : Hid (A.length = 4 ∧ ∀ x ∈ A, Fok x) := ⟨al, hk⟩
  have hin := sum_in A hk
  rw [al] at hin
  have C : Hid (∀ w, _) := fun w => percent_any (sb A) (sa A) w (by omega) (by omega)
  generalize pc (sb A) (sa A) = ans at *
  have HT : Hid (A.take 4 = A) := List.take_of_length_le (by omega)
  generalize x0.b = b0 at *
  generalize x0.a = a0 at *
  generalize x1.b = b1 at *
  generalize x1.a = a1 at *
  generalize x2.b = b2 at *
  generalize x2.a = a2 at *
  generalize x3.b = b3 at *
  generalize x3.a = a3 at *
  clear h hq hk hb al e ha hin
  have S0 : Hid (Blk (w.alloc (.cells #[.int .i64 0, .int .i64 0] 68)) w.heap.size [.int .i64 0, .int .i64 0] 68 ∧ Below w.heap.size w (w.alloc (.cells #[.int .i64 0, .int .i64 0] 68))) := ⟨Blk.new w [.int .i64 0, .int .i64 0] _, (Below.refl _ _).alloc (Nat.le_refl _) _⟩
  obtain ⟨z, hz⟩ : ∃ z, w.heap.size = z := ⟨_, rfl⟩
  rw [hz] at S0 ⊢
  go_enter Try.func29, Try.ntmps29
  go_wp2
  go_loopw [12] (fun i wr => ∃ k : Nat, (k : Int) ≤ 4 ∧ Blk wr z [.int .i64 (sb (A.take k)), .int .i64 (sa (A.take k))] 68 ∧ Below z w wr ∧ i = .int .i64 k) (fun i _ => 4 - (intOf i).toNat)
  case atStart => exact ⟨0, by omega, S0.out.1, S0.out.2, rfl⟩
  case round =>
    obtain ⟨k, hk, hs, hl, rfl⟩ := hrel
    clear S0 c2 c3 c4 c5 c6 c7 c8 c9
    have hzl : Hid (z < wr.heap.size) := hs.lt
    by_cases e : (k : Int) < 4
    · have hx := HI.out k (by omega) wr
      have hkA : k < A.length := by have := HA.out.1; omega
      have ht := take_one' A fz hkA
      have EX : Hid (sb (A.take (k + 1)) = sb (A.take k) + (A.getD k fz).b) := by
        show sb _ = _
        rw [ht, sb_app]; simp [sb]
      have EY : Hid (sa (A.take (k + 1)) = sa (A.take k) + (A.getD k fz).a) := by
        show sa _ = _
        rw [ht, sa_app]; simp [sa]
      have i1 := sum_in (A.take k) fun x hx => HA.out.2 x (List.mem_of_mem_take hx)
      have i2 : Fok (A.getD k fz) := HA.out.2 _ (by simp [List.getD, hkA])
      unfold Fok at i2
      rw [List.length_take] at i1
      have hmin : ((min k A.length : Nat) : Int) ≤ 4 := by omega
      have i3 : sa (A.take k) ≤ 4398046511104 := by omega
      have ha := hs.alloc (.cells #[.int .i64 (A.getD k fz).b, .int .i64 (A.getD k fz).a] 68)
      generalize A.getD k fz = x at *
      obtain ⟨b, a⟩ := x
      dsimp only at hx EX EY i2 ha
      generalize sb (A.take k) = X at *
      generalize sa (A.take k) = Y at *
      have hX : 0 ≤ X ∧ X ≤ 4398046511104 := by omega
      have hY : 0 ≤ Y ∧ Y ≤ 4398046511104 := by omega
      have hb : 0 ≤ b ∧ b ≤ 1099511627776 := by omega
      have hc : 0 ≤ a ∧ a ≤ 1099511627776 := by omega
      have t0 := ha.cell 0
      have t1 := ha.cell 1
      have f0 := ha.free 0
      have f1 := ha.free 1
      have G : Hid (∀ x y, Blk (((wr.alloc (.cells #[.int .i64 b, .int .i64 a] 68)).setCell ⟨z, 0, none⟩ x).setCell ⟨z, 1, none⟩ y) z [x, y] 68 ∧ Below z w (((wr.alloc (.cells #[.int .i64 b, .int .i64 a] 68)).setCell ⟨z, 0, none⟩ x).setCell ⟨z, 1, none⟩ y)) := fun x y => ⟨(ha.set 0 x).set 1 y, ((hl.alloc (Nat.le_of_lt hzl.out) _).setCell (Nat.le_refl _) _).setCell (Nat.le_refl _) _⟩
      clear hs hl ha hk hkA ht i1 i2 i3 hmin
      go_wp2
      go_roundw
      case rel => exact ⟨k + 1, by omega, by rw [EX.out, EY.out]; exact (G.out _ _).1, (G.out _ _).2, by go_num⟩
      case measure => simp [intOf]; omega
    · obtain rfl : k = 4 := by omega
      rw [HT.out] at hs
      have t0 := hs.cell 0
      have t1 := hs.cell 1
      have HL : Hid (Below z w wr) := hl
      clear hs hl hk
      go_wp2_with fail
      refine (C.out _).mono ?_
      rintro e w' ⟨rfl, n, rfl⟩
      go_wp2
      go_ret
      exact ⟨rfl, HL.out.os, HL.out.tape, HL.out.output, HL.out.size, HL.out.block⟩
end Go.Proofs.Ytjfmokfjnjbheaa
