/- Contracts of the program's layers, as far as this claim needs them. -/
import Derived.Test.YtmkboahjkhkefaaGreatDoorQKnc
set_option linter.unusedVariables false
set_option linter.unusedSimpArgs false
namespace Go.Proofs.YtmkboahjkhkefaaGreatDoor.Krn
open Go.ChangeShapes Go.WideShapes Go.ChangeAt Go.RowKit
open Mm
section
variable {n : Nat} {w0 w w' : World} {z : Nat} {cs : List Value} {J : List Pt}
theorem nw1 (h : NB (new n) w0 w z cs J) (n1 : (1 : Int) ≤ n) (n2 : (n : Int) ≤ 64) : Calls Tryz.prog 43 #[.int .i64 (n : Int)] w fun e w' => ∃ b, e = .returned (.tuple #[.pointer (some ⟨b + 2, 0, none⟩), .int .i64 0]) ∧ NB (new n) w0 w' z cs ((1, fun a => a.n = n ∧ a.th = b, [b, b + 1, b + 2]) :: J) := by
  refine (Thr.thnew_any n w n1 n2).mono ?_
  rintro e w' ⟨rfl, t, l, _⟩
  exact ⟨_, rfl, h.s1 (by omega) rfl t l⟩
theorem nw2 (h : NB (new n) w0 w z cs J) (n1 : (1 : Int) ≤ n) (n2 : (n : Int) ≤ 64) : Calls Tryz.prog 44 #[.int .i64 (n : Int)] w fun e w' => ∃ b, e = .returned (.tuple #[.pointer (some ⟨b + 2, 0, none⟩), .int .i64 0]) ∧ NB (new n) w0 w' z cs ((2, fun a => a.n = n ∧ a.rq = b, Rqu.rz b n) :: J) := by
  refine (Rqu.rqnew_any n w n1 n2).mono ?_
  rintro e w' ⟨rfl, t, l⟩
  exact ⟨_, rfl, h.s2 rfl t l⟩
theorem nw4 (h : NB (new n) w0 w z cs J) (n1 : (1 : Int) ≤ n) (n2 : (n : Int) ≤ 64) : Calls Tryz.prog 46 #[.int .i64 (n : Int)] w fun e w' => ∃ b, e = .returned (.tuple #[.pointer (some ⟨b, 0, none⟩), .int .i64 0]) ∧ NB (new n) w0 w' z cs ((4, fun a => a.n = n ∧ a.iq = b, [b]) :: J) := by
  refine (Irq.iqnew_any n w n1 n2).mono ?_
  rintro e w' ⟨rfl, t, l, _⟩
  exact ⟨_, rfl, h.s4 rfl t l⟩
theorem nw5 (h : NB (new n) w0 w z cs J) (n1 : (1 : Int) ≤ n) (n2 : (n : Int) ≤ 64) : Calls Tryz.prog 47 #[.int .i64 (n : Int)] w fun e w' => ∃ b, e = .returned (.tuple #[.pointer (some ⟨b, 0, none⟩), .int .i64 0]) ∧ NB (new n) w0 w' z cs ((5, fun a => a.n = n ∧ a.rt = b, [b]) :: J) := by
  refine (Rou.rtnew_any n w n1 n2).mono ?_
  rintro e w' ⟨rfl, t, l, _⟩
  exact ⟨_, rfl, h.s5 rfl t l⟩
theorem nw6 (h : NB (new n) w0 w z cs J) (n1 : (1 : Int) ≤ n) (n2 : (n : Int) ≤ 64) : Calls Tryz.prog 48 #[.int .i64 (n : Int)] w fun e w' => ∃ b, e = .returned (.tuple #[.pointer (some ⟨b + 6, 0, none⟩), .int .i64 0]) ∧ NB (new n) w0 w' z cs ((6, fun a => a.n = n ∧ a.wk = b, Wrk.gz b n) :: J) := by
  refine (Wrk.gnew_any n w n1 n2).mono ?_
  rintro e w' ⟨rfl, t, l⟩
  exact ⟨_, rfl, h.s6 rfl t l⟩
theorem nw7 (h : NB (new n) w0 w z cs J) (n1 : (1 : Int) ≤ n) (n2 : (n : Int) ≤ 64) : Calls Tryz.prog 49 #[.int .i64 (n : Int)] w fun e w' => ∃ b, e = .returned (.tuple #[.pointer (some ⟨b + 3, 0, none⟩), .int .i64 0]) ∧ NB (new n) w0 w' z cs ((7, fun a => a.n = n ∧ a.cl = b, Wrk.cz b n) :: J) := by
  refine (Wrk.cnew_any n w n1 n2).mono ?_
  rintro e w' ⟨rfl, t, l⟩
  exact ⟨_, rfl, h.s7 rfl t l⟩
theorem nw9 (h : NB (new n) w0 w z cs J) (n1 : (1 : Int) ≤ n) (n2 : (n : Int) ≤ 64) : Calls Tryz.prog 51 #[.int .i64 (n : Int)] w fun e w' => ∃ b, e = .returned (.tuple #[.pointer (some ⟨b + 1, 0, none⟩), .int .i64 0]) ∧ NB (new n) w0 w' z cs ((9, fun a => a.n = n ∧ a.ct = b + 1, [b + 1, b]) :: J) := by
  refine (Spl.new_any n w n1 n2).mono ?_
  rintro e w' ⟨rfl, t, l⟩
  exact ⟨_, rfl, h.s9 rfl t l⟩
theorem nw11 (h : NB (new n) w0 w z cs J) (n1 : (1 : Int) ≤ n) (n2 : (n : Int) ≤ 64) : Calls Tryz.prog 52 #[.int .i64 (n : Int)] w fun e w' => ∃ b, e = .returned (.tuple #[.pointer (some ⟨b + 2, 0, none⟩), .int .i64 0]) ∧ NB (new n) w0 w' z cs ((11, fun a => a.n = n ∧ a.gt = b + 2, [b + 2, b]) :: J) := by
  refine (Gat.gnew_any n w n1 n2).mono ?_
  rintro e w' ⟨rfl, t, _, l⟩
  exact ⟨_, rfl, h.s11 rfl t l⟩
theorem nw13 (h : NB (new n) w0 w z cs J) (n1 : (1 : Int) ≤ n) (n2 : (n : Int) ≤ 64) : Calls Tryz.prog 53 #[.int .i64 (n : Int)] w fun e w' => ∃ b, e = .returned (.tuple #[.pointer (some ⟨b + 1, 0, none⟩), .int .i64 0]) ∧ NB (new n) w0 w' z cs ((13, fun a => a.n = n ∧ a.co = b + 1, [b + 1, b]) :: J) := by
  refine (Cor.ctnew_any n w n1 n2).mono ?_
  rintro e w' ⟨rfl, t, l⟩
  exact ⟨_, rfl, h.s13 rfl t l⟩
theorem nw14 (h : NB (new n) w0 w z cs J) (n1 : (1 : Int) ≤ n) (n2 : (n : Int) ≤ 64) : Calls Tryz.prog 54 #[.int .i64 (n : Int)] w fun e w' => ∃ b, e = .returned (.tuple #[.pointer (some ⟨b + 1, 0, none⟩), .int .i64 0]) ∧ NB (new n) w0 w' z cs ((14, fun a => a.n = n ∧ a.mt = b + 1, [b + 1, b]) :: J) := by
  refine (Met.mtnew_any n w n1 n2).mono ?_
  rintro e w' ⟨rfl, t, l⟩
  exact ⟨_, rfl, h.s14 rfl t l⟩
theorem nw3 (h : NB (new n) w0 w z cs J) (n1 : (1 : Int) ≤ n) (n2 : (n : Int) ≤ 64) : Calls Tryz.prog 45 #[.int .i64 (n : Int)] w fun e w' => ∃ b F, e = .returned (.tuple #[.pointer (some ⟨b, 0, none⟩), .int .i64 0]) ∧ NB (new n) w0 w' z cs ((3, fun a => a.n = n ∧ a.tm = b, F) :: J) := by
  refine (Tim.tnew_any n w n1 n2).mono ?_
  rintro e w' ⟨b, rfl, F, t, hF, l⟩
  exact ⟨_, _, rfl, h.s3 t hF l⟩
theorem nw8 (h : NB (new n) w0 w z cs J) (n1 : (1 : Int) ≤ n) (n2 : (n : Int) ≤ 64) : Calls Tryz.prog 50 #[.int .i64 (n : Int), .int .i64 12] w fun e w' => ∃ b F, e = .returned (.tuple #[.pointer (some ⟨b, 0, none⟩), .int .i64 0]) ∧ NB (new n) w0 w' z cs ((8, fun a => a.n = n ∧ a.ob = b, F) :: J) := by
  refine (Sta.snew_any n 12 w n1 n2 (by decide) (by decide)).mono ?_
  rintro e w' ⟨b, pb, lb, V, rfl, t, hb, l⟩
  refine ⟨_, _, rfl, h.s8 t hb (fun g hg => ?_) t.po.pg l⟩
  exact t.st.bl_lt hg
end
end Go.Proofs.YtmkboahjkhkefaaGreatDoor.Krn
