/- What route's On and Cores answer and leave, for every route. -/
import Derived.Test.YthhgmnkgeombhaaRows
import Derived.Test.YthhgmnkgeombhaaNa
import Derived.Test.YthhgmnkgeombhaaKh
import Derived.Test.YthhgmnkgeombhaaKi
import Derived.WalkKit
import Derived.ProofKit
import Derived.OpenShut
import Derived.BigQuiet
import Derived.Deep.MidRow
namespace Go.Proofs.Ythhgmnkgeombhaa
open Go.ChangeShapes Go.WideShapes Go.ChangeAt Go.RowKit
open Mm Nm

/-- All places as one value. -/
def q2 (P : Nat → Int) (i : Nat) : List Value := [.bool (th P i), .int .i64 (cp P i)]
def pall (P : Nat → Int) : List Value := (List.range 16).flatMap (q2 P)

theorem fl2_len (f : Nat → List Value) (hf : ∀ i, (f i).length = 2) (n : Nat) : ((List.range n).flatMap f).length = n * 2 := by
  induction n with
  | zero => rfl
  | succ n ih => rw [List.range_succ, List.flatMap_append, List.length_append, ih]; simp [hf]; omega
theorem fl2_at (f : Nat → List Value) (hf : ∀ i, (f i).length = 2) : ∀ n i j, i < n → j < 2 → ((List.range n).flatMap f)[i * 2 + j]? = (f i)[j]?
  | 0, i, j, h, _ => by omega
  | n + 1, i, j, h, hj => by
    have hl := fl2_len f hf
    rw [List.range_succ, List.flatMap_append]
    by_cases e : i < n
    · rw [List.getElem?_append_left (by rw [hl]; omega)]
      exact fl2_at f hf n i j e hj
    · obtain rfl : i = n := by omega
      rw [List.getElem?_append_right (by rw [hl]; omega), hl, show i * 2 + j - i * 2 = j by omega]
      simp

theorem RT.range {w : World} {s c : Nat} {P : Nat → Int} (h : RT w s c P) : w.rangeAt s 1 (pall P) := by
  intro j v hv
  have hj : j < 32 := by
    have := (List.getElem?_eq_some_iff.1 hv).1
    unfold pall at this
    rw [fl2_len _ (fun _ => rfl)] at this
    exact this
  obtain ⟨a0, a1⟩ := h.two (i := j / 2) (by omega)
  have e : j = j / 2 * 2 + j % 2 := by omega
  have hl := fl2_at (q2 P) (fun _ => rfl) 16 (j / 2) (j % 2) (by omega) (by omega)
  rw [← e] at hl
  rw [show pall P = (List.range 16).flatMap (q2 P) from rfl, hl] at hv
  rw [← hv]
  generalize hr : j % 2 = r at *
  generalize j / 2 = i at *
  obtain rfl | rfl : r = 0 ∨ r = 1 := by omega
  · rw [show 1 + j = 1 + i * 2 by omega]; exact a0
  · rw [show 1 + j = 1 + i * 2 + 1 by omega]; exact a1

set_option maxRecDepth 100000 in
theorem pl_index (P : Nat → Int) (k : Nat) (h : k < 16) (w : World) : (Instr.index 85 (.agg (pall P).toArray) (.int .i64 (k : Int))).run Try.prog w = .ok (.agg #[.bool (th P k), .int .i64 (cp P k)]) w := by
  obtain rfl | rfl | rfl | rfl | rfl | rfl | rfl | rfl | rfl | rfl | rfl | rfl | rfl | rfl | rfl | rfl : k = 0 ∨ k = 1 ∨ k = 2 ∨ k = 3 ∨ k = 4 ∨ k = 5 ∨ k = 6 ∨ k = 7 ∨ k = 8 ∨ k = 9 ∨ k = 10 ∨ k = 11 ∨ k = 12 ∨ k = 13 ∨ k = 14 ∨ k = 15 := by omega
  all_goals rfl

theorem pall_info (P : Nat → Int) : (Try.prog.info? 85).map (·.size) = some (pall P).length := by
  rw [show (pall P).length = 32 by unfold pall; rw [fl2_len _ (fun _ => rfl)]]
  kernel_rfl

theorem rgat_alloc {w wr : World} {v : Value} {p : Nat → Bool} {k : Nat} (g : Gat w wr v p k) (o : Obj) : Gat w (wr.alloc o) v p k := ⟨g.own.alloc _, g.bel.alloc g.bel.size _⟩

set_option maxRecDepth 100000 in
set_option maxHeartbeats 1000000 in
theorem rton_any {s c : Nat} {P : Nat → Int} (u : Int) (w : World) (h : RT w s c P) :
    Calls Try.prog 37 #[.pointer (some ⟨s, 0, none⟩), .int .i64 u] w fun e w' => ∃ v, e = .returned v ∧ Gat w w' v (on P u) 16 := by
  obtain ⟨i0, hi, hz0, hz1, hz2⟩ := info_parts Try.info3
  have HR : Hid (w.rangeAt s 1 (pall P)) := h.range
  have HN : Hid ((Try.prog.info? 85).map (·.size) = some (pall P).length) := pall_info P
  have HI : Hid (∀ k : Nat, (k : Int) < 16 → ∀ w1 : World, _) := fun k hk w1 => pl_index P k (by omega) w1
  generalize pall P = Q at *
  clear h
  go_enter Try.func37, Try.ntmps37
  go_wp2_with (guard_target =~ wpList _ _ _ (Oper.mk (some 13) _ _ _ _ _ :: _) _ _; refine wpList_load_mid rfl 85 (.tmp 12) rfl s 1 rfl Q _ HR.out Try.underlying85 rfl HN.out ?_)
  go_loopw [5, 14] (fun v i wr => ∃ k : Nat, (k : Int) ≤ 16 ∧ Gat w wr v (on P u) k ∧ i = .int .i64 (k : Int)) (fun _ i _ => 16 - (intOf i).toNat)
  case atStart => exact ⟨0, by omega, gat_start w _, rfl⟩
  case round =>
    obtain ⟨k, hk, g, rfl⟩ := hrel
    by_cases e : (k : Int) < 16
    · have hx := HI.out k e wr
      cases q : th P k with
      | false =>
        rw [q] at hx
        have G2 := rgat_alloc (gat_drop g (on_no P u k q)) (.cells #[.bool false, .int .i64 (cp P k)] 84)
        generalize cp P k = v1 at *
        clear g q
        go_wp2
        go_roundw
        case rel => exact ⟨k + 1, by omega, G2, by go_num⟩
        case measure => simp [intOf]; omega
      | true =>
        rw [q] at hx
        have G1 := rgat_alloc g (.cells #[.bool true, .int .i64 (cp P k)] 84)
        have oy := on_yes P u k q
        have hsz := g.bel.size
        have hgl := KK_le (on P u) k
        generalize cp P k = v1 at *
        by_cases q2 : v1 = u
        · have e3 : (v1 == u) = true := by simpa using q2
          have HQ : Hid (on P u k = true) := by unfold Hid; rw [oy, e3]
          clear g q oy q2
          go_wp2_with (at_builtin; refine wpList_append_own _ rfl _ _ 37 rfl w.heap.size 3 i0 (.int .i64 0) 1 8 Try.underlying37 hi hz0 hz1 hz2 rfl (by decide) _ _ _ rfl (G1.own.alloc _) ⟨_, 0, none⟩ 1 1 [.int .i64 (k : Int)] rfl rfl ?c1 ?c2 ?c3 ?c4 ?c5 ?_)
          case c1 =>
            intro j u hj
            match j, hj with
            | 0, hj =>
              simp at hj
              subst hj
              have := (Blk.new (wr.alloc (.cells #[.bool true, .int .i64 v1] 84)) [.int .i64 (k : Int)] 3).cell 0
              rw [show (wr.alloc (.cells #[.bool true, .int .i64 v1] 84)).heap.size = wr.heap.size + 1 by simp] at this
              exact this
          case c2 => first | rfl | (intro u hu; simp at hu; subst hu; rfl)
          case c3 => unfold maxLen; omega
          case c4 => omega
          case c5 => first | omega | (simp; omega)
          intro v' w2 hown' hgrow _
          have G3 := gat_keep G1 HQ.out hown' hgrow
          clear hown' hgrow
          go_wp2
          go_roundw
          case rel => exact ⟨k + 1, by omega, G3, by go_num⟩
          case measure => simp [intOf]; omega
        · have e3 : (v1 == u) = false := by simpa using q2
          have G2 := rgat_alloc (gat_drop g (by rw [oy, e3])) (.cells #[.bool true, .int .i64 v1] 84)
          clear g q oy q2 G1
          go_wp2
          go_roundw
          case rel => exact ⟨k + 1, by omega, G2, by go_num⟩
          case measure => simp [intOf]; omega
    · obtain rfl : k = 16 := by omega
      have G : Hid (Gat w wr _ (on P u) 16) := g
      obtain ⟨a, cap, rfl⟩ := own_shape g.own
      clear g
      go_wp2
      go_ret
      exact ⟨_, rfl, G.out⟩

set_option maxRecDepth 100000 in
set_option maxHeartbeats 1000000 in
theorem rtcores_any {s c : Nat} {P : Nat → Int} (w : World) (h : RT w s c P) :
    Calls Try.prog 39 #[.pointer (some ⟨s, 0, none⟩)] w fun e w' => e = .returned (.int .u64 (cl P 16 : Nat)) ∧ Below w.heap.size w w' := by
  have HR : Hid (w.rangeAt s 1 (pall P)) := h.range
  have HN : Hid ((Try.prog.info? 85).map (·.size) = some (pall P).length) := pall_info P
  have HI : Hid (∀ k : Nat, (k : Int) < 16 → ∀ w1 : World, _) := fun k hk w1 => pl_index P k (by omega) w1
  generalize pall P = Q at *
  clear h
  go_enter Try.func39, Try.ntmps39
  go_wp2_with (guard_target =~ wpList _ _ _ (Oper.mk (some 11) _ _ _ _ _ :: _) _ _; refine wpList_load_mid rfl 85 (.tmp 10) rfl s 1 rfl Q _ HR.out Try.underlying85 rfl HN.out ?_)
  go_loopw [3, 12] (fun v i wr => ∃ k : Nat, (k : Int) ≤ 16 ∧ v = .int .u64 (cl P k : Nat) ∧ Below w.heap.size w wr ∧ i = .int .i64 (k : Int)) (fun _ i _ => 16 - (intOf i).toNat)
  case atStart => exact ⟨0, by omega, rfl, Below.refl _ _, rfl⟩
  case round =>
    obtain ⟨k, hk, rfl, b, rfl⟩ := hrel
    by_cases e : (k : Int) < 16
    · have hx := HI.out k e wr
      have hsz := b.size
      cases q : th P k with
      | false =>
        rw [q] at hx
        have HC : Hid (cl P (k + 1) = cl P k) := cl_no P k q
        have B2 : Hid (Below w.heap.size w (wr.alloc (.cells #[.bool false, .int .i64 (cp P k)] 84))) := b.alloc hsz _
        generalize cl P k = M at *
        generalize cp P k = v1 at *
        clear q b
        go_wp2
        go_roundw
        case rel => exact ⟨k + 1, by omega, by rw [HC.out], B2.out, by go_num⟩
        case measure => simp [intOf]; omega
      | true =>
        rw [q] at hx
        have B1 := b.alloc hsz (.cells #[.bool true, .int .i64 (cp P k)] 84)
        have hz1 := B1.size
        have B2 := B1.alloc hz1 (.cells #[.int .i64 (cp P k)] 3)
        have HB : Hid (Below w.heap.size w ((wr.alloc (.cells #[.bool true, .int .i64 (cp P k)] 84)).alloc (.cells #[.int .i64 (cp P k)] 3))) := B2
        have rn := row_new (wr.alloc (.cells #[.bool true, .int .i64 (cp P k)] 84)) [cp P k] 3 1 1 rfl
        rw [show (wr.alloc (.cells #[.bool true, .int .i64 (cp P k)] 84)).heap.size = wr.heap.size + 1 by simp] at rn
        have C : Hid (∀ _ : Unit, _) := fun _ => kwith_any (cl P k) [cp P k] (.slice (some ⟨wr.heap.size + 1, 0, none⟩) 1 1) ((wr.alloc (.cells #[.bool true, .int .i64 (cp P k)] 84)).alloc (.cells #[.int .i64 (cp P k)] 3)) (cl_lt P k) (by simp) rn
        clear rn
        have HC : Hid (cl P (k + 1) = wl (cl P k) [cp P k]) := cl_yes P k q
        generalize wl (cl P k) [cp P k] = M2 at *
        generalize cl P k = M at *
        generalize cp P k = v1 at *
        clear q b B1 B2 hz1
        go_wp2_with fail
        refine (C.out ()).mono ?_
        rintro e w2 ⟨rfl, rfl⟩
        go_wp2
        go_roundw
        case rel => exact ⟨k + 1, by omega, by rw [HC.out], HB.out, by go_num⟩
        case measure => simp [intOf]; omega
    · obtain rfl : k = 16 := by omega
      have HB : Hid (Below w.heap.size w wr) := b
      clear b
      go_wp2
      go_ret
      exact ⟨rfl, HB.out⟩
end Go.Proofs.Ythhgmnkgeombhaa
