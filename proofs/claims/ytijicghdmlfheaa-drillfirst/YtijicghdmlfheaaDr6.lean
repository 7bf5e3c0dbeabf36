/- The program's events, one after another: an iterator that rolls each event ahead of handing it on. -/
import Derived.Test.YtijicghdmlfheaaRows
import Derived.Test.YtijicghdmlfheaaDr5
import Derived.Test.YtijicghdmlfheaaRfd
import Derived.Shelf.Abstract
import Derived.Shelf.RegionOpen
import Derived.WalkKit
import Derived.ProofKit
import Derived.OpenShut
import Derived.BigQuiet
import Derived.WalkSmall
import Derived.WalkSpells
namespace Go.Proofs.Ytijicghdmlfheaa.Dri
open Go.ChangeShapes Go.WideShapes Go.ChangeAt Go.RowKit
open Mm
set_option linter.unusedVariables false
set_option linter.unusedSimpArgs false
set_option maxRecDepth 100000
attribute [local go_sem] Oper.semAt_some

/-- What the iterator finds ahead of its k-th round: the dice, and its three variables. -/
structure IT (c : Int) (x n z bm bd bc k : Nat) (W : World) : Prop where
  hd : Blk W z [.int .u64 (scrS x k : Nat)] 44
  m : W.cell? ⟨bm, 0, none⟩ = some (.int .i64 (n : Int))
  d : W.cell? ⟨bd, 0, none⟩ = some (.pointer (some ⟨z, 0, none⟩))
  c : W.cell? ⟨bc, 0, none⟩ = some (.int .i64 c)
/-- What a roll of the k-th event turns. -/
def Sr (x z k : Nat) (W W' : World) : Prop := Blk W' z [.int .u64 (scrS x (k + 1) : Nat)] 44 ∧ Fr W.heap.size [z] W W'
set_option maxHeartbeats 4000000 in
theorem ev_it {c : Int} {x n z bm bd bc : Nat} (h1 : 1 ≤ c) (h2 : c ≤ 64) (hx : x < 18446744073709551616) (hn : n ≤ 600) (l : Nat) (J J' : Nat → World → Prop) (Jx : World → Prop) (W : World) (hJ : ∀ k W, J k W → IT c x n z bm bd bc k W)
    (hS : ∀ k W W', k < n → Sr x z k W W' → J k W → J' k W') (h0 : J 0 W)
    (hY : ∀ k W, k < n → J' k W → YieldAt Fence.wide 2 Try.prog l #[evV (evN (scrS x k) c)] W fun e W' => (e = .returned (.bool true) ∧ J (k + 1) W') ∨ (e = .returned (.bool false) ∧ Jx W')) :
    CallsIn Fence.wide 3 Try.prog 29 (#[.func (.yield l) #[] #[]] ++ #[.pointer (some ⟨bm, 0, none⟩), .pointer (some ⟨bd, 0, none⟩), .pointer (some ⟨bc, 0, none⟩)]) W fun e W' => (∃ v, e = .returned v) ∧ (J n W' ∨ Jx W') := by
  have c0 := (hJ 0 W h0).m
  have HY : Hid (∀ k W, k < n → J' k W → _) := hY
  have HG : Hid (∀ k W, J k W → IT c x n z bm bd bc k W) := hJ
  have HS : Hid (∀ k W W', k < n → Sr x z k W W' → J k W → J' k W') := hS
  have H0 : Hid (J 0 W) := h0
  have CE : Hid (∀ (y : Nat) u, Blk u z [.int .u64 (y : Int)] 44 → y < 18446744073709551616 → _) := fun y u k hy => ev_any z y c u k hy h1 h2
  have HX : Hid (x < 18446744073709551616) := hx
  have hn2 : (n : Int) ≤ 600 := by omega
  clear hJ hY hS h0 h1 h2 hx hn
  refine callsIn_of_wp Try.func29 rfl trivial ?_ rfl
  simp only [Try.ntmps29, List.size_toArray, List.length_cons, List.length_nil, Nat.reduceAdd, Nat.reduceSub, Array.replicate_succ, Array.replicate_zero, List.push_toArray, List.append_toArray, List.nil_append, List.cons_append]
  gi_wp2
  gi_loopw [6] (fun i wr => ∃ k : Nat, (k : Int) ≤ n ∧ i = .int .i64 k ∧ Hid (J k wr)) (fun i _ => n - (intOf i).toNat)
  case atStart => exact ⟨0, by omega, rfl, H0⟩
  case round =>
    obtain ⟨k, hk, rfl, hj⟩ := hrel
    by_cases h : (k : Int) < n
    · have I := HG.out k wr hj.out
      have C : Hid (∀ _ : Unit, _) := fun _ => CE.out (scrS x k) wr I.hd (scrS_lt x k HX.out)
      have d1 := I.d
      have d2 := I.c
      have HK : Hid (k < n) := by show k < n; omega
      clear I
      gi_wp2_with fail
      refine ⟨trivial, (callsIn_wide.2 (C.out ())).mono ?_⟩
      rintro e V ⟨rfl, b1, f1⟩
      obtain ⟨fn, tmps, assign, body, hy, hR⟩ := HY.out k V HK.out (HS.out k _ _ HK.out ⟨by rw [scrS_succ]; exact b1, f1⟩ hj.out)
      clear b1 f1 C d1 d2
      generalize evN (scrS x k) c = E at *
      gi_wp2
      refine hR.mono ?_
      rintro e W3 (⟨rfl, hJ3⟩ | ⟨rfl, hJx3⟩)
      · gi_wp2
        go_roundw
        case rel => exact ⟨k + 1, by omega, by go_num, hJ3⟩
        case measure => simp [intOf]; omega
      · gi_wp2
        refine bodyPost_ret (results_none rfl _ _ _) rfl ?_
        exact ⟨⟨_, rfl⟩, .inr hJx3⟩
    · obtain rfl : k = n := by omega
      gi_wp2
      go_end0
      exact ⟨⟨_, rfl⟩, .inl hj.out⟩
end Go.Proofs.Ytijicghdmlfheaa.Dri
