/- The texts Nm Na Nb of one layer, laid together. -/
import Derived.Test.YtfipiifickdeiaaGreatDoorRows
import Derived.Test.YtfipiifickdeiaaGreatDoorXb
import Derived.WalkKit
import Derived.ProofKit
import Derived.OpenShut
import Derived.BigQuiet
import Derived.Deep.MidRow
namespace Go.Proofs.YtfipiifickdeiaaGreatDoor.Nm
open Mm
/-- One of them turned. -/
def sp (P : Nat → Int) (i : Nat) (u : Int) : Nat → Int := fun j => if j = i then u else P j
/-- Each has a core that there is, or none. -/
def okP (c : Nat) (P : Nat → Int) : Prop := ∀ i, i < 16 → -1 ≤ P i ∧ P i < c
theorem okP_new (c : Nat) (h : 1 ≤ c) : okP c fun _ => -1 := fun _ _ => ⟨by show (-1 : Int) ≤ -1; omega, by show (-1 : Int) < c; omega⟩
def is (n : Int) : Bool := decide (0 ≤ n ∧ n < 16)
/-- Has it a core? Which (0, if none)? -/
def th (P : Nat → Int) (i : Nat) : Bool := decide (0 ≤ P i)
def cp (P : Nat → Int) (i : Nat) : Int := if 0 ≤ P i then P i else 0
/- What the calls answer, and what is there then. -/
def inC (c : Nat) (u : Int) : Bool := decide (0 ≤ u ∧ u < c)
def stE (c : Nat) (n u : Int) : Int := if is n = true then (if inC c u = true then 0 else 3) else 3
def ofE (P : Nat → Int) (n : Int) : Int := if is n = true then (if th P n.toNat = true then 0 else 4) else 3
def ofN (P : Nat → Int) (n : Int) : Int := if is n = true then cp P n.toNat else 0
def stp (e : Int) (P : Nat → Int) (n u : Int) : Nat → Int := if e = 0 then sp P n.toNat u else P
/-- Does it go to that core? -/
def on (P : Nat → Int) (u : Int) : Nat → Bool := fun i => decide (0 ≤ P i) && (P i == u)
/-- The cores of the first k. -/
def cl (P : Nat → Int) (k : Nat) : Nat := wl 0 ((List.range k).map P)
theorem on_no (P : Nat → Int) (u : Int) (k : Nat) (h : th P k = false) : on P u k = false := by
  unfold on
  rw [show decide (0 ≤ P k) = false from h]
  rfl
theorem on_yes (P : Nat → Int) (u : Int) (k : Nat) (h : th P k = true) : on P u k = (cp P k == u) := by
  have := of_decide_eq_true h
  unfold on
  rw [show decide (0 ≤ P k) = true from h, show cp P k = P k from if_pos this]
  rfl
end Go.Proofs.YtfipiifickdeiaaGreatDoor.Nm
namespace Go.Proofs.YtfipiifickdeiaaGreatDoor.Rou
open Go.ChangeShapes Go.WideShapes Go.ChangeAt Go.RowKit
open Mm Nm
/-- The cells of a route. -/
structure Rcs (cs : List Value) (c : Nat) (P : Nat → Int) : Prop where
  len : cs.length = 33
  m : cs[0]? = some (.int .u64 ((up (c : Int) : Nat) : Int))
  t : ∀ i, i < 16 → cs[1 + i * 2]? = some (.bool (th P i)) ∧ cs[1 + i * 2 + 1]? = some (.int .i64 (cp P i))
/-- The route whose block is s. -/
structure RT (w : World) (s c : Nat) (P : Nat → Int) : Prop where
  bk : ∃ cs, Blk w s cs 146 ∧ Rcs cs c P
  c1 : 1 ≤ c
  c2 : c ≤ 64
  ok : okP c P
theorem RT.lt {w : World} {s c : Nat} {P : Nat → Int} (h : RT w s c P) : s < w.heap.size := by
  obtain ⟨cs, hb, _⟩ := h.bk
  exact hb.lt
theorem RT.keep {B : Nat} {S : List Nat} {w w' : World} {s c : Nat} {P : Nat → Int} (h : RT w s c P) (f : Fr B S w w') (hB : s < B) (hS : s ∉ S) : RT w' s c P := by
  obtain ⟨cs, hb, hc⟩ := h.bk
  exact ⟨⟨cs, hb.keep f hB hS, hc⟩, h.c1, h.c2, h.ok⟩
theorem RT.below {w w' : World} {s c : Nat} {P : Nat → Int} (h : RT w s c P) (f : Below w.heap.size w w') : RT w' s c P := h.keep (Fr.of_below f) h.lt (by simp)
theorem RT.heap {w w1 : World} {s c : Nat} {P : Nat → Int} (h : RT w s c P) (e : w1.heap = w.heap) : RT w1 s c P := by
  obtain ⟨cs, hb, hc⟩ := h.bk
  exact ⟨⟨cs, hb.heap e, hc⟩, h.c1, h.c2, h.ok⟩
theorem RT.free {w : World} {s c : Nat} {P : Nat → Int} (h : RT w s c P) (k : Nat) : w.frozen? ⟨s, k, none⟩ = false := by
  obtain ⟨cs, hb, hc⟩ := h.bk
  exact hb.free k
theorem RT.two {w : World} {s c i : Nat} {P : Nat → Int} (h : RT w s c P) (hi : i < 16) : w.cell? ⟨s, 1 + i * 2, none⟩ = some (.bool (th P i)) ∧ w.cell? ⟨s, 1 + i * 2 + 1, none⟩ = some (.int .i64 (cp P i)) := by
  obtain ⟨cs, hb, hc⟩ := h.bk
  obtain ⟨a0, a1⟩ := hc.t i hi
  exact ⟨(hb.cell _).trans a0, (hb.cell _).trans a1⟩
theorem rrep_at (L : List Value) (hL : L.length = 2) : ∀ n i j, i < n → j < 2 → (List.replicate n L).flatten[i * 2 + j]? = L[j]?
  | 0, i, j, h, _ => by omega
  | n + 1, i, j, h, hj => by
    rw [List.replicate_succ, List.flatten_cons]
    cases i with
    | zero => rw [List.getElem?_append_left (by omega), Nat.zero_mul, Nat.zero_add]
    | succ i => rw [List.getElem?_append_right (by omega), show (i + 1) * 2 + j - L.length = i * 2 + j by omega]; exact rrep_at L hL n i j (by omega) hj
def z2 : List Value := [.bool false, .int .i64 0]
def rz (c : Nat) : List Value := .int .u64 ((up (c : Int) : Nat) : Int) :: (List.replicate 16 z2).flatten
theorem rcs_new (c : Nat) : Rcs (rz c) c fun _ => -1 := by
  refine ⟨by rfl, rfl, fun i hi => ?_⟩
  have g : ∀ j, j < 2 → (rz c)[1 + i * 2 + j]? = z2[j]? := fun j hj => by
    unfold rz
    rw [show 1 + i * 2 + j = i * 2 + j + 1 by omega, List.getElem?_cons_succ]
    exact rrep_at z2 rfl 16 i j hi hj
  exact ⟨g 0 (by omega), g 1 (by omega)⟩
set_option maxRecDepth 100000 in
set_option maxHeartbeats 400000 in
theorem rtnew_any (c : Nat) (w : World) (h1 : (1 : Int) ≤ c) (h2 : (c : Int) ≤ 64) :
    Calls Tryz.prog 23 #[.int .i64 (c : Int)] w fun e w' => e = .returned (.tuple #[.pointer (some ⟨w.heap.size, 0, none⟩), .int .i64 0]) ∧ RT w' w.heap.size c (fun _ => -1) ∧ Below w.heap.size w w' ∧ w'.heap.size = w.heap.size + 1 := by
  have C2 : Hid (∀ w, _) := fun w => kupto_any (c : Int) w
  go_enter Tryz.func23, Tryz.ntmps23
  go_wp2_with fail
  refine (C2.out _).mono ?_
  rintro e w2 ⟨rfl, rfl⟩
  go_wp2
  go_ret2
  exact ⟨rfl, ⟨⟨_, Blk.new w2 (rz c) _, rcs_new c⟩, by omega, by omega, okP_new c (by omega)⟩, (Below.refl _ _).alloc (Nat.le_refl _) _, by simp⟩
end Go.Proofs.YtfipiifickdeiaaGreatDoor.Rou
namespace Go.Proofs.YtfipiifickdeiaaGreatDoor.Rou
open Go.ChangeShapes Go.WideShapes Go.ChangeAt Go.RowKit
open Mm Nm
/-- All places as one value. -/
def q2 (P : Nat → Int) (i : Nat) : List Value := [.bool (th P i), .int .i64 (cp P i)]
def pall (P : Nat → Int) : List Value := (List.range 16).flatMap (q2 P)
theorem fl2_len (f : Nat → List Value) (hf : ∀ i, (f i).length = 2) (n : Nat) : ((List.range n).flatMap f).length = n * 2 := by
  induction n with
  | zero => rfl
  | succ n ih => rw [List.range_succ, List.flatMap_append, List.length_append, ih]; simp [hf]; omega
theorem fl2_at (f : Nat → List Value) (hf : ∀ i, (f i).length = 2) : ∀ n i j, i < n → j < 2 → ((List.range n).flatMap f)[i * 2 + j]? = (f i)[j]?
  | 0, i, j, h, _ => by omega
  | n + 1, i, j, h, hj => by
    have hl := fl2_len f hf
    rw [List.range_succ, List.flatMap_append]
    by_cases e : i < n
    · rw [List.getElem?_append_left (by rw [hl]; omega)]
      exact fl2_at f hf n i j e hj
    · obtain rfl : i = n := by omega
      rw [List.getElem?_append_right (by rw [hl]; omega), hl, show i * 2 + j - i * 2 = j by omega]
      simp
theorem RT.range {w : World} {s c : Nat} {P : Nat → Int} (h : RT w s c P) : w.rangeAt s 1 (pall P) := by
  intro j v hv
  have hj : j < 32 := by
    have := (List.getElem?_eq_some_iff.1 hv).1
    unfold pall at this
    rw [fl2_len _ (fun _ => rfl)] at this
    exact this
  obtain ⟨a0, a1⟩ := h.two (i := j / 2) (by omega)
  have e : j = j / 2 * 2 + j % 2 := by omega
  have hl := fl2_at (q2 P) (fun _ => rfl) 16 (j / 2) (j % 2) (by omega) (by omega)
  rw [← e] at hl
  rw [show pall P = (List.range 16).flatMap (q2 P) from rfl, hl] at hv
  rw [← hv]
  generalize hr : j % 2 = r at *
  generalize j / 2 = i at *
  obtain rfl | rfl : r = 0 ∨ r = 1 := by omega
  · rw [show 1 + j = 1 + i * 2 by omega]; exact a0
  · rw [show 1 + j = 1 + i * 2 + 1 by omega]; exact a1
set_option maxRecDepth 100000 in
theorem pl_index (P : Nat → Int) (k : Nat) (h : k < 16) (w : World) : (Instr.index 144 (.agg (pall P).toArray) (.int .i64 (k : Int))).run Tryz.prog w = .ok (.agg #[.bool (th P k), .int .i64 (cp P k)]) w := by
  obtain rfl | rfl | rfl | rfl | rfl | rfl | rfl | rfl | rfl | rfl | rfl | rfl | rfl | rfl | rfl | rfl : k = 0 ∨ k = 1 ∨ k = 2 ∨ k = 3 ∨ k = 4 ∨ k = 5 ∨ k = 6 ∨ k = 7 ∨ k = 8 ∨ k = 9 ∨ k = 10 ∨ k = 11 ∨ k = 12 ∨ k = 13 ∨ k = 14 ∨ k = 15 := by omega
  all_goals rfl
theorem pall_info (P : Nat → Int) : (Tryz.prog.info? 144).map (·.size) = some (pall P).length := by
  rw [show (pall P).length = 32 by unfold pall; rw [fl2_len _ (fun _ => rfl)]]
  kernel_rfl
theorem rgat_alloc {w wr : World} {v : Value} {p : Nat → Bool} {k : Nat} (g : Gat w wr v p k) (o : Obj) : Gat w (wr.alloc o) v p k := ⟨g.own.alloc _, g.bel.alloc g.bel.size _⟩
set_option maxRecDepth 100000 in
set_option maxHeartbeats 1000000 in
theorem rton_any {s c : Nat} {P : Nat → Int} (u : Int) (w : World) (h : RT w s c P) :
    Calls Tryz.prog 169 #[.pointer (some ⟨s, 0, none⟩), .int .i64 u] w fun e w' => ∃ v, e = .returned v ∧ Gat w w' v (on P u) 16 := by
  obtain ⟨i0, hi, hz0, hz1, hz2⟩ := info_parts Tryz.info3
  have HR : Hid (w.rangeAt s 1 (pall P)) := h.range
  have HN : Hid ((Tryz.prog.info? 144).map (·.size) = some (pall P).length) := pall_info P
  have HI : Hid (∀ k : Nat, (k : Int) < 16 → ∀ w1 : World, _) := fun k hk w1 => pl_index P k (by omega) w1
  generalize pall P = Q at *
  clear h
  go_enter Tryz.func169, Tryz.ntmps169
  go_wp2_with (guard_target =~ wpList _ _ _ (Oper.mk (some 13) _ _ _ _ _ :: _) _ _; refine wpList_load_mid rfl 144 (.tmp 12) rfl s 1 rfl Q _ HR.out Tryz.underlying144 rfl HN.out ?_)
  go_loopw [5, 14] (fun v i wr => ∃ k : Nat, (k : Int) ≤ 16 ∧ Gat w wr v (on P u) k ∧ i = .int .i64 (k : Int)) (fun _ i _ => 16 - (intOf i).toNat)
  case atStart => exact ⟨0, by omega, gat_start w _, rfl⟩
  case round =>
    obtain ⟨k, hk, g, rfl⟩ := hrel
    by_cases e : (k : Int) < 16
    · have hx := HI.out k e wr
      cases q : th P k with
      | false =>
        rw [q] at hx
        have G2 := rgat_alloc (gat_drop g (on_no P u k q)) (.cells #[.bool false, .int .i64 (cp P k)] 143)
        generalize cp P k = v1 at *
        clear g q
        go_wp2
        go_roundw
        case rel => exact ⟨k + 1, by omega, G2, by go_num⟩
        case measure => simp [intOf]; omega
      | true =>
        rw [q] at hx
        have G1 := rgat_alloc g (.cells #[.bool true, .int .i64 (cp P k)] 143)
        have oy := on_yes P u k q
        have hsz := g.bel.size
        have hgl := KK_le (on P u) k
        generalize cp P k = v1 at *
        by_cases q2 : v1 = u
        · have e3 : (v1 == u) = true := by simpa using q2
          have HQ : Hid (on P u k = true) := by unfold Hid; rw [oy, e3]
          clear g q oy q2
          go_wp2_with (at_builtin; refine wpList_append_own _ rfl _ _ 22 rfl w.heap.size 3 i0 (.int .i64 0) 1 8 Tryz.underlying22 hi hz0 hz1 hz2 rfl (by decide) _ _ _ rfl (G1.own.alloc _) ⟨_, 0, none⟩ 1 1 [.int .i64 (k : Int)] rfl rfl ?c1 ?c2 ?c3 ?c4 ?c5 ?_)
          case c1 =>
            intro j u hj
            match j, hj with
            | 0, hj =>
              simp at hj
              subst hj
              have := (Blk.new (wr.alloc (.cells #[.bool true, .int .i64 v1] 143)) [.int .i64 (k : Int)] 3).cell 0
              rw [show (wr.alloc (.cells #[.bool true, .int .i64 v1] 143)).heap.size = wr.heap.size + 1 by simp] at this
              exact this
          case c2 => first | rfl | (intro u hu; simp at hu; subst hu; rfl)
          case c3 => unfold maxLen; omega
          case c4 => omega
          case c5 => first | omega | (simp; omega)
          intro v' w2 hown' hgrow _
          have G3 := gat_keep G1 HQ.out hown' hgrow
          clear hown' hgrow
          go_wp2
          go_roundw
          case rel => exact ⟨k + 1, by omega, G3, by go_num⟩
          case measure => simp [intOf]; omega
        · have e3 : (v1 == u) = false := by simpa using q2
          have G2 := rgat_alloc (gat_drop g (by rw [oy, e3])) (.cells #[.bool true, .int .i64 v1] 143)
          clear g q oy q2 G1
          go_wp2
          go_roundw
          case rel => exact ⟨k + 1, by omega, G2, by go_num⟩
          case measure => simp [intOf]; omega
    · obtain rfl : k = 16 := by omega
      have G : Hid (Gat w wr _ (on P u) 16) := g
      obtain ⟨a, cap, rfl⟩ := own_shape g.own
      clear g
      go_wp2
      go_ret
      exact ⟨_, rfl, G.out⟩
end Go.Proofs.YtfipiifickdeiaaGreatDoor.Rou
