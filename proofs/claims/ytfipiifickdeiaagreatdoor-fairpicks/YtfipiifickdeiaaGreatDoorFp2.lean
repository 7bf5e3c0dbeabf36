/- What fair's Fair and Bound answer. -/
import Derived.Test.YtfipiifickdeiaaGreatDoorRows
import Derived.Test.YtfipiifickdeiaaGreatDoorFp1
import Derived.WalkKit
import Derived.ProofKit
import Derived.OpenShut
import Derived.BigQuiet
import Derived.BigGuard
import Derived.Carry
namespace Go.Proofs.YtfipiifickdeiaaGreatDoor.Fai
open Go.ChangeShapes Go.WideShapes Go.ChangeAt Go.RowKit
open Mm
set_option linter.unusedSimpArgs false
set_option linter.unusedVariables false

theorem tw_new (w : World) : TW (w.alloc (.cells Tryz.zeroCells42 42)) w.heap.size [] := by
  rw [show Tryz.zeroCells42 = (cl (fun c => (cnt [] c : Nat)) (wl 0 [])).toArray by kernel_rfl]
  exact Blk.new w (cl (fun c => (cnt [] c : Nat)) (wl 0 [])) 42
theorem cell_lt {w : World} {q i : Nat} {v : Value} (h : w.cell? ⟨q, i, none⟩ = some v) : q < w.heap.size := World.block_lt_of_cell? w _ h
theorem fr_cell {w u : World} {z : Nat} (f : Fr w.heap.size [z] w u) {q i : Nat} {v : Value} (h : w.cell? ⟨q, i, none⟩ = some v) (hz : q ≠ z) : u.cell? ⟨q, i, none⟩ = some v := by
  rw [f.cell (p := ⟨q, i, none⟩) (cell_lt h) (by simpa using hz)]
  exact h
theorem sz_int (w : World) : (sizeOf (Tryz.prog.elem 22)).run Tryz.prog w = .ok 1 w := by kernel_rfl
theorem un_int : Tryz.prog.underlying 22 = some (.slice (Tryz.prog.elem 22)) := by kernel_rfl
theorem cut_head (b off len cap m : Nat) (h : m ≤ cap) (w : World) : (Instr.slice 22 (.slice (some ⟨b, off, none⟩) len cap) none (some (.int .i64 (m : Int))) (some (.int .i64 (m : Int)))).run Tryz.prog w = .ok (.slice (some ⟨b, off, none⟩) m m) w := by
  rw [run_slice_hm w 22 _ len cap un_int .i64 .i64 (m : Int) (m : Int) (by omega) (Int.le_refl _) (by omega), sz_int]
  simp [Result.andThen, sliced, Addr.add]
theorem cut_mid (b off len cap k m : Nat) (n : Int) (hn : n = (m : Int) + 1) (h : k + (m + 1) ≤ cap) (w : World) : (Instr.slice 22 (.slice (some ⟨b, off, none⟩) len cap) (some (.int .i64 (k : Int))) (some (.int .i64 ((k : Int) + n))) (some (.int .i64 ((k : Int) + n)))).run Tryz.prog w = .ok (.slice (some ⟨b, off + k, none⟩) (m + 1) (m + 1)) w := by
  rw [run_slice_lhm w 22 _ len cap un_int .i64 .i64 .i64 (k : Int) ((k : Int) + n) ((k : Int) + n) (by omega) (by omega) (Int.le_refl _) (by omega), sz_int]
  have e1 : (((k : Int) + n).toNat - k) = m + 1 := by omega
  have e2 : ¬ (((k : Int) + n).toNat = k) := by omega
  simp only [Result.andThen, sliced, Int.toNat_natCast, e1, if_neg e2, Option.map, Nat.mul_one, Addr.add_lit]

set_option maxRecDepth 100000 in
set_option maxHeartbeats 8000000 in
theorem bound_any (n : Int) (w : World) : Calls Tryz.prog 7 #[.int .i64 n] w fun e w' => e = .returned (.int .i64 (bnd n)) ∧ w' = w := by
  unfold bnd
  by_cases h0 : n < 1
  · have e0 : decide (n < 1) = true := decide_eq_true h0
    rw [if_pos (Or.inl h0)]
    go_enter Tryz.func7, Tryz.ntmps7
    go_wp2
    go_ret
    exact ⟨rfl, rfl⟩
  · have e0 : decide (n < 1) = false := decide_eq_false h0
    by_cases h1 : 10000 < n
    · have e1 : decide (10000 < n) = true := decide_eq_true h1
      rw [if_pos (Or.inr h1)]
      go_enter Tryz.func7, Tryz.ntmps7
      go_wp2
      go_ret
      exact ⟨rfl, rfl⟩
    · have e1 : decide (10000 < n) = false := decide_eq_false h1
      have wn : IntKind.i64.wrap (n * 500) = n * 500 := wrs (by omega) (by omega)
      rw [if_neg (by omega)]
      go_enter Tryz.func7, Tryz.ntmps7
      go_wp2
      go_ret
      exact ⟨rfl, rfl⟩

theorem fairp_low (xs : List Int) (o : Nat) (n : Int) (h : n < 1) : fairp xs o n = false := by
  unfold fairp
  rw [decide_eq_false (by omega), Bool.false_and]
theorem fairp_long (xs : List Int) (o : Nat) (n : Int) (h1 : 1 ≤ n) (h : (xs.length : Int) < n) : fairp xs o n = true := by
  unfold fairp
  rw [decide_eq_true h1, Bool.true_and, show xs.length + 1 - n.toNat = 0 by omega]
  rfl
theorem fairp_no (xs : List Int) (o m k : Nat) (hk : k + (m + 1) ≤ xs.length) (h : ¬ nt o (wl 0 (win xs (m + 1) k)) = 0) : fairp xs o ((m : Int) + 1) = false := by
  unfold fairp
  rw [show ((m : Int) + 1).toNat = m + 1 by omega, Bool.and_eq_false_iff]
  refine Or.inr (List.all_eq_false.2 ⟨k, List.mem_range.2 (by omega), by simpa using h⟩)
theorem fairp_yes (xs : List Int) (o m : Nat) (h : (List.range (xs.length - m)).all (fun i => decide (nt o (wl 0 (win xs (m + 1) i)) = 0)) = true) : fairp xs o ((m : Int) + 1) = true := by
  unfold fairp
  rw [show ((m : Int) + 1).toNat = m + 1 by omega, decide_eq_true (by omega), Bool.true_and, show xs.length + 1 - (m + 1) = xs.length - m by omega]
  exact h

set_option maxRecDepth 100000 in
set_option maxHeartbeats 8000000 in
theorem fair_any (xs : List Int) (o : Nat) (n : Int) (a : Option Addr) (cap : Nat) (w : World) (h : Row w (.slice a xs.length cap) xs) (hc : xs.length ≤ cap) (ho : o < 18446744073709551616) (hl : (xs.length : Int) ≤ 300) (hn : (Lit.int .i64 n).wf = true) :
    Calls Tryz.prog 5 #[.slice a xs.length cap, .int .u64 (o : Int), .int .i64 n] w fun e w' => e = .returned (.bool (fairp xs o n)) ∧ Below w.heap.size w w' := by
  by_cases h1 : n < 1
  · rw [fairp_low xs o n h1]
    have e0 : decide (n < 1) = true := decide_eq_true h1
    have BR : Hid (Below w.heap.size w w) := Below.refl _ _
    clear h hn
    go_enter Tryz.func5, Tryz.ntmps5
    go_wp2
    go_ret
    exact ⟨rfl, BR.out⟩
  · have e0 : decide (n < 1) = false := decide_eq_false h1
    by_cases h2 : (xs.length : Int) < n
    · rw [fairp_long xs o n (by omega) h2]
      have e1 : decide ((xs.length : Int) < n) = true := decide_eq_true h2
      have BR : Hid (Below w.heap.size w w) := Below.refl _ _
      clear h hn
      go_enter Tryz.func5, Tryz.ntmps5
      go_wp2
      go_ret
      exact ⟨rfl, BR.out⟩
    · have e1 : decide ((xs.length : Int) < n) = false := decide_eq_false h2
      obtain ⟨m, hm⟩ : ∃ m : Nat, n = (m : Int) + 1 := ⟨(n - 1).toNat, by omega⟩
      obtain ⟨b, off, rfl, hb, hcell⟩ : ∃ b off, a = some ⟨b, off, none⟩ ∧ b < w.heap.size ∧ ∀ i, i < xs.length → w.cell? ⟨b, off + i, none⟩ = some (.int .i64 (xs.getD i 0)) := by
        rcases h with ⟨rfl, _⟩ | ⟨b, off, cap', hv, hb, hc'⟩
        · simp at h2; omega
        · cases hv
          exact ⟨b, off, rfl, hb, hc'⟩
      have HX : Hid (∀ i, i < xs.length → w.cell? ⟨b, off + i, none⟩ = some (.int .i64 (xs.getD i 0))) := hcell
      have b0 : Below w.heap.size w (w.alloc (.cells Tryz.zeroCells42 42)) := (Below.refl _ _).alloc (Nat.le_refl _) _
      have HB0 : Hid (Below w.heap.size w (w.alloc (.cells Tryz.zeroCells42 42))) := b0
      have HT0 : Hid (TW (w.alloc (.cells Tryz.zeroCells42 42)) w.heap.size []) := tw_new w
      have HX1 : Hid (∀ u, Fr (w.alloc (.cells Tryz.zeroCells42 42)).heap.size [w.heap.size] (w.alloc (.cells Tryz.zeroCells42 42)) u → ∀ i, i < xs.length → u.cell? ⟨b, off + i, none⟩ = some (.int .i64 (xs.getD i 0))) := fun u f i hi => fr_cell f (by rw [(Fr.of_below b0).cell (p := ⟨b, off + i, none⟩) (by exact hb) (by simp)]; exact hcell i hi) (by omega)
      have HML : Hid ((m : Int) + 1 ≤ xs.length) := by show (m : Int) + 1 ≤ _; omega
      have wn : IntKind.i64.wrap (n - 1) = (m : Int) := by rw [wrs (by omega) (by omega)]; omega
      have hcut := cut_head b off xs.length cap m (by omega)
      have CO : Hid (∀ _ : Unit, _) := fun _ => come_any w.heap.size [] (xs.take m) (.slice (some ⟨b, off, none⟩) m m) (w.alloc (.cells Tryz.zeroCells42 42)) HT0.out (fun u f => Or.inr ⟨b, off, m, by rw [List.length_take, Nat.min_eq_left (by omega)], Nat.lt_of_lt_of_le (Nat.lt_of_lt_of_le hb b0.size) f.size, fun i hi => by
        rw [List.length_take] at hi
        rw [HX1.out u f i (by omega)]
        congr 2
        rw [List.getD_eq_getElem?_getD, List.getD_eq_getElem?_getD, List.getElem?_take, if_pos (by omega)]⟩) (by rw [List.length_take]; omega) (by simp)
      obtain ⟨w0, hw0⟩ : ∃ x, w.alloc (.cells Tryz.zeroCells42 42) = x := ⟨_, rfl⟩
      have HW0 : Hid (w.alloc (.cells Tryz.zeroCells42 42) = w0) := hw0
      rw [hw0] at CO HX1 HB0 HT0
      have HM : Hid (n = (m : Int) + 1) := hm
      have HCAP : Hid (xs.length ≤ cap) := hc
      have nm : n ≤ 300 := by omega
      have n1 : 1 ≤ n := by omega
      clear h hn b0 hcell hm hw0 hb HT0
      go_enter Tryz.func5, Tryz.ntmps5
      go_wp2_with fail
      rw [HW0.out]
      refine (CO.out ()).mono ?_
      rintro e w1 ⟨rfl, t1, f1⟩
      have T1 : Hid (TW w1 w.heap.size (win xs m 0)) := by
        have q := t1
        rw [List.nil_append] at q
        exact q
      have F1 : Hid (Fr w0.heap.size [w.heap.size] w0 w1) := f1
      have wlm : IntKind.i64.wrap ((xs.length : Int) - (m : Int)) = (xs.length : Int) - (m : Int) := by have := HML.out; exact wrs (by omega) (by omega)
      clear t1 f1 CO hcut
      go_wp2
      go_loopw [28] (fun i wr => ∃ k : Nat, (k : Int) ≤ (xs.length : Int) - (m : Int) ∧ Hid (TW wr w.heap.size (win xs m k) ∧ Fr w0.heap.size [w.heap.size] w0 wr ∧ (List.range k).all (fun i => decide (nt o (wl 0 (win xs (m + 1) i)) = 0)) = true) ∧ i = .int .i64 (k : Int)) (fun i _ => xs.length - (intOf i).toNat)
      case atStart => exact ⟨0, by have := HML.out; omega, ⟨T1.out, F1.out, rfl⟩, rfl⟩
      case round =>
        obtain ⟨k, hk, hm, rfl⟩ := hrel
        have FR : Hid (Fr w0.heap.size [w.heap.size] w0 wr) := hm.out.2.1
        have AL : Hid ((List.range k).all (fun i => decide (nt o (wl 0 (win xs (m + 1) i)) = 0)) = true) := hm.out.2.2
        by_cases e : (k : Int) < (xs.length : Int) - (m : Int)
        · have km : Hid (k + m < xs.length) := by show k + m < xs.length; omega
          have wkn : IntKind.i64.wrap ((k : Int) + n) = (k : Int) + n := wrs (by omega) (by omega)
          have hcut := cut_mid b off xs.length cap k m n HM.out (by have := HCAP.out; have := km.out; omega)
          have c1 := HX1.out wr FR.out (k + m) km.out
          rw [← Nat.add_assoc] at c1
          have SZ : Hid (w.heap.size < wr.heap.size) := hm.out.1.lt
          have SN : Hid (win xs m k ++ [xs.getD (k + m) 0] = win xs (m + 1) k) := win_snoc xs m k km.out
          have WC : Hid (win xs (m + 1) k = xs.getD k 0 :: win xs m (k + 1)) := win_cons xs m k (by have := km.out; omega)
          have lw : Hid (∀ j i, (win xs j i).length ≤ 300) := fun j i => by unfold win; rw [List.length_take, List.length_drop]; omega
          generalize xs.getD (k + m) 0 = x at *
          have CO2 : Hid (∀ _ : Unit, _) := fun _ => come_any w.heap.size (win xs m k) [x] (.slice (some ⟨wr.heap.size, 0, none⟩) 1 1) (wr.alloc (.cells #[.int .i64 x] 3)) (hm.out.1.keep (Fr.of_below ((Below.refl wr.heap.size wr).alloc (Nat.le_refl _) (.cells #[.int .i64 x] 3))) (by simp)) (fun u f => Or.inr ⟨wr.heap.size, 0, 1, rfl, Nat.lt_of_lt_of_le (by simp) f.size, fun i hi => by
            have hi0 : i = 0 := by simpa using hi
            subst hi0
            exact fr_cell f ((Blk.new wr [.int .i64 x] 3).cell 0) (by have := SZ.out; omega)⟩) (by simp) (by have := lw.out m k; omega)
          rw [SN.out] at CO2
          have FA : Hid (Fr w0.heap.size [w.heap.size] w0 (wr.alloc (.cells #[.int .i64 x] 3))) := FR.out.alloc FR.out.size _
          clear hm SN
          go_wp2_with fail
          refine (CO2.out ()).mono ?_
          rintro e w2 ⟨rfl, t2, f2⟩
          have T2 : Hid (TW w2 w.heap.size (win xs (m + 1) k)) := t2
          have F2 : Hid (Fr w0.heap.size [w.heap.size] w0 w2) := FA.out.trans (f2.less FA.out.size)
          have mk := t2.mask
          have CW : Hid (∀ v, _) := fun v => kwithin_any o (wl 0 (win xs (m + 1) k)) v ho (wl_lt 0 _ (by decide))
          have c2 := HX1.out w2 F2.out k (by have := km.out; omega)
          clear t2 f2 c1 CO2 FA
          by_cases q : nt o (wl 0 (win xs (m + 1) k)) = 0
          · have CL : Hid (∀ _ : Unit, _) := fun _ => leave_any w.heap.size (xs.getD k 0) (win xs m (k + 1)) w2 (by have := T2.out; rw [WC.out] at this; exact this) (by have := lw.out m (k + 1); omega)
            have AL2 : Hid ((List.range (k + 1)).all (fun i => decide (nt o (wl 0 (win xs (m + 1) i)) = 0)) = true) := by
              show (List.range (k + 1)).all _ = true
              rw [List.range_succ, List.all_append, AL.out]
              simpa using q
            rw [show ((nt o (wl 0 (win xs (m + 1) k)) : Int) == 0) = true by rw [q]; rfl] at CW
            generalize xs.getD k 0 = x0 at *
            generalize wl 0 (win xs (m + 1) k) = M at *
            clear q AL
            go_wp2_with fail
            refine (CW.out _).mono ?_
            rintro e w5 ⟨rfl, rfl⟩
            go_wp2_with fail
            refine (CL.out ()).mono ?_
            rintro e w3 ⟨rfl, t3, f3⟩
            have T3 : Hid (TW w3 w.heap.size (win xs m (k + 1))) := t3
            have F3 : Hid (Fr w0.heap.size [w.heap.size] w0 w3) := F2.out.trans (f3.less F2.out.size)
            clear t3 f3 c2 mk CL CW
            go_wp2
            go_roundw
            case rel => exact ⟨k + 1, by omega, ⟨T3.out, F3.out, AL2.out⟩, by go_num⟩
            case measure => simp [intOf]; omega
          · have RF : Hid (fairp xs o n = false) := by rw [HM.out]; exact fairp_no xs o m k (by have := km.out; omega) q
            rw [show ((nt o (wl 0 (win xs (m + 1) k)) : Int) == 0) = false by simpa using q] at CW
            have BF : Hid (Below w.heap.size w w2) := HB0.out.trans ((F2.out.less HB0.out.size).below (by simp))
            generalize wl 0 (win xs (m + 1) k) = M at *
            clear q AL
            go_wp2_with fail
            refine (CW.out _).mono ?_
            rintro e w5 ⟨rfl, rfl⟩
            go_wp2
            go_ret
            exact ⟨by rw [RF.out]; rfl, BF.out⟩
        · have e2 : k = xs.length - m := by have := HML.out; omega
          have RF : Hid (fairp xs o n = true) := by rw [HM.out]; exact fairp_yes xs o m (by rw [← e2]; exact AL.out)
          have BF : Hid (Below w.heap.size w wr) := HB0.out.trans ((FR.out.less HB0.out.size).below (by simp))
          have e3 : decide ((k : Int) < (xs.length : Int) - (m : Int)) = false := decide_eq_false e
          clear hm AL
          go_wp2
          go_ret
          exact ⟨by rw [RF.out]; rfl, BF.out⟩
end Go.Proofs.YtfipiifickdeiaaGreatDoor.Fai
