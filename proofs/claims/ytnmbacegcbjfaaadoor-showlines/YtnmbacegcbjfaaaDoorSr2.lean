/- Records as lines: the document's reading of a line. -/
import Derived.Test.YtnmbacegcbjfaaaDoorRows
import Derived.Test.YtnmbacegcbjfaaaDoorSr1
import Derived.Test.YtnmbacegcbjfaaaDoorWse
import Derived.Deep.RegionLaw
import Derived.Laws.ResultCell
import Derived.WalkKit
import Derived.ProofKit
import Derived.OpenShut
import Derived.BigQuiet
import Derived.WalkSmall
import Derived.WalkSpells
namespace Go.Proofs.YtnmbacegcbjfaaaDoor
open Go.ChangeShapes Go.WideShapes Go.ChangeAt Go.RowKit
open Wd Mm
set_option linter.unusedVariables false
set_option linter.unusedSimpArgs false
set_option maxRecDepth 100000

open Sv

theorem slice_to (s : List UInt8) (i : Nat) (h : i ≤ s.length) (W : World) : (Instr.slice 9 (.string (sb s)) none (some (.int .i64 (i : Int))) none).run Tryd.prog W = .ok (.string (sb (s.take i))) W := by
  have hs : ((sb s).size : Int) = s.length := by rw [sb_size]
  rw [run_slice_string_to_if W 9 _ .i64 _ Tryd.underlying9, hs, if_pos (by omega)]
  have e1 : ((i : Int)).toNat = i := by omega
  rw [e1, Lib.extract_eq]
  congr 2
theorem slice_from (s : List UInt8) (i : Nat) (h : i ≤ s.length) (z : Int) (hz : z = (i : Int)) (W : World) : (Instr.slice 9 (.string (sb s)) (some (.int .i64 z)) none none).run Tryd.prog W = .ok (.string (sb (s.drop i))) W := by
  subst hz
  have hs : ((sb s).size : Int) = s.length := by rw [sb_size]
  rw [run_slice_string_from_if W 9 _ .i64 _ Tryd.underlying9, hs, if_pos (by omega)]
  have e1 : ((i : Int)).toNat = i := by omega
  rw [e1, sb_size, Lib.extract_eq]
  congr 2
  show ({ data := ((s.drop i).take (s.length - i)).toArray } : ByteArray) = _
  rw [List.take_of_length_le (by simp)]

theorem wsp_at (s : List UInt8) (k : Nat) (hk : k < s.length) (h : (32 : UInt8) ∉ s.take k) (e : s[k] = 32) : wsp s = (s.take k, s.drop (k + 1)) := by
  have := split_next s k hk
  rw [e] at this
  conv => lhs; rw [this]
  exact wsp_cut _ _ h
theorem wsp_len (s : List UInt8) : (wsp s).1.length ≤ s.length ∧ (wsp s).2.length ≤ s.length := by
  unfold wsp
  have h : (s.takeWhile fun x => decide (x ≠ 32)).length + (s.dropWhile fun x => decide (x ≠ 32)).length = s.length := by
    rw [← List.length_append, List.takeWhile_append_dropWhile]
  simp only [List.length_drop]
  omega

set_option maxHeartbeats 2000000 in
theorem rrword_any (s : List UInt8) (hl : s.length ≤ 300) (w : World) :
    Calls Tryd.prog 26 #[.string (sb s)] w fun e w' => e = .returned (.tuple #[.string (sb (wsp s).1), .string (sb (wsp s).2)]) ∧ Sm w' w := by
  obtain ⟨A, B, hAB⟩ : ∃ A B, wsp s = (A, B) := ⟨_, _, rfl⟩
  have H1 : Hid (∀ k (hk : k < s.length), (32 : UInt8) ∉ s.take k → s[k] = 32 → A = s.take k ∧ B = s.drop (k + 1)) := fun k hk h e => by
    have := wsp_at s k hk h e
    rw [hAB] at this
    exact ⟨congrArg Prod.fst this, congrArg Prod.snd this⟩
  have H2 : Hid ((32 : UInt8) ∉ s → A = s ∧ B = []) := fun h => by
    have := wsp_plain s h
    rw [hAB] at this
    exact ⟨congrArg Prod.fst this, congrArg Prod.snd this⟩
  have HT : Hid (s.take s.length = s) := List.take_length
  rw [hAB]
  have hl2 : (s.length : Int) ≤ 300 := by omega
  clear hAB hl
  go_enter Tryd.func26, Tryd.ntmps26
  go_wp2
  go_loop [4] (fun i => ∃ k : Nat, (k : Int) ≤ s.length ∧ i = .int .i64 k ∧ Hid ((32 : UInt8) ∉ s.take k)) (fun i => s.length - (intOf i).toNat)
  case atStart => exact ⟨0, by omega, rfl, by show _ ∉ _; simp⟩
  case round =>
    obtain ⟨k, hk, rfl, hn⟩ := hrel
    by_cases h : (k : Int) < s.length
    · have hkL : k < s.length := by omega
      have hi : ∀ W, _ := fun W => index_run s k hkL W
      have s1 : ∀ W, _ := fun W => slice_to s k (by omega) W
      have s2 : ∀ W, _ := fun W => slice_from s (k + 1) (by omega) ((k : Int) + 1) (by omega) W
      have H1k := H1.out k hkL hn.out
      have e1 := take_next s k hkL
      generalize s[k] = x at *
      by_cases hx : x = 32
      · have q : ((x.toNat : Int) == 32) = true := by rw [beq_iff_eq, hx]; rfl
        obtain ⟨rfl, rfl⟩ := H1k hx
        clear hx H1k e1 hn H1 H2
        go_wp2
        go_region
        go_wp2
        go_ret2
        exact ⟨rfl, rfl, rfl, rfl, rfl⟩
      · have q : ((x.toNat : Int) == 32) = false := by
          rw [beq_eq_false_iff_ne]
          intro e
          exact hx (UInt8.toNat_inj.1 (by have : (32 : UInt8).toNat = 32 := rfl; omega))
        have hn2 : Hid ((32 : UInt8) ∉ s.take (k + 1)) := by
          show _ ∉ _
          rw [e1]
          intro m
          rcases List.mem_append.1 m with m | m
          · exact hn.out m
          · exact hx (List.mem_singleton.1 m).symm
        clear hx H1k e1 hn s1 s2
        go_wp2
        go_round
        case rel => exact ⟨k + 1, by omega, by go_num, hn2⟩
        case measure => simp [intOf]; omega
    · obtain rfl : k = s.length := by omega
      have hn1 := hn.out
      rw [HT.out] at hn1
      obtain ⟨rfl, rfl⟩ := H2.out hn1
      clear hn1 hn H1 H2 HT
      go_wp2
      go_ret2
      exact ⟨rfl, rfl, rfl, rfl, rfl⟩

/-- What is there while a line is read. -/
structure QS (w wr : World) (b : Nat) (x : Sv.R) : Prop where
  z : Blk wr w.heap.size (R.vals R0) 28
  x : Blk wr b (R.vals x) 28
  be : Below w.heap.size w wr
  hb : w.heap.size < b
theorem QS.up {w wr v : World} {b : Nat} {x : Sv.R} (h : QS w wr b x) (f : Below wr.heap.size wr v) : QS w v b x :=
  ⟨h.z.keep (Fr.of_below f) h.z.lt (by simp), h.x.keep (Fr.of_below f) h.x.lt (by simp), h.be.trans (f.mono h.be.size), h.hb⟩
theorem QS.sm {w wr v : World} {b : Nat} {x : Sv.R} (h : QS w wr b x) (f : Sm v wr) : QS w v b x := h.up (f.below (Below.refl _ _))
theorem QS.set {w wr : World} {b : Nat} {x : Sv.R} (h : QS w wr b x) (i : Nat) (a : Value) (y : Sv.R) (hy : (R.vals x).set i a = R.vals y) : QS w (wr.setCell ⟨b, i, none⟩ a) b y := by
  have hb := h.hb
  have hx := h.x.set i a
  rw [hy] at hx
  exact ⟨h.z.other (p := ⟨b, i, none⟩) (by show w.heap.size ≠ b; omega) a, hx, h.be.setCell (p := ⟨b, i, none⟩) (by show w.heap.size ≤ b; omega) a, hb⟩
theorem QS.fin {w wr : World} {b : Nat} {x : Sv.R} (h : QS w wr b x) (r : Sv.R) : Blk (((((wr.setCell ⟨w.heap.size, 0, none⟩ (.int .i64 r.k)).setCell ⟨w.heap.size, 1, none⟩ (.int .i64 r.c)).setCell ⟨w.heap.size, 2, none⟩ (.int .i64 r.i)).setCell ⟨w.heap.size, 3, none⟩ (.int .i64 r.n)).setCell ⟨w.heap.size, 4, none⟩ (.int .i64 r.y)) w.heap.size (R.vals r) 28 ∧ Below w.heap.size w (((((wr.setCell ⟨w.heap.size, 0, none⟩ (.int .i64 r.k)).setCell ⟨w.heap.size, 1, none⟩ (.int .i64 r.c)).setCell ⟨w.heap.size, 2, none⟩ (.int .i64 r.i)).setCell ⟨w.heap.size, 3, none⟩ (.int .i64 r.n)).setCell ⟨w.heap.size, 4, none⟩ (.int .i64 r.y)) :=
  ⟨five h.z rfl _ _ _ _ _, (fr5 ((Fr.of_below h.be).mono (S' := [w.heap.size]) (Nat.le_refl _) (fun _ _ _ => by simp)) (by simp) _ _ _ _ _).below (by simp)⟩
theorem size_rec : (Tryd.prog.info? 28).map (·.size) = some 5 := by kernel_rfl
theorem rb_ret {w : World} {z : Nat} {x : Sv.R} {y : Int} {tmps : Array Value} (h : Blk w z (R.vals x) 28) (h1 : tmps.getD 2 undef = .pointer (some ⟨z, 0, none⟩)) (h2 : tmps.getD 3 undef = .int .i64 y) :
    (results Tryd.f15 tmps).run Tryd.prog w = .ok (.tuple #[.agg (R.vals x).toArray, .int .i64 y]) w := by
  have h1' : tmps[2]?.getD undef = .pointer (some ⟨z, 0, none⟩) := by simpa using h1
  have h2' : tmps[3]?.getD undef = .int .i64 y := by simpa using h2
  have L1 := run_loadVar_row (P := Tryd.prog) w z 28 28 (R.vals x).toArray (0, 0) _ h Tryd.underlying28 rfl (by rw [size_rec]; rfl)
  simp [results, Tryd.results15, h1', h2', asAddr, L1, Result.andThen, Sem.run_bind]

theorem nr_iff (s : List UInt8) (k : Nat) (h1 : 1 ≤ k) (h8 : k < 8) : nrk k = s ↔ krOf s = k := by
  constructor
  · rintro rfl
    exact krOf_nm ⟨k, h8⟩
  · rintro rfl
    exact (krOf_some (by omega)).2
theorem nrI_nat (k : Nat) (h1 : 1 ≤ k) (h8 : k < 8) : nrI (k : Int) = nrk k := by
  unfold nrI
  rw [if_pos (show isR (k : Int) by unfold isR; omega)]
  rfl
/-- The kind that a word has, of those below k. -/
def kk (s : List UInt8) (k : Nat) : Nat := if krOf s < k then krOf s else 0
theorem kk_hit {s : List UInt8} {k : Nat} (h : krOf s = k) : kk s (k + 1) = k := by unfold kk; rw [if_pos (by omega), h]
theorem kk_miss {s : List UInt8} {k : Nat} (h : krOf s ≠ k) : kk s (k + 1) = kk s k := by
  unfold kk
  by_cases h2 : krOf s < k
  · rw [if_pos h2, if_pos (by omega)]
  · rw [if_neg h2, if_neg (by omega)]
theorem kk_all (s : List UInt8) : kk s 8 = krOf s := by unfold kk; rw [if_pos (krOf_lt s)]
theorem kk_one (s : List UInt8) : kk s 1 = 0 := by
  unfold kk
  split
  · omega
  · rfl

set_option maxHeartbeats 16000000 in
theorem rrback_any (s : List UInt8) (hl : s.length ≤ 200) (w : World) :
    Calls Tryd.prog 15 #[.string (sb s)] w fun e w' => e = .returned (bkR s) ∧ Below w.heap.size w w' := by
  have CW : Hid (∀ x : List UInt8, x.length ≤ 300 → ∀ w, _) := fun x hx w => rrword_any x hx w
  have CN : Hid (∀ k w, _) := fun k w => rrname_any k w
  have CM : Hid (∀ x : List UInt8, x.length ≤ 300 → ∀ w, _) := fun x hx w => number_any x hx w
  have CL : Hid (∀ r : Sv.R, r.wf → ∀ w, _) := fun r hr w => rrline_any r hr w
  have HL : Hid (s.length ≤ 200) := hl
  have hl2 : ¬ (200 : Int) < (s.length : Int) := by omega
  have hl3 : decide ((200 : Int) < (s.length : Int)) = false := decide_eq_false hl2
  obtain ⟨R1, hR⟩ : ∃ R1, bkR s = R1 := ⟨_, rfl⟩
  have hlen := wsp_len s
  obtain ⟨P0, P1, hP⟩ : ∃ A B, wsp s = (A, B) := ⟨_, _, rfl⟩
  obtain ⟨D, hD⟩ : ∃ D, rdd 5 P1 ⟨(krOf P0 : Nat), 0, 0, 0, 0⟩ = D := ⟨_, rfl⟩
  have PS0 : Hid ((D = none → R1 = .tuple #[.agg (R.vals R0).toArray, .int .i64 13]) ∧ (∀ r, D = some r → (r.k = 0 ∨ rl r ≠ s) → R1 = .tuple #[.agg (R.vals R0).toArray, .int .i64 13]) ∧ (∀ r, D = some r → r.k ≠ 0 → rl r = s → R1 = .tuple #[.agg (R.vals r).toArray, .int .i64 0])) := by
    have hb := bk_eq s
    unfold bkd at hb
    rw [if_neg (by omega), hP] at hb
    simp only at hb
    rw [hD] at hb
    rw [← hR]
    refine ⟨fun h => ?_, fun r h h2 => ?_, fun r h h2 h3 => ?_⟩
    · rw [h] at hb
      exact bkR_none hb.symm
    · rw [h, Option.bind_some, if_neg (fun q => by rcases h2 with a | a <;> simp_all)] at hb
      exact bkR_none hb.symm
    · rw [h, Option.bind_some, if_pos ⟨h2, h3⟩] at hb
      exact bkR_some hb.symm
  have HD : Hid (rdd 5 P1 ⟨(krOf P0 : Nat), 0, 0, 0, 0⟩ = D) := hD
  have HP : Hid (wsp s = (P0, P1)) := hP
  have HP0 : Hid (P1.length ≤ 200) := by
    show _ ≤ _
    have := hlen.2
    rw [hP] at this
    simp only at this
    omega
  have KZ : Hid (Blk (w.alloc (.cells (R.vals R0).toArray 28)) w.heap.size (R.vals R0) 28) := Blk.new w _ _
  have BZ : Hid (Below w.heap.size w (w.alloc (.cells (R.vals R0).toArray 28))) := (Below.refl _ _).alloc (Nat.le_refl _) _
  rw [hR]
  clear hD hP hR hlen hl
  dsimp only [R.vals, R0] at KZ BZ PS0
  go_enter Tryd.func15, Tryd.ntmps15
  go_wp2_with fail
  refine (CW.out s (by have := HL.out; omega) _).mono ?_
  rintro e u ⟨rfl, hu⟩
  rw [HP.out]
  have Q0 : Hid (QS w (u.alloc (.cells #[.int .i64 0, .int .i64 0, .int .i64 0, .int .i64 0, .int .i64 0] 28)) u.heap.size ⟨(kk P0 1 : Nat), 0, 0, 0, 0⟩) := by
    show QS _ _ _ _
    rw [kk_one P0]
    have h1 : Below (w.alloc (.cells (R.vals R0).toArray 28)).heap.size (w.alloc (.cells (R.vals R0).toArray 28)) u := hu.below (Below.refl _ _)
    have z1 : Blk u w.heap.size (R.vals R0) 28 := Blk.keep KZ.out (Fr.of_below h1) (Blk.lt KZ.out) (by simp)
    have b1 : Below w.heap.size w u := Below.trans BZ.out (h1.mono (by simp))
    exact ⟨z1.alloc _, Blk.new u [.int .i64 0, .int .i64 0, .int .i64 0, .int .i64 0, .int .i64 0] 28, b1.alloc b1.size _, z1.lt⟩
  clear hu KZ BZ HP
  go_wp2
  obtain ⟨bx, hbx⟩ : ∃ bx, u.heap.size = bx := ⟨_, rfl⟩
  rw [hbx] at Q0 ⊢
  clear hbx
  go_loopw [7] (fun i wr => ∃ k : Nat, (1 : Int) ≤ k ∧ (k : Int) ≤ 8 ∧ i = .int .i64 k ∧ Hid (QS w wr bx ⟨(kk P0 k : Nat), 0, 0, 0, 0⟩)) (fun i _ => 8 - (intOf i).toNat)
  case atStart => exact ⟨1, by omega, by omega, rfl, Q0⟩
  case round =>
    obtain ⟨k, hk1, hk, rfl, Q⟩ := hrel
    by_cases h : (k : Int) < 8
    · have CN1 : Hid (∀ w, _) := fun w => CN.out (k : Int) w
      rw [nrI_nat k (by omega) (by omega)] at CN1
      have ni := nr_iff P0 k (by omega) (by omega)
      generalize nrk k = nm at *
      by_cases hq : nm = P0
      · have q : (nm == P0) = true := by rw [beq_iff_eq]; exact hq
        have e1 := kk_hit (ni.1 hq)
        clear hq ni
        go_wp2_with fail
        refine (CN1.out _).mono ?_
        rintro e v ⟨rfl, bv⟩
        have QV := Q.out.up bv
        have v1 : v.cell? ⟨bx, 0, none⟩ = some (.int .i64 (kk P0 k : Nat)) := QV.x.cell 0
        have v2 : v.frozen? ⟨bx, 0, none⟩ = false := QV.x.free 0
        have Q2 : Hid (QS w (v.setCell ⟨bx, 0, none⟩ (.int .i64 (k : Int))) bx ⟨(kk P0 (k + 1) : Nat), 0, 0, 0, 0⟩) := QV.set 0 _ _ (by rw [e1]; rfl)
        generalize kk P0 k = y at *
        clear QV e1 bv Q
        go_wp2
        go_roundw
        case rel => exact ⟨k + 1, by omega, by omega, by go_num, Q2⟩
        case measure => simp [intOf]; omega
      · have q : (nm == P0) = false := by rw [beq_eq_false_iff_ne]; exact hq
        have e1 := kk_miss (fun h => hq (ni.2 h))
        clear hq ni
        go_wp2_with fail
        refine (CN1.out _).mono ?_
        rintro e v ⟨rfl, bv⟩
        have Q2 : Hid (QS w v bx ⟨(kk P0 (k + 1) : Nat), 0, 0, 0, 0⟩) := by rw [e1]; exact Q.out.up bv
        clear e1 bv Q
        go_wp2
        go_roundw
        case rel => exact ⟨k + 1, by omega, by omega, by go_num, Q2⟩
        case measure => simp [intOf]; omega
    · obtain rfl : k = 8 := by omega
      rw [kk_all] at Q
      have HW : Hid (Sv.R.wf ⟨(krOf P0 : Nat), 0, 0, 0, 0⟩) := by
        have := krOf_lt P0
        exact ⟨by unfold inR; simp only; omega, Sv.z_in, Sv.z_in, Sv.z_in, Sv.z_in⟩
      obtain ⟨RR, hRR⟩ : ∃ r : Sv.R, (⟨(krOf P0 : Nat), 0, 0, 0, 0⟩ : Sv.R) = r := ⟨_, rfl⟩
      rw [hRR] at Q HW HD
      clear hRR CN
      go_wp2
      clear hk1 hk h
      go_loopw [4, 5, 8] (fun _ t i v => ∃ (n : Nat) (x : List UInt8) (r : Sv.R), (n : Int) ≤ 5 ∧ t = .string (sb x) ∧ i = .int .i64 n ∧ Hid (rdd (5 - n) x r = D) ∧ Hid (x.length ≤ 200) ∧ Hid r.wf ∧ Hid (QS w v bx r)) (fun _ _ i _ => 5 - (intOf i).toNat)
      case atStart => exact ⟨0, P1, RR, by omega, rfl, rfl, HD, HP0, HW, Q⟩
      case round =>
        obtain ⟨n, x, r, hn, rfl, rfl, hd, hx, hw, QQ⟩ := hrel
        by_cases h : (n : Int) < 5 ∧ x ≠ []
        · obtain ⟨h5, hne⟩ := h
          have q : (x == []) = false := by rw [beq_eq_false_iff_ne]; exact hne
          have hd2 := hd.out
          obtain ⟨m, hm⟩ : ∃ m, 5 - n = m + 1 := ⟨4 - n, by omega⟩
          have hm2 : Hid (5 - (n + 1) = m) := by show _ = _; omega
          rw [hm, rdd, if_neg hne] at hd2
          have CW1 : Hid (∀ w, _) := fun w => CW.out x (by have := hx.out; omega) w
          have xl := wsp_len x
          obtain ⟨A, B, hAB⟩ : ∃ A B, wsp x = (A, B) := ⟨_, _, rfl⟩
          rw [hAB] at CW1 hd2 xl
          simp only at xl
          have hA : Hid (A.length ≤ 200) := by show _ ≤ _; have := hx.out; omega
          have hB : Hid (B.length ≤ 200) := by show _ ≤ _; have := hx.out; omega
          simp only at CW1 hd2
          clear hAB xl hm hd
          go_wp2_with fail
          refine (CW1.out _).mono ?_
          rintro e v1 ⟨rfl, hv1⟩
          have Q1 : Hid (QS w v1 bx r) := QQ.out.sm hv1
          clear hv1 QQ CW1
          have z0 : v1.cell? ⟨w.heap.size, 0, none⟩ = some (.int .i64 0) := Q1.out.z.cell 0
          have z1 : v1.cell? ⟨w.heap.size, 1, none⟩ = some (.int .i64 0) := Q1.out.z.cell 1
          have z2 : v1.cell? ⟨w.heap.size, 2, none⟩ = some (.int .i64 0) := Q1.out.z.cell 2
          have z3 : v1.cell? ⟨w.heap.size, 3, none⟩ = some (.int .i64 0) := Q1.out.z.cell 3
          have z4 : v1.cell? ⟨w.heap.size, 4, none⟩ = some (.int .i64 0) := Q1.out.z.cell 4
          have f0 : v1.frozen? ⟨w.heap.size, 0, none⟩ = false := Q1.out.z.free 0
          have f1 : v1.frozen? ⟨w.heap.size, 1, none⟩ = false := Q1.out.z.free 1
          have f2 : v1.frozen? ⟨w.heap.size, 2, none⟩ = false := Q1.out.z.free 2
          have f3 : v1.frozen? ⟨w.heap.size, 3, none⟩ = false := Q1.out.z.free 3
          have f4 : v1.frozen? ⟨w.heap.size, 4, none⟩ = false := Q1.out.z.free 4
          cases A with
          | nil =>
            have e0 : D = none := by rw [← hd2]; rfl
            obtain rfl := PS0.out.1 e0
            have qa : (([] : List UInt8) == []) = true := rfl
            clear e0 hd2 PS0
            go_wp2
            exact bodyPost_ret (rb_ret (x := R0) (Q1.out.fin R0).1 rfl rfl) rfl ⟨rfl, (Q1.out.fin R0).2⟩
          | cons l d =>
            have qa : ((l :: d) == []) = false := by rw [beq_eq_false_iff_ne]; simp
            have qa2 : ¬ (l :: d = []) := by simp
            have i1 : ∀ W, _ := fun W => index_run (l :: d) 0 (by simp) W
            have j1 : ∀ W, _ := fun W => slice_from (l :: d) 1 (by simp) 1 rfl W
            rw [show (l :: d).drop 1 = d from rfl] at j1
            rw [show (l :: d)[0] = l from rfl, show (((0 : Nat)) : Int) = 0 from rfl] at i1
            have CM1 : Hid (∀ w, _) := fun w => CM.out d (by have := hA.out; simp at this; omega) w
            rw [putD] at hd2
            have pos : (0 : Int) < ((l :: d).length : Nat) := by simp
            generalize l :: d = Y at *
            go_wp2_with fail
            refine (CM1.out _).mono ?_
            rintro e v ⟨⟨nn, bb, rfl, hnn⟩, hv⟩
            obtain rfl : v = v1 := hv
            rcases hnn with ⟨hk, rfl⟩ | ⟨hk, rfl⟩
            · have hin : inR nn := ((numOf_iff _ _).1 hk).1
              rw [hk, Option.bind_some] at hd2
              by_cases hf : isF l
              · rw [if_pos hf, Option.bind_some] at hd2
                have HD2 : Hid (rdd m B (stR r l nn) = D) := hd2
                have HW2 : Hid (stR r l nn).wf := stR_wf hw.out l hin
                clear hd2 hk hin CM1 z0 z1 z2 z3 z4 f0 f1 f2 f3 f4
                rcases hf with rfl | rfl | rfl | rfl
                · rw [show ((99 : UInt8).toNat : Nat) = 99 from rfl] at i1
                  rw [show stR r 99 nn = { r with c := nn } from rfl] at HD2 HW2
                  have c1 : v.cell? ⟨bx, 1, none⟩ = some (.int .i64 r.c) := Q1.out.x.cell 1
                  have c2 : v.frozen? ⟨bx, 1, none⟩ = false := Q1.out.x.free 1
                  have Q2 : Hid (QS w (v.setCell ⟨bx, 1, none⟩ (.int .i64 nn)) bx { r with c := nn }) := Q1.out.set 1 _ _ rfl
                  generalize { r with c := nn } = r2 at *
                  clear Q1
                  go_wp2
                  go_roundw
                  case rel => exact ⟨n + 1, B, r2, by omega, rfl, by go_num, by rw [hm2.out]; exact HD2, hB, HW2, Q2⟩
                  case measure => simp [intOf]; omega
                · rw [show ((105 : UInt8).toNat : Nat) = 105 from rfl] at i1
                  rw [show stR r 105 nn = { r with i := nn } from rfl] at HD2 HW2
                  have c1 : v.cell? ⟨bx, 2, none⟩ = some (.int .i64 r.i) := Q1.out.x.cell 2
                  have c2 : v.frozen? ⟨bx, 2, none⟩ = false := Q1.out.x.free 2
                  have Q2 : Hid (QS w (v.setCell ⟨bx, 2, none⟩ (.int .i64 nn)) bx { r with i := nn }) := Q1.out.set 2 _ _ rfl
                  generalize { r with i := nn } = r2 at *
                  clear Q1
                  go_wp2
                  go_roundw
                  case rel => exact ⟨n + 1, B, r2, by omega, rfl, by go_num, by rw [hm2.out]; exact HD2, hB, HW2, Q2⟩
                  case measure => simp [intOf]; omega
                · rw [show ((110 : UInt8).toNat : Nat) = 110 from rfl] at i1
                  rw [show stR r 110 nn = { r with n := nn } from rfl] at HD2 HW2
                  have c1 : v.cell? ⟨bx, 3, none⟩ = some (.int .i64 r.n) := Q1.out.x.cell 3
                  have c2 : v.frozen? ⟨bx, 3, none⟩ = false := Q1.out.x.free 3
                  have Q2 : Hid (QS w (v.setCell ⟨bx, 3, none⟩ (.int .i64 nn)) bx { r with n := nn }) := Q1.out.set 3 _ _ rfl
                  generalize { r with n := nn } = r2 at *
                  clear Q1
                  go_wp2
                  go_roundw
                  case rel => exact ⟨n + 1, B, r2, by omega, rfl, by go_num, by rw [hm2.out]; exact HD2, hB, HW2, Q2⟩
                  case measure => simp [intOf]; omega
                · rw [show ((101 : UInt8).toNat : Nat) = 101 from rfl] at i1
                  rw [show stR r 101 nn = { r with y := nn } from rfl] at HD2 HW2
                  have c1 : v.cell? ⟨bx, 4, none⟩ = some (.int .i64 r.y) := Q1.out.x.cell 4
                  have c2 : v.frozen? ⟨bx, 4, none⟩ = false := Q1.out.x.free 4
                  have Q2 : Hid (QS w (v.setCell ⟨bx, 4, none⟩ (.int .i64 nn)) bx { r with y := nn }) := Q1.out.set 4 _ _ rfl
                  generalize { r with y := nn } = r2 at *
                  clear Q1
                  go_wp2
                  go_roundw
                  case rel => exact ⟨n + 1, B, r2, by omega, rfl, by go_num, by rw [hm2.out]; exact HD2, hB, HW2, Q2⟩
                  case measure => simp [intOf]; omega
              · rw [if_neg hf, Option.bind_none] at hd2
                obtain rfl := PS0.out.1 hd2.symm
                have t1 : ((l.toNat : Int) == 99) = false := by rw [beq_eq_false_iff_ne]; intro e; exact hf (Or.inl (UInt8.toNat_inj.1 (by have : (99 : UInt8).toNat = 99 := rfl; omega)))
                have t2 : ((l.toNat : Int) == 105) = false := by rw [beq_eq_false_iff_ne]; intro e; exact hf (Or.inr (Or.inl (UInt8.toNat_inj.1 (by have : (105 : UInt8).toNat = 105 := rfl; omega))))
                have t3 : ((l.toNat : Int) == 110) = false := by rw [beq_eq_false_iff_ne]; intro e; exact hf (Or.inr (Or.inr (Or.inl (UInt8.toNat_inj.1 (by have : (110 : UInt8).toNat = 110 := rfl; omega)))))
                have t4 : ((l.toNat : Int) == 101) = false := by rw [beq_eq_false_iff_ne]; intro e; exact hf (Or.inr (Or.inr (Or.inr (UInt8.toNat_inj.1 (by have : (101 : UInt8).toNat = 101 := rfl; omega)))))
                clear hd2 hk hin CM1 PS0 hf
                go_wp2
                exact bodyPost_ret (rb_ret (x := R0) (Q1.out.fin R0).1 rfl rfl) rfl ⟨rfl, (Q1.out.fin R0).2⟩
            · rw [hk] at hd2
              obtain rfl := PS0.out.1 hd2.symm
              clear hd2 hk CM1 PS0
              go_wp2
              exact bodyPost_ret (rb_ret (x := R0) (Q1.out.fin R0).1 rfl rfl) rfl ⟨rfl, (Q1.out.fin R0).2⟩
        · have hD : D = some r := by
            have := hd.out
            by_cases h5 : (n : Int) < 5
            · have hx0 : x = [] := by
                by_cases hx0 : x = []
                · exact hx0
                · exact absurd ⟨h5, hx0⟩ h
              rw [hx0, rdd_nil] at this
              exact this.symm
            · have : n = 5 := by omega
              subst this
              exact hd.out.symm
          have GUARD : ((n : Int) < 5 ∧ x = []) ∨ ¬ (n : Int) < 5 := by
            by_cases h5 : (n : Int) < 5
            · refine Or.inl ⟨h5, ?_⟩
              by_cases hx0 : x = []
              · exact hx0
              · exact absurd ⟨h5, hx0⟩ h
            · exact Or.inr h5
          have P2 := PS0.out.2.1 r hD
          have P3 := PS0.out.2.2 r hD
          have CL1 : Hid (∀ w, _) := fun w => CL.out r hw.out w
          have HB : Hid (bx ≠ w.heap.size) := by show _ ≠ _; have := QQ.out.hb; omega
          clear h hd hx hw PS0 hD CL CM CW
          have z0 : wr.cell? ⟨w.heap.size, 0, none⟩ = some (.int .i64 0) := QQ.out.z.cell 0
          have z1 : wr.cell? ⟨w.heap.size, 1, none⟩ = some (.int .i64 0) := QQ.out.z.cell 1
          have z2 : wr.cell? ⟨w.heap.size, 2, none⟩ = some (.int .i64 0) := QQ.out.z.cell 2
          have z3 : wr.cell? ⟨w.heap.size, 3, none⟩ = some (.int .i64 0) := QQ.out.z.cell 3
          have z4 : wr.cell? ⟨w.heap.size, 4, none⟩ = some (.int .i64 0) := QQ.out.z.cell 4
          have f0 : wr.frozen? ⟨w.heap.size, 0, none⟩ = false := QQ.out.z.free 0
          have f1 : wr.frozen? ⟨w.heap.size, 1, none⟩ = false := QQ.out.z.free 1
          have f2 : wr.frozen? ⟨w.heap.size, 2, none⟩ = false := QQ.out.z.free 2
          have f3 : wr.frozen? ⟨w.heap.size, 3, none⟩ = false := QQ.out.z.free 3
          have f4 : wr.frozen? ⟨w.heap.size, 4, none⟩ = false := QQ.out.z.free 4
          have x0 : wr.cell? ⟨bx, 0, none⟩ = some (.int .i64 r.k) := QQ.out.x.cell 0
          have x1 : wr.cell? ⟨bx, 1, none⟩ = some (.int .i64 r.c) := QQ.out.x.cell 1
          have x2 : wr.cell? ⟨bx, 2, none⟩ = some (.int .i64 r.i) := QQ.out.x.cell 2
          have x3 : wr.cell? ⟨bx, 3, none⟩ = some (.int .i64 r.n) := QQ.out.x.cell 3
          have x4 : wr.cell? ⟨bx, 4, none⟩ = some (.int .i64 r.y) := QQ.out.x.cell 4
          by_cases hk0 : r.k = 0
          · obtain rfl := P2 (Or.inl hk0)
            rw [hk0] at x0
            clear P2 P3 hk0 CL1
            rcases GUARD with ⟨h5, rfl⟩ | h5
            · have q : (([] : List UInt8) == []) = true := rfl
              go_wp2
              exact bodyPost_ret (rb_ret (x := R0) (QQ.out.fin R0).1 rfl rfl) rfl ⟨rfl, (QQ.out.fin R0).2⟩
            · have h6 : decide ((n : Int) < 5) = false := decide_eq_false h5
              go_wp2
              exact bodyPost_ret (rb_ret (x := R0) (QQ.out.fin R0).1 rfl rfl) rfl ⟨rfl, (QQ.out.fin R0).2⟩
          · have t0 : (r.k == 0) = false := by rw [beq_eq_false_iff_ne]; exact hk0
            have FI : Hid (∀ u, Below wr.heap.size wr u → QS w u bx r) := fun u b => QQ.out.up b
            by_cases he : rl r = s
            · obtain rfl := P3 hk0 he
              have t1 : (rl r == s) = true := by rw [beq_iff_eq]; exact he
              have t2 : ¬ (rl r ≠ s) := by simpa using he
              generalize rl r = Z at *
              obtain ⟨k2, c2, i2, n2, y2⟩ := r
              dsimp only [R.vals] at *
              clear P2 P3 hk0 he
              rcases GUARD with ⟨h5, rfl⟩ | h5
              · have q : (([] : List UInt8) == []) = true := rfl
                go_wp2_with fail
                refine (CL1.out _).mono ?_
                rintro e v9 ⟨rfl, b9⟩
                have Q9 : Hid (QS w v9 bx ⟨k2, c2, i2, n2, y2⟩) := FI.out _ b9
                have z0 : v9.cell? ⟨w.heap.size, 0, none⟩ = some (.int .i64 0) := Q9.out.z.cell 0
                have z1 : v9.cell? ⟨w.heap.size, 1, none⟩ = some (.int .i64 0) := Q9.out.z.cell 1
                have z2 : v9.cell? ⟨w.heap.size, 2, none⟩ = some (.int .i64 0) := Q9.out.z.cell 2
                have z3 : v9.cell? ⟨w.heap.size, 3, none⟩ = some (.int .i64 0) := Q9.out.z.cell 3
                have z4 : v9.cell? ⟨w.heap.size, 4, none⟩ = some (.int .i64 0) := Q9.out.z.cell 4
                have f0 : v9.frozen? ⟨w.heap.size, 0, none⟩ = false := Q9.out.z.free 0
                have f1 : v9.frozen? ⟨w.heap.size, 1, none⟩ = false := Q9.out.z.free 1
                have f2 : v9.frozen? ⟨w.heap.size, 2, none⟩ = false := Q9.out.z.free 2
                have f3 : v9.frozen? ⟨w.heap.size, 3, none⟩ = false := Q9.out.z.free 3
                have f4 : v9.frozen? ⟨w.heap.size, 4, none⟩ = false := Q9.out.z.free 4
                have g0 : v9.cell? ⟨bx, 0, none⟩ = some (.int .i64 k2) := Q9.out.x.cell 0
                have g1 : v9.cell? ⟨bx, 1, none⟩ = some (.int .i64 c2) := Q9.out.x.cell 1
                have g2 : v9.cell? ⟨bx, 2, none⟩ = some (.int .i64 i2) := Q9.out.x.cell 2
                have g3 : v9.cell? ⟨bx, 3, none⟩ = some (.int .i64 n2) := Q9.out.x.cell 3
                have g4 : v9.cell? ⟨bx, 4, none⟩ = some (.int .i64 y2) := Q9.out.x.cell 4
                clear b9 FI
                go_wp2
                exact bodyPost_ret (rb_ret (x := ⟨k2, c2, i2, n2, y2⟩) (Q9.out.fin ⟨k2, c2, i2, n2, y2⟩).1 rfl rfl) rfl ⟨rfl, (Q9.out.fin ⟨k2, c2, i2, n2, y2⟩).2⟩
              · have h6 : decide ((n : Int) < 5) = false := decide_eq_false h5
                go_wp2_with fail
                refine (CL1.out _).mono ?_
                rintro e v9 ⟨rfl, b9⟩
                have Q9 : Hid (QS w v9 bx ⟨k2, c2, i2, n2, y2⟩) := FI.out _ b9
                have z0 : v9.cell? ⟨w.heap.size, 0, none⟩ = some (.int .i64 0) := Q9.out.z.cell 0
                have z1 : v9.cell? ⟨w.heap.size, 1, none⟩ = some (.int .i64 0) := Q9.out.z.cell 1
                have z2 : v9.cell? ⟨w.heap.size, 2, none⟩ = some (.int .i64 0) := Q9.out.z.cell 2
                have z3 : v9.cell? ⟨w.heap.size, 3, none⟩ = some (.int .i64 0) := Q9.out.z.cell 3
                have z4 : v9.cell? ⟨w.heap.size, 4, none⟩ = some (.int .i64 0) := Q9.out.z.cell 4
                have f0 : v9.frozen? ⟨w.heap.size, 0, none⟩ = false := Q9.out.z.free 0
                have f1 : v9.frozen? ⟨w.heap.size, 1, none⟩ = false := Q9.out.z.free 1
                have f2 : v9.frozen? ⟨w.heap.size, 2, none⟩ = false := Q9.out.z.free 2
                have f3 : v9.frozen? ⟨w.heap.size, 3, none⟩ = false := Q9.out.z.free 3
                have f4 : v9.frozen? ⟨w.heap.size, 4, none⟩ = false := Q9.out.z.free 4
                have g0 : v9.cell? ⟨bx, 0, none⟩ = some (.int .i64 k2) := Q9.out.x.cell 0
                have g1 : v9.cell? ⟨bx, 1, none⟩ = some (.int .i64 c2) := Q9.out.x.cell 1
                have g2 : v9.cell? ⟨bx, 2, none⟩ = some (.int .i64 i2) := Q9.out.x.cell 2
                have g3 : v9.cell? ⟨bx, 3, none⟩ = some (.int .i64 n2) := Q9.out.x.cell 3
                have g4 : v9.cell? ⟨bx, 4, none⟩ = some (.int .i64 y2) := Q9.out.x.cell 4
                clear b9 FI
                go_wp2
                exact bodyPost_ret (rb_ret (x := ⟨k2, c2, i2, n2, y2⟩) (Q9.out.fin ⟨k2, c2, i2, n2, y2⟩).1 rfl rfl) rfl ⟨rfl, (Q9.out.fin ⟨k2, c2, i2, n2, y2⟩).2⟩
            · obtain rfl := P2 (Or.inr he)
              have t1 : (rl r == s) = false := by rw [beq_eq_false_iff_ne]; exact he
              have t2 : ¬ (rl r = s) := he
              generalize rl r = Z at *
              obtain ⟨k2, c2, i2, n2, y2⟩ := r
              dsimp only [R.vals] at *
              clear P2 P3 hk0 he
              rcases GUARD with ⟨h5, rfl⟩ | h5
              · have q : (([] : List UInt8) == []) = true := rfl
                go_wp2_with fail
                refine (CL1.out _).mono ?_
                rintro e v9 ⟨rfl, b9⟩
                have Q9 : Hid (QS w v9 bx ⟨k2, c2, i2, n2, y2⟩) := FI.out _ b9
                have z0 : v9.cell? ⟨w.heap.size, 0, none⟩ = some (.int .i64 0) := Q9.out.z.cell 0
                have z1 : v9.cell? ⟨w.heap.size, 1, none⟩ = some (.int .i64 0) := Q9.out.z.cell 1
                have z2 : v9.cell? ⟨w.heap.size, 2, none⟩ = some (.int .i64 0) := Q9.out.z.cell 2
                have z3 : v9.cell? ⟨w.heap.size, 3, none⟩ = some (.int .i64 0) := Q9.out.z.cell 3
                have z4 : v9.cell? ⟨w.heap.size, 4, none⟩ = some (.int .i64 0) := Q9.out.z.cell 4
                have f0 : v9.frozen? ⟨w.heap.size, 0, none⟩ = false := Q9.out.z.free 0
                have f1 : v9.frozen? ⟨w.heap.size, 1, none⟩ = false := Q9.out.z.free 1
                have f2 : v9.frozen? ⟨w.heap.size, 2, none⟩ = false := Q9.out.z.free 2
                have f3 : v9.frozen? ⟨w.heap.size, 3, none⟩ = false := Q9.out.z.free 3
                have f4 : v9.frozen? ⟨w.heap.size, 4, none⟩ = false := Q9.out.z.free 4
                have g0 : v9.cell? ⟨bx, 0, none⟩ = some (.int .i64 k2) := Q9.out.x.cell 0
                have g1 : v9.cell? ⟨bx, 1, none⟩ = some (.int .i64 c2) := Q9.out.x.cell 1
                have g2 : v9.cell? ⟨bx, 2, none⟩ = some (.int .i64 i2) := Q9.out.x.cell 2
                have g3 : v9.cell? ⟨bx, 3, none⟩ = some (.int .i64 n2) := Q9.out.x.cell 3
                have g4 : v9.cell? ⟨bx, 4, none⟩ = some (.int .i64 y2) := Q9.out.x.cell 4
                clear b9 FI
                go_wp2
                exact bodyPost_ret (rb_ret (x := R0) (Q9.out.fin R0).1 rfl rfl) rfl ⟨rfl, (Q9.out.fin R0).2⟩
              · have h6 : decide ((n : Int) < 5) = false := decide_eq_false h5
                go_wp2_with fail
                refine (CL1.out _).mono ?_
                rintro e v9 ⟨rfl, b9⟩
                have Q9 : Hid (QS w v9 bx ⟨k2, c2, i2, n2, y2⟩) := FI.out _ b9
                have z0 : v9.cell? ⟨w.heap.size, 0, none⟩ = some (.int .i64 0) := Q9.out.z.cell 0
                have z1 : v9.cell? ⟨w.heap.size, 1, none⟩ = some (.int .i64 0) := Q9.out.z.cell 1
                have z2 : v9.cell? ⟨w.heap.size, 2, none⟩ = some (.int .i64 0) := Q9.out.z.cell 2
                have z3 : v9.cell? ⟨w.heap.size, 3, none⟩ = some (.int .i64 0) := Q9.out.z.cell 3
                have z4 : v9.cell? ⟨w.heap.size, 4, none⟩ = some (.int .i64 0) := Q9.out.z.cell 4
                have f0 : v9.frozen? ⟨w.heap.size, 0, none⟩ = false := Q9.out.z.free 0
                have f1 : v9.frozen? ⟨w.heap.size, 1, none⟩ = false := Q9.out.z.free 1
                have f2 : v9.frozen? ⟨w.heap.size, 2, none⟩ = false := Q9.out.z.free 2
                have f3 : v9.frozen? ⟨w.heap.size, 3, none⟩ = false := Q9.out.z.free 3
                have f4 : v9.frozen? ⟨w.heap.size, 4, none⟩ = false := Q9.out.z.free 4
                have g0 : v9.cell? ⟨bx, 0, none⟩ = some (.int .i64 k2) := Q9.out.x.cell 0
                have g1 : v9.cell? ⟨bx, 1, none⟩ = some (.int .i64 c2) := Q9.out.x.cell 1
                have g2 : v9.cell? ⟨bx, 2, none⟩ = some (.int .i64 i2) := Q9.out.x.cell 2
                have g3 : v9.cell? ⟨bx, 3, none⟩ = some (.int .i64 n2) := Q9.out.x.cell 3
                have g4 : v9.cell? ⟨bx, 4, none⟩ = some (.int .i64 y2) := Q9.out.x.cell 4
                clear b9 FI
                go_wp2
                exact bodyPost_ret (rb_ret (x := R0) (Q9.out.fin R0).1 rfl rfl) rfl ⟨rfl, (Q9.out.fin R0).2⟩
end Go.Proofs.YtnmbacegcbjfaaaDoor
