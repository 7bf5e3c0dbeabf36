/- Events as lines: the document's Parse. -/
import Derived.Test.YtcifjdnmnmmhoaaDoorRows
import Derived.Test.YtcifjdnmnmmhoaaDoorWd18
import Derived.WalkKit
import Derived.ProofKit
import Derived.OpenShut
import Derived.BigQuiet
import Derived.WalkSmall
import Derived.WalkSpells
namespace Go.Proofs.YtcifjdnmnmmhoaaDoor
open Go.ChangeShapes Go.WideShapes Go.ChangeAt Go.RowKit
open Wd Mm
set_option linter.unusedVariables false
set_option linter.unusedSimpArgs false
set_option maxRecDepth 100000

/-- What is there while a line is read. -/
structure PS (w u wr : World) (b : Nat) (x : V) : Prop where
  z : Blk wr w.heap.size (V.vals V.z) 24
  x : Blk wr b (V.vals x) 24
  be : Below w.heap.size w wr
  bu : Below u.heap.size u wr
  hb : w.heap.size < b
  hu : u.heap.size ≤ b
theorem PS.set {w u wr v : World} {b : Nat} {x : V} (h : PS w u wr b x) (f : Below wr.heap.size wr v) (i : Nat) (a : Value) (y : V) (hy : (V.vals x).set i a = V.vals y) : PS w u (v.setCell ⟨b, i, none⟩ a) b y := by
  have ff := Fr.of_below f
  have hb := h.hb
  have hu := h.hu
  have hz := h.z.keep ff h.z.lt (by simp)
  have hx := (h.x.keep ff h.x.lt (by simp)).set i a
  rw [hy] at hx
  exact ⟨hz.other (p := ⟨b, i, none⟩) (by show w.heap.size ≠ b; omega) a, hx, (h.be.trans (f.mono h.be.size)).setCell (p := ⟨b, i, none⟩) (by show w.heap.size ≤ b; omega) a, (h.bu.trans (f.mono h.bu.size)).setCell (p := ⟨b, i, none⟩) (by show u.heap.size ≤ b; omega) a, hb, hu⟩
theorem PS.up {w u wr v : World} {b : Nat} {x : V} (h : PS w u wr b x) (f : Below wr.heap.size wr v) : PS w u v b x :=
  ⟨h.z.keep (Fr.of_below f) h.z.lt (by simp), h.x.keep (Fr.of_below f) h.x.lt (by simp), h.be.trans (f.mono h.be.size), h.bu.trans (f.mono h.bu.size), h.hb, h.hu⟩

theorem rp_ret {w : World} {z : Nat} {x : V} {y : Int} {tmps : Array Value} (h : Blk w z (V.vals x) 24) (h1 : tmps.getD 2 undef = .pointer (some ⟨z, 0, none⟩)) (h2 : tmps.getD 3 undef = .int .i64 y) :
    (results Tryd.f13 tmps).run Tryd.prog w = .ok (.tuple #[.agg (V.vals x).toArray, .int .i64 y]) w := by
  have h1' : tmps[2]?.getD undef = .pointer (some ⟨z, 0, none⟩) := by simpa using h1
  have h2' : tmps[3]?.getD undef = .int .i64 y := by simpa using h2
  have L1 := run_loadVar_row (P := Tryd.prog) w z 24 24 (V.vals x).toArray (0, 0) _ h Tryd.underlying24 rfl (by rw [size_ev]; rfl)
  simp [results, Tryd.results13, h1', h2', asAddr, L1, Result.andThen, Sem.run_bind]

/-- The end of a line that is none's. -/
theorem PS.zero {w u wr : World} {b : Nat} {x : V} (h : PS w u wr b x) : Blk (((((wr.setCell ⟨w.heap.size, 0, none⟩ (.int .i64 0)).setCell ⟨w.heap.size, 1, none⟩ (.int .i64 0)).setCell ⟨w.heap.size, 2, none⟩ (.int .i64 0)).setCell ⟨w.heap.size, 3, none⟩ (.int .u64 0)).setCell ⟨w.heap.size, 4, none⟩ (.int .i64 0)) w.heap.size (V.vals V.z) 24 ∧ Below w.heap.size w (((((wr.setCell ⟨w.heap.size, 0, none⟩ (.int .i64 0)).setCell ⟨w.heap.size, 1, none⟩ (.int .i64 0)).setCell ⟨w.heap.size, 2, none⟩ (.int .i64 0)).setCell ⟨w.heap.size, 3, none⟩ (.int .u64 0)).setCell ⟨w.heap.size, 4, none⟩ (.int .i64 0)) :=
  ⟨five h.z rfl _ _ _ _ _, (fr5 ((Fr.of_below h.be).mono (S' := [w.heap.size]) (Nat.le_refl _) (fun _ _ _ => by simp)) (by simp) _ _ _ _ _).below (by simp)⟩

set_option maxHeartbeats 16000000 in
theorem rparse_any (l : List UInt8) (hll : l.length ≤ 20000) (w : World) :
    Calls Tryd.prog 13 #[.string (sb l)] w fun r w' => r = .returned (parR l) ∧ Below w.heap.size w w' := by
  have CS : Hid (∀ w, _) := fun w => rsplit_any 32 l hll w
  have CN : Hid (∀ x ∈ parts 32 l, x.length ≤ 300 → ∀ w, _) := fun x _ hx w => number_any x hx w
  have CM : Hid (∀ x ∈ parts 32 l, x.length ≤ 300 → ∀ w, _) := fun x _ hx w => rmask_any x hx w
  have CK : Hid (∀ s w, _) := fun s w => rKind_any s w
  have CL : Hid (∀ k w, _) := fun k w => rkind_any k w
  have KZ : Blk (w.alloc (.cells (V.vals V.z).toArray 24)) w.heap.size (V.vals V.z) 24 := Blk.new w _ _
  have BZ : Below w.heap.size w (w.alloc (.cells (V.vals V.z).toArray 24)) := (Below.refl _ _).alloc (Nat.le_refl _) _
  by_cases hl : 300 < l.length
  · have PR : parR l = .tuple #[.agg (V.vals V.z).toArray, .int .i64 15] := if_pos hl
    rw [PR]
    have hl2 : (300 : Int) < (l.length : Int) := by omega
    have H1 : Hid _ := KZ
    have H2 : Hid _ := BZ
    clear PR hl KZ BZ CS CN CM CK CL
    rw [zz_vals] at *
    go_enter Tryd.func13, Tryd.ntmps13
    go_wp2
    exact bodyPost_ret (rp_ret (x := V.z) H1.out rfl rfl) rfl ⟨rfl, H2.out⟩
  · have hl2 : ¬ (300 : Int) < (l.length : Int) := by omega
    have hl3 : decide ((300 : Int) < (l.length : Int)) = false := decide_eq_false hl2
    obtain ⟨R, hR⟩ : ∃ R, parR l = R := ⟨_, rfl⟩
    have PS0 : Hid ((∀ e, evW (parts 32 l) = some e → R = .tuple #[.agg (V.vals e).toArray, .int .i64 0]) ∧ (evW (parts 32 l) = none → R = .tuple #[.agg (V.vals V.z).toArray, .int .i64 13])) := by
      show _ ∧ _
      rw [← hR, ← evOf_w]
      unfold parR
      rw [if_neg hl]
      exact ⟨fun e h => by rw [h], fun h => by rw [h]⟩
    rw [hR]
    have hW : Hid (∀ x ∈ parts 32 l, x.length ≤ 300) := fun x hx => by have := parts_le 32 l x hx; omega
    have hP : (parts 32 l).length ≤ 301 := by
      rw [parts_length]
      have := List.count_le_length (a := (32 : UInt8)) (l := l)
      omega
    obtain ⟨hd, rest, hps⟩ : ∃ h t, parts 32 l = h :: t := by
      cases hp : parts 32 l with
      | nil => exact absurd hp (parts_ne _ _)
      | cons h t => exact ⟨h, t, rfl⟩
    rw [hps] at CS CN CM PS0 hW hP
    have pos : (0 : Int) < ((hd :: rest).length : Nat) := by rw [List.length_cons]; omega
    obtain ⟨N, hN⟩ : ∃ N, (hd :: rest).length = N := ⟨_, rfl⟩
    have HN : Hid (rest.length + 1 = N) := by show _ = _; rw [← hN, List.length_cons]
    have HC : Hid (∀ (u wr : World) a cap, ORow str u (.slice a N cap) (hd :: rest) → Below u.heap.size u wr → ∃ b off, a = some ⟨b, off, none⟩ ∧ ∀ i (hi : i < (hd :: rest).length), wr.cell? ⟨b, off + i, none⟩ = some (.string (sb (hd :: rest)[i]))) := fun u wr a cap hr bu => by
      obtain ⟨b, off, he, _⟩ := orow_cell (hr.below bu) (List.getElem?_eq_getElem (l := hd :: rest) (i := 0) (by simp))
      refine ⟨b, off, he, fun i hi => ?_⟩
      obtain ⟨b2, off2, he2, _, hc⟩ := orow_cell (hr.below bu) (List.getElem?_eq_getElem hi)
      rw [he] at he2
      simp only [Option.some.injEq, Addr.mk.injEq] at he2
      obtain ⟨rfl, rfl, _⟩ := he2
      exact hc
    have HKZ : Hid (Blk (w.alloc (.cells (V.vals V.z).toArray 24)) w.heap.size (V.vals V.z) 24) := KZ
    have HBZ : Hid _ := BZ
    have hNb : (N : Int) ≤ 301 := by omega
    rw [hN] at pos
    clear hps hR KZ BZ hP hl hll
    rw [zz_vals] at HBZ
    go_enter Tryd.func13, Tryd.ntmps13
    go_wp2_with fail
    refine (CS.out _).mono ?_
    rintro e u ⟨v, rfl, O⟩
    obtain ⟨a, cap, rfl⟩ := O.shape
    have HZ1 : Hid (Blk u w.heap.size (V.vals V.z) 24) := Blk.keep HKZ.out (Fr.of_below O.bel) (Blk.lt HKZ.out) (by simp)
    have HB1 : Hid (Below w.heap.size w u) := HBZ.out.trans (O.bel.mono HBZ.out.size)
    have HRow : Hid (ORow str u (.slice a N cap) (hd :: rest)) := by rw [← hN]; exact O.row
    obtain ⟨b, off, rfl, hcs⟩ := HC.out u u a cap HRow.out (Below.refl _ _)
    have c00 : u.cell? ⟨b, off, none⟩ = some (.string (sb hd)) := hcs 0 (by simp)
    have HC2 : Hid (∀ (wr : World), Below u.heap.size u wr → ∀ i (hi : i < (hd :: rest).length), wr.cell? ⟨b, off + i, none⟩ = some (.string (sb (hd :: rest)[i]))) := fun wr bu i hi => by
      obtain ⟨b2, off2, he, hc⟩ := HC.out u wr _ cap HRow.out bu
      simp only [Option.some.injEq, Addr.mk.injEq] at he
      obtain ⟨rfl, rfl, _⟩ := he
      exact hc i hi
    rw [hN]
    clear O hcs HC HKZ HBZ CS hN
    go_wp2_with fail
    refine (CK.out hd _).mono ?_
    rintro e u2 ⟨rfl, b2⟩
    have HPS : Hid (PS w u (u2.alloc (.cells (V.vals ⟨(kOf hd : Nat), 0, 0, 0, 0⟩).toArray 24)) u2.heap.size ⟨(kOf hd : Nat), 0, 0, 0, 0⟩) := by
      have z1 := HZ1.out.keep (Fr.of_below b2) HZ1.out.lt (by simp)
      exact ⟨z1.alloc _, Blk.new u2 _ _, (HB1.out.trans (b2.mono HB1.out.size)).alloc (Nat.le_trans HB1.out.size b2.size) _, b2.alloc b2.size _, Nat.lt_of_lt_of_le HZ1.out.lt b2.size, b2.size⟩
    rw [z_vals] at HPS
    have LI : Hid (ltI ((kOf hd : Nat) : Int) = ltk (kOf hd) ∧ kOf hd < 31) := by
      show _ ∧ _
      have h31 : kOf hd < 31 := by
        by_cases h : kOf hd = 0
        · omega
        · exact (kOf_some h).1
      exact ⟨if_pos (by omega), h31⟩
    have CL1 : Hid (∀ w, _) := fun w => CL.out ((kOf hd : Nat) : Int) w
    rw [LI.out.1] at CL1
    have EV : Hid (evW (hd :: rest) = if kOf hd = 0 then none else if rest.length = (ltk (kOf hd)).length then sets ⟨(kOf hd : Nat), 0, 0, 0, 0⟩ (ltk (kOf hd)) rest else none) := rfl
    have HLt : Hid (Lt (ltk (kOf hd))) := lt_all _
    generalize ltk (kOf hd) = L at *
    have hk31 := LI.out.2
    generalize kOf hd = n at *
    generalize nmI ((n : Nat) : Int) = nm at *
    clear c00 b2 CL HZ1 HB1 LI CK
    go_wp2_with fail
    refine (CL1.out _).mono ?_
    rintro e u3 ⟨rfl, b3⟩
    have S3 : Hid (PS w u u3 u2.heap.size ⟨(n : Int), 0, 0, 0, 0⟩) := HPS.out.up b3
    clear CL1 HPS b3
    generalize u2.heap.size = bx at *
    have m0 : u3.cell? ⟨bx, 0, none⟩ = some (.int .i64 (n : Int)) := S3.out.x.cell 0
    have z0 : u3.cell? ⟨w.heap.size, 0, none⟩ = some (.int .i64 0) := S3.out.z.cell 0
    have z1 : u3.cell? ⟨w.heap.size, 1, none⟩ = some (.int .i64 0) := S3.out.z.cell 1
    have z2 : u3.cell? ⟨w.heap.size, 2, none⟩ = some (.int .i64 0) := S3.out.z.cell 2
    have z3 : u3.cell? ⟨w.heap.size, 3, none⟩ = some (.int .u64 0) := S3.out.z.cell 3
    have z4 : u3.cell? ⟨w.heap.size, 4, none⟩ = some (.int .i64 0) := S3.out.z.cell 4
    have f0 : u3.frozen? ⟨w.heap.size, 0, none⟩ = false := S3.out.z.free 0
    have f1 : u3.frozen? ⟨w.heap.size, 1, none⟩ = false := S3.out.z.free 1
    have f2 : u3.frozen? ⟨w.heap.size, 2, none⟩ = false := S3.out.z.free 2
    have f3 : u3.frozen? ⟨w.heap.size, 3, none⟩ = false := S3.out.z.free 3
    have f4 : u3.frozen? ⟨w.heap.size, 4, none⟩ = false := S3.out.z.free 4
    have lb : (L.length : Int) ≤ 2 := by have := (lt_is HLt.out).2.1; omega
    by_cases hk : n = 0
    · have q : ((n : Int) == 0) = true := by rw [beq_iff_eq]; omega
      have e1 := EV.out
      rw [if_pos hk] at e1
      obtain rfl := PS0.out.2 e1
      clear e1 EV PS0 hk HC2 CN CM
      go_wp2
      exact bodyPost_ret (rp_ret (x := V.z) S3.out.zero.1 rfl rfl) rfl ⟨rfl, S3.out.zero.2⟩
    · have q : ((n : Int) == 0) = false := by rw [beq_eq_false_iff_ne]; omega
      have e1 := EV.out
      rw [if_neg hk] at e1
      by_cases hq : rest.length = L.length
      · rw [if_pos hq] at e1
        have q2 : ((N : Int) != (L.length : Int) + 1) = false := by unfold bne; rw [show ((N : Int) == (L.length : Int) + 1) = true by rw [beq_iff_eq]; have := HN.out; omega]; rfl
        have q3 : (N : Int) = (L.length : Int) + 1 := by have := HN.out; omega
        have q4 : ((N : Int) == (L.length : Int) + 1) = true := by rw [beq_iff_eq]; exact q3
        have HQ : Hid (rest.length = L.length) := hq
        have HE : Hid (evW (hd :: rest) = sets ⟨(n : Nat), 0, 0, 0, 0⟩ L rest) := e1
        generalize evW (hd :: rest) = O at *
        obtain ⟨E1, hE1⟩ : ∃ E : V, (⟨(n : Int), 0, 0, 0, 0⟩ : V) = E := ⟨_, rfl⟩
        rw [hE1] at S3 HE
        clear hE1 e1 EV hq hk q3 z0 z1 z2 z3 z4 f0 f1 f2 f3 f4
        go_wp2
        clear m0
        go_loopw [8] (fun i wr => ∃ (k : Nat) (r : V), (k : Int) ≤ L.length ∧ i = .int .i64 k ∧ Hid (O = sets r (L.drop k) (rest.drop k)) ∧ Hid (PS w u wr bx r)) (fun i _ => L.length - (intOf i).toNat)
        case atStart => exact ⟨0, E1, by omega, rfl, HE, S3⟩
        case round =>
          obtain ⟨k, r, hk, rfl, hr, S⟩ := hrel
          have z0 : wr.cell? ⟨w.heap.size, 0, none⟩ = some (.int .i64 0) := S.out.z.cell 0
          by_cases h : (k : Int) < L.length
          · have hkL : k < L.length := by omega
            have hkR : k < rest.length := by rw [HQ.out]; exact hkL
            have hi : ∀ W, _ := fun W => index_run L k hkL W
            have l1 := (lt_is HLt.out).1 _ (List.getElem_mem hkL)
            have HC3 : Hid (∀ v, Below u.heap.size u v → v.cell? ⟨b, off + (k + 1), none⟩ = some (.string (sb rest[k]))) := fun v bv => HC2.out v bv (k + 1) (by rw [List.length_cons]; omega)
            have hc1 := HC3.out wr S.out.bu
            have x1 := hW.out rest[k] (by simp)
            have CN1 : Hid (∀ w, _) := fun w => CN.out rest[k] (by simp) x1 w
            have CM1 : Hid (∀ w, _) := fun w => CM.out rest[k] (by simp) x1 w
            have hbd : (k : Int) + 1 < (N : Int) := by have := HN.out; omega
            have hr2 := hr.out
            rw [List.drop_eq_getElem_cons hkL, List.drop_eq_getElem_cons hkR, sets] at hr2
            generalize rest[k] = x at *
            generalize L[k] = lt at *
            have HS : Hid _ := S.out
            clear hkL hkR x1 hr z0 CN CM HC2
            rcases l1 with rfl | rfl | rfl | rfl
            · rw [show ((99 : UInt8).toNat : Nat) = 99 from rfl] at hi
              rw [show stf r 99 x = (numOf x).map fun n => { r with c := n } from rfl] at hr2
              go_wp2_with fail
              refine (CN1.out _).mono ?_
              rintro e w1 ⟨⟨nn, bb, rfl, hn⟩, hw1⟩
              obtain rfl : w1 = wr := hw1
              have SU := HS.out
              have v1 : w1.cell? ⟨bx, 1, none⟩ = some (.int .i64 r.c) := SU.x.cell 1
              have v2 : w1.frozen? ⟨bx, 1, none⟩ = false := SU.x.free 1
              have S4 : Hid (PS w u (w1.setCell ⟨bx, 1, none⟩ (.int .i64 nn)) bx { r with c := nn }) := SU.set (Below.refl _ _) 1 _ _ rfl
              have z0 : (w1.setCell ⟨bx, 1, none⟩ (.int .i64 nn)).cell? ⟨w.heap.size, 0, none⟩ = some (.int .i64 0) := S4.out.z.cell 0
              have z1 : (w1.setCell ⟨bx, 1, none⟩ (.int .i64 nn)).cell? ⟨w.heap.size, 1, none⟩ = some (.int .i64 0) := S4.out.z.cell 1
              have z2 : (w1.setCell ⟨bx, 1, none⟩ (.int .i64 nn)).cell? ⟨w.heap.size, 2, none⟩ = some (.int .i64 0) := S4.out.z.cell 2
              have z3 : (w1.setCell ⟨bx, 1, none⟩ (.int .i64 nn)).cell? ⟨w.heap.size, 3, none⟩ = some (.int .u64 0) := S4.out.z.cell 3
              have z4 : (w1.setCell ⟨bx, 1, none⟩ (.int .i64 nn)).cell? ⟨w.heap.size, 4, none⟩ = some (.int .i64 0) := S4.out.z.cell 4
              have f0 : (w1.setCell ⟨bx, 1, none⟩ (.int .i64 nn)).frozen? ⟨w.heap.size, 0, none⟩ = false := S4.out.z.free 0
              have f1 : (w1.setCell ⟨bx, 1, none⟩ (.int .i64 nn)).frozen? ⟨w.heap.size, 1, none⟩ = false := S4.out.z.free 1
              have f2 : (w1.setCell ⟨bx, 1, none⟩ (.int .i64 nn)).frozen? ⟨w.heap.size, 2, none⟩ = false := S4.out.z.free 2
              have f3 : (w1.setCell ⟨bx, 1, none⟩ (.int .i64 nn)).frozen? ⟨w.heap.size, 3, none⟩ = false := S4.out.z.free 3
              have f4 : (w1.setCell ⟨bx, 1, none⟩ (.int .i64 nn)).frozen? ⟨w.heap.size, 4, none⟩ = false := S4.out.z.free 4
              clear SU
              obtain ⟨WW, hWW⟩ : ∃ WW, WW = w1.setCell ⟨bx, 1, none⟩ (.int .i64 nn) := ⟨_, rfl⟩
              have HWW : Hid (w1.setCell ⟨bx, 1, none⟩ (.int .i64 nn) = WW) := hWW.symm
              rw [← hWW] at S4
              rcases hn with ⟨hx, rfl⟩ | ⟨hx, rfl⟩
              · rw [hx] at hr2
                have HO : Hid (O = sets { r with c := nn } (L.drop (k + 1)) (rest.drop (k + 1))) := hr2
                clear hx hr2 z0 z1 z2 z3 z4 f0 f1 f2 f3 f4 hWW
                go_wp2
                rw [HWW.out]
                go_roundw
                case rel => exact ⟨k + 1, _, by omega, by go_num, HO, S4⟩
                case measure => simp [intOf]; omega
              · rw [hx] at hr2
                obtain rfl := PS0.out.2 hr2
                rw [hWW] at S4
                clear hx hr2 PS0 HE hWW HWW
                go_wp2
                exact bodyPost_ret (rp_ret (x := V.z) S4.out.zero.1 rfl rfl) rfl ⟨rfl, S4.out.zero.2⟩
            · rw [show ((105 : UInt8).toNat : Nat) = 105 from rfl] at hi
              rw [show stf r 105 x = (numOf x).map fun n => { r with i := n } from rfl] at hr2
              go_wp2_with fail
              refine (CN1.out _).mono ?_
              rintro e w1 ⟨⟨nn, bb, rfl, hn⟩, hw1⟩
              obtain rfl : w1 = wr := hw1
              have SU := HS.out
              have v1 : w1.cell? ⟨bx, 2, none⟩ = some (.int .i64 r.i) := SU.x.cell 2
              have v2 : w1.frozen? ⟨bx, 2, none⟩ = false := SU.x.free 2
              have S4 : Hid (PS w u (w1.setCell ⟨bx, 2, none⟩ (.int .i64 nn)) bx { r with i := nn }) := SU.set (Below.refl _ _) 2 _ _ rfl
              have z0 : (w1.setCell ⟨bx, 2, none⟩ (.int .i64 nn)).cell? ⟨w.heap.size, 0, none⟩ = some (.int .i64 0) := S4.out.z.cell 0
              have z1 : (w1.setCell ⟨bx, 2, none⟩ (.int .i64 nn)).cell? ⟨w.heap.size, 1, none⟩ = some (.int .i64 0) := S4.out.z.cell 1
              have z2 : (w1.setCell ⟨bx, 2, none⟩ (.int .i64 nn)).cell? ⟨w.heap.size, 2, none⟩ = some (.int .i64 0) := S4.out.z.cell 2
              have z3 : (w1.setCell ⟨bx, 2, none⟩ (.int .i64 nn)).cell? ⟨w.heap.size, 3, none⟩ = some (.int .u64 0) := S4.out.z.cell 3
              have z4 : (w1.setCell ⟨bx, 2, none⟩ (.int .i64 nn)).cell? ⟨w.heap.size, 4, none⟩ = some (.int .i64 0) := S4.out.z.cell 4
              have f0 : (w1.setCell ⟨bx, 2, none⟩ (.int .i64 nn)).frozen? ⟨w.heap.size, 0, none⟩ = false := S4.out.z.free 0
              have f1 : (w1.setCell ⟨bx, 2, none⟩ (.int .i64 nn)).frozen? ⟨w.heap.size, 1, none⟩ = false := S4.out.z.free 1
              have f2 : (w1.setCell ⟨bx, 2, none⟩ (.int .i64 nn)).frozen? ⟨w.heap.size, 2, none⟩ = false := S4.out.z.free 2
              have f3 : (w1.setCell ⟨bx, 2, none⟩ (.int .i64 nn)).frozen? ⟨w.heap.size, 3, none⟩ = false := S4.out.z.free 3
              have f4 : (w1.setCell ⟨bx, 2, none⟩ (.int .i64 nn)).frozen? ⟨w.heap.size, 4, none⟩ = false := S4.out.z.free 4
              clear SU
              obtain ⟨WW, hWW⟩ : ∃ WW, WW = w1.setCell ⟨bx, 2, none⟩ (.int .i64 nn) := ⟨_, rfl⟩
              have HWW : Hid (w1.setCell ⟨bx, 2, none⟩ (.int .i64 nn) = WW) := hWW.symm
              rw [← hWW] at S4
              rcases hn with ⟨hx, rfl⟩ | ⟨hx, rfl⟩
              · rw [hx] at hr2
                have HO : Hid (O = sets { r with i := nn } (L.drop (k + 1)) (rest.drop (k + 1))) := hr2
                clear hx hr2 z0 z1 z2 z3 z4 f0 f1 f2 f3 f4 hWW
                go_wp2
                rw [HWW.out]
                go_roundw
                case rel => exact ⟨k + 1, _, by omega, by go_num, HO, S4⟩
                case measure => simp [intOf]; omega
              · rw [hx] at hr2
                obtain rfl := PS0.out.2 hr2
                rw [hWW] at S4
                clear hx hr2 PS0 HE hWW HWW
                go_wp2
                exact bodyPost_ret (rp_ret (x := V.z) S4.out.zero.1 rfl rfl) rfl ⟨rfl, S4.out.zero.2⟩
            · rw [show ((109 : UInt8).toNat : Nat) = 109 from rfl] at hi
              rw [show stf r 109 x = (mskOf x).map fun n => { r with m := n } from rfl] at hr2
              go_wp2_with fail
              refine (CN1.out _).mono ?_
              rintro e w1 ⟨⟨nn, bb, rfl, hn⟩, hw1⟩
              obtain rfl : w1 = wr := hw1
              clear hn
              have hc3 := HC3.out w1 HS.out.bu
              go_wp2_with fail
              refine (CM1.out _).mono ?_
              rintro e w2 ⟨⟨mm, b2, rfl, hm⟩, bw⟩
              have SU := HS.out.up bw
              have v1 : w2.cell? ⟨bx, 3, none⟩ = some (.int .u64 ((r.m : Nat) : Int)) := SU.x.cell 3
              have v2 : w2.frozen? ⟨bx, 3, none⟩ = false := SU.x.free 3
              have S4 : Hid (PS w u (w2.setCell ⟨bx, 3, none⟩ (.int .u64 ((mm : Nat) : Int))) bx { r with m := mm }) := SU.set (Below.refl _ _) 3 _ _ rfl
              have z0 : (w2.setCell ⟨bx, 3, none⟩ (.int .u64 ((mm : Nat) : Int))).cell? ⟨w.heap.size, 0, none⟩ = some (.int .i64 0) := S4.out.z.cell 0
              have z1 : (w2.setCell ⟨bx, 3, none⟩ (.int .u64 ((mm : Nat) : Int))).cell? ⟨w.heap.size, 1, none⟩ = some (.int .i64 0) := S4.out.z.cell 1
              have z2 : (w2.setCell ⟨bx, 3, none⟩ (.int .u64 ((mm : Nat) : Int))).cell? ⟨w.heap.size, 2, none⟩ = some (.int .i64 0) := S4.out.z.cell 2
              have z3 : (w2.setCell ⟨bx, 3, none⟩ (.int .u64 ((mm : Nat) : Int))).cell? ⟨w.heap.size, 3, none⟩ = some (.int .u64 0) := S4.out.z.cell 3
              have z4 : (w2.setCell ⟨bx, 3, none⟩ (.int .u64 ((mm : Nat) : Int))).cell? ⟨w.heap.size, 4, none⟩ = some (.int .i64 0) := S4.out.z.cell 4
              have f0 : (w2.setCell ⟨bx, 3, none⟩ (.int .u64 ((mm : Nat) : Int))).frozen? ⟨w.heap.size, 0, none⟩ = false := S4.out.z.free 0
              have f1 : (w2.setCell ⟨bx, 3, none⟩ (.int .u64 ((mm : Nat) : Int))).frozen? ⟨w.heap.size, 1, none⟩ = false := S4.out.z.free 1
              have f2 : (w2.setCell ⟨bx, 3, none⟩ (.int .u64 ((mm : Nat) : Int))).frozen? ⟨w.heap.size, 2, none⟩ = false := S4.out.z.free 2
              have f3 : (w2.setCell ⟨bx, 3, none⟩ (.int .u64 ((mm : Nat) : Int))).frozen? ⟨w.heap.size, 3, none⟩ = false := S4.out.z.free 3
              have f4 : (w2.setCell ⟨bx, 3, none⟩ (.int .u64 ((mm : Nat) : Int))).frozen? ⟨w.heap.size, 4, none⟩ = false := S4.out.z.free 4
              clear SU
              obtain ⟨WW, hWW⟩ : ∃ WW, WW = w2.setCell ⟨bx, 3, none⟩ (.int .u64 ((mm : Nat) : Int)) := ⟨_, rfl⟩
              have HWW : Hid (w2.setCell ⟨bx, 3, none⟩ (.int .u64 ((mm : Nat) : Int)) = WW) := hWW.symm
              rw [← hWW] at S4
              rcases hm with ⟨hx, rfl⟩ | ⟨hx, rfl⟩
              · rw [hx] at hr2
                have HO : Hid (O = sets { r with m := mm } (L.drop (k + 1)) (rest.drop (k + 1))) := hr2
                clear hx hr2 z0 z1 z2 z3 z4 f0 f1 f2 f3 f4 hWW
                go_wp2
                rw [HWW.out]
                go_roundw
                case rel => exact ⟨k + 1, _, by omega, by go_num, HO, S4⟩
                case measure => simp [intOf]; omega
              · rw [hx] at hr2
                obtain rfl := PS0.out.2 hr2
                rw [hWW] at S4
                clear hx hr2 PS0 HE hWW HWW
                go_wp2
                exact bodyPost_ret (rp_ret (x := V.z) S4.out.zero.1 rfl rfl) rfl ⟨rfl, S4.out.zero.2⟩
            · rw [show ((110 : UInt8).toNat : Nat) = 110 from rfl] at hi
              rw [show stf r 110 x = (numOf x).map fun n => { r with n := n } from rfl] at hr2
              go_wp2_with fail
              refine (CN1.out _).mono ?_
              rintro e w1 ⟨⟨nn, bb, rfl, hn⟩, hw1⟩
              obtain rfl : w1 = wr := hw1
              have SU := HS.out
              have v1 : w1.cell? ⟨bx, 4, none⟩ = some (.int .i64 r.n) := SU.x.cell 4
              have v2 : w1.frozen? ⟨bx, 4, none⟩ = false := SU.x.free 4
              have S4 : Hid (PS w u (w1.setCell ⟨bx, 4, none⟩ (.int .i64 nn)) bx { r with n := nn }) := SU.set (Below.refl _ _) 4 _ _ rfl
              have z0 : (w1.setCell ⟨bx, 4, none⟩ (.int .i64 nn)).cell? ⟨w.heap.size, 0, none⟩ = some (.int .i64 0) := S4.out.z.cell 0
              have z1 : (w1.setCell ⟨bx, 4, none⟩ (.int .i64 nn)).cell? ⟨w.heap.size, 1, none⟩ = some (.int .i64 0) := S4.out.z.cell 1
              have z2 : (w1.setCell ⟨bx, 4, none⟩ (.int .i64 nn)).cell? ⟨w.heap.size, 2, none⟩ = some (.int .i64 0) := S4.out.z.cell 2
              have z3 : (w1.setCell ⟨bx, 4, none⟩ (.int .i64 nn)).cell? ⟨w.heap.size, 3, none⟩ = some (.int .u64 0) := S4.out.z.cell 3
              have z4 : (w1.setCell ⟨bx, 4, none⟩ (.int .i64 nn)).cell? ⟨w.heap.size, 4, none⟩ = some (.int .i64 0) := S4.out.z.cell 4
              have f0 : (w1.setCell ⟨bx, 4, none⟩ (.int .i64 nn)).frozen? ⟨w.heap.size, 0, none⟩ = false := S4.out.z.free 0
              have f1 : (w1.setCell ⟨bx, 4, none⟩ (.int .i64 nn)).frozen? ⟨w.heap.size, 1, none⟩ = false := S4.out.z.free 1
              have f2 : (w1.setCell ⟨bx, 4, none⟩ (.int .i64 nn)).frozen? ⟨w.heap.size, 2, none⟩ = false := S4.out.z.free 2
              have f3 : (w1.setCell ⟨bx, 4, none⟩ (.int .i64 nn)).frozen? ⟨w.heap.size, 3, none⟩ = false := S4.out.z.free 3
              have f4 : (w1.setCell ⟨bx, 4, none⟩ (.int .i64 nn)).frozen? ⟨w.heap.size, 4, none⟩ = false := S4.out.z.free 4
              clear SU
              obtain ⟨WW, hWW⟩ : ∃ WW, WW = w1.setCell ⟨bx, 4, none⟩ (.int .i64 nn) := ⟨_, rfl⟩
              have HWW : Hid (w1.setCell ⟨bx, 4, none⟩ (.int .i64 nn) = WW) := hWW.symm
              rw [← hWW] at S4
              rcases hn with ⟨hx, rfl⟩ | ⟨hx, rfl⟩
              · rw [hx] at hr2
                have HO : Hid (O = sets { r with n := nn } (L.drop (k + 1)) (rest.drop (k + 1))) := hr2
                clear hx hr2 z0 z1 z2 z3 z4 f0 f1 f2 f3 f4 hWW
                go_wp2
                rw [HWW.out]
                go_roundw
                case rel => exact ⟨k + 1, _, by omega, by go_num, HO, S4⟩
                case measure => simp [intOf]; omega
              · rw [hx] at hr2
                obtain rfl := PS0.out.2 hr2
                rw [hWW] at S4
                clear hx hr2 PS0 HE hWW HWW
                go_wp2
                exact bodyPost_ret (rp_ret (x := V.z) S4.out.zero.1 rfl rfl) rfl ⟨rfl, S4.out.zero.2⟩
          · obtain rfl : k = L.length := by omega
            have hr2 := hr.out
            rw [List.drop_length, sets] at hr2
            obtain rfl := PS0.out.1 r hr2
            have x0 : wr.cell? ⟨bx, 0, none⟩ = some (.int .i64 r.k) := S.out.x.cell 0
            have x1 : wr.cell? ⟨bx, 1, none⟩ = some (.int .i64 r.c) := S.out.x.cell 1
            have x2 : wr.cell? ⟨bx, 2, none⟩ = some (.int .i64 r.i) := S.out.x.cell 2
            have x3 : wr.cell? ⟨bx, 3, none⟩ = some (.int .u64 ((r.m : Nat) : Int)) := S.out.x.cell 3
            have x4 : wr.cell? ⟨bx, 4, none⟩ = some (.int .i64 r.n) := S.out.x.cell 4
            have z1 : wr.cell? ⟨w.heap.size, 1, none⟩ = some (.int .i64 0) := S.out.z.cell 1
            have z2 : wr.cell? ⟨w.heap.size, 2, none⟩ = some (.int .i64 0) := S.out.z.cell 2
            have z3 : wr.cell? ⟨w.heap.size, 3, none⟩ = some (.int .u64 0) := S.out.z.cell 3
            have z4 : wr.cell? ⟨w.heap.size, 4, none⟩ = some (.int .i64 0) := S.out.z.cell 4
            have f0 : wr.frozen? ⟨w.heap.size, 0, none⟩ = false := S.out.z.free 0
            have f1 : wr.frozen? ⟨w.heap.size, 1, none⟩ = false := S.out.z.free 1
            have f2 : wr.frozen? ⟨w.heap.size, 2, none⟩ = false := S.out.z.free 2
            have f3 : wr.frozen? ⟨w.heap.size, 3, none⟩ = false := S.out.z.free 3
            have f4 : wr.frozen? ⟨w.heap.size, 4, none⟩ = false := S.out.z.free 4
            have FB : Hid (Blk (((((wr.setCell ⟨w.heap.size, 0, none⟩ (.int .i64 r.k)).setCell ⟨w.heap.size, 1, none⟩ (.int .i64 r.c)).setCell ⟨w.heap.size, 2, none⟩ (.int .i64 r.i)).setCell ⟨w.heap.size, 3, none⟩ (.int .u64 ((r.m : Nat) : Int))).setCell ⟨w.heap.size, 4, none⟩ (.int .i64 r.n)) w.heap.size (V.vals r) 24) := five S.out.z rfl _ _ _ _ _
            have FR : Hid (Below w.heap.size w (((((wr.setCell ⟨w.heap.size, 0, none⟩ (.int .i64 r.k)).setCell ⟨w.heap.size, 1, none⟩ (.int .i64 r.c)).setCell ⟨w.heap.size, 2, none⟩ (.int .i64 r.i)).setCell ⟨w.heap.size, 3, none⟩ (.int .u64 ((r.m : Nat) : Int))).setCell ⟨w.heap.size, 4, none⟩ (.int .i64 r.n))) :=
              (fr5 ((Fr.of_below S.out.be).mono (S' := [w.heap.size]) (Nat.le_refl _) (fun _ _ _ => by simp)) (by simp) _ _ _ _ _).below (by simp)
            clear hr hr2 S PS0 HE HC2 CN CM
            go_wp2
            exact bodyPost_ret (rp_ret (x := r) FB.out rfl rfl) rfl ⟨rfl, FR.out⟩
      · rw [if_neg hq] at e1
        obtain rfl := PS0.out.2 e1
        have q2 : ((N : Int) != (L.length : Int) + 1) = true := by unfold bne; rw [show ((N : Int) == (L.length : Int) + 1) = false by rw [beq_eq_false_iff_ne]; have := HN.out; omega]; rfl
        have q3 : ¬ (N : Int) = (L.length : Int) + 1 := by have := HN.out; omega
        have q4 : ((N : Int) == (L.length : Int) + 1) = false := by rw [beq_eq_false_iff_ne]; exact q3
        clear e1 EV PS0 hk HC2 CN CM hq q3
        go_wp2
        exact bodyPost_ret (rp_ret (x := V.z) S3.out.zero.1 rfl rfl) rfl ⟨rfl, S3.out.zero.2⟩
end Go.Proofs.YtcifjdnmnmmhoaaDoor
