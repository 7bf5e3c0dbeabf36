/- The texts Em Ea Eb of one layer, laid together. -/
import Derived.Test.YtfipiifickdeiaaGreatDoorRows
import Derived.Test.YtfipiifickdeiaaGreatDoorXp
import Derived.WalkKit
import Derived.ProofKit
import Derived.OpenShut
import Derived.BigQuiet
import Derived.Laws.Externs
namespace Go.Proofs.YtfipiifickdeiaaGreatDoor.Em
open Spl
open Pm
/-- How many readers each of 1 to 64 cores has: 1000 at most. -/
structure Rd (L : List Int) : Prop where
  n1 : 1 ≤ L.length
  n2 : L.length ≤ 64
  nn : ∀ x ∈ L, 0 ≤ x
  le : L.sum ≤ 1000
theorem sum_nn : ∀ {L : List Int}, (∀ x ∈ L, 0 ≤ x) → 0 ≤ L.sum
  | [], _ => by simp
  | a :: t, h => by
    have i := sum_nn (L := t) fun x hx => h x (by simp [hx])
    have j := h a (by simp)
    rw [List.sum_cons]
    omega
theorem mem_le : ∀ {L : List Int}, (∀ x ∈ L, 0 ≤ x) → ∀ x ∈ L, x ≤ L.sum
  | [], _, x, h => by simp at h
  | a :: t, h, x, hx => by
    have i := sum_nn (L := t) fun x hx => h x (by simp [hx])
    have j := h a (by simp)
    rw [List.sum_cons]
    rcases List.mem_cons.1 hx with e | e
    · omega
    · have := mem_le (L := t) (fun x hx => h x (by simp [hx])) x e
      omega
theorem Rd.pt {L : List Int} (h : Rd L) : Pt L := ⟨h.n1, h.n2, fun x hx => by have := h.nn x hx; have := mem_le h.nn x hx; have := h.le; unfold I64; omega⟩
theorem Rd.sum {L : List Int} (h : Rd L) : 0 ≤ L.sum ∧ L.sum ≤ 1000 := ⟨sum_nn h.nn, h.le⟩
theorem getD_mem (L : List Int) (i : Nat) (h : i < L.length) : L.getD i 0 ∈ L := by
  rw [List.getD_eq_getElem?_getD, List.getElem?_eq_getElem h]
  exact List.getElem_mem h
theorem Rd.at {L : List Int} (h : Rd L) (i : Nat) (hi : i < L.length) : 0 ≤ L.getD i 0 ∧ L.getD i 0 ≤ L.sum ∧ L.getD i 0 ≤ 1000 := by
  have a := getD_mem L i hi
  have b := mem_le h.nn _ a
  exact ⟨h.nn _ a, b, by have := h.le; omega⟩
theorem Rd.fit {L : List Int} (h : Rd L) : fe L.sum = 0 ∧ fv L.sum = L.sum := fe_ok (by have := h.sum; unfold I64; omega)
theorem sum_rep : ∀ m : Nat, (List.replicate m (0 : Int)).sum = 0
  | 0 => by simp
  | m + 1 => by rw [List.replicate_succ, List.sum_cons, sum_rep m]; omega
theorem rd_new (m : Nat) (h1 : 1 ≤ m) (h2 : m ≤ 64) : Rd (List.replicate m 0) :=
  ⟨by simpa using h1, by simpa using h2, fun x hx => by rw [List.eq_of_mem_replicate hx]; omega, by rw [sum_rep]; omega⟩
def enE (st : Int) (L : List Int) (c : Int) : Int := if ic L c = true then if st = 0 then if 1000 ≤ L.sum then 5 else 0 else 7 else 3
def enL (st : Int) (L : List Int) (c : Int) : List Int := if enE st L c = 0 then L.set c.toNat (at' L c + 1) else L
def leE (L : List Int) (c : Int) : Int := if ic L c = true then if at' L c = 0 then 12 else 0 else 3
def leL (L : List Int) (c : Int) : List Int := if leE L c = 0 then L.set c.toNat (at' L c - 1) else L
def waE (st : Int) : Int := if st = 0 then 0 else 7
def waS (st : Int) : Int := if st = 0 then 1 else st
def tkE (st : Int) (L : List Int) : Int := if st = 1 then if 0 < L.sum then 7 else 0 else 6
def tkS (st : Int) (L : List Int) : Int := if tkE st L = 0 then 2 else st
end Go.Proofs.YtfipiifickdeiaaGreatDoor.Em
namespace Go.Proofs.YtfipiifickdeiaaGreatDoor.Gat
open Spl
open Go.ChangeShapes Go.WideShapes Go.ChangeAt Go.RowKit
open Pm Em
/-- The gate at block b, its list at block g. -/
structure GT (w : World) (b g : Nat) (st : Int) (L : List Int) : Prop where
  sb : Blk w b [.int .i64 st, .slice (some ⟨g, 0, none⟩) L.length L.length] 166
  sg : Blk w g (L.map (Value.int .i64)) 2
  rd : Rd L
section
variable {w w1 : World} {b g : Nat} {st : Int} {L : List Int}
theorem GT.c0 (h : GT w b g st L) : w.cell? ⟨b, 0, none⟩ = some (.int .i64 st) := h.sb.cell 0
theorem GT.c1 (h : GT w b g st L) : w.cell? ⟨b, 1, none⟩ = some (.slice (some ⟨g, 0, none⟩) L.length L.length) := h.sb.cell 1
theorem GT.f0 (h : GT w b g st L) : w.frozen? ⟨b, 0, none⟩ = false := h.sb.free 0
theorem GT.ne (h : GT w b g st L) : b ≠ g := h.sb.ne h.sg (by decide)
theorem GT.heap (h : GT w b g st L) (e : w1.heap = w.heap) : GT w1 b g st L := ⟨h.sb.heap e, h.sg.heap e, h.rd⟩
theorem GT.keep {B : Nat} {S : List Nat} (h : GT w b g st L) (k : Fr B S w w1) (hb : b < B ∧ g < B) (hs : b ∉ S ∧ g ∉ S) : GT w1 b g st L :=
  ⟨h.sb.keep k hb.1 hs.1, h.sg.keep k hb.2 hs.2, h.rd⟩
theorem GT.at (h : GT w b g st L) (i : Nat) (hi : i < L.length) : w.cell? ⟨g, i, none⟩ = some (.int .i64 (L.getD i 0)) := by
  rw [h.sg.cell i, getD_map_int L i hi]
theorem GT.len (h : GT w b g st L) : (L.length : Int) ≤ 64 := by have := h.rd.n2; omega
/-- Behind a store of what it is. -/
theorem gt_st (h : GT w b g st L) (x : Int) : GT (w.setCell ⟨b, 0, none⟩ (.int .i64 x)) b g x L :=
  ⟨h.sb.set 0 (.int .i64 x), h.sg.other (p := ⟨b, 0, none⟩) (fun e => h.ne e.symm) _, h.rd⟩
end
set_option maxHeartbeats 400000 in
theorem snew_any (m : Nat) (w : World) (h1 : (1 : Int) ≤ m) (h2 : (m : Int) ≤ 64) :
    Calls Tryz.prog 27 #[.int .i64 (m : Int)] w fun e w' => e = .returned (.tuple #[.pointer (some ⟨w.heap.size + 1, 0, none⟩), .int .i64 0]) ∧ Blk w' (w.heap.size + 1) [.slice (some ⟨w.heap.size, 0, none⟩) m m] 164 ∧ Blk w' w.heap.size ((List.replicate m (0 : Int)).map (Value.int .i64)) 2 ∧ w'.heap.size = w.heap.size + 2 ∧ Fr w.heap.size [] w w' := by
  have hmk := run_make_row' (P := Tryz.prog) 162 2 (.int .i64 0) 8 Tryz.underlying162 Tryz.infoL rfl .i64 .i64 m (by omega) (by omega)
  have F : Hid (∀ o1 o2, Fr w.heap.size [] w ((w.alloc o1).alloc o2)) := fun o1 o2 => ((Fr.refl _ _ _).alloc (Nat.le_refl _) o1).alloc (by simp) o2
  go_enter Tryz.func27, Tryz.ntmps27
  go_wp2
  go_ret2
  refine ⟨rfl, ?_, ?_, by simp, F.out _ _⟩
  · have := Blk.new (w.alloc (Obj.cells (madeCells #[Value.int IntKind.i64 0] m) 2)) [.slice (some ⟨w.heap.size, 0, none⟩) m m] 164
    simpa using this
  · rw [made_int]
    exact (Blk.new w _ 2).alloc _
theorem add64_run (x y : Int) (hx : 0 ≤ x) (hy : 0 ≤ y) (w : World) :
    (callFunc 355 #[.int .u64 x, .int .u64 y, .int .u64 0]).run Tryz.prog w = .ok (.value (.tuple #[.int .u64 ((x + y + 0) % 18446744073709551616), .int .u64 ((x + y + 0) / 18446744073709551616)])) w := by
  rw [run_callFunc_extern Tryz.func355 (by kernel_rfl) (by kernel_rfl) (by kernel_rfl) (e := add64Entry) (by kernel_rfl), run_add64 x y 0 hx hy (by omega) (by omega)]
  rfl
theorem signs_any (n : Int) (w : World) (hn : I64 n) : Calls Tryz.prog 356 #[.int .i64 n] w fun e w' => e = .returned (.int .u64 (sg n)) ∧ w' = w := by
  obtain ⟨h1, h2⟩ := hn
  go_enter Tryz.func356, Tryz.ntmps356
  go_wp2
  go_ret
  refine ⟨congrArg (fun z => Ending.returned (.int .u64 z)) (?_ : IntKind.u64.wrap (n / 9223372036854775808) = sg n), rfl⟩
  rw [IntKind.wrap_u64]
  unfold sg
  split <;> omega
theorem lo_ge (S : Int) : 0 ≤ lo S := by unfold lo; omega
set_option maxHeartbeats 2000000 in
theorem ssum_any {b g : Nat} {st : Int} {L : List Int} (w : World) (h : GT w b g st L) :
    Calls Tryz.prog 335 #[.pointer (some ⟨b, 1, none⟩)] w fun e w' => e = .returned (.tuple #[.int .i64 (fv L.sum), .int .i64 (fe L.sum)]) ∧ w' = w := by
  have c0 := h.c1
  have hl := h.len
  have HA : Hid (∀ i, i < L.length → w.cell? ⟨g, i, none⟩ = some (.int .i64 (L.getD i 0))) := fun i hi => h.at i hi
  have HP : Hid (Pt L) := h.rd.pt
  obtain ⟨n, hn⟩ : ∃ n, L.length = n := ⟨_, rfl⟩
  have HN : Hid (L.length = n) := hn
  obtain ⟨r1, hr1⟩ : ∃ r, fv L.sum = r := ⟨_, rfl⟩
  obtain ⟨r2, hr2⟩ : ∃ r, fe L.sum = r := ⟨_, rfl⟩
  have R1 : Hid (fv L.sum = r1) := hr1
  have R2 : Hid (fe L.sum = r2) := hr2
  rw [hn] at c0 hl
  rw [hr1, hr2]
  clear h hn hr1 hr2
  go_enter Tryz.func335, Tryz.ntmps335
  go_wp2
  go_loop [4, 5, 17] (fun h l i => ∃ (k : Nat) (H Q : Int), (k : Int) ≤ n ∧ Hid (hi (L.take k).sum = H ∧ lo (L.take k).sum = Q) ∧ h = .int .u64 H ∧ l = .int .u64 Q ∧ i = .int .i64 k) (fun _ _ i => n - (intOf i).toNat)
  case atStart => exact ⟨0, 0, 0, by omega, ⟨by simp [hi], by simp [lo]⟩, rfl, rfl, rfl⟩
  case round =>
    obtain ⟨k, H, Q, hk, hHQ, rfl, rfl, rfl⟩ := hrel
    by_cases c : (k : Int) < n
    · have hkl : k < L.length := by have := HN.out; omega
      have ck := HA.out k hkl
      have hx : I64 (L.getD k 0) := by
        refine HP.out.rg _ ?_
        rw [List.getD_eq_getElem?_getD, List.getElem?_eq_getElem hkl]
        exact List.getElem_mem hkl
      have SG : Hid (∀ _ : Unit, _) := fun _ => signs_any (L.getD k 0) w hx
      have AD := add64_run Q (lo (L.getD k 0)) (by rw [← hHQ.out.2]; exact lo_ge _) (lo_ge _) w
      have e1 : (Q + lo (L.getD k 0) + 0) % 18446744073709551616 = lo (L.take (k + 1)).sum := by rw [sum_take L k hkl, ← hHQ.out.2]; exact lo_step _ _
      have e2 : (H + (sg (L.getD k 0) + (Q + lo (L.getD k 0) + 0) / 18446744073709551616) % 18446744073709551616) % 18446744073709551616 = hi (L.take (k + 1)).sum := by rw [sum_take L k hkl, ← hHQ.out.2, ← hHQ.out.1]; exact hi_step _ _ hx
      rw [e1] at AD
      have cv : IntKind.u64.wrap (L.getD k 0) = lo (L.getD k 0) := by rw [IntKind.wrap_u64]; rfl
      obtain ⟨C, hC⟩ : ∃ C, (Q + lo (L.getD k 0) + 0) / 18446744073709551616 = C := ⟨_, rfl⟩
      rw [hC] at AD e2
      obtain ⟨z, hz⟩ : ∃ z, IntKind.u64.wrap (sg (L.getD k 0) + C) = z := ⟨_, rfl⟩
      have w2 : IntKind.u64.wrap (H + z) = hi (L.take (k + 1)).sum := by rw [← hz, IntKind.wrap_u64, IntKind.wrap_u64]; exact e2
      obtain ⟨H2, hH2⟩ : ∃ H2, hi (L.take (k + 1)).sum = H2 := ⟨_, rfl⟩
      obtain ⟨Q2, hQ2⟩ : ∃ Q2, lo (L.take (k + 1)).sum = Q2 := ⟨_, rfl⟩
      have NX : Hid (hi (L.take (k + 1)).sum = H2 ∧ lo (L.take (k + 1)).sum = Q2) := ⟨hH2, hQ2⟩
      rw [hQ2] at AD
      rw [hH2] at w2
      clear hHQ hx e1 e2 hC hH2 hQ2 hkl
      generalize lo (L.getD k 0) = y at *
      generalize sg (L.getD k 0) = q at *
      generalize L.getD k 0 = x at *
      go_wp2_with fail
      refine (SG.out ()).mono ?_
      rintro e w' ⟨rfl, rfl⟩
      go_wp2
      go_round
      case rel => exact ⟨k + 1, H2, Q2, by omega, NX, rfl, rfl, by go_num⟩
      case measure => simp [intOf]; omega
    · have ek : L.take k = L := List.take_of_length_le (by have := HN.out; omega)
      rw [ek] at hHQ
      have bd := sum_le HP.out L.length (Nat.le_refl _)
      rw [List.take_length] at bd
      have hl3 : (L.length : Int) ≤ 64 := by have := HP.out.n2; omega
      obtain ⟨x, hx⟩ : ∃ x, (lo L.sum + 9223372036854775808) % 18446744073709551616 - 9223372036854775808 = x := ⟨_, rfl⟩
      have cx : wrap64 Q = x := by rw [← hHQ.out.2, ← hx, wrap64]
      have ix : I64 x := by rw [← hx]; unfold I64; omega
      have SG : Hid (∀ _ : Unit, _) := fun _ => signs_any x w ix
      rcases fits L.sum (by omega) (by omega) x hx.symm with ⟨f1, f2, f3⟩ | ⟨f1, f3⟩
      · have a1 : r1 = x := by rw [← R1.out, (fe_ok f1).2, f2]
        have a2 : r2 = 0 := by rw [← R2.out, (fe_ok f1).1]
        subst a1
        subst a2
        rw [hHQ.out.1] at f3
        clear hHQ bd hl3 hx ix f1 f2 ek R1 R2
        generalize sg r1 = q at *
        go_wp2_with fail
        refine (SG.out ()).mono ?_
        rintro e w' ⟨rfl, rfl⟩
        go_wp2
        go_ret2
        exact ⟨rfl, rfl⟩
      · have a1 : r1 = 0 := by rw [← R1.out, (fe_no f1).2]
        have a2 : r2 = 16 := by rw [← R2.out, (fe_no f1).1]
        subst a1
        subst a2
        rw [hHQ.out.1] at f3
        clear hHQ bd hl3 hx ix f1 ek R1 R2
        generalize sg x = q at *
        go_wp2_with fail
        refine (SG.out ()).mono ?_
        rintro e w' ⟨rfl, rfl⟩
        go_wp2
        go_ret2
        exact ⟨rfl, rfl⟩
end Go.Proofs.YtfipiifickdeiaaGreatDoor.Gat
namespace Go.Proofs.YtfipiifickdeiaaGreatDoor.Gat
open Spl
open Go.ChangeShapes Go.WideShapes Go.ChangeAt Go.RowKit
open Pm Em
set_option maxHeartbeats 400000 in
theorem gnew_any (m : Nat) (w : World) (h1 : (1 : Int) ≤ m) (h2 : (m : Int) ≤ 64) :
    Calls Tryz.prog 28 #[.int .i64 (m : Int)] w fun e w' => e = .returned (.tuple #[.pointer (some ⟨w.heap.size + 2, 0, none⟩), .int .i64 0]) ∧ GT w' (w.heap.size + 2) w.heap.size 0 (List.replicate m 0) ∧ w'.heap.size = w.heap.size + 3 ∧ Fr w.heap.size [] w w' := by
  have C : Hid (∀ _ : Unit, _) := fun _ => snew_any m w h1 h2
  have G : Hid (Rd (List.replicate m 0)) := rd_new m (by omega) (by omega)
  have LM : Hid ((List.replicate m (0 : Int)).length = m) := List.length_replicate
  obtain ⟨s, hs⟩ : ∃ s, w.heap.size = s := ⟨_, rfl⟩
  have HS : Hid (w.heap.size = s) := hs
  rw [hs] at C ⊢
  clear h1 h2 hs
  go_enter Tryz.func28, Tryz.ntmps28
  go_wp2_with fail
  refine (C.out ()).mono ?_
  rintro e w' ⟨rfl, b1, b2, sz, f⟩
  have c1 : w'.cell? ⟨s + 1, 0, none⟩ = some (.slice (some ⟨s, 0, none⟩) m m) := b1.cell 0
  have B2 : Hid (Blk w' s _ _) := b2
  have SZ : Hid (w'.heap.size = s + 2) := sz
  have F : Hid (Fr s [] w w') := f
  clear b1 b2 f sz C
  go_wp2
  go_ret2
  have sz := SZ.out
  refine ⟨by rw [sz]; rfl, ⟨?_, ?_, G.out⟩, by simp [sz], F.out.alloc (by omega) _⟩
  · rw [LM.out, ← sz]
    exact Blk.new w' [.int .i64 0, .slice (some ⟨s, 0, none⟩) m m] _
  · exact B2.out.alloc _
theorem greaders_any {b g : Nat} {st : Int} {L : List Int} (w : World) (h : GT w b g st L) :
    Calls Tryz.prog 294 #[.pointer (some ⟨b, 0, none⟩)] w fun e w' => e = .returned (.int .i64 L.sum) ∧ w' = w := by
  have C : Hid (∀ _ : Unit, _) := fun _ => ssum_any w h
  rw [h.rd.fit.1, h.rd.fit.2] at C
  clear h
  generalize L.sum = x at *
  go_enter Tryz.func294, Tryz.ntmps294
  go_wp2_with fail
  refine (C.out ()).mono ?_
  rintro e w' ⟨rfl, rfl⟩
  go_wp2
  go_ret
  exact ⟨rfl, rfl⟩
set_option maxHeartbeats 400000 in
theorem gtake_any {b g : Nat} {st : Int} {L : List Int} (w : World) (h : GT w b g st L) :
    Calls Tryz.prog 232 #[.pointer (some ⟨b, 0, none⟩)] w fun e w' => e = .returned (.int .i64 (tkE st L)) ∧ GT w' b g (tkS st L) L ∧ Fr w.heap.size [b] w w' := by
  have c0 := h.c0
  have f0 := h.f0
  have HS : Hid (GT w b g st L) := h
  have ST : Hid (GT (w.setCell ⟨b, 0, none⟩ (.int .i64 2)) b g 2 L) := gt_st h 2
  have C : Hid (∀ _ : Unit, _) := fun _ => greaders_any w h
  clear h
  by_cases s : st = 1
  · subst s
    by_cases q : 0 < L.sum
    · rw [show tkE 1 L = 7 by simp [tkE, q], show tkS 1 L = 1 by simp [tkS, tkE, q]]
      generalize L.sum = x at *
      go_enter Tryz.func232, Tryz.ntmps232
      go_wp2_with fail
      refine (C.out ()).mono ?_
      rintro e w' ⟨rfl, rfl⟩
      go_wp2
      go_ret
      exact ⟨rfl, HS.out, Fr.refl _ _ _⟩
    · rw [show tkE 1 L = 0 by simp [tkE, q], show tkS 1 L = 2 by simp [tkS, tkE, q]]
      generalize L.sum = x at *
      go_enter Tryz.func232, Tryz.ntmps232
      go_wp2_with fail
      refine (C.out ()).mono ?_
      rintro e w' ⟨rfl, rfl⟩
      go_wp2
      go_ret
      exact ⟨rfl, ST.out, (Fr.refl _ _ _).setCell (Or.inr (by simp)) _⟩
  · rw [show tkE st L = 6 from if_neg s, show tkS st L = st by simp [tkS, tkE, s]]
    have s2 : (st != 1) = true := by simpa using s
    clear s
    go_enter Tryz.func232, Tryz.ntmps232
    go_wp2
    go_ret
    exact ⟨rfl, HS.out, Fr.refl _ _ _⟩
end Go.Proofs.YtfipiifickdeiaaGreatDoor.Gat
