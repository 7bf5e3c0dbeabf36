/- A gate as it lies in memory, its readers' number in parts inside it; what gate's New, on, Enter, Leave, Want, Take, Free, State, Readers and On, and split's and num's calls beneath them, answer and leave, for every one. -/
import Derived.Test.YtbmdfoohabipjaaRows
import Derived.Test.YtbmdfoohabipjaaFg
import Derived.Test.YtbmdfoohabipjaaEm
import Derived.Test.YtbmdfoohabipjaaPj
import Derived.WalkKit
import Derived.ProofKit
import Derived.OpenShut
import Derived.BigQuiet
import Derived.Laws.Externs
namespace Go.Proofs.Ytbmdfoohabipjaa
open Go.ChangeShapes Go.WideShapes Go.ChangeAt Go.RowKit
open Pm Em

/-- The gate at block b, its list at block g. -/
structure GT (w : World) (b g : Nat) (st : Int) (L : List Int) : Prop where
  sb : Blk w b [.int .i64 st, .slice (some ⟨g, 0, none⟩) L.length L.length] 71
  sg : Blk w g (L.map (Value.int .i64)) 2
  rd : Rd L

section
variable {w w1 : World} {b g : Nat} {st : Int} {L : List Int}
theorem GT.c0 (h : GT w b g st L) : w.cell? ⟨b, 0, none⟩ = some (.int .i64 st) := h.sb.cell 0
theorem GT.c1 (h : GT w b g st L) : w.cell? ⟨b, 1, none⟩ = some (.slice (some ⟨g, 0, none⟩) L.length L.length) := h.sb.cell 1
theorem GT.f0 (h : GT w b g st L) : w.frozen? ⟨b, 0, none⟩ = false := h.sb.free 0
theorem GT.ne (h : GT w b g st L) : b ≠ g := h.sb.ne h.sg (by decide)
theorem GT.heap (h : GT w b g st L) (e : w1.heap = w.heap) : GT w1 b g st L := ⟨h.sb.heap e, h.sg.heap e, h.rd⟩
theorem GT.keep {B : Nat} {S : List Nat} (h : GT w b g st L) (k : Fr B S w w1) (hb : b < B ∧ g < B) (hs : b ∉ S ∧ g ∉ S) : GT w1 b g st L :=
  ⟨h.sb.keep k hb.1 hs.1, h.sg.keep k hb.2 hs.2, h.rd⟩
theorem GT.at (h : GT w b g st L) (i : Nat) (hi : i < L.length) : w.cell? ⟨g, i, none⟩ = some (.int .i64 (L.getD i 0)) := by
  rw [h.sg.cell i, getD_map_int L i hi]
theorem GT.len (h : GT w b g st L) : (L.length : Int) ≤ 64 := by have := h.rd.n2; omega
/-- Behind a store into a part. -/
theorem gt_set (h : GT w b g st L) (i : Nat) (x : Int) (hr : Rd (L.set i x)) : GT (w.setCell ⟨g, i, none⟩ (.int .i64 x)) b g st (L.set i x) := by
  refine ⟨?_, ?_, hr⟩
  · have := h.sb.other (p := ⟨g, i, none⟩) h.ne (.int .i64 x)
    simpa using this
  · have := h.sg.set i (.int .i64 x)
    rwa [← List.map_set] at this
/-- Behind a store of what it is. -/
theorem gt_st (h : GT w b g st L) (x : Int) : GT (w.setCell ⟨b, 0, none⟩ (.int .i64 x)) b g x L :=
  ⟨h.sb.set 0 (.int .i64 x), h.sg.other (p := ⟨b, 0, none⟩) (fun e => h.ne e.symm) _, h.rd⟩
end

set_option maxHeartbeats 400000 in
theorem snew_any (m : Nat) (w : World) (h1 : (1 : Int) ≤ m) (h2 : (m : Int) ≤ 64) :
    Calls Try.prog 40 #[.int .i64 (m : Int)] w fun e w' => e = .returned (.tuple #[.pointer (some ⟨w.heap.size + 1, 0, none⟩), .int .i64 0]) ∧ Blk w' (w.heap.size + 1) [.slice (some ⟨w.heap.size, 0, none⟩) m m] 69 ∧ Blk w' w.heap.size ((List.replicate m (0 : Int)).map (Value.int .i64)) 2 ∧ w'.heap.size = w.heap.size + 2 ∧ Fr w.heap.size [] w w' := by
  have hmk := run_make_row' (P := Try.prog) 67 2 (.int .i64 0) 8 Try.underlying67 Try.infoL rfl .i64 .i64 m (by omega) (by omega)
  have F : Hid (∀ o1 o2, Fr w.heap.size [] w ((w.alloc o1).alloc o2)) := fun o1 o2 => ((Fr.refl _ _ _).alloc (Nat.le_refl _) o1).alloc (by simp) o2
  go_enter Try.func40, Try.ntmps40
  go_wp2
  go_ret2
  refine ⟨rfl, ?_, ?_, by simp, F.out _ _⟩
  · have := Blk.new (w.alloc (Obj.cells (madeCells #[Value.int IntKind.i64 0] m) 2)) [.slice (some ⟨w.heap.size, 0, none⟩) m m] 69
    simpa using this
  · rw [made_int]
    exact (Blk.new w _ 2).alloc _
theorem snew_bad (m : Int) (w : World) (h : m < 1 ∨ 64 < m) :
    Calls Try.prog 40 #[.int .i64 m] w fun e w' => e = .returned (.tuple #[.pointer none, .int .i64 2]) ∧ w' = w := by
  rcases h with h | h
  · go_enter Try.func40, Try.ntmps40
    go_wp2
    go_ret2
    exact ⟨rfl, rfl⟩
  · have h2 : (1 : Int) ≤ m := by omega
    go_enter Try.func40, Try.ntmps40
    go_wp2
    go_ret2
    exact ⟨rfl, rfl⟩

theorem isCore_any {b g : Nat} {st : Int} {L : List Int} (c : Int) (w : World) (h : GT w b g st L) :
    Calls Try.prog 58 #[.pointer (some ⟨b, 1, none⟩), .int .i64 c] w fun e w' => e = .returned (.bool (ic L c)) ∧ w' = w := by
  have c0 := h.c1
  by_cases q : 0 ≤ c
  · by_cases q2 : c < (L.length : Int)
    · rw [show ic L c = true from decide_eq_true ⟨q, q2⟩]
      clear h
      generalize L.length = l at *
      go_enter Try.func58, Try.ntmps58
      go_wp2
      go_ret
      exact ⟨rfl, rfl⟩
    · rw [show ic L c = false from decide_eq_false (by omega)]
      clear h
      generalize L.length = l at *
      go_enter Try.func58, Try.ntmps58
      go_wp2
      go_ret
      exact ⟨rfl, rfl⟩
  · rw [show ic L c = false from decide_eq_false (by omega)]
    clear h
    generalize L.length = l at *
    go_enter Try.func58, Try.ntmps58
    go_wp2
    go_ret
    exact ⟨rfl, rfl⟩

theorem ret_two {a b c d : Int} (h : a = b) (g : c = d) : Ending.returned (.tuple #[.int .i64 a, .int .i64 c]) = .returned (.tuple #[.int .i64 b, .int .i64 d]) := by rw [h, g]

set_option maxHeartbeats 400000 in
theorem nadd_any (a b : Int) (w : World) (ha : I64 a) (hb : I64 b) :
    Calls Try.prog 59 #[.int .i64 a, .int .i64 b] w fun e w' => e = .returned (.tuple #[.int .i64 (fv (a + b)), .int .i64 (fe (a + b))]) ∧ w' = w := by
  obtain ⟨ha1, ha2⟩ := ha
  obtain ⟨hb1, hb2⟩ := hb
  go_enter Try.func59, Try.ntmps59
  go_wp2
  all_goals
    go_ret2
    refine ⟨ret_two ?_ ?_, rfl⟩ <;> (simp only [fv, fe, wrap64] at *; split <;> omega)

set_option maxHeartbeats 400000 in
theorem sget_any {b g : Nat} {st : Int} {L : List Int} (c : Int) (w : World) (h : GT w b g st L) :
    Calls Try.prog 57 #[.pointer (some ⟨b, 1, none⟩), .int .i64 c] w fun e w' => e = .returned (.tuple #[.int .i64 (gtN L c), .int .i64 (gtE L c)]) ∧ w' = w := by
  have c0 := h.c1
  have hl := h.len
  have C : Hid (∀ _ : Unit, _) := fun _ => isCore_any c w h
  cases i : ic L c with
  | true =>
    rw [i] at C
    rw [show gtN L c = at' L c from if_pos i, show gtE L c = 0 from if_pos i]
    obtain ⟨k, rfl⟩ := Int.eq_ofNat_of_zero_le (ic_lt i).1
    have hk : (k : Int) < L.length := (ic_lt i).2.1
    have ck := h.at k (by omega)
    rw [show at' L (k : Int) = L.getD k 0 by unfold at'; rw [Int.toNat_natCast]]
    clear h i
    generalize L.getD k 0 = x at *
    generalize L.length = l at *
    go_enter Try.func57, Try.ntmps57
    go_wp2_with fail
    refine (C.out ()).mono ?_
    rintro e w' ⟨rfl, rfl⟩
    go_wp2
    go_ret2
    exact ⟨rfl, rfl⟩
  | false =>
    rw [i] at C
    rw [show gtN L c = 0 from if_neg (by rw [i]; simp), show gtE L c = 3 from if_neg (by rw [i]; simp)]
    clear h i
    generalize L.length = l at *
    go_enter Try.func57, Try.ntmps57
    go_wp2_with fail
    refine (C.out ()).mono ?_
    rintro e w' ⟨rfl, rfl⟩
    go_wp2
    go_ret2
    exact ⟨rfl, rfl⟩

set_option maxHeartbeats 1000000 in
/-- A part that stays within 0 to 1000 in all. -/
theorem sadd_any {b g k : Nat} {st : Int} {L : List Int} (n : Int) (w : World) (h : GT w b g st L) (hk : (k : Int) < L.length) (hn : I64 n) (hr : Rd (L.set k (L.getD k 0 + n))) :
    Calls Try.prog 48 #[.pointer (some ⟨b, 1, none⟩), .int .i64 (k : Int), .int .i64 n] w fun e w' => e = .returned (.int .i64 0) ∧ GT w' b g st (L.set k (L.getD k 0 + n)) ∧ Fr w.heap.size [g] w w' := by
  have c0 := h.c1
  have hl := h.len
  have i : ic L k = true := decide_eq_true ⟨by omega, hk⟩
  have C : Hid (∀ _ : Unit, _) := fun _ => isCore_any k w h
  rw [i] at C
  have a0 := h.rd.at k (by omega)
  have a1 := hr.at k (by simpa using (by omega : k < L.length))
  have e1 : (L.set k (L.getD k 0 + n)).getD k 0 = L.getD k 0 + n := by
    rw [List.getD_eq_getElem?_getD, List.getElem?_set, if_pos rfl, if_pos (by omega)]
    rfl
  rw [e1] at a1
  have D : Hid (∀ _ : Unit, _) := fun _ => nadd_any (L.getD k 0) n w (by unfold I64; omega) hn
  rw [(fe_ok (n := L.getD k 0 + n) (by unfold I64; omega)).1, (fe_ok (n := L.getD k 0 + n) (by unfold I64; omega)).2] at D
  have ck := h.at k (by omega)
  have fk : w.frozen? ⟨g, k, none⟩ = false := h.sg.free k
  have ST : Hid (GT (w.setCell ⟨g, k, none⟩ (.int .i64 (L.getD k 0 + n))) b g st (L.set k (L.getD k 0 + n))) := gt_set h k _ hr
  clear h i hr hn a0 a1 e1
  obtain ⟨s, hs⟩ : ∃ s, L.getD k 0 + n = s := ⟨_, rfl⟩
  rw [hs] at D ST ⊢
  clear hs
  generalize L.getD k 0 = x at *
  generalize L.length = l at *
  go_enter Try.func48, Try.ntmps48
  go_wp2_with fail
  refine (C.out ()).mono ?_
  rintro e w' ⟨rfl, rfl⟩
  go_wp2_with fail
  refine (D.out ()).mono ?_
  rintro e w' ⟨rfl, rfl⟩
  go_wp2
  go_ret
  exact ⟨rfl, ST.out, (Fr.refl _ _ _).setCell (Or.inr (by simp)) _⟩

theorem add64_run (x y : Int) (hx : 0 ≤ x) (hy : 0 ≤ y) (w : World) :
    (callFunc 55 #[.int .u64 x, .int .u64 y, .int .u64 0]).run Try.prog w = .ok (.value (.tuple #[.int .u64 ((x + y + 0) % 18446744073709551616), .int .u64 ((x + y + 0) / 18446744073709551616)])) w := by
  rw [run_callFunc_extern Try.func55 (by kernel_rfl) (by kernel_rfl) (by kernel_rfl) (e := add64Entry) (by kernel_rfl), run_add64 x y 0 hx hy (by omega) (by omega)]
  rfl

theorem signs_any (n : Int) (w : World) (hn : I64 n) : Calls Try.prog 56 #[.int .i64 n] w fun e w' => e = .returned (.int .u64 (sg n)) ∧ w' = w := by
  obtain ⟨h1, h2⟩ := hn
  go_enter Try.func56, Try.ntmps56
  go_wp2
  go_ret
  refine ⟨congrArg (fun z => Ending.returned (.int .u64 z)) (?_ : IntKind.u64.wrap (n / 9223372036854775808) = sg n), rfl⟩
  rw [IntKind.wrap_u64]
  unfold sg
  split <;> omega

theorem lo_ge (S : Int) : 0 ≤ lo S := by unfold lo; omega

set_option maxHeartbeats 2000000 in
theorem ssum_any {b g : Nat} {st : Int} {L : List Int} (w : World) (h : GT w b g st L) :
    Calls Try.prog 46 #[.pointer (some ⟨b, 1, none⟩)] w fun e w' => e = .returned (.tuple #[.int .i64 (fv L.sum), .int .i64 (fe L.sum)]) ∧ w' = w := by
  have c0 := h.c1
  have hl := h.len
  have HA : Hid (∀ i, i < L.length → w.cell? ⟨g, i, none⟩ = some (.int .i64 (L.getD i 0))) := fun i hi => h.at i hi
  have HP : Hid (Pt L) := h.rd.pt
  obtain ⟨n, hn⟩ : ∃ n, L.length = n := ⟨_, rfl⟩
  have HN : Hid (L.length = n) := hn
  obtain ⟨r1, hr1⟩ : ∃ r, fv L.sum = r := ⟨_, rfl⟩
  obtain ⟨r2, hr2⟩ : ∃ r, fe L.sum = r := ⟨_, rfl⟩
  have R1 : Hid (fv L.sum = r1) := hr1
  have R2 : Hid (fe L.sum = r2) := hr2
  rw [hn] at c0 hl
  rw [hr1, hr2]
  clear h hn hr1 hr2
  go_enter Try.func46, Try.ntmps46
  go_wp2
  go_loop [4, 5, 17] (fun h l i => ∃ (k : Nat) (H Q : Int), (k : Int) ≤ n ∧ Hid (hi (L.take k).sum = H ∧ lo (L.take k).sum = Q) ∧ h = .int .u64 H ∧ l = .int .u64 Q ∧ i = .int .i64 k) (fun _ _ i => n - (intOf i).toNat)
  case atStart => exact ⟨0, 0, 0, by omega, ⟨by simp [hi], by simp [lo]⟩, rfl, rfl, rfl⟩
  case round =>
    obtain ⟨k, H, Q, hk, hHQ, rfl, rfl, rfl⟩ := hrel
    by_cases c : (k : Int) < n
    · have hkl : k < L.length := by have := HN.out; omega
      have ck := HA.out k hkl
      have hx : I64 (L.getD k 0) := by
        refine HP.out.rg _ ?_
        rw [List.getD_eq_getElem?_getD, List.getElem?_eq_getElem hkl]
        exact List.getElem_mem hkl
      have SG : Hid (∀ _ : Unit, _) := fun _ => signs_any (L.getD k 0) w hx
      have AD := add64_run Q (lo (L.getD k 0)) (by rw [← hHQ.out.2]; exact lo_ge _) (lo_ge _) w
      have e1 : (Q + lo (L.getD k 0) + 0) % 18446744073709551616 = lo (L.take (k + 1)).sum := by rw [sum_take L k hkl, ← hHQ.out.2]; exact lo_step _ _
      have e2 : (H + (sg (L.getD k 0) + (Q + lo (L.getD k 0) + 0) / 18446744073709551616) % 18446744073709551616) % 18446744073709551616 = hi (L.take (k + 1)).sum := by rw [sum_take L k hkl, ← hHQ.out.2, ← hHQ.out.1]; exact hi_step _ _ hx
      rw [e1] at AD
      have cv : IntKind.u64.wrap (L.getD k 0) = lo (L.getD k 0) := by rw [IntKind.wrap_u64]; rfl
      obtain ⟨C, hC⟩ : ∃ C, (Q + lo (L.getD k 0) + 0) / 18446744073709551616 = C := ⟨_, rfl⟩
      rw [hC] at AD e2
      obtain ⟨z, hz⟩ : ∃ z, IntKind.u64.wrap (sg (L.getD k 0) + C) = z := ⟨_, rfl⟩
      have w2 : IntKind.u64.wrap (H + z) = hi (L.take (k + 1)).sum := by rw [← hz, IntKind.wrap_u64, IntKind.wrap_u64]; exact e2
      obtain ⟨H2, hH2⟩ : ∃ H2, hi (L.take (k + 1)).sum = H2 := ⟨_, rfl⟩
      obtain ⟨Q2, hQ2⟩ : ∃ Q2, lo (L.take (k + 1)).sum = Q2 := ⟨_, rfl⟩
      have NX : Hid (hi (L.take (k + 1)).sum = H2 ∧ lo (L.take (k + 1)).sum = Q2) := ⟨hH2, hQ2⟩
      rw [hQ2] at AD
      rw [hH2] at w2
      clear hHQ hx e1 e2 hC hH2 hQ2 hkl
      generalize lo (L.getD k 0) = y at *
      generalize sg (L.getD k 0) = q at *
      generalize L.getD k 0 = x at *
      go_wp2_with fail
      refine (SG.out ()).mono ?_
      rintro e w' ⟨rfl, rfl⟩
      go_wp2
      go_round
      case rel => exact ⟨k + 1, H2, Q2, by omega, NX, rfl, rfl, by go_num⟩
      case measure => simp [intOf]; omega
    · have ek : L.take k = L := List.take_of_length_le (by have := HN.out; omega)
      rw [ek] at hHQ
      have bd := sum_le HP.out L.length (Nat.le_refl _)
      rw [List.take_length] at bd
      have hl3 : (L.length : Int) ≤ 64 := by have := HP.out.n2; omega
      obtain ⟨x, hx⟩ : ∃ x, (lo L.sum + 9223372036854775808) % 18446744073709551616 - 9223372036854775808 = x := ⟨_, rfl⟩
      have cx : wrap64 Q = x := by rw [← hHQ.out.2, ← hx, wrap64]
      have ix : I64 x := by rw [← hx]; unfold I64; omega
      have SG : Hid (∀ _ : Unit, _) := fun _ => signs_any x w ix
      rcases fits L.sum (by omega) (by omega) x hx.symm with ⟨f1, f2, f3⟩ | ⟨f1, f3⟩
      · have a1 : r1 = x := by rw [← R1.out, (fe_ok f1).2, f2]
        have a2 : r2 = 0 := by rw [← R2.out, (fe_ok f1).1]
        subst a1
        subst a2
        rw [hHQ.out.1] at f3
        clear hHQ bd hl3 hx ix f1 f2 ek R1 R2
        generalize sg r1 = q at *
        go_wp2_with fail
        refine (SG.out ()).mono ?_
        rintro e w' ⟨rfl, rfl⟩
        go_wp2
        go_ret2
        exact ⟨rfl, rfl⟩
      · have a1 : r1 = 0 := by rw [← R1.out, (fe_no f1).2]
        have a2 : r2 = 16 := by rw [← R2.out, (fe_no f1).1]
        subst a1
        subst a2
        rw [hHQ.out.1] at f3
        clear hHQ bd hl3 hx ix f1 ek R1 R2
        generalize sg x = q at *
        go_wp2_with fail
        refine (SG.out ()).mono ?_
        rintro e w' ⟨rfl, rfl⟩
        go_wp2
        go_ret2
        exact ⟨rfl, rfl⟩

end Go.Proofs.Ytbmdfoohabipjaa
