/- The document's gate as it lies in memory (davitref19); what its New, Readers, Enter, Leave, Want, Take and Free answer and leave, for every one. -/
import Derived.Test.YtbmdfoohabipjaaRows
import Derived.Test.YtbmdfoohabipjaaFg
import Derived.Test.YtbmdfoohabipjaaEm
import Derived.Test.YtbmdfoohabipjaaPj
import Derived.WalkKit
import Derived.ProofKit
import Derived.OpenShut
import Derived.BigQuiet
namespace Go.Proofs.Ytbmdfoohabipjaa
open Go.ChangeShapes Go.WideShapes Go.ChangeAt Go.RowKit
open Pm Em

/-- The document's gate at block r, its list at block h. -/
structure RG (w : World) (r h : Nat) (st : Int) (L : List Int) : Prop where
  sb : Blk w r [.slice (some ⟨h, 0, none⟩) L.length L.length, .int .i64 st] 37
  sg : Blk w h (L.map (Value.int .i64)) 3
  rd : Rd L

section
variable {w w1 : World} {r g : Nat} {st : Int} {L : List Int}
theorem RG.c0 (h : RG w r g st L) : w.cell? ⟨r, 0, none⟩ = some (.slice (some ⟨g, 0, none⟩) L.length L.length) := h.sb.cell 0
theorem RG.c1 (h : RG w r g st L) : w.cell? ⟨r, 1, none⟩ = some (.int .i64 st) := h.sb.cell 1
theorem RG.f1 (h : RG w r g st L) : w.frozen? ⟨r, 1, none⟩ = false := h.sb.free 1
theorem RG.ne (h : RG w r g st L) : r ≠ g := h.sb.ne h.sg (by decide)
theorem RG.heap (h : RG w r g st L) (e : w1.heap = w.heap) : RG w1 r g st L := ⟨h.sb.heap e, h.sg.heap e, h.rd⟩
theorem RG.keep {B : Nat} {S : List Nat} (h : RG w r g st L) (k : Fr B S w w1) (hb : r < B ∧ g < B) (hs : r ∉ S ∧ g ∉ S) : RG w1 r g st L :=
  ⟨h.sb.keep k hb.1 hs.1, h.sg.keep k hb.2 hs.2, h.rd⟩
theorem RG.at (h : RG w r g st L) (i : Nat) (hi : i < L.length) : w.cell? ⟨g, i, none⟩ = some (.int .i64 (L.getD i 0)) := by
  rw [h.sg.cell i, getD_map_int L i hi]
theorem RG.len (h : RG w r g st L) : (L.length : Int) ≤ 64 := by have := h.rd.n2; omega
theorem rg_set (h : RG w r g st L) (i : Nat) (x : Int) (hr : Rd (L.set i x)) : RG (w.setCell ⟨g, i, none⟩ (.int .i64 x)) r g st (L.set i x) := by
  refine ⟨?_, ?_, hr⟩
  · have := h.sb.other (p := ⟨g, i, none⟩) h.ne (.int .i64 x)
    simpa using this
  · have := h.sg.set i (.int .i64 x)
    rwa [← List.map_set] at this
theorem rg_st (h : RG w r g st L) (x : Int) : RG (w.setCell ⟨r, 1, none⟩ (.int .i64 x)) r g x L :=
  ⟨h.sb.set 1 (.int .i64 x), h.sg.other (p := ⟨r, 1, none⟩) (fun e => h.ne e.symm) _, h.rd⟩
end

theorem gi3 : (Try.prog.info? 3).map (fun i => (i.zero, i.size, i.bytes)) = some (some (.int .i64 0), 1, 8) := by kernel_rfl
set_option maxHeartbeats 400000 in
theorem rgnew_any (m : Nat) (w : World) (h1 : (1 : Int) ≤ m) (h2 : (m : Int) ≤ 64) :
    Calls Try.prog 10 #[.int .i64 (m : Int)] w fun e w' => e = .returned (.tuple #[.pointer (some ⟨w.heap.size + 1, 0, none⟩), .int .i64 0]) ∧ RG w' (w.heap.size + 1) w.heap.size 0 (List.replicate m 0) ∧ Fr w.heap.size [] w w' := by
  have hmk := run_make_row' (P := Try.prog) 35 3 (.int .i64 0) 8 Try.underlying35 gi3 rfl .i64 .i64 m (by omega) (by omega)
  have F : Hid (∀ o1 o2, Fr w.heap.size [] w ((w.alloc o1).alloc o2)) := fun o1 o2 => ((Fr.refl _ _ _).alloc (Nat.le_refl _) o1).alloc (by simp) o2
  have G : Hid (Rd (List.replicate m 0)) := rd_new m (by omega) (by omega)
  go_enter Try.func10, Try.ntmps10
  go_wp2
  go_ret2
  refine ⟨rfl, ⟨?_, ?_, G.out⟩, F.out _ _⟩
  · have := Blk.new (w.alloc (Obj.cells (madeCells #[Value.int IntKind.i64 0] m) 3)) [.slice (some ⟨w.heap.size, 0, none⟩) m m, .int .i64 0] 37
    simpa using this
  · rw [made_int]
    exact (Blk.new w _ 3).alloc _
theorem rgnew_bad (m : Int) (w : World) (h : m < 1 ∨ 64 < m) :
    Calls Try.prog 10 #[.int .i64 m] w fun e w' => e = .returned (.tuple #[.pointer none, .int .i64 2]) ∧ w' = w := by
  rcases h with h | h
  · go_enter Try.func10, Try.ntmps10
    go_wp2
    go_ret2
    exact ⟨rfl, rfl⟩
  · have h2 : (1 : Int) ≤ m := by omega
    go_enter Try.func10, Try.ntmps10
    go_wp2
    go_ret2
    exact ⟨rfl, rfl⟩

theorem take_nn {L : List Int} (h : Rd L) (k : Nat) (hk : k ≤ L.length) : 0 ≤ (L.take k).sum ∧ (L.take k).sum ≤ 1000 * (k : Int) := by
  induction k with
  | zero => simp
  | succ k ih =>
    have i1 := ih (by omega)
    have i2 := h.at k (by omega)
    rw [sum_take L k (by omega)]
    omega

set_option maxHeartbeats 1000000 in
theorem rgreaders_any {r g : Nat} {st : Int} {L : List Int} (w : World) (h : RG w r g st L) :
    Calls Try.prog 15 #[.pointer (some ⟨r, 0, none⟩)] w fun e w' => e = .returned (.int .i64 L.sum) ∧ w' = w := by
  have c0 := h.c0
  have hl := h.len
  have HA : Hid (∀ i, i < L.length → w.cell? ⟨g, i, none⟩ = some (.int .i64 (L.getD i 0))) := fun i hi => h.at i hi
  have HP : Hid (Rd L) := h.rd
  obtain ⟨n, hn⟩ : ∃ n, L.length = n := ⟨_, rfl⟩
  have HN : Hid (L.length = n) := hn
  obtain ⟨R, hR⟩ : ∃ R, L.sum = R := ⟨_, rfl⟩
  have HR : Hid (L.sum = R) := hR
  rw [hn] at c0 hl
  rw [hR]
  clear h hn hR
  go_enter Try.func15, Try.ntmps15
  go_wp2
  go_loop [3, 4] (fun a i => ∃ (k : Nat) (M : Int), (k : Int) ≤ n ∧ Hid ((L.take k).sum = M) ∧ a = .int .i64 M ∧ i = .int .i64 k) (fun _ i => n - (intOf i).toNat)
  case atStart => exact ⟨0, 0, by omega, by simp [Hid], rfl, rfl⟩
  case round =>
    obtain ⟨k, M, hk, hM, rfl, rfl⟩ := hrel
    by_cases c : (k : Int) < n
    · have hkl : k < L.length := by have := HN.out; omega
      have ck := HA.out k hkl
      have b1 := take_nn HP.out (k + 1) (by omega)
      have e1 := sum_take L k hkl
      rw [hM.out] at e1
      have hl2 : (n : Int) ≤ 64 := hl
      have NX : Hid ((L.take (k + 1)).sum = M + L.getD k 0) := e1
      rw [e1] at b1
      have b2 : 0 ≤ M + L.getD k 0 := b1.1
      have b3 : M + L.getD k 0 ≤ 65000 := by have := b1.2; omega
      clear hM e1 b1 hkl
      generalize L.getD k 0 = x at *
      go_wp2
      go_round
      case rel => exact ⟨k + 1, M + x, by omega, NX, by go_num, by go_num⟩
      case measure => simp [intOf]; omega
    · have ek : L.take k = L := List.take_of_length_le (by have := HN.out; omega)
      have e : M = R := by rw [← hM.out, ek, HR.out]
      subst e
      clear hM ek
      go_wp2
      go_ret
      exact ⟨rfl, rfl⟩

set_option maxHeartbeats 400000 in
theorem rgwant_any {r g : Nat} {st : Int} {L : List Int} (w : World) (h : RG w r g st L) :
    Calls Try.prog 43 #[.pointer (some ⟨r, 0, none⟩)] w fun e w' => e = .returned (.int .i64 (waE st)) ∧ RG w' r g (waS st) L ∧ Fr w.heap.size [r] w w' := by
  have c1 := h.c1
  have f1 := h.f1
  have HS : Hid (RG w r g st L) := h
  have ST : Hid (RG (w.setCell ⟨r, 1, none⟩ (.int .i64 1)) r g 1 L) := rg_st h 1
  clear h
  by_cases s : st = 0
  · rw [show waE st = 0 from if_pos s, show waS st = 1 from if_pos s]
    subst s
    go_enter Try.func43, Try.ntmps43
    go_wp2
    go_ret
    exact ⟨rfl, ST.out, (Fr.refl _ _ _).setCell (Or.inr (by simp)) _⟩
  · rw [show waE st = 7 from if_neg s, show waS st = st from if_neg s]
    have s2 : (st != 0) = true := by simpa using s
    clear s
    go_enter Try.func43, Try.ntmps43
    go_wp2
    go_ret
    exact ⟨rfl, HS.out, Fr.refl _ _ _⟩
set_option maxHeartbeats 400000 in
theorem rgfree_any {r g : Nat} {st : Int} {L : List Int} (w : World) (h : RG w r g st L) :
    Calls Try.prog 45 #[.pointer (some ⟨r, 0, none⟩)] w fun e w' => e = .returned (.int .i64 (frE st)) ∧ RG w' r g 0 L ∧ Fr w.heap.size [r] w w' := by
  have c1 := h.c1
  have f1 := h.f1
  have HS : Hid (RG w r g st L) := h
  have ST : Hid (RG (w.setCell ⟨r, 1, none⟩ (.int .i64 0)) r g 0 L) := rg_st h 0
  clear h
  by_cases s : st = 0
  · rw [show frE st = 6 from if_pos s]
    subst s
    go_enter Try.func45, Try.ntmps45
    go_wp2
    go_ret
    exact ⟨rfl, HS.out, Fr.refl _ _ _⟩
  · rw [show frE st = 0 from if_neg s]
    have s2 : (st == 0) = false := by simpa using s
    clear s
    go_enter Try.func45, Try.ntmps45
    go_wp2
    go_ret
    exact ⟨rfl, ST.out, (Fr.refl _ _ _).setCell (Or.inr (by simp)) _⟩
set_option maxHeartbeats 400000 in
theorem rgtake_any {r g : Nat} {st : Int} {L : List Int} (w : World) (h : RG w r g st L) :
    Calls Try.prog 44 #[.pointer (some ⟨r, 0, none⟩)] w fun e w' => e = .returned (.int .i64 (tkE st L)) ∧ RG w' r g (tkS st L) L ∧ Fr w.heap.size [r] w w' := by
  have c1 := h.c1
  have f1 := h.f1
  have HS : Hid (RG w r g st L) := h
  have ST : Hid (RG (w.setCell ⟨r, 1, none⟩ (.int .i64 2)) r g 2 L) := rg_st h 2
  have C : Hid (∀ _ : Unit, _) := fun _ => rgreaders_any w h
  clear h
  by_cases s : st = 1
  · subst s
    by_cases q : 0 < L.sum
    · rw [show tkE 1 L = 7 by simp [tkE, q], show tkS 1 L = 1 by simp [tkS, tkE, q]]
      generalize L.sum = x at *
      go_enter Try.func44, Try.ntmps44
      go_wp2_with fail
      refine (C.out ()).mono ?_
      rintro e w' ⟨rfl, rfl⟩
      go_wp2
      go_ret
      exact ⟨rfl, HS.out, Fr.refl _ _ _⟩
    · rw [show tkE 1 L = 0 by simp [tkE, q], show tkS 1 L = 2 by simp [tkS, tkE, q]]
      generalize L.sum = x at *
      go_enter Try.func44, Try.ntmps44
      go_wp2_with fail
      refine (C.out ()).mono ?_
      rintro e w' ⟨rfl, rfl⟩
      go_wp2
      go_ret
      exact ⟨rfl, ST.out, (Fr.refl _ _ _).setCell (Or.inr (by simp)) _⟩
  · rw [show tkE st L = 6 from if_neg s, show tkS st L = st by simp [tkS, tkE, s]]
    have s2 : (st != 1) = true := by simpa using s
    clear s
    go_enter Try.func44, Try.ntmps44
    go_wp2
    go_ret
    exact ⟨rfl, HS.out, Fr.refl _ _ _⟩
set_option maxHeartbeats 2000000 in
theorem rgenter_any {r g : Nat} {st : Int} {L : List Int} (c : Int) (w : World) (h : RG w r g st L) :
    Calls Try.prog 41 #[.pointer (some ⟨r, 0, none⟩), .int .i64 c] w fun e w' => e = .returned (.int .i64 (enE st L c)) ∧ RG w' r g st (enL st L c) ∧ Fr w.heap.size [g] w w' := by
  have c0 := h.c0
  have c1 := h.c1
  have hl := h.len
  have HS : Hid (RG w r g st L) := h
  have D : Hid (∀ _ : Unit, _) := fun _ => rgreaders_any w h
  cases i : ic L c with
  | false =>
    rw [show enE st L c = 3 from if_neg (by rw [i]; simp), show enL st L c = L by simp [enL, enE, i]]
    have hc : c < 0 ∨ (L.length : Int) ≤ c := by
      have := of_decide_eq_false i
      omega
    clear h i
    generalize L.length = l at *
    rcases hc with hc | hc
    · go_enter Try.func41, Try.ntmps41
      go_wp2
      go_ret
      exact ⟨rfl, HS.out, Fr.refl _ _ _⟩
    · have hc2 : 0 ≤ c := by omega
      go_enter Try.func41, Try.ntmps41
      go_wp2
      go_ret
      exact ⟨rfl, HS.out, Fr.refl _ _ _⟩
  | true =>
    obtain ⟨hk0, hk, hk2⟩ := ic_lt i
    obtain ⟨k, rfl⟩ := Int.eq_ofNat_of_zero_le hk0
    by_cases s : st = 0
    · subst s
      by_cases q : 1000 ≤ L.sum
      · rw [show enE 0 L k = 5 by simp [enE, i, q], show enL 0 L k = L by simp [enL, enE, i, q]]
        clear h i hk2 hk0
        generalize L.sum = y at *
        generalize L.length = l at *
        go_enter Try.func41, Try.ntmps41
        go_wp2_with fail
        refine (D.out ()).mono ?_
        rintro e w' ⟨rfl, rfl⟩
        go_wp2
        go_ret
        exact ⟨rfl, HS.out, Fr.refl _ _ _⟩
      · have e0 : enE 0 L k = 0 := by simp [enE, i, q]
        have RD := rd_en h.rd k (st := 0)
        rw [show enL 0 L k = L.set (k : Int).toNat (at' L k + 1) from if_pos e0] at RD ⊢
        rw [e0]
        rw [Int.toNat_natCast, show at' L (k : Int) = L.getD k 0 by unfold at'; rw [Int.toNat_natCast]] at RD ⊢
        have ST : Hid (RG (w.setCell ⟨g, k, none⟩ (.int .i64 (L.getD k 0 + 1))) r g 0 (L.set k (L.getD k 0 + 1))) := rg_set h k _ RD
        have ck := h.at k (by omega)
        have fk : w.frozen? ⟨g, k, none⟩ = false := h.sg.free k
        have ca := h.rd.at k (by omega)
        obtain ⟨ca1, ca2, ca3⟩ := ca
        clear h i RD e0 hk2 hk0 ca2
        generalize L.set k (L.getD k 0 + 1) = M at *
        generalize L.getD k 0 = x at *
        generalize L.sum = y at *
        generalize L.length = l at *
        go_enter Try.func41, Try.ntmps41
        go_wp2_with fail
        refine (D.out ()).mono ?_
        rintro e w' ⟨rfl, rfl⟩
        go_wp2_with fail
        go_region
        all_goals (
          go_wp2
          go_ret
          exact ⟨rfl, ST.out.heap rfl, ((Fr.refl _ _ _).drew).setCell (Or.inr (by exact List.mem_singleton.2 rfl)) _⟩)
    · rw [show enE st L k = 7 by simp [enE, i, s], show enL st L k = L by simp [enL, enE, i, s]]
      have s2 : (st != 0) = true := by simpa using s
      clear h i s hk2 hk0
      generalize L.length = l at *
      go_enter Try.func41, Try.ntmps41
      go_wp2
      go_ret
      exact ⟨rfl, HS.out, Fr.refl _ _ _⟩
set_option maxHeartbeats 2000000 in
theorem rgleave_any {r g : Nat} {st : Int} {L : List Int} (c : Int) (w : World) (h : RG w r g st L) :
    Calls Try.prog 42 #[.pointer (some ⟨r, 0, none⟩), .int .i64 c] w fun e w' => e = .returned (.int .i64 (leE L c)) ∧ RG w' r g st (leL L c) ∧ Fr w.heap.size [g] w w' := by
  have c0 := h.c0
  have c1 := h.c1
  have hl := h.len
  have HS : Hid (RG w r g st L) := h
  cases i : ic L c with
  | false =>
    rw [show leE L c = 3 from if_neg (by rw [i]; simp), show leL L c = L by simp [leL, leE, i]]
    have hc : c < 0 ∨ (L.length : Int) ≤ c := by
      have := of_decide_eq_false i
      omega
    clear h i
    generalize L.length = l at *
    rcases hc with hc | hc
    · go_enter Try.func42, Try.ntmps42
      go_wp2
      go_ret
      exact ⟨rfl, HS.out, Fr.refl _ _ _⟩
    · have hc2 : 0 ≤ c := by omega
      go_enter Try.func42, Try.ntmps42
      go_wp2
      go_ret
      exact ⟨rfl, HS.out, Fr.refl _ _ _⟩
  | true =>
    obtain ⟨hk0, hk, hk2⟩ := ic_lt i
    obtain ⟨k, rfl⟩ := Int.eq_ofNat_of_zero_le hk0
    have ea : at' L (k : Int) = L.getD k 0 := by unfold at'; rw [Int.toNat_natCast]
    have ck := h.at k (by omega)
    by_cases q : L.getD k 0 = 0
    · rw [show leE L k = 12 by unfold leE; rw [if_pos i, if_pos (ea.trans q)], show leL L k = L by unfold leL leE; rw [if_pos i, if_pos (ea.trans q)]; rfl]
      rw [q] at ck
      clear h i hk2 hk0 q ea
      generalize L.length = l at *
      go_enter Try.func42, Try.ntmps42
      go_wp2
      go_ret
      exact ⟨rfl, HS.out, Fr.refl _ _ _⟩
    · have e0 : leE L k = 0 := by unfold leE; rw [if_pos i, if_neg (by rw [ea]; exact q)]
      have RD := rd_le h.rd k
      rw [show leL L k = L.set (k : Int).toNat (at' L k - 1) from if_pos e0, Int.toNat_natCast, ea] at RD ⊢
      rw [e0]
      have ST : Hid (RG (w.setCell ⟨g, k, none⟩ (.int .i64 (L.getD k 0 - 1))) r g st (L.set k (L.getD k 0 - 1))) := rg_set h k _ RD
      have fk : w.frozen? ⟨g, k, none⟩ = false := h.sg.free k
      have ca := h.rd.at k (by omega)
      obtain ⟨ca1, ca2, ca3⟩ := ca
      have q2 : (L.getD k 0 == 0) = false := by simpa using q
      clear h i RD e0 hk2 hk0 ca2 q ea
      generalize L.set k (L.getD k 0 - 1) = M at *
      generalize L.getD k 0 = x at *
      generalize L.length = l at *
      go_enter Try.func42, Try.ntmps42
      go_wp2_with fail
      go_region
      all_goals (
        go_wp2
        go_ret
        exact ⟨rfl, ST.out.heap rfl, ((Fr.refl _ _ _).drew).setCell (Or.inr (by exact List.mem_singleton.2 rfl)) _⟩)
end Go.Proofs.Ytbmdfoohabipjaa
