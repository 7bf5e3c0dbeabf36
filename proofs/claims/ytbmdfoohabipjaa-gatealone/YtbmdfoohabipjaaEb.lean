/- What gate's New, on, Enter, Leave, Want, Take, Free, State, Readers and On answer and leave, for every gate. -/
import Derived.Test.YtbmdfoohabipjaaEa
namespace Go.Proofs.Ytbmdfoohabipjaa
open Go.ChangeShapes Go.WideShapes Go.ChangeAt Go.RowKit
open Pm Em

theorem gnew_bad (m : Int) (w : World) (h : m < 1 ∨ 64 < m) :
    Calls Try.prog 9 #[.int .i64 m] w fun e w' => e = .returned (.tuple #[.pointer none, .int .i64 2]) ∧ w' = w := by
  have C : Hid (∀ _ : Unit, _) := fun _ => snew_bad m w h
  clear h
  go_enter Try.func9, Try.ntmps9
  go_wp2_with fail
  refine (C.out ()).mono ?_
  rintro e w' ⟨rfl, rfl⟩
  go_wp2
  go_ret2
  exact ⟨rfl, rfl⟩
set_option maxHeartbeats 400000 in
theorem gnew_any (m : Nat) (w : World) (h1 : (1 : Int) ≤ m) (h2 : (m : Int) ≤ 64) :
    Calls Try.prog 9 #[.int .i64 (m : Int)] w fun e w' => e = .returned (.tuple #[.pointer (some ⟨w.heap.size + 2, 0, none⟩), .int .i64 0]) ∧ GT w' (w.heap.size + 2) w.heap.size 0 (List.replicate m 0) ∧ w'.heap.size = w.heap.size + 3 ∧ Fr w.heap.size [] w w' := by
  have C : Hid (∀ _ : Unit, _) := fun _ => snew_any m w h1 h2
  have G : Hid (Rd (List.replicate m 0)) := rd_new m (by omega) (by omega)
  have LM : Hid ((List.replicate m (0 : Int)).length = m) := List.length_replicate
  obtain ⟨s, hs⟩ : ∃ s, w.heap.size = s := ⟨_, rfl⟩
  have HS : Hid (w.heap.size = s) := hs
  rw [hs] at C ⊢
  clear h1 h2 hs
  go_enter Try.func9, Try.ntmps9
  go_wp2_with fail
  refine (C.out ()).mono ?_
  rintro e w' ⟨rfl, b1, b2, sz, f⟩
  have c1 : w'.cell? ⟨s + 1, 0, none⟩ = some (.slice (some ⟨s, 0, none⟩) m m) := b1.cell 0
  have B2 : Hid (Blk w' s _ _) := b2
  have SZ : Hid (w'.heap.size = s + 2) := sz
  have F : Hid (Fr s [] w w') := f
  clear b1 b2 f sz C
  go_wp2
  go_ret2
  have sz := SZ.out
  refine ⟨by rw [sz]; rfl, ⟨?_, ?_, G.out⟩, by simp [sz], F.out.alloc (by omega) _⟩
  · rw [LM.out, ← sz]
    exact Blk.new w' [.int .i64 0, .slice (some ⟨s, 0, none⟩) m m] _
  · exact B2.out.alloc _

theorem gon_any {b g : Nat} {st : Int} {L : List Int} (c : Int) (w : World) (h : GT w b g st L) :
    Calls Try.prog 47 #[.pointer (some ⟨b, 0, none⟩), .int .i64 c] w fun e w' => e = .returned (.tuple #[.int .i64 (gtN L c), .int .i64 (gtE L c)]) ∧ w' = w := by
  have C : Hid (∀ _ : Unit, _) := fun _ => sget_any c w h
  clear h
  generalize gtN L c = x at *
  generalize gtE L c = y at *
  go_enter Try.func47, Try.ntmps47
  go_wp2_with fail
  refine (C.out ()).mono ?_
  rintro e w' ⟨rfl, rfl⟩
  go_wp2
  go_ret2
  exact ⟨rfl, rfl⟩
theorem gOn_any {b g : Nat} {st : Int} {L : List Int} (c : Int) (w : World) (h : GT w b g st L) :
    Calls Try.prog 16 #[.pointer (some ⟨b, 0, none⟩), .int .i64 c] w fun e w' => e = .returned (.int .i64 (gtN L c)) ∧ w' = w := by
  have C : Hid (∀ _ : Unit, _) := fun _ => gon_any c w h
  clear h
  generalize gtN L c = x at *
  generalize gtE L c = y at *
  go_enter Try.func16, Try.ntmps16
  go_wp2_with fail
  refine (C.out ()).mono ?_
  rintro e w' ⟨rfl, rfl⟩
  go_wp2
  go_ret
  exact ⟨rfl, rfl⟩
theorem greaders_any {b g : Nat} {st : Int} {L : List Int} (w : World) (h : GT w b g st L) :
    Calls Try.prog 14 #[.pointer (some ⟨b, 0, none⟩)] w fun e w' => e = .returned (.int .i64 L.sum) ∧ w' = w := by
  have C : Hid (∀ _ : Unit, _) := fun _ => ssum_any w h
  rw [h.rd.fit.1, h.rd.fit.2] at C
  clear h
  generalize L.sum = x at *
  go_enter Try.func14, Try.ntmps14
  go_wp2_with fail
  refine (C.out ()).mono ?_
  rintro e w' ⟨rfl, rfl⟩
  go_wp2
  go_ret
  exact ⟨rfl, rfl⟩
theorem gstate_any {b g : Nat} {st : Int} {L : List Int} (w : World) (h : GT w b g st L) :
    Calls Try.prog 13 #[.pointer (some ⟨b, 0, none⟩)] w fun e w' => e = .returned (.int .i64 st) ∧ w' = w := by
  have c0 := h.c0
  clear h
  go_enter Try.func13, Try.ntmps13
  go_wp2
  go_ret
  exact ⟨rfl, rfl⟩
set_option maxHeartbeats 400000 in
theorem gwant_any {b g : Nat} {st : Int} {L : List Int} (w : World) (h : GT w b g st L) :
    Calls Try.prog 18 #[.pointer (some ⟨b, 0, none⟩)] w fun e w' => e = .returned (.int .i64 (waE st)) ∧ GT w' b g (waS st) L ∧ Fr w.heap.size [b] w w' := by
  have c0 := h.c0
  have f0 := h.f0
  have HS : Hid (GT w b g st L) := h
  have ST : Hid (GT (w.setCell ⟨b, 0, none⟩ (.int .i64 1)) b g 1 L) := gt_st h 1
  clear h
  by_cases s : st = 0
  · rw [show waE st = 0 from if_pos s, show waS st = 1 from if_pos s]
    subst s
    go_enter Try.func18, Try.ntmps18
    go_wp2
    go_ret
    exact ⟨rfl, ST.out, (Fr.refl _ _ _).setCell (Or.inr (by simp)) _⟩
  · rw [show waE st = 7 from if_neg s, show waS st = st from if_neg s]
    have s2 : (st != 0) = true := by simpa using s
    clear s
    go_enter Try.func18, Try.ntmps18
    go_wp2
    go_ret
    exact ⟨rfl, HS.out, Fr.refl _ _ _⟩
set_option maxHeartbeats 400000 in
theorem gfree_any {b g : Nat} {st : Int} {L : List Int} (w : World) (h : GT w b g st L) :
    Calls Try.prog 17 #[.pointer (some ⟨b, 0, none⟩)] w fun e w' => e = .returned (.int .i64 (frE st)) ∧ GT w' b g 0 L ∧ Fr w.heap.size [b] w w' := by
  have c0 := h.c0
  have f0 := h.f0
  have HS : Hid (GT w b g st L) := h
  have ST : Hid (GT (w.setCell ⟨b, 0, none⟩ (.int .i64 0)) b g 0 L) := gt_st h 0
  clear h
  by_cases s : st = 0
  · rw [show frE st = 6 from if_pos s]
    subst s
    go_enter Try.func17, Try.ntmps17
    go_wp2
    go_ret
    exact ⟨rfl, HS.out, Fr.refl _ _ _⟩
  · rw [show frE st = 0 from if_neg s]
    have s2 : (st == 0) = false := by simpa using s
    clear s
    go_enter Try.func17, Try.ntmps17
    go_wp2
    go_ret
    exact ⟨rfl, ST.out, (Fr.refl _ _ _).setCell (Or.inr (by simp)) _⟩
set_option maxHeartbeats 400000 in
theorem gtake_any {b g : Nat} {st : Int} {L : List Int} (w : World) (h : GT w b g st L) :
    Calls Try.prog 21 #[.pointer (some ⟨b, 0, none⟩)] w fun e w' => e = .returned (.int .i64 (tkE st L)) ∧ GT w' b g (tkS st L) L ∧ Fr w.heap.size [b] w w' := by
  have c0 := h.c0
  have f0 := h.f0
  have HS : Hid (GT w b g st L) := h
  have ST : Hid (GT (w.setCell ⟨b, 0, none⟩ (.int .i64 2)) b g 2 L) := gt_st h 2
  have C : Hid (∀ _ : Unit, _) := fun _ => greaders_any w h
  clear h
  by_cases s : st = 1
  · subst s
    by_cases q : 0 < L.sum
    · rw [show tkE 1 L = 7 by simp [tkE, q], show tkS 1 L = 1 by simp [tkS, tkE, q]]
      generalize L.sum = x at *
      go_enter Try.func21, Try.ntmps21
      go_wp2_with fail
      refine (C.out ()).mono ?_
      rintro e w' ⟨rfl, rfl⟩
      go_wp2
      go_ret
      exact ⟨rfl, HS.out, Fr.refl _ _ _⟩
    · rw [show tkE 1 L = 0 by simp [tkE, q], show tkS 1 L = 2 by simp [tkS, tkE, q]]
      generalize L.sum = x at *
      go_enter Try.func21, Try.ntmps21
      go_wp2_with fail
      refine (C.out ()).mono ?_
      rintro e w' ⟨rfl, rfl⟩
      go_wp2
      go_ret
      exact ⟨rfl, ST.out, (Fr.refl _ _ _).setCell (Or.inr (by simp)) _⟩
  · rw [show tkE st L = 6 from if_neg s, show tkS st L = st by simp [tkS, tkE, s]]
    have s2 : (st != 1) = true := by simpa using s
    clear s
    go_enter Try.func21, Try.ntmps21
    go_wp2
    go_ret
    exact ⟨rfl, HS.out, Fr.refl _ _ _⟩
set_option maxHeartbeats 1000000 in
theorem genter_any {b g : Nat} {st : Int} {L : List Int} (c : Int) (w : World) (h : GT w b g st L) :
    Calls Try.prog 19 #[.pointer (some ⟨b, 0, none⟩), .int .i64 c] w fun e w' => e = .returned (.int .i64 (enE st L c)) ∧ GT w' b g st (enL st L c) ∧ Fr w.heap.size [g] w w' := by
  have c0 := h.c0
  have HS : Hid (GT w b g st L) := h
  have C : Hid (∀ _ : Unit, _) := fun _ => gon_any c w h
  have D : Hid (∀ _ : Unit, _) := fun _ => greaders_any w h
  cases i : ic L c with
  | false =>
    rw [show gtE L c = 3 from if_neg (by rw [i]; simp)] at C
    rw [show enE st L c = 3 from if_neg (by rw [i]; simp), show enL st L c = L by simp [enL, enE, i]]
    clear h i
    generalize gtN L c = x at *
    go_enter Try.func19, Try.ntmps19
    go_wp2_with fail
    refine (C.out ()).mono ?_
    rintro e w' ⟨rfl, rfl⟩
    go_wp2
    go_ret
    exact ⟨rfl, HS.out, Fr.refl _ _ _⟩
  | true =>
    rw [show gtE L c = 0 from if_pos i] at C
    by_cases s : st = 0
    · subst s
      by_cases q : 1000 ≤ L.sum
      · rw [show enE 0 L c = 5 by simp [enE, i, q], show enL 0 L c = L by simp [enL, enE, i, q]]
        clear h i
        generalize gtN L c = x at *
        generalize L.sum = y at *
        go_enter Try.func19, Try.ntmps19
        go_wp2_with fail
        refine (C.out ()).mono ?_
        rintro e w' ⟨rfl, rfl⟩
        go_wp2_with fail
        refine (D.out ()).mono ?_
        rintro e w' ⟨rfl, rfl⟩
        go_wp2
        go_ret
        exact ⟨rfl, HS.out, Fr.refl _ _ _⟩
      · have e0 : enE 0 L c = 0 := by simp [enE, i, q]
        have RD := rd_en h.rd c (st := 0)
        rw [show enL 0 L c = L.set c.toNat (at' L c + 1) from if_pos e0] at RD ⊢
        rw [e0]
        obtain ⟨k, rfl⟩ := Int.eq_ofNat_of_zero_le (ic_lt i).1
        rw [Int.toNat_natCast, show at' L (k : Int) = L.getD k 0 by unfold at'; rw [Int.toNat_natCast]] at RD ⊢
        have A : Hid (∀ _ : Unit, _) := fun _ => sadd_any 1 w h (ic_lt i).2.1 (by unfold I64; omega) RD
        clear h i RD e0
        generalize gtN L k = x at *
        generalize L.sum = y at *
        generalize L.set k (L.getD k 0 + 1) = M at *
        go_enter Try.func19, Try.ntmps19
        go_wp2_with fail
        refine (C.out ()).mono ?_
        rintro e w' ⟨rfl, rfl⟩
        go_wp2_with fail
        refine (D.out ()).mono ?_
        rintro e w' ⟨rfl, rfl⟩
        go_wp2_with fail
        refine (A.out ()).mono ?_
        rintro e w1 ⟨rfl, s1, f1⟩
        go_wp2
        go_ret
        exact ⟨rfl, s1, f1⟩
    · rw [show enE st L c = 7 by simp [enE, i, s], show enL st L c = L by simp [enL, enE, i, s]]
      have s2 : (st != 0) = true := by simpa using s
      clear h i s
      generalize gtN L c = x at *
      go_enter Try.func19, Try.ntmps19
      go_wp2_with fail
      refine (C.out ()).mono ?_
      rintro e w' ⟨rfl, rfl⟩
      go_wp2
      go_ret
      exact ⟨rfl, HS.out, Fr.refl _ _ _⟩
set_option maxHeartbeats 1000000 in
theorem gleave_any {b g : Nat} {st : Int} {L : List Int} (c : Int) (w : World) (h : GT w b g st L) :
    Calls Try.prog 20 #[.pointer (some ⟨b, 0, none⟩), .int .i64 c] w fun e w' => e = .returned (.int .i64 (leE L c)) ∧ GT w' b g st (leL L c) ∧ Fr w.heap.size [g] w w' := by
  have HS : Hid (GT w b g st L) := h
  have C : Hid (∀ _ : Unit, _) := fun _ => gon_any c w h
  cases i : ic L c with
  | false =>
    rw [show gtE L c = 3 from if_neg (by rw [i]; simp)] at C
    rw [show leE L c = 3 from if_neg (by rw [i]; simp), show leL L c = L by simp [leL, leE, i]]
    clear h i
    generalize gtN L c = x at *
    go_enter Try.func20, Try.ntmps20
    go_wp2_with fail
    refine (C.out ()).mono ?_
    rintro e w' ⟨rfl, rfl⟩
    go_wp2
    go_ret
    exact ⟨rfl, HS.out, Fr.refl _ _ _⟩
  | true =>
    rw [show gtE L c = 0 from if_pos i, show gtN L c = at' L c from if_pos i] at C
    by_cases q : at' L c = 0
    · rw [show leE L c = 12 by simp [leE, i, q], show leL L c = L by simp [leL, leE, i, q]]
      rw [q] at C
      clear h i q
      go_enter Try.func20, Try.ntmps20
      go_wp2_with fail
      refine (C.out ()).mono ?_
      rintro e w' ⟨rfl, rfl⟩
      go_wp2
      go_ret
      exact ⟨rfl, HS.out, Fr.refl _ _ _⟩
    · have e0 : leE L c = 0 := by simp [leE, i, q]
      have RD := rd_le h.rd c
      rw [show leL L c = L.set c.toNat (at' L c - 1) from if_pos e0] at RD ⊢
      rw [e0]
      obtain ⟨k, rfl⟩ := Int.eq_ofNat_of_zero_le (ic_lt i).1
      rw [Int.toNat_natCast, show at' L (k : Int) = L.getD k 0 by unfold at'; rw [Int.toNat_natCast]] at RD
      rw [Int.toNat_natCast, show at' L (k : Int) - 1 = L.getD k 0 + (-1) by unfold at'; rw [Int.toNat_natCast]; omega]
      have A : Hid (∀ _ : Unit, _) := fun _ => sadd_any (-1) w h (ic_lt i).2.1 (by unfold I64; omega) (by rw [show L.getD k 0 + (-1) = L.getD k 0 - 1 by omega]; exact RD)
      have q2 : (at' L k == 0) = false := by simpa using q
      clear h i RD e0 q
      generalize L.set k (L.getD k 0 + (-1)) = M at *
      generalize at' L k = x at *
      go_enter Try.func20, Try.ntmps20
      go_wp2_with fail
      refine (C.out ()).mono ?_
      rintro e w' ⟨rfl, rfl⟩
      go_wp2_with fail
      refine (A.out ()).mono ?_
      rintro e w1 ⟨rfl, s1, f1⟩
      go_wp2
      go_ret
      exact ⟨rfl, s1, f1⟩
end Go.Proofs.Ytbmdfoohabipjaa
