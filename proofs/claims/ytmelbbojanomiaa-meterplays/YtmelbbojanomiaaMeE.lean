/- What the program's Energy, Ticks, Rested, Average and Share answer, of every meter, and of one that is not there; and what Work and Rest answer of that. -/
import Derived.Test.YtmelbbojanomiaaRows
import Derived.Test.YtmelbbojanomiaaMeD
import Derived.WalkKit
import Derived.ProofKit
import Derived.OpenShut
import Derived.BigQuiet
namespace Go.Proofs.Ytmelbbojanomiaa
open Go.ChangeShapes Go.WideShapes Go.ChangeAt Go.RowKit
open Mt Flo

theorem zero_ten (w : World) (i : Nat) (h : i < 10) : (w.alloc (.cells (List.replicate 10 (.int .i64 0)).toArray 76)).cell? ⟨w.heap.size, i, none⟩ = some (.int .i64 0) := by
  rw [(Blk.new w (List.replicate 10 (.int .i64 0)) 76).cell, List.getElem?_replicate, if_pos h]
theorem below_ten (w : World) : Below w.heap.size w (w.alloc (.cells (List.replicate 10 (.int .i64 0)).toArray 76)) := (Below.refl _ _).alloc (Nat.le_refl _) _

theorem mtenergy_out (w : World) (s g n : Nat) (F : Nat → Ac) (c : Int) (h : PM w s g n F) (hc : inr n c = false) :
    Calls Try.prog 16 #[.pointer (some ⟨s, 0, none⟩), .int .i64 c] w fun e w' => e = .returned (.int .i64 0) ∧ Below w.heap.size w w' := by
  have C : Hid (∀ _ : Unit, _) := fun _ => mtof_out w s g n c F h hc
  have z := zero_ten w 0 (by omega)
  have B : Hid (Below w.heap.size w (w.alloc (.cells (List.replicate 10 (.int .i64 0)).toArray 76))) := below_ten w
  obtain ⟨u, hu⟩ : ∃ u, w.alloc (.cells (List.replicate 10 (.int .i64 0)).toArray 76) = u := ⟨_, rfl⟩
  rw [hu] at C z B
  clear hu h hc
  go_enter Try.func16, Try.ntmps16
  go_wp2_with fail
  refine (C.out ()).mono ?_
  rintro e w' ⟨rfl, rfl⟩
  go_wp2
  go_ret
  exact ⟨rfl, B.out⟩

theorem mtenergy_nil (w : World) (c : Int) :
    Calls Try.prog 16 #[.pointer none, .int .i64 c] w fun e w' => e = .returned (.int .i64 0) ∧ Below w.heap.size w w' := by
  have C : Hid (∀ _ : Unit, _) := fun _ => mtof_nil w c
  have z := zero_ten w 0 (by omega)
  have B : Hid (Below w.heap.size w (w.alloc (.cells (List.replicate 10 (.int .i64 0)).toArray 76))) := below_ten w
  obtain ⟨u, hu⟩ : ∃ u, w.alloc (.cells (List.replicate 10 (.int .i64 0)).toArray 76) = u := ⟨_, rfl⟩
  rw [hu] at C z B
  clear hu
  go_enter Try.func16, Try.ntmps16
  go_wp2_with fail
  refine (C.out ()).mono ?_
  rintro e w' ⟨rfl, rfl⟩
  go_wp2
  go_ret
  exact ⟨rfl, B.out⟩

theorem mtenergy_any (w : World) (s g n : Nat) (F : Nat → Ac) (c : Int) (h : PM w s g n F) :
    Calls Try.prog 16 #[.pointer (some ⟨s, 0, none⟩), .int .i64 c] w fun e w' => e = .returned (.int .i64 (enB n F c)) ∧ Below w.heap.size w w' := by
  cases hc : inr n c with
  | false =>
    rw [show enB n F c = 0 by unfold enB; rw [hc]; rfl]
    exact mtenergy_out w s g n F c h hc
  | true =>
    obtain ⟨k, rfl, hk⟩ := inr_yes hc
    have hv : enB n F k = pcel (F k) 0 := by unfold enB; rw [hc]; rfl
    rw [hv]
    have C : Hid (∀ _ : Unit, _) := fun _ => mtof_any w s g n k F h hk
    have c0 : w.cell? ⟨g, k * 10, none⟩ = some (.int .i64 (pcel (F k) 0)) := h.cell hk 0 (by omega)
    generalize pcel (F k) 0 = v at *
    clear h hc hv hk
    go_enter Try.func16, Try.ntmps16
    go_wp2_with fail
    refine (C.out ()).mono ?_
    rintro e w' ⟨rfl, rfl⟩
    go_wp2
    go_ret
    exact ⟨rfl, Below.refl _ _⟩

theorem mtticks_out (w : World) (s g n : Nat) (F : Nat → Ac) (c : Int) (h : PM w s g n F) (hc : inr n c = false) :
    Calls Try.prog 18 #[.pointer (some ⟨s, 0, none⟩), .int .i64 c] w fun e w' => e = .returned (.int .i64 0) ∧ Below w.heap.size w w' := by
  have C : Hid (∀ _ : Unit, _) := fun _ => mtof_out w s g n c F h hc
  have z := zero_ten w 1 (by omega)
  have B : Hid (Below w.heap.size w (w.alloc (.cells (List.replicate 10 (.int .i64 0)).toArray 76))) := below_ten w
  obtain ⟨u, hu⟩ : ∃ u, w.alloc (.cells (List.replicate 10 (.int .i64 0)).toArray 76) = u := ⟨_, rfl⟩
  rw [hu] at C z B
  clear hu h hc
  go_enter Try.func18, Try.ntmps18
  go_wp2_with fail
  refine (C.out ()).mono ?_
  rintro e w' ⟨rfl, rfl⟩
  go_wp2
  go_ret
  exact ⟨rfl, B.out⟩

theorem mtticks_nil (w : World) (c : Int) :
    Calls Try.prog 18 #[.pointer none, .int .i64 c] w fun e w' => e = .returned (.int .i64 0) ∧ Below w.heap.size w w' := by
  have C : Hid (∀ _ : Unit, _) := fun _ => mtof_nil w c
  have z := zero_ten w 1 (by omega)
  have B : Hid (Below w.heap.size w (w.alloc (.cells (List.replicate 10 (.int .i64 0)).toArray 76))) := below_ten w
  obtain ⟨u, hu⟩ : ∃ u, w.alloc (.cells (List.replicate 10 (.int .i64 0)).toArray 76) = u := ⟨_, rfl⟩
  rw [hu] at C z B
  clear hu
  go_enter Try.func18, Try.ntmps18
  go_wp2_with fail
  refine (C.out ()).mono ?_
  rintro e w' ⟨rfl, rfl⟩
  go_wp2
  go_ret
  exact ⟨rfl, B.out⟩

theorem mtticks_any (w : World) (s g n : Nat) (F : Nat → Ac) (c : Int) (h : PM w s g n F) :
    Calls Try.prog 18 #[.pointer (some ⟨s, 0, none⟩), .int .i64 c] w fun e w' => e = .returned (.int .i64 (tkB n F c)) ∧ Below w.heap.size w w' := by
  cases hc : inr n c with
  | false =>
    rw [show tkB n F c = 0 by unfold tkB; rw [hc]; rfl]
    exact mtticks_out w s g n F c h hc
  | true =>
    obtain ⟨k, rfl, hk⟩ := inr_yes hc
    have hv : tkB n F k = pcel (F k) 1 := by unfold tkB; rw [hc]; rfl
    rw [hv]
    have C : Hid (∀ _ : Unit, _) := fun _ => mtof_any w s g n k F h hk
    have c0 : w.cell? ⟨g, k * 10 + 1, none⟩ = some (.int .i64 (pcel (F k) 1)) := h.cell hk 1 (by omega)
    generalize pcel (F k) 1 = v at *
    clear h hc hv hk
    go_enter Try.func18, Try.ntmps18
    go_wp2_with fail
    refine (C.out ()).mono ?_
    rintro e w' ⟨rfl, rfl⟩
    go_wp2
    go_ret
    exact ⟨rfl, Below.refl _ _⟩

theorem mtrested_out (w : World) (s g n : Nat) (F : Nat → Ac) (c m : Int) (h : PM w s g n F) (hc : (inr n c && inr 8 m) = false) :
    Calls Try.prog 20 #[.pointer (some ⟨s, 0, none⟩), .int .i64 c, .int .i64 m] w fun e w' => e = .returned (.int .i64 0) ∧ Below w.heap.size w w' := by
  have W : Hid (∀ w, _) := fun w => isway_any m w
  cases hm : inr 8 m with
  | false =>
    rw [hm] at W
    clear h hc hm
    go_enter Try.func20, Try.ntmps20
    go_wp2_with fail
    refine (W.out _).mono ?_
    rintro e w' ⟨rfl, rfl⟩
    go_wp2
    go_ret
    exact ⟨rfl, Below.refl _ _⟩
  | true =>
    rw [hm] at W hc
    simp only [Bool.and_true] at hc
    obtain ⟨j, rfl, hj⟩ := inr_yes hm
    have C : Hid (∀ _ : Unit, _) := fun _ => mtof_out w s g n c F h hc
    have z := zero_ten w (2 + j) (by omega)
    have B : Hid (Below w.heap.size w (w.alloc (.cells (List.replicate 10 (.int .i64 0)).toArray 76))) := below_ten w
    obtain ⟨u, hu⟩ : ∃ u, w.alloc (.cells (List.replicate 10 (.int .i64 0)).toArray 76) = u := ⟨_, rfl⟩
    have jl : (j : Int) < 8 := by omega
    rw [hu] at C z B
    clear hu h hc hm
    go_enter Try.func20, Try.ntmps20
    go_wp2_with fail
    refine (W.out _).mono ?_
    rintro e w' ⟨rfl, rfl⟩
    go_wp2_with fail
    refine (C.out ()).mono ?_
    rintro e w' ⟨rfl, rfl⟩
    go_wp2
    go_ret
    exact ⟨rfl, B.out⟩

theorem mtrested_nil (w : World) (c m : Int) :
    Calls Try.prog 20 #[.pointer none, .int .i64 c, .int .i64 m] w fun e w' => e = .returned (.int .i64 0) ∧ Below w.heap.size w w' := by
  have W : Hid (∀ w, _) := fun w => isway_any m w
  cases hm : inr 8 m with
  | false =>
    rw [hm] at W
    clear hm
    go_enter Try.func20, Try.ntmps20
    go_wp2_with fail
    refine (W.out _).mono ?_
    rintro e w' ⟨rfl, rfl⟩
    go_wp2
    go_ret
    exact ⟨rfl, Below.refl _ _⟩
  | true =>
    rw [hm] at W
    obtain ⟨j, rfl, hj⟩ := inr_yes hm
    have C : Hid (∀ _ : Unit, _) := fun _ => mtof_nil w c
    have z := zero_ten w (2 + j) (by omega)
    have B : Hid (Below w.heap.size w (w.alloc (.cells (List.replicate 10 (.int .i64 0)).toArray 76))) := below_ten w
    obtain ⟨u, hu⟩ : ∃ u, w.alloc (.cells (List.replicate 10 (.int .i64 0)).toArray 76) = u := ⟨_, rfl⟩
    have jl : (j : Int) < 8 := by omega
    rw [hu] at C z B
    clear hu hm
    go_enter Try.func20, Try.ntmps20
    go_wp2_with fail
    refine (W.out _).mono ?_
    rintro e w' ⟨rfl, rfl⟩
    go_wp2_with fail
    refine (C.out ()).mono ?_
    rintro e w' ⟨rfl, rfl⟩
    go_wp2
    go_ret
    exact ⟨rfl, B.out⟩

theorem mtrested_any (w : World) (s g n : Nat) (F : Nat → Ac) (c m : Int) (h : PM w s g n F) :
    Calls Try.prog 20 #[.pointer (some ⟨s, 0, none⟩), .int .i64 c, .int .i64 m] w fun e w' => e = .returned (.int .i64 (rsB n F c m)) ∧ Below w.heap.size w w' := by
  cases hc : (inr n c && inr 8 m) with
  | false =>
    rw [show rsB n F c m = 0 by unfold rsB; rw [hc]; rfl]
    exact mtrested_out w s g n F c m h hc
  | true =>
    have hv0 : rsB n F c m = (F c.toNat).r m.toNat := by unfold rsB; rw [hc]; rfl
    rw [Bool.and_eq_true] at hc
    obtain ⟨k, rfl, hk⟩ := inr_yes hc.1
    obtain ⟨j, rfl, hj⟩ := inr_yes hc.2
    have hv : rsB n F k j = (F k).r j := hv0
    rw [hv]
    have W : Hid (∀ w, _) := fun w => isway_any j w
    rw [hc.2] at W
    have C : Hid (∀ _ : Unit, _) := fun _ => mtof_any w s g n k F h hk
    have c0 : w.cell? ⟨g, k * 10 + 2 + j, none⟩ = some (.int .i64 ((F k).r j)) := by
      rw [Nat.add_assoc, h.cell hk (2 + j) (by omega)]
      unfold pcel
      rw [if_neg (by omega), if_neg (by omega), show 2 + j - 2 = j by omega]
    generalize (F k).r j = v at *
    have jl : (j : Int) < 8 := by omega
    clear h hc hv hk hv0
    go_enter Try.func20, Try.ntmps20
    go_wp2_with fail
    refine (W.out _).mono ?_
    rintro e w' ⟨rfl, rfl⟩
    go_wp2_with fail
    refine (C.out ()).mono ?_
    rintro e w' ⟨rfl, rfl⟩
    go_wp2
    go_ret
    exact ⟨rfl, Below.refl _ _⟩

theorem mtaverage_any (w : World) (s g n : Nat) (F : Nat → Ac) (c : Int) (h : PM w s g n F) :
    Calls Try.prog 23 #[.pointer (some ⟨s, 0, none⟩), .int .i64 c] w fun e w' => ∃ r, e = .returned (.float .f64 r) ∧ r < 18446744073709551616 ∧ ky r = rt (enB n F c) (tkB n F c) ∧ Below w.heap.size w w' := by
  have C1 : Hid (∀ _ : Unit, _) := fun _ => mtenergy_any w s g n F c h
  have C2 : Hid (∀ u, PM u s g n F → _) := fun u hu => mtticks_any u s g n F c hu
  have H : Hid (PM w s g n F) := h
  have C3 : Hid (∀ w, _) := fun w => rate_any (enB n F c) (tkB n F c) w
  generalize rt (enB n F c) (tkB n F c) = R at *
  generalize enB n F c = a at *
  generalize tkB n F c = b at *
  clear h
  go_enter Try.func23, Try.ntmps23
  go_wp2_with fail
  refine (C1.out ()).mono ?_
  rintro e u ⟨rfl, b1⟩
  have B1 : Hid (Below w.heap.size w u) := b1
  have P1 := C2.out u (H.out.below b1)
  have D : Hid (∀ _ : Unit, _) := fun _ => P1
  clear b1 P1
  go_wp2_with fail
  refine (D.out ()).mono ?_
  rintro e u2 ⟨rfl, b2⟩
  have B2 : Hid (Below w.heap.size w u2) := B1.out.trans (b2.mono B1.out.size)
  clear b2
  go_wp2_with fail
  refine (C3.out _).mono ?_
  rintro e u3 ⟨r, rfl, hr, kr, sm⟩
  have B3 : Hid (r < 18446744073709551616 ∧ ky r = R ∧ Below w.heap.size w u3) := ⟨hr, kr, sm.below B2.out⟩
  clear hr kr sm
  go_wp2
  go_ret
  exact ⟨_, rfl, B3.out⟩

theorem mtaverage_nil (w : World) (c : Int) :
    Calls Try.prog 23 #[.pointer none, .int .i64 c] w fun e w' => ∃ r, e = .returned (.float .f64 r) ∧ r < 18446744073709551616 ∧ ky r = rt 0 0 ∧ Below w.heap.size w w' := by
  have C1 : Hid (∀ _ : Unit, _) := fun _ => mtenergy_nil w c
  have C2 : Hid (∀ u : World, True → _) := fun u _ => mtticks_nil u c
  have C3 : Hid (∀ w, _) := fun w => rate_any 0 0 w
  generalize rt 0 0 = R at *
  go_enter Try.func23, Try.ntmps23
  go_wp2_with fail
  refine (C1.out ()).mono ?_
  rintro e u ⟨rfl, b1⟩
  have B1 : Hid (Below w.heap.size w u) := b1
  have P1 := C2.out u trivial
  have D : Hid (∀ _ : Unit, _) := fun _ => P1
  clear b1 P1
  go_wp2_with fail
  refine (D.out ()).mono ?_
  rintro e u2 ⟨rfl, b2⟩
  have B2 : Hid (Below w.heap.size w u2) := B1.out.trans (b2.mono B1.out.size)
  clear b2
  go_wp2_with fail
  refine (C3.out _).mono ?_
  rintro e u3 ⟨r, rfl, hr, kr, sm⟩
  have B3 : Hid (r < 18446744073709551616 ∧ ky r = R ∧ Below w.heap.size w u3) := ⟨hr, kr, sm.below B2.out⟩
  clear hr kr sm
  go_wp2
  go_ret
  exact ⟨_, rfl, B3.out⟩

theorem mtshare_any (w : World) (s g n : Nat) (F : Nat → Ac) (c m : Int) (h : PM w s g n F) :
    Calls Try.prog 25 #[.pointer (some ⟨s, 0, none⟩), .int .i64 c, .int .i64 m] w fun e w' => ∃ r, e = .returned (.float .f64 r) ∧ r < 18446744073709551616 ∧ ky r = rt (rsB n F c m) (tkB n F c) ∧ Below w.heap.size w w' := by
  have C1 : Hid (∀ _ : Unit, _) := fun _ => mtrested_any w s g n F c m h
  have C2 : Hid (∀ u, PM u s g n F → _) := fun u hu => mtticks_any u s g n F c hu
  have H : Hid (PM w s g n F) := h
  have C3 : Hid (∀ w, _) := fun w => rate_any (rsB n F c m) (tkB n F c) w
  generalize rt (rsB n F c m) (tkB n F c) = R at *
  generalize rsB n F c m = a at *
  generalize tkB n F c = b at *
  clear h
  go_enter Try.func25, Try.ntmps25
  go_wp2_with fail
  refine (C1.out ()).mono ?_
  rintro e u ⟨rfl, b1⟩
  have B1 : Hid (Below w.heap.size w u) := b1
  have P1 := C2.out u (H.out.below b1)
  have D : Hid (∀ _ : Unit, _) := fun _ => P1
  clear b1 P1
  go_wp2_with fail
  refine (D.out ()).mono ?_
  rintro e u2 ⟨rfl, b2⟩
  have B2 : Hid (Below w.heap.size w u2) := B1.out.trans (b2.mono B1.out.size)
  clear b2
  go_wp2_with fail
  refine (C3.out _).mono ?_
  rintro e u3 ⟨r, rfl, hr, kr, sm⟩
  have B3 : Hid (r < 18446744073709551616 ∧ ky r = R ∧ Below w.heap.size w u3) := ⟨hr, kr, sm.below B2.out⟩
  clear hr kr sm
  go_wp2
  go_ret
  exact ⟨_, rfl, B3.out⟩

theorem mtshare_nil (w : World) (c m : Int) :
    Calls Try.prog 25 #[.pointer none, .int .i64 c, .int .i64 m] w fun e w' => ∃ r, e = .returned (.float .f64 r) ∧ r < 18446744073709551616 ∧ ky r = rt 0 0 ∧ Below w.heap.size w w' := by
  have C1 : Hid (∀ _ : Unit, _) := fun _ => mtrested_nil w c m
  have C2 : Hid (∀ u : World, True → _) := fun u _ => mtticks_nil u c
  have C3 : Hid (∀ w, _) := fun w => rate_any 0 0 w
  generalize rt 0 0 = R at *
  go_enter Try.func25, Try.ntmps25
  go_wp2_with fail
  refine (C1.out ()).mono ?_
  rintro e u ⟨rfl, b1⟩
  have B1 : Hid (Below w.heap.size w u) := b1
  have P1 := C2.out u trivial
  have D : Hid (∀ _ : Unit, _) := fun _ => P1
  clear b1 P1
  go_wp2_with fail
  refine (D.out ()).mono ?_
  rintro e u2 ⟨rfl, b2⟩
  have B2 : Hid (Below w.heap.size w u2) := B1.out.trans (b2.mono B1.out.size)
  clear b2
  go_wp2_with fail
  refine (C3.out _).mono ?_
  rintro e u3 ⟨r, rfl, hr, kr, sm⟩
  have B3 : Hid (r < 18446744073709551616 ∧ ky r = R ∧ Below w.heap.size w u3) := ⟨hr, kr, sm.below B2.out⟩
  clear hr kr sm
  go_wp2
  go_ret
  exact ⟨_, rfl, B3.out⟩

theorem mtwork_nil (w : World) (c t p : Int) :
    Calls Try.prog 12 #[.pointer none, .int .i64 c, .int .i64 t, .int .i64 p] w fun e w' => e = .returned (.int .i64 1) ∧ Below w.heap.size w w' := by
  have C : Hid (∀ _ : Unit, _) := fun _ => mtof_nil w c
  have B : Hid (Below w.heap.size w (w.alloc (.cells (List.replicate 10 (.int .i64 0)).toArray 76))) := below_ten w
  obtain ⟨u, hu⟩ : ∃ u, w.alloc (.cells (List.replicate 10 (.int .i64 0)).toArray 76) = u := ⟨_, rfl⟩
  rw [hu] at C B
  clear hu
  go_enter Try.func12, Try.ntmps12
  go_wp2_with fail
  refine (C.out ()).mono ?_
  rintro e w' ⟨rfl, rfl⟩
  go_wp2
  go_ret
  exact ⟨rfl, B.out⟩

theorem mtrest_nil (w : World) (c m t p : Int) :
    Calls Try.prog 14 #[.pointer none, .int .i64 c, .int .i64 m, .int .i64 t, .int .i64 p] w fun e w' => e = .returned (.int .i64 1) ∧ Below w.heap.size w w' := by
  have C : Hid (∀ _ : Unit, _) := fun _ => mtof_nil w c
  have B : Hid (Below w.heap.size w (w.alloc (.cells (List.replicate 10 (.int .i64 0)).toArray 76))) := below_ten w
  obtain ⟨u, hu⟩ : ∃ u, w.alloc (.cells (List.replicate 10 (.int .i64 0)).toArray 76) = u := ⟨_, rfl⟩
  rw [hu] at C B
  clear hu
  go_enter Try.func14, Try.ntmps14
  go_wp2_with fail
  refine (C.out ()).mono ?_
  rintro e w' ⟨rfl, rfl⟩
  go_wp2
  go_ret
  exact ⟨rfl, B.out⟩
end Go.Proofs.Ytmelbbojanomiaa
