/- What the document's many, thread, right and once answer (davitref35). -/
import Derived.Test.YtfdmcbcomknebaaGreatDoorRows
import Derived.Test.YtfdmcbcomknebaaGreatDoorAu5
import Derived.WalkKit
import Derived.ProofKit
import Derived.OpenShut
import Derived.BigQuiet
import Derived.BigGuard
import Derived.Carry
import Derived.Deep.RegionHeld3
namespace Go.Proofs.YtfdmcbcomknebaaGreatDoor.Aud
open Go.ChangeShapes Go.WideShapes Go.ChangeAt Go.RowKit
open Mm

set_option maxRecDepth 100000 in
set_option maxHeartbeats 2000000 in
theorem rmany_any (L : List Tr) (v : Value) (id : Int) (w : World) (h : LRow tr w v L) (hl : (L.length : Int) ≤ 1000) :
    Calls Tryz.prog 88 #[v, .int .i64 id] w fun e w' => e = .returned (.int .i64 (cn K1 L id : Nat)) ∧ w' = w := by
  obtain ⟨a, cap, rfl⟩ := h.shape
  have HR : Hid (LRow tr w (.slice a L.length cap) L) := h
  have HE : Hid (L.take L.length = L) := List.take_of_length_le (Nat.le_refl _)
  obtain ⟨l, hl2⟩ : ∃ l, L.length = l := ⟨_, rfl⟩
  have HN : Hid (L.length = l) := hl2
  obtain ⟨R, hR⟩ : ∃ R : Nat, cn K1 L id = R := ⟨_, rfl⟩
  have HA : Hid (cn K1 L id = R) := hR
  rw [hl2] at hl HR HE ⊢
  rw [hR]
  clear h hl2 hR
  go_enter Tryz.func88, Tryz.ntmps88
  go_wp2
  go_loopw [5, 6] (fun n i wr => ∃ (k c : Nat), (k : Int) ≤ l ∧ (c : Int) ≤ k ∧ wr = w ∧ Hid (c = cn K1 (L.take k) id) ∧ n = .int .i64 (c : Int) ∧ i = .int .i64 (k : Int)) (fun _ i _ => l - (intOf i).toNat)
  case atStart => exact ⟨0, 0, by omega, by omega, rfl, rfl, rfl, rfl⟩
  case round =>
    obtain ⟨k, c, hk, hck, rfl, hc, rfl, rfl⟩ := hrel
    by_cases e : (k : Int) < l
    · obtain ⟨b, off, rfl, hbl, c0, c1, c2⟩ := trow_at HR.out (k := k) (by have := HN.out; omega)
      have s : Hid (cn K1 (L.take (k + 1)) id = c + if (L.getD k tz).a = id then 1 else 0) := by
        rw [take_one' L tz (by have := HN.out; omega)]
        exact (cn_snoc K1 (L.take k) (L.getD k tz) id).trans (by rw [hc.out]; rfl)
      generalize (L.getD k tz).a = xa at *
      clear c1 c2 hbl hc
      by_cases q : xa = id
      · have s2 : Hid (c + 1 = cn K1 (L.take (k + 1)) id) := by rw [s.out, if_pos q]; exact rfl
        clear s
        subst q
        go_wp2
        go_roundw
        case rel => exact ⟨k + 1, c + 1, by omega, by omega, by trivial, s2, by go_num, by go_num⟩
        case measure => simp [intOf]; omega
      · have s2 : Hid (c = cn K1 (L.take (k + 1)) id) := by rw [s.out, if_neg q]; exact rfl
        have q2 := dn q
        clear s
        go_wp2
        go_roundw
        case rel => exact ⟨k + 1, c, by omega, by omega, by trivial, s2, by go_num, by go_num⟩
        case measure => simp [intOf]; omega
    · have e2 : k = l := by omega
      subst e2
      have e3 : c = R := by rw [hc.out, HE.out, HA.out]
      subst e3
      clear hc
      go_wp2
      go_ret
      exact ⟨rfl, rfl⟩

set_option maxRecDepth 100000 in
set_option maxHeartbeats 2000000 in
theorem ronce_any (L : List Tr) (v : Value) (w : World) (h : LRow tr w v L) (hl : (L.length : Int) ≤ 1000) :
    Calls Tryz.prog 26 #[v] w fun e w' => e = .returned (.bool (onc2 L)) ∧ w' = w := by
  obtain ⟨a, cap, rfl⟩ := h.shape
  have HR : Hid (LRow tr w (.slice a L.length cap) L) := h
  have HE : Hid (L.take L.length = L) := List.take_of_length_le (Nat.le_refl _)
  have CM : Hid (∀ id, _) := fun id => rmany_any L (.slice a L.length cap) id w h hl
  obtain ⟨l, hl2⟩ : ∃ l, L.length = l := ⟨_, rfl⟩
  have HN : Hid (L.length = l) := hl2
  obtain ⟨R, hR⟩ : ∃ R, onc2 L = R := ⟨_, rfl⟩
  have HA : Hid (onc2 L = R) := hR
  rw [hl2] at hl HR HE CM ⊢
  rw [hR]
  clear h hl2 hR
  go_enter Tryz.func26, Tryz.ntmps26
  go_wp2
  go_loopw [3] (fun i wr => ∃ (k : Nat), (k : Int) ≤ l ∧ wr = w ∧ Hid ((L.take k).all (fun x => decide (cn K1 L x.a = 1)) = true) ∧ i = .int .i64 (k : Int)) (fun i _ => l - (intOf i).toNat)
  case atStart => exact ⟨0, by omega, rfl, rfl, rfl⟩
  case round =>
    obtain ⟨k, hk, rfl, hc, rfl⟩ := hrel
    by_cases e : (k : Int) < l
    · obtain ⟨b, off, rfl, hbl, c0, c1, c2⟩ := trow_at HR.out (k := k) (by have := HN.out; omega)
      have hmem : L.getD k tz ∈ L := by
        rw [List.getD_eq_getElem?_getD, List.getElem?_eq_getElem (by have := HN.out; omega)]
        exact List.getElem_mem _
      have s : Hid (cn K1 L (L.getD k tz).a = 1 → (L.take (k + 1)).all (fun x => decide (cn K1 L x.a = 1)) = true) := fun q => by
        rw [take_one' L tz (by have := HN.out; omega), List.all_append, hc.out]
        simpa using q
      have no : Hid (¬ cn K1 L (L.getD k tz).a = 1 → R = false) := fun q => by
        rw [← HA.out]
        exact List.all_eq_false.2 ⟨_, hmem, by simpa using q⟩
      have C : Hid (∀ _ : Unit, _) := fun _ => CM.out (L.getD k tz).a
      clear c1 c2 hbl hc hmem
      generalize (L.getD k tz).a = xa at *
      generalize cn K1 L xa = c at *
      by_cases q : (c : Int) = 1
      · have q2 : c = 1 := by omega
        have s2 := s.out q2
        subst q2
        clear no s
        have S2 : Hid (_ = true) := s2
        clear s2
        go_wp2_with fail
        refine (C.out ()).mono ?_
        rintro e w1 ⟨rfl, rfl⟩
        go_wp2
        go_roundw
        case rel => exact ⟨k + 1, by omega, by trivial, S2.out, by go_num⟩
        case measure => simp [intOf]; omega
      · have r0 := no.out (by omega)
        subst r0
        have q2 : ((c : Int) != 1) = true := by simpa using q
        clear no s
        go_wp2_with fail
        refine (C.out ()).mono ?_
        rintro e w1 ⟨rfl, rfl⟩
        go_wp2
        go_ret
        exact ⟨rfl, rfl⟩
    · have e2 : k = l := by omega
      subst e2
      have e3 : R = true := by rw [← HA.out]; have q := hc.out; rw [HE.out] at q; exact q
      subst e3
      clear hc
      go_wp2
      go_ret
      exact ⟨rfl, rfl⟩

set_option maxRecDepth 100000 in
set_option maxHeartbeats 2000000 in
theorem rthread_any (p : Pic) (v4 v5 v6 v7 v8 v9 v10 : Value) (id : Int) (w : World) (h : LRow tr w v4 p.th) (hl : (p.th.length : Int) ≤ 1000) :
    Calls Tryz.prog 87 #[.agg #[.int .i64 p.cp, .int .u64 (p.on : Int), .int .u64 (p.ac : Int), .int .u64 (p.pw : Int), v4, v5, v6, v7, v8, v9, v10, .bool p.bu, .bool p.up, .int .i64 p.cc, .int .i64 p.by'], .int .i64 id] w fun e w' => (∃ z : Int, e = .returned (.int .i64 z) ∧ decide (z < 0) = !decide (0 < cn K1 p.th id)) ∧ Below w.heap.size w w' := by
  have b0 : Below w.heap.size w (w.alloc (.cells #[.int .i64 p.cp, .int .u64 (p.on : Int), .int .u64 (p.ac : Int), .int .u64 (p.pw : Int), v4, v5, v6, v7, v8, v9, v10, .bool p.bu, .bool p.up, .int .i64 p.cc, .int .i64 p.by'] 26)) := (Below.refl _ _).alloc (Nat.le_refl _) _
  have HB0 : Hid (Below w.heap.size w (w.alloc (.cells #[.int .i64 p.cp, .int .u64 (p.on : Int), .int .u64 (p.ac : Int), .int .u64 (p.pw : Int), v4, v5, v6, v7, v8, v9, v10, .bool p.bu, .bool p.up, .int .i64 p.cc, .int .i64 p.by'] 26))) := b0
  have HK0 : Hid (Blk (w.alloc (.cells #[.int .i64 p.cp, .int .u64 (p.on : Int), .int .u64 (p.ac : Int), .int .u64 (p.pw : Int), v4, v5, v6, v7, v8, v9, v10, .bool p.bu, .bool p.up, .int .i64 p.cc, .int .i64 p.by'] 26)) w.heap.size [.int .i64 p.cp, .int .u64 (p.on : Int), .int .u64 (p.ac : Int), .int .u64 (p.pw : Int), v4, v5, v6, v7, v8, v9, v10, .bool p.bu, .bool p.up, .int .i64 p.cc, .int .i64 p.by'] 26) := Blk.new w _ _
  obtain ⟨a, cap, rfl⟩ := h.shape
  have HR : Hid (LRow tr w (.slice a p.th.length cap) p.th) := h
  have HE : Hid (p.th.take p.th.length = p.th) := List.take_of_length_le (Nat.le_refl _)
  obtain ⟨l, hl2⟩ : ∃ l, p.th.length = l := ⟨_, rfl⟩
  have HN : Hid (p.th.length = l) := hl2
  rw [hl2] at hl HR HE HB0 HK0 ⊢
  clear h hl2 b0
  go_enter Tryz.func87, Tryz.ntmps87
  go_wp2
  go_loopw [5] (fun i wr => ∃ (k : Nat), (k : Int) ≤ l ∧ wr = _ ∧ Hid (cn K1 (p.th.take k) id = 0) ∧ i = .int .i64 (k : Int)) (fun i _ => l - (intOf i).toNat)
  case atStart => exact ⟨0, by omega, rfl, rfl, rfl⟩
  case round =>
    obtain ⟨k, hk, rfl, hc, rfl⟩ := hrel
    by_cases e : (k : Int) < l
    · obtain ⟨b, off, rfl, hbl, c0, c1, c2⟩ := trow_at (HR.out.below HB0.out) (k := k) (by have := HN.out; omega)
      have s : Hid (cn K1 (p.th.take (k + 1)) id = if (p.th.getD k tz).a = id then 1 else 0) := by
        rw [take_one' p.th tz (by have := HN.out; omega)]
        exact (cn_snoc K1 (p.th.take k) (p.th.getD k tz) id).trans (by rw [hc.out, Nat.zero_add]; rfl)
      have hmem : Hid (p.th.getD k tz ∈ p.th) := by
        show p.th.getD k tz ∈ p.th
        rw [List.getD_eq_getElem?_getD, List.getElem?_eq_getElem (by have := HN.out; omega)]
        exact List.getElem_mem _
      have y : Hid ((p.th.getD k tz).a = id → 0 < cn K1 p.th id) := fun q => (cn_pos K1 p.th id).2 ⟨_, hmem.out, q⟩
      clear c1 c2 hbl hc hmem
      generalize (p.th.getD k tz).a = xa at *
      by_cases q : xa = id
      · have z := y.out q
        have Z : Hid (0 < cn K1 p.th id) := z
        clear s z y
        subst q
        go_wp2
        go_ret
        exact ⟨⟨_, rfl, by rw [decide_eq_true Z.out]; exact decide_eq_false (by omega)⟩, HB0.out⟩
      · have s2 : Hid (cn K1 (p.th.take (k + 1)) id = 0) := by rw [s.out, if_neg q]; exact rfl
        have q2 := dn q
        clear s y
        go_wp2
        go_roundw
        case rel => exact ⟨k + 1, by omega, by trivial, s2, by go_num⟩
        case measure => simp [intOf]; omega
    · have e2 : k = l := by omega
      subst e2
      have Z : Hid (cn K1 p.th id = 0) := by have := hc.out; rw [HE.out] at this; exact this
      clear hc
      go_wp2
      go_ret
      exact ⟨⟨_, rfl, by rw [Z.out]; rfl⟩, HB0.out⟩

/-- Whether a place may be, as the document asks it. -/
def rmay (p : Pic) (free : Bool) (x : Tr) : Bool := (free && decide (x.b = -1)) || may p x.b
theorem may_def (p : Pic) (c : Int) : may p c = (tb p.ac c || (p.bu && (!p.up && decide (p.cc = c)))) := rfl
set_option maxRecDepth 100000 in
set_option maxHeartbeats 8000000 in
theorem rright_any (p : Pic) (v4 v5 v6 v7 v8 v9 v10 : Value) (L : List Tr) (v : Value) (free : Bool) (w : World) (h : LRow tr w v L) (hac : p.ac < 18446744073709551616) (hl : (L.length : Int) ≤ 1000) :
    Calls Tryz.prog 24 #[.agg #[.int .i64 p.cp, .int .u64 (p.on : Int), .int .u64 (p.ac : Int), .int .u64 (p.pw : Int), v4, v5, v6, v7, v8, v9, v10, .bool p.bu, .bool p.up, .int .i64 p.cc, .int .i64 p.by'], v, .bool free] w fun e w' => e = .returned (.bool (L.all (rmay p free))) ∧ Below w.heap.size w w' := by
  have b0 : Below w.heap.size w (w.alloc (.cells #[.int .i64 p.cp, .int .u64 (p.on : Int), .int .u64 (p.ac : Int), .int .u64 (p.pw : Int), v4, v5, v6, v7, v8, v9, v10, .bool p.bu, .bool p.up, .int .i64 p.cc, .int .i64 p.by'] 26)) := (Below.refl _ _).alloc (Nat.le_refl _) _
  have HB0 : Hid (Below w.heap.size w (w.alloc (.cells #[.int .i64 p.cp, .int .u64 (p.on : Int), .int .u64 (p.ac : Int), .int .u64 (p.pw : Int), v4, v5, v6, v7, v8, v9, v10, .bool p.bu, .bool p.up, .int .i64 p.cc, .int .i64 p.by'] 26))) := b0
  have HK0 : Hid (Blk (w.alloc (.cells #[.int .i64 p.cp, .int .u64 (p.on : Int), .int .u64 (p.ac : Int), .int .u64 (p.pw : Int), v4, v5, v6, v7, v8, v9, v10, .bool p.bu, .bool p.up, .int .i64 p.cc, .int .i64 p.by'] 26)) w.heap.size [.int .i64 p.cp, .int .u64 (p.on : Int), .int .u64 (p.ac : Int), .int .u64 (p.pw : Int), v4, v5, v6, v7, v8, v9, v10, .bool p.bu, .bool p.up, .int .i64 p.cc, .int .i64 p.by'] 26) := Blk.new w _ _
  obtain ⟨a, cap, rfl⟩ := h.shape
  have HR : Hid (LRow tr w (.slice a L.length cap) L) := h
  have HE : Hid (L.take L.length = L) := List.take_of_length_le (Nat.le_refl _)
  obtain ⟨l, hl2⟩ : ∃ l, L.length = l := ⟨_, rfl⟩
  have HN : Hid (L.length = l) := hl2
  obtain ⟨R, hR⟩ : ∃ R, L.all (rmay p free) = R := ⟨_, rfl⟩
  have HA : Hid (L.all (rmay p free) = R) := hR
  have CH : Hid (∀ c v, _) := fun c v => krefhas_any p.ac c v hac
  have HP : Hid (∀ x, rmay p free x = ((free && decide (x.b = -1)) || (tb p.ac x.b || (p.bu && (!p.up && decide (p.cc = x.b)))))) := fun x => rfl
  rw [hl2] at hl HR HE ⊢
  rw [hR]
  clear h hl2 b0 hR hac
  obtain ⟨pr, hpr⟩ : ∃ f, rmay p free = f := ⟨_, rfl⟩
  rw [hpr] at HA HP
  clear hpr
  obtain ⟨cp, on, ac, pw, th, qu, ti, ir, wo, ca, ke, bu, up, cc, by'⟩ := p
  dsimp only at *
  go_enter Tryz.func24, Tryz.ntmps24
  go_wp2
  go_loopw [7] (fun i wr => ∃ (k : Nat), (k : Int) ≤ l ∧ wr = _ ∧ Hid ((L.take k).all pr = true) ∧ i = .int .i64 (k : Int)) (fun i _ => l - (intOf i).toNat)
  case atStart => exact ⟨0, by omega, rfl, rfl, rfl⟩
  case round =>
    obtain ⟨k, hk, rfl, hc, rfl⟩ := hrel
    by_cases e : (k : Int) < l
    · obtain ⟨b, off, rfl, hbl, c0, c1, c2⟩ := trow_at (HR.out.below HB0.out) (k := k) (by have := HN.out; omega)
      have hmem : L.getD k tz ∈ L := by
        rw [List.getD_eq_getElem?_getD, List.getElem?_eq_getElem (by have := HN.out; omega)]
        exact List.getElem_mem _
      have s : Hid (pr (L.getD k tz) = true → (L.take (k + 1)).all pr = true) := fun q => by
        rw [take_one' L tz (by have := HN.out; omega), List.all_append, hc.out]
        simpa using q
      have no : Hid (pr (L.getD k tz) = false → R = false) := fun q => by
        rw [← HA.out]
        exact List.all_eq_false.2 ⟨_, hmem, by simpa using q⟩
      have D := HP.out (L.getD k tz)
      have C : Hid (∀ v, _) := fun v => CH.out (L.getD k tz).b v
      clear c0 c2 hbl hc hmem
      generalize pr (L.getD k tz) = t at *
      generalize (L.getD k tz).b = xb at *
      generalize tb ac xb = tt at *
      by_cases q1 : xb = -1 ∧ free = true
      · obtain ⟨q1, q2⟩ := q1
        subst q1 q2
        have S2 : Hid ((L.take (k + 1)).all pr = true) := s.out (by rw [D]; rfl)
        clear s no D
        go_wp2
        go_roundw
        case rel => exact ⟨k + 1, by omega, by trivial, S2.out, by go_num⟩
        case measure => simp [intOf]; omega
      · have D0 : (free && decide (xb = -1)) = false := by
          cases free
          · rfl
          · exact decide_eq_false fun e => q1 ⟨e, rfl⟩
        rw [D0, Bool.false_or] at D
        have F0 : free = false ∨ (free = true ∧ (xb == -1) = false) := by
          cases free
          · exact Or.inl rfl
          · exact Or.inr ⟨rfl, D0⟩
        clear q1 D0
        have END : ∀ r : Bool, t = r → (r = true → Hid ((L.take (k + 1)).all pr = true)) ∧ (r = false → Hid (R = false)) := fun r e => ⟨fun q => s.out (e.trans q), fun q => no.out (e.trans q)⟩
        have END2 : Hid (∀ r : Bool, t = r → _) := END
        clear END s no
        rcases F0 with rfl | ⟨rfl, f0⟩
        · skip
          cases tt
          · cases bu
            · skip
              have T := (END2.out false (D.trans (by simp))).2 rfl
              have r0 := T.out
              subst r0
              clear D END2
              go_wp2_with fail
              refine (C.out _).mono ?_
              rintro e w1 ⟨rfl, rfl⟩
              go_wp2
              go_ret
              exact ⟨rfl, HB0.out⟩
            · cases up
              · by_cases q3 : cc = xb
                · subst q3
                  have T := (END2.out true (D.trans (by simp))).1 rfl
                  clear D END2
                  go_wp2_with fail
                  refine (C.out _).mono ?_
                  rintro e w1 ⟨rfl, rfl⟩
                  go_wp2
                  go_roundw
                  case rel => exact ⟨k + 1, by omega, by trivial, T.out, by go_num⟩
                  case measure => simp [intOf]; omega
                · have q4 := dn q3
                  have q5 : (cc == xb) = false := q4
                  have T := (END2.out false (D.trans (by simp [q4]))).2 rfl
                  have r0 := T.out
                  subst r0
                  clear D END2
                  go_wp2_with fail
                  refine (C.out _).mono ?_
                  rintro e w1 ⟨rfl, rfl⟩
                  go_wp2
                  go_ret
                  exact ⟨rfl, HB0.out⟩
              · skip
                have T := (END2.out false (D.trans (by simp))).2 rfl
                have r0 := T.out
                subst r0
                clear D END2
                go_wp2_with fail
                refine (C.out _).mono ?_
                rintro e w1 ⟨rfl, rfl⟩
                go_wp2
                go_ret
                exact ⟨rfl, HB0.out⟩
          · skip
            have T := (END2.out true (D.trans (by simp))).1 rfl
            clear D END2
            go_wp2_with fail
            refine (C.out _).mono ?_
            rintro e w1 ⟨rfl, rfl⟩
            go_wp2
            go_roundw
            case rel => exact ⟨k + 1, by omega, by trivial, T.out, by go_num⟩
            case measure => simp [intOf]; omega
        · skip
          cases tt
          · cases bu
            · skip
              have T := (END2.out false (D.trans (by simp))).2 rfl
              have r0 := T.out
              subst r0
              clear D END2
              go_wp2_with fail
              refine (C.out _).mono ?_
              rintro e w1 ⟨rfl, rfl⟩
              go_wp2
              go_ret
              exact ⟨rfl, HB0.out⟩
            · cases up
              · by_cases q3 : cc = xb
                · subst q3
                  have T := (END2.out true (D.trans (by simp))).1 rfl
                  clear D END2
                  go_wp2_with fail
                  refine (C.out _).mono ?_
                  rintro e w1 ⟨rfl, rfl⟩
                  go_wp2
                  go_roundw
                  case rel => exact ⟨k + 1, by omega, by trivial, T.out, by go_num⟩
                  case measure => simp [intOf]; omega
                · have q4 := dn q3
                  have q5 : (cc == xb) = false := q4
                  have T := (END2.out false (D.trans (by simp [q4]))).2 rfl
                  have r0 := T.out
                  subst r0
                  clear D END2
                  go_wp2_with fail
                  refine (C.out _).mono ?_
                  rintro e w1 ⟨rfl, rfl⟩
                  go_wp2
                  go_ret
                  exact ⟨rfl, HB0.out⟩
              · skip
                have T := (END2.out false (D.trans (by simp))).2 rfl
                have r0 := T.out
                subst r0
                clear D END2
                go_wp2_with fail
                refine (C.out _).mono ?_
                rintro e w1 ⟨rfl, rfl⟩
                go_wp2
                go_ret
                exact ⟨rfl, HB0.out⟩
          · skip
            have T := (END2.out true (D.trans (by simp))).1 rfl
            clear D END2
            go_wp2_with fail
            refine (C.out _).mono ?_
            rintro e w1 ⟨rfl, rfl⟩
            go_wp2
            go_roundw
            case rel => exact ⟨k + 1, by omega, by trivial, T.out, by go_num⟩
            case measure => simp [intOf]; omega
    · have e2 : k = l := by omega
      subst e2
      have e3 : R = true := by rw [← HA.out]; have q := hc.out; rw [HE.out] at q; exact q
      subst e3
      clear hc
      go_wp2
      go_ret
      exact ⟨rfl, HB0.out⟩

end Go.Proofs.YtfdmcbcomknebaaGreatDoor.Aud
