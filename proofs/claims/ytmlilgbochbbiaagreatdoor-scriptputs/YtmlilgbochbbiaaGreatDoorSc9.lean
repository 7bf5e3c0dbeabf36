/- Scripts as bytes: scripts that are not alike; a script as the program has it. -/
import Derived.Test.YtmlilgbochbbiaaGreatDoorSc4
import Derived.BigQuiet
namespace Go.Proofs.YtmlilgbochbbiaaGreatDoor.Scr
open Go.ChangeShapes Go.WideShapes Go.ChangeAt Go.RowKit
open Wir Wi0
set_option linter.unusedVariables false
set_option linter.unusedSimpArgs false
set_option maxRecDepth 100000

theorem ev_ne {x y : Ev} (h : x ≠ y) : x.kind ≠ y.kind ∨ (x.kind = y.kind ∧ x.cpu ≠ y.cpu) ∨ (x.kind = y.kind ∧ x.cpu = y.cpu ∧ x.id ≠ y.id) ∨ (x.kind = y.kind ∧ x.cpu = y.cpu ∧ x.id = y.id ∧ x.mask ≠ y.mask) ∨ (x.kind = y.kind ∧ x.cpu = y.cpu ∧ x.id = y.id ∧ x.mask = y.mask ∧ x.n ≠ y.n) := by
  obtain ⟨a1, a2, a3, a4, a5⟩ := x
  obtain ⟨b1, b2, b3, b4, b5⟩ := y
  simp only [ne_eq, Ev.mk.injEq] at h ⊢
  by_cases h1 : a1 = b1 <;> by_cases h2 : a2 = b2 <;> by_cases h3 : a3 = b3 <;> by_cases h4 : a4 = b4 <;> by_cases h5 : a5 = b5 <;> simp_all
theorem take_eq {Y Z : List Ev} {k : Nat} (h : Y.take k = Z.take k) (h1 : k < Y.length) (h2 : k < Z.length) (he : Y.getD k z5 = Z.getD k z5) : Y.take (k + 1) = Z.take (k + 1) := by
  rw [List.take_add_one, List.take_add_one, h]
  rw [List.getD_eq_getElem?_getD, List.getD_eq_getElem?_getD, List.getElem?_eq_getElem h1, List.getElem?_eq_getElem h2] at he
  rw [List.getElem?_eq_getElem h1, List.getElem?_eq_getElem h2]
  simp only [Option.getD_some] at he
  rw [he]

set_option maxHeartbeats 4000000 in
theorem equal_no (Y Z : List Ev) (u v : Value) (w : World) (hl : (Y.length : Int) ≤ 1000) (hu : LRow evy w u Y) (hv : LRow evy w v Z) (hne : Y ≠ Z) :
    Calls Tryz.prog 22 #[u, v] w fun e w' => e = .returned (.bool false) ∧ Sm w' w := by
  obtain ⟨a, cap, rfl⟩ := hu.shape
  obtain ⟨a2, cap2, rfl⟩ := hv.shape
  by_cases hlen : Y.length = Z.length
  · have HU : Hid (LRow evy w (.slice a Y.length cap) Y) := hu
    have HV : Hid (LRow evy w (.slice a2 Z.length cap2) Z) := hv
    obtain ⟨n, hn⟩ : ∃ n, Y.length = n := ⟨_, rfl⟩
    have hn2 : Z.length = n := by omega
    have HN : Hid (Y.length = n) := hn
    have HN2 : Hid (Z.length = n) := hn2
    have HNE : Hid (Y ≠ Z) := hne
    rw [hn] at hl HU ⊢
    rw [hn2] at HV ⊢
    clear hu hv hn hn2 hlen hne
    go_enter Tryz.func22, Tryz.ntmps22
    go_wp2
    go_loopw [13] (fun i wr => ∃ k q : Nat, (k : Int) ≤ n ∧ wr = w.drewN q ∧ i = .int .i64 k ∧ Hid (Y.take k = Z.take k)) (fun i _ => n - (intOf i).toNat)
    case atStart => exact ⟨0, 0, by omega, rfl, rfl, rfl⟩
    case round =>
      obtain ⟨k, q, hk, rfl, rfl, hT⟩ := hrel
      by_cases h : (k : Int) < n
      · obtain ⟨b, off, rfl, c0, c1, c2, c3, c4⟩ := ev_cell HU.out (k := k) (by have := HN.out; omega)
        obtain ⟨b2, off2, rfl, d0, d1, d2, d3, d4⟩ := ev_cell HV.out (k := k) (by have := HN2.out; omega)
        have TE : Hid (Y.getD k z5 = Z.getD k z5 → Y.take (k + 1) = Z.take (k + 1)) := fun e => take_eq hT.out (by have := HN.out; omega) (by have := HN2.out; omega) e
        generalize Y.getD k z5 = x at *
        generalize Z.getD k z5 = y at *
        by_cases hxy : x = y
        · subst hxy
          have T2 : Hid (Y.take (k + 1) = Z.take (k + 1)) := TE.out rfl
          clear TE
          go_wp2
          go_quiet (fail)
          go_wp2
          go_roundw
          case rel => exact ⟨k + 1, _, by omega, rfl, by go_num, T2⟩
          case measure => simp [intOf]; omega
        · rcases ev_ne hxy with q | ⟨p0, q⟩ | ⟨p0, p1, q⟩ | ⟨p0, p1, p2, q⟩ | ⟨p0, p1, p2, p3, q⟩
          all_goals clear hxy TE hT
          · have q' : (x.kind == y.kind) = false := beq_eq_false_iff_ne.2 q
            go_wp2
            go_quiet (fail)
            go_wp2
            go_ret
            exact ⟨rfl, rfl, rfl, rfl, rfl⟩
          · have p0' : (x.kind == y.kind) = true := by rw [p0]; exact beq_self_eq_true _
            have q' : (x.cpu == y.cpu) = false := beq_eq_false_iff_ne.2 q
            go_wp2
            go_quiet (fail)
            go_wp2
            go_ret
            exact ⟨rfl, rfl, rfl, rfl, rfl⟩
          · have p0' : (x.kind == y.kind) = true := by rw [p0]; exact beq_self_eq_true _
            have p1' : (x.cpu == y.cpu) = true := by rw [p1]; exact beq_self_eq_true _
            have q' : (x.id == y.id) = false := beq_eq_false_iff_ne.2 q
            go_wp2
            go_quiet (fail)
            go_wp2
            go_ret
            exact ⟨rfl, rfl, rfl, rfl, rfl⟩
          · have p0' : (x.kind == y.kind) = true := by rw [p0]; exact beq_self_eq_true _
            have p1' : (x.cpu == y.cpu) = true := by rw [p1]; exact beq_self_eq_true _
            have p2' : (x.id == y.id) = true := by rw [p2]; exact beq_self_eq_true _
            have q' : (x.mask == y.mask) = false := beq_eq_false_iff_ne.2 q
            go_wp2
            go_quiet (fail)
            go_wp2
            go_ret
            exact ⟨rfl, rfl, rfl, rfl, rfl⟩
          · have p0' : (x.kind == y.kind) = true := by rw [p0]; exact beq_self_eq_true _
            have p1' : (x.cpu == y.cpu) = true := by rw [p1]; exact beq_self_eq_true _
            have p2' : (x.id == y.id) = true := by rw [p2]; exact beq_self_eq_true _
            have p3' : (x.mask == y.mask) = true := by rw [p3]; exact beq_self_eq_true _
            have q' : (x.n == y.n) = false := beq_eq_false_iff_ne.2 q
            go_wp2
            go_quiet (fail)
            go_wp2
            go_ret
            exact ⟨rfl, rfl, rfl, rfl, rfl⟩
      · exfalso
        have h1 := hT.out
        obtain rfl : k = n := by omega
        have e1 : Y.take k = Y := by rw [← HN.out]; exact List.take_length
        have e2 : Z.take k = Z := by rw [← HN2.out]; exact List.take_length
        rw [e1, e2] at h1
        exact HNE.out h1
  · have h1 : ((Y.length : Int) == (Z.length : Int)) = false := by rw [beq_eq_false_iff_ne]; omega
    have h2 : ((Y.length : Int) != (Z.length : Int)) = true := by simp; omega
    have h3 : ¬ (Y.length : Int) = (Z.length : Int) := by omega
    clear hu hv hlen hne
    go_enter Tryz.func22, Tryz.ntmps22
    go_wp2
    go_ret
    exact ⟨rfl, rfl, rfl, rfl, rfl⟩

set_option maxHeartbeats 4000000 in
theorem rsame_no (Y Z : List Ev) (u v : Value) (w : World) (hl : (Y.length : Int) ≤ 1000) (hu : LRow evy w u Y) (hv : LRow evy w v Z) (hne : Y ≠ Z) :
    Calls Tryz.prog 23 #[u, v] w fun e w' => e = .returned (.bool false) ∧ Sm w' w := by
  obtain ⟨a, cap, rfl⟩ := hu.shape
  obtain ⟨a2, cap2, rfl⟩ := hv.shape
  by_cases hlen : Y.length = Z.length
  · have HU : Hid (LRow evy w (.slice a Y.length cap) Y) := hu
    have HV : Hid (LRow evy w (.slice a2 Z.length cap2) Z) := hv
    obtain ⟨n, hn⟩ : ∃ n, Y.length = n := ⟨_, rfl⟩
    have hn2 : Z.length = n := by omega
    have HN : Hid (Y.length = n) := hn
    have HN2 : Hid (Z.length = n) := hn2
    have HNE : Hid (Y ≠ Z) := hne
    rw [hn] at hl HU ⊢
    rw [hn2] at HV ⊢
    clear hu hv hn hn2 hlen hne
    go_enter Tryz.func23, Tryz.ntmps23
    go_wp2
    go_loopw [5] (fun i wr => ∃ k q : Nat, (k : Int) ≤ n ∧ wr = w.drewN q ∧ i = .int .i64 k ∧ Hid (Y.take k = Z.take k)) (fun i _ => n - (intOf i).toNat)
    case atStart => exact ⟨0, 0, by omega, rfl, rfl, rfl⟩
    case round =>
      obtain ⟨k, q, hk, rfl, rfl, hT⟩ := hrel
      by_cases h : (k : Int) < n
      · obtain ⟨b, off, rfl, c0, c1, c2, c3, c4⟩ := ev_cell HU.out (k := k) (by have := HN.out; omega)
        obtain ⟨b2, off2, rfl, d0, d1, d2, d3, d4⟩ := ev_cell HV.out (k := k) (by have := HN2.out; omega)
        have TE : Hid (Y.getD k z5 = Z.getD k z5 → Y.take (k + 1) = Z.take (k + 1)) := fun e => take_eq hT.out (by have := HN.out; omega) (by have := HN2.out; omega) e
        generalize Y.getD k z5 = x at *
        generalize Z.getD k z5 = y at *
        by_cases hxy : x = y
        · subst hxy
          have T2 : Hid (Y.take (k + 1) = Z.take (k + 1)) := TE.out rfl
          clear TE
          go_wp2
          go_quiet (fail)
          go_wp2
          go_roundw
          case rel => exact ⟨k + 1, _, by omega, rfl, by go_num, T2⟩
          case measure => simp [intOf]; omega
        · rcases ev_ne hxy with q | ⟨p0, q⟩ | ⟨p0, p1, q⟩ | ⟨p0, p1, p2, q⟩ | ⟨p0, p1, p2, p3, q⟩
          all_goals clear hxy TE hT
          · have q' : (x.kind == y.kind) = false := beq_eq_false_iff_ne.2 q
            go_wp2
            go_quiet (fail)
            go_wp2
            go_ret
            exact ⟨rfl, rfl, rfl, rfl, rfl⟩
          · have p0' : (x.kind == y.kind) = true := by rw [p0]; exact beq_self_eq_true _
            have q' : (x.cpu == y.cpu) = false := beq_eq_false_iff_ne.2 q
            go_wp2
            go_quiet (fail)
            go_wp2
            go_ret
            exact ⟨rfl, rfl, rfl, rfl, rfl⟩
          · have p0' : (x.kind == y.kind) = true := by rw [p0]; exact beq_self_eq_true _
            have p1' : (x.cpu == y.cpu) = true := by rw [p1]; exact beq_self_eq_true _
            have q' : (x.id == y.id) = false := beq_eq_false_iff_ne.2 q
            go_wp2
            go_quiet (fail)
            go_wp2
            go_ret
            exact ⟨rfl, rfl, rfl, rfl, rfl⟩
          · have p0' : (x.kind == y.kind) = true := by rw [p0]; exact beq_self_eq_true _
            have p1' : (x.cpu == y.cpu) = true := by rw [p1]; exact beq_self_eq_true _
            have p2' : (x.id == y.id) = true := by rw [p2]; exact beq_self_eq_true _
            have q' : (x.mask == y.mask) = false := beq_eq_false_iff_ne.2 q
            go_wp2
            go_quiet (fail)
            go_wp2
            go_ret
            exact ⟨rfl, rfl, rfl, rfl, rfl⟩
          · have p0' : (x.kind == y.kind) = true := by rw [p0]; exact beq_self_eq_true _
            have p1' : (x.cpu == y.cpu) = true := by rw [p1]; exact beq_self_eq_true _
            have p2' : (x.id == y.id) = true := by rw [p2]; exact beq_self_eq_true _
            have p3' : (x.mask == y.mask) = true := by rw [p3]; exact beq_self_eq_true _
            have q' : (x.n == y.n) = false := beq_eq_false_iff_ne.2 q
            go_wp2
            go_quiet (fail)
            go_wp2
            go_ret
            exact ⟨rfl, rfl, rfl, rfl, rfl⟩
      · exfalso
        have h1 := hT.out
        obtain rfl : k = n := by omega
        have e1 : Y.take k = Y := by rw [← HN.out]; exact List.take_length
        have e2 : Z.take k = Z := by rw [← HN2.out]; exact List.take_length
        rw [e1, e2] at h1
        exact HNE.out h1
  · have h1 : ((Y.length : Int) == (Z.length : Int)) = false := by rw [beq_eq_false_iff_ne]; omega
    have h2 : ((Y.length : Int) != (Z.length : Int)) = true := by simp; omega
    have h3 : ¬ (Y.length : Int) = (Z.length : Int) := by omega
    clear hu hv hlen hne
    go_enter Tryz.func23, Tryz.ntmps23
    go_wp2
    go_ret
    exact ⟨rfl, rfl, rfl, rfl, rfl⟩
end Go.Proofs.YtmlilgbochbbiaaGreatDoor.Scr
