/- The texts Fm Fx Fa Fb Fc of one layer, laid together. -/
import Derived.Test.YtfdmcbcomknebaaGreatDoorRows
import Derived.Test.YtfdmcbcomknebaaGreatDoorXa
import Derived.WalkKit
import Derived.ProofKit
import Derived.OpenShut
import Derived.BigQuiet
import Derived.Deep.RegionHeld3
import Derived.Deep.OwnRows
import Derived.Laws.CopyOwn
namespace Go.Proofs.YtfdmcbcomknebaaGreatDoor.Fm
/-- Where in a ring of m the one stands that has k ahead of it. -/
def pl (m f k : Nat) : Nat := if f + k < m then f + k else f + k - m
/-- How many are ahead of n; -1, if it is not there. -/
def ix (L : List Int) (n : Int) : Int := if n ∈ L then (L.idxOf n : Nat) else -1
theorem getD_of (L : List Int) (k : Nat) (h : k < L.length) : L.getD k 0 = L[k] := by simp [List.getD, h]
theorem ext_getD (A B : List Int) (hl : A.length = B.length) (h : ∀ i, i < A.length → A.getD i 0 = B.getD i 0) : A = B := by
  apply List.ext_getElem hl
  intro i h1 h2
  have := h i h1
  rwa [getD_of A i h1, getD_of B i h2] at this
theorem getD_app_left (A B : List Int) (j : Nat) (h : j < A.length) : (A ++ B).getD j 0 = A.getD j 0 := by
  simp [List.getD, List.getElem?_append_left h]
theorem getD_app_right (A B : List Int) (j : Nat) (h : A.length ≤ j) : (A ++ B).getD j 0 = B.getD (j - A.length) 0 := by
  simp [List.getD, List.getElem?_append_right h]
/-- The list L stands in the ring r of m, from f on. -/
structure Rg (m f : Nat) (r L : List Int) : Prop where
  len : r.length = m
  m1 : 1 ≤ m
  m2 : m ≤ 1024
  hf : f < m
  hc : L.length ≤ m
  at' : ∀ k, k < L.length → r.getD (pl m f k) 0 = L.getD k 0
theorem rg_new (m : Nat) (h1 : 1 ≤ m) (h2 : m ≤ 1024) : Rg m 0 (List.replicate m 0) [] :=
  ⟨by simp, h1, h2, by omega, by simp, fun k hk => by simp at hk⟩
theorem rg_one {m f : Nat} {r L : List Int} (h : Rg m f r L) (hc : f + L.length ≤ m) : (r.drop f).take L.length = L := by
  have hl : ((r.drop f).take L.length).length = L.length := by simp [h.len]; omega
  apply ext_getD _ _ hl
  intro i hi
  rw [hl] at hi
  rw [← h.at' i hi]
  simp only [List.getD, List.getElem?_take, if_pos hi, List.getElem?_drop]
  rw [show pl m f i = f + i from if_pos (by omega)]
theorem rg_two {m f : Nat} {r L : List Int} (h : Rg m f r L) (hc : m < f + L.length) : (r.drop f).take (m - f) ++ (r.drop 0).take (f + L.length - m) = L := by
  have hm := h.hf
  have hh := h.hc
  have l1 : ((r.drop f).take (m - f)).length = m - f := by simp [h.len]
  have l2 : ((r.drop 0).take (f + L.length - m)).length = f + L.length - m := by simp [h.len]; omega
  have hl : ((r.drop f).take (m - f) ++ (r.drop 0).take (f + L.length - m)).length = L.length := by rw [List.length_append, l1, l2]; omega
  apply ext_getD _ _ hl
  intro i hi
  rw [hl] at hi
  rw [← h.at' i hi]
  by_cases c : i < m - f
  · rw [getD_app_left _ _ _ (by rw [l1]; exact c)]
    simp only [List.getD, List.getElem?_take, if_pos c, List.getElem?_drop]
    rw [show pl m f i = f + i from if_pos (by omega)]
  · rw [getD_app_right _ _ _ (by rw [l1]; omega), l1]
    simp only [List.getD, List.getElem?_take, List.getElem?_drop]
    rw [if_pos (by omega), show pl m f i = f + i - m from if_neg (by omega), show 0 + (i - (m - f)) = f + i - m by omega]
/-- Whether there is a first one. -/
def fE (L : List Int) : Int := if L = [] then 12 else 0
def wo (L : List Int) (n : Int) : List Int := L.filter fun x => x != n
theorem wo_miss (L : List Int) (n : Int) (h : n ∉ L) : wo L n = L := by
  unfold wo
  rw [List.filter_eq_self]
  intro x hx
  simp
  intro e
  exact h (e ▸ hx)
theorem nodup_wo (L : List Int) (n : Int) (h : L.Nodup) : (wo L n).Nodup := List.Pairwise.filter _ h
end Go.Proofs.YtfdmcbcomknebaaGreatDoor.Fm
namespace Go.Proofs.YtfdmcbcomknebaaGreatDoor.Fif
open Go.ChangeShapes Go.WideShapes Go.ChangeAt Go.RowKit
open Fm
end Go.Proofs.YtfdmcbcomknebaaGreatDoor.Fif
namespace Go.Proofs.YtfdmcbcomknebaaGreatDoor.Fif
open Go.ChangeShapes Go.WideShapes Go.ChangeAt Go.RowKit
open Fm
/-- The queue at block b: its ring at block g of m, its first one at f; the ring holds r, of which L stands in the queue. -/
structure Q (w : World) (b g m f : Nat) (r L : List Int) : Prop where
  sb : Blk w b [.slice (some ⟨g, 0, none⟩) m m, .int .i64 (f : Int), .int .i64 (L.length : Int)] 256
  sg : Blk w g (r.map (Value.int .i64)) 3
  rg : Rg m f r L
theorem Q.c0 {w : World} {b g m f : Nat} {r L : List Int} (h : Q w b g m f r L) : w.cell? ⟨b, 0, none⟩ = some (.slice (some ⟨g, 0, none⟩) m m) := h.sb.cell 0
theorem Q.c1 {w : World} {b g m f : Nat} {r L : List Int} (h : Q w b g m f r L) : w.cell? ⟨b, 1, none⟩ = some (.int .i64 (f : Int)) := h.sb.cell 1
theorem Q.c2 {w : World} {b g m f : Nat} {r L : List Int} (h : Q w b g m f r L) : w.cell? ⟨b, 2, none⟩ = some (.int .i64 (L.length : Int)) := h.sb.cell 2
theorem Q.ne {w : World} {b g m f : Nat} {r L : List Int} (h : Q w b g m f r L) : b ≠ g := h.sb.ne h.sg (by decide)
theorem Q.drewN {w : World} {b g m f : Nat} {r L : List Int} (h : Q w b g m f r L) (n : Nat) : Q (w.drewN n) b g m f r L := ⟨h.sb, h.sg, h.rg⟩
theorem Q.keep {B : Nat} {S : List Nat} {w w' : World} {b g m f : Nat} {r L : List Int} (h : Q w b g m f r L) (k : Fr B S w w') (hb : b < B ∧ g < B) (hs : b ∉ S ∧ g ∉ S) : Q w' b g m f r L :=
  ⟨h.sb.keep k hb.1 hs.1, h.sg.keep k hb.2 hs.2, h.rg⟩
/-- What runs answers: two rows that are the queue's list, end to end. -/
def Two (w : World) (L : List Int) (v : Value) : Prop := ∃ v1 v2 A B, v = .tuple #[v1, v2] ∧ Row w v1 A ∧ Row w v2 B ∧ A ++ B = L ∧ ∃ a1 c1 a2 c2, v1 = .slice a1 A.length c1 ∧ v2 = .slice a2 B.length c2
set_option maxHeartbeats 400000 in
theorem runs_any {b g m f : Nat} {r L : List Int} (w : World) (h : Q w b g m f r L) :
    Calls Tryz.prog 130 #[.pointer (some ⟨b, 0, none⟩)] w fun e w' => ∃ v, e = .returned v ∧ Two w L v ∧ ∃ n, w' = w.drewN n := by
  have c0 := h.c0
  have c1 := h.c1
  have c2 := h.c2
  have h1 : (m : Int) ≤ 1024 := by have := h.rg.m2; omega
  have h2 : (f : Int) < m := by have := h.rg.hf; omega
  have h3 : (L.length : Int) ≤ m := by have := h.rg.hc; omega
  have hl := h.rg.len
  by_cases c : (f : Int) + L.length ≤ m
  · have T : Hid (Two w L (.tuple #[.slice (some ⟨g, f, none⟩) (f + L.length - f) (m - f), .slice none 0 0])) := by
      have R1 := row_of_part h.sg f L.length (m - f) (by omega)
      rw [rg_one h.rg (by omega)] at R1
      rw [show f + L.length - f = L.length by omega]
      exact ⟨_, _, L, [], rfl, R1, Or.inl ⟨rfl, none, 0, rfl⟩, by simp, _, _, _, _, rfl, rfl⟩
    clear h hl
    generalize L.length = l at *
    go_enter Tryz.func130, Tryz.ntmps130
    go_wp2
    go_quiet (fail)
    go_wp2
    go_quiet (fail)
    go_wp2
    go_ret2
    exact ⟨_, rfl, T.out, _, World.drewN_drewN ..⟩
  · have T : Hid (Two w L (.tuple #[.slice (some ⟨g, f, none⟩) (m - f) (m - f), .slice (some ⟨g, 0, none⟩) (f + L.length - m) m])) := by
      have R1 := row_of_part h.sg f (m - f) (m - f) (by omega)
      have R2 := row_of_part h.sg 0 (f + L.length - m) m (by omega)
      have e := rg_two h.rg (by omega)
      have l1 : ((r.drop f).take (m - f)).length = m - f := by simp [hl]
      have l2 : ((r.drop 0).take (f + L.length - m)).length = f + L.length - m := by simp [hl]; omega
      exact ⟨_, _, _, _, rfl, R1, R2, e, some ⟨g, f, none⟩, m - f, some ⟨g, 0, none⟩, m, by rw [l1], by rw [l2]⟩
    clear h hl
    generalize L.length = l at *
    go_enter Tryz.func130, Tryz.ntmps130
    go_wp2
    go_quiet (fail)
    go_wp2
    go_quiet (fail)
    go_wp2
    go_ret2
    exact ⟨_, rfl, T.out, _, World.drewN_drewN ..⟩
end Go.Proofs.YtfdmcbcomknebaaGreatDoor.Fif
namespace Go.Proofs.YtfdmcbcomknebaaGreatDoor.Fif
open Go.ChangeShapes Go.WideShapes Go.ChangeAt Go.RowKit
open Fm
theorem Q.heap {w w1 : World} {b g m f : Nat} {r L : List Int} (h : Q w b g m f r L) (e : w1.heap = w.heap) : Q w1 b g m f r L :=
  ⟨by unfold Blk; rw [e]; exact h.sb, by unfold Blk; rw [e]; exact h.sg, h.rg⟩
set_option maxHeartbeats 400000 in
theorem new_at (m : Nat) (w : World) (h1 : (1 : Int) ≤ m) (h2 : (m : Int) ≤ 1024) :
    Calls Tryz.prog 93 #[.int .i64 (m : Int)] w fun e w' => e = .returned (.tuple #[.pointer (some ⟨w.heap.size + 1, 0, none⟩), .int .i64 0]) ∧ Q w' (w.heap.size + 1) w.heap.size m 0 (List.replicate m 0) [] ∧ Fr w.heap.size [] w w' ∧ w'.heap.size = w.heap.size + 2 := by
  have hmk := run_make_row' (P := Tryz.prog) 224 3 (.int .i64 0) 8 Tryz.underlying224 Tryz.info3 rfl .i64 .i64 m (by omega) (by omega)
  have F : Hid (∀ o1 o2, Fr w.heap.size [] w ((w.alloc o1).alloc o2)) := fun o1 o2 => ((Fr.refl _ _ _).alloc (Nat.le_refl _) o1).alloc (by simp) o2
  have G : Hid (Rg m 0 (List.replicate m 0) []) := rg_new m (by omega) (by omega)
  go_enter Tryz.func93, Tryz.ntmps93
  go_wp2
  go_ret2
  refine ⟨rfl, ⟨?_, ?_, G.out⟩, F.out _ _, by simp⟩
  · have := Blk.new (w.alloc (Obj.cells (madeCells #[Value.int IntKind.i64 0] m) 3)) [.slice (some ⟨w.heap.size, 0, none⟩) m m, .int .i64 0, .int .i64 0] 256
    simpa using this
  · rw [made_int]
    exact (Blk.new w _ 3).alloc _
theorem new_any (m : Nat) (w : World) (h1 : (1 : Int) ≤ m) (h2 : (m : Int) ≤ 1024) :
    Calls Tryz.prog 93 #[.int .i64 (m : Int)] w fun e w' => e = .returned (.tuple #[.pointer (some ⟨w.heap.size + 1, 0, none⟩), .int .i64 0]) ∧ Q w' (w.heap.size + 1) w.heap.size m 0 (List.replicate m 0) [] ∧ Fr w.heap.size [] w w' :=
  (new_at m w h1 h2).mono fun _ _ h => ⟨h.1, h.2.1, h.2.2.1⟩
theorem len_any {b g m f : Nat} {r L : List Int} (w : World) (h : Q w b g m f r L) :
    Calls Tryz.prog 135 #[.pointer (some ⟨b, 0, none⟩)] w fun e w' => e = .returned (.int .i64 (L.length : Int)) ∧ w' = w := by
  have c2 := h.c2
  clear h
  go_enter Tryz.func135, Tryz.ntmps135
  go_wp2
  go_ret
  exact ⟨rfl, rfl⟩
end Go.Proofs.YtfdmcbcomknebaaGreatDoor.Fif
namespace Go.Proofs.YtfdmcbcomknebaaGreatDoor.Fif
open Go.ChangeShapes Go.WideShapes Go.ChangeAt Go.RowKit
open Fm
set_option maxHeartbeats 2000000 in
theorem list_at {b g m f : Nat} {r L : List Int} (w : World) (h : Q w b g m f r L) :
    Calls Tryz.prog 113 #[.pointer (some ⟨b, 0, none⟩)] w fun e w' => ∃ v g, e = .returned v ∧ v = .slice (some ⟨g, 0, none⟩) L.length L.length ∧ w'.ownsRow w.heap.size 3 1 v L.length (L.map (Value.int .i64)) ∧ Below w.heap.size w w' := by
  have C : Hid (∀ _ : Unit, _) := fun _ => runs_any w h
  have c2 := h.c2
  have hL : (L.length : Int) ≤ 1024 := by have := h.rg.hc; have := h.rg.m2; omega
  have hmk := run_make_row' (P := Tryz.prog) 224 3 (.int .i64 0) 8 Tryz.underlying224 Tryz.info3 rfl .i64 .i64 L.length (by omega) (by omega)
  clear h
  rw [made_int] at hmk
  obtain ⟨Z, hZ⟩ : ∃ Z : List Value, (List.replicate L.length (0 : Int)).map (Value.int .i64) = Z := ⟨_, rfl⟩
  have lZ : Hid (Z.length = L.length) := by rw [← hZ]; simp [Hid]
  rw [hZ] at hmk
  clear hZ
  obtain ⟨l, hl⟩ : ∃ l, L.length = l := ⟨_, rfl⟩
  have HL : Hid (L.length = l) := hl
  rw [hl] at c2 hL hmk lZ
  clear hl
  go_enter Tryz.func113, Tryz.ntmps113
  go_wp2_with fail
  refine (C.out ()).mono ?_
  rintro e w' ⟨v, rfl, ⟨v1, v2, A, B, rfl, R1, R2, hAB, a1, k1, a2, k2, rfl, rfl⟩, q, rfl⟩
  have HAB : Hid (A ++ B = L) := hAB
  have hs : (A.length : Int) + B.length = l := by have := HL.out; rw [← hAB, List.length_append] at this; omega
  have BW : Below w.heap.size w ((w.drewN q).alloc (.cells Z.toArray 3)) := (((Fr.refl w.heap.size [] w).drewN q).alloc (Nat.le_refl _) _).below (by simp)
  have R1' : Row ((w.drewN q).alloc (.cells Z.toArray 3)) _ A := Row.keep (w := w) (B := w.heap.size) R1 (Fr.of_below BW) (Nat.le_refl _)
  have R2' : Hid (Row w _ B) := R2
  have GW : Hid (((w.drewN q).alloc (.cells Z.toArray 3)).heap[w.heap.size]? = some (.cells Z.toArray 3 (0, 0))) := heap_alloc_new _ _
  have HB : Hid (Below w.heap.size w ((w.drewN q).alloc (.cells Z.toArray 3))) := BW
  obtain ⟨X, hX⟩ : ∃ X, A.map (Value.int .i64) = X := ⟨_, rfl⟩
  have lX : X.length = A.length := by rw [← hX]; simp
  have oX : Hid (∀ v ∈ X, v.oneCell' = true) := by rw [← hX]; exact ints_one A
  have sX : Hid (0 < A.length → _) := fun hp => row_src R1' hp
  obtain ⟨Y, hY⟩ : ∃ Y, B.map (Value.int .i64) = Y := ⟨_, rfl⟩
  have lY : Y.length = B.length := by rw [← hY]; simp
  have oY : Hid (∀ v ∈ Y, v.oneCell' = true) := by rw [← hY]; exact ints_one B
  have HXY : Hid (splice (splice Z 0 X) A.length Y = L.map (Value.int .i64)) := by
    have e := splice_two Z X Y (by rw [lX, lY, lZ.out]; omega)
    rw [lX] at e
    rw [e, ← hX, ← hY, ← List.map_append, hAB]
    exact rfl
  have HY : Hid (B.map (Value.int .i64) = Y) := hY
  rw [hX] at sX
  have N1 : Hid (X.length = Nat.min A.length l) := by rw [lX]; exact (Nat.min_eq_left (by omega)).symm
  have P1 : Hid (0 < X.length → _) := fun hp => sX.out (by omega)
  have F1 : Hid (0 + X.length ≤ Z.length) := by rw [lX, lZ.out]; unfold Hid; omega
  have F2 : Hid (A.length + Y.length ≤ (splice Z 0 X).length) := by rw [length_splice _ _ _ F1.out, lY, lZ.out]; unfold Hid; omega
  have N2 : Hid (Y.length = Nat.min B.length (l - A.length)) := by rw [lY]; exact (Nat.min_eq_left (by omega)).symm
  have LY : Hid (Y.length = B.length) := lY
  have PY : Hid (∀ w2 : World, Below w.heap.size w w2 → 0 < Y.length → ∃ ad, a2 = some ad ∧ ∀ j v, Y[j]? = some v → w2.cell? (ad.add j) = some v) := fun w2 hb hp => by
    have := row_src (Row.keep (w := w) (B := w.heap.size) R2 (Fr.of_below hb) (Nat.le_refl _)) (by omega)
    rwa [hY] at this
  have RE : Hid (∀ w3 : World, w3.heap[w.heap.size]? = some (.cells (splice (splice Z 0 X) A.length Y).toArray 3 (0, 0)) → w3.ownsRow w.heap.size 3 1 (.slice (some ⟨w.heap.size, 0, none⟩) l l) L.length (L.map (Value.int .i64))) := fun w3 hw => by
    rw [HXY.out] at hw
    have hl := HL.out
    exact ⟨by simp, Or.inr ⟨w.heap.size, l, _, by rw [hl], Nat.le_refl _, hw, by omega, by unfold maxLen; omega, by simp [hl], by rw [Nat.mul_one]; exact List.take_of_length_le (by simp)⟩⟩
  clear hAB BW R1 R2 hX hY lX lY R1' sX HAB
  by_cases hb : (B.length : Int) = 0
  · have ea : (A.length : Int) = l := by omega
    have N3 : Hid (Y.length = Nat.min B.length 0) := by rw [LY.out]; exact (show B.length = min B.length 0 by omega)
    have N4 : Hid (¬ 0 < Y.length) := by rw [LY.out]; exact (show ¬ 0 < B.length by omega)
    go_wp2_with (first | (refine wpList_copy_splice rfl (.tmp 18) (.tmp 19) 224 224 rfl 3 Tryz.underlying224 info3s _ _ _ _ _ _ rfl rfl w.heap.size 0 Z 3 GW.out X N1.out (fun hp => ⟨rfl, P1.out hp⟩) F1.out oX.out w.heap.size w HB.out (Nat.le_refl _) ?_; intro w2 HG2 hB2) | (refine wpList_copy_splice rfl (.tmp 24) (.tmp 25) 224 224 rfl 3 Tryz.underlying224 info3s _ _ _ _ _ _ rfl rfl w.heap.size A.length (splice Z 0 X) 3 HG2.out Y N3.out (fun hp => absurd hp N4.out) F2.out oY.out w.heap.size w hB2 (Nat.le_refl _) ?_; intro w3 HG3 hB3))
    go_ret
    exact ⟨.slice (some ⟨w.heap.size, 0, none⟩) l l, w.heap.size, rfl, by rw [HL.out], RE.out _ HG3.out, hB3⟩
  · have ea : (A.length : Int) < l := by omega
    go_wp2_with (first | (refine wpList_copy_splice rfl (.tmp 18) (.tmp 19) 224 224 rfl 3 Tryz.underlying224 info3s _ _ _ _ _ _ rfl rfl w.heap.size 0 Z 3 GW.out X N1.out (fun hp => ⟨rfl, P1.out hp⟩) F1.out oX.out w.heap.size w HB.out (Nat.le_refl _) ?_; intro w2 HG2 hB2) | (refine wpList_copy_splice rfl (.tmp 24) (.tmp 25) 224 224 rfl 3 Tryz.underlying224 info3s _ _ _ _ _ _ rfl rfl w.heap.size A.length (splice Z 0 X) 3 HG2.out Y N2.out (fun hp => ⟨rfl, PY.out w2 hB2 hp⟩) F2.out oY.out w.heap.size w hB2 (Nat.le_refl _) ?_; intro w3 HG3 hB3))
    go_ret
    exact ⟨.slice (some ⟨w.heap.size, 0, none⟩) l l, w.heap.size, rfl, by rw [HL.out], RE.out _ HG3.out, hB3⟩
theorem list_any {b g m f : Nat} {r L : List Int} (w : World) (h : Q w b g m f r L) :
    Calls Tryz.prog 113 #[.pointer (some ⟨b, 0, none⟩)] w fun e w' => ∃ v, e = .returned v ∧ w'.ownsRow w.heap.size 3 1 v L.length (L.map (Value.int .i64)) ∧ Below w.heap.size w w' :=
  (list_at w h).mono fun _ _ ⟨v, _, e, _, o, b⟩ => ⟨v, e, o, b⟩
/- The calls of a queue that is not there. -/
theorem nil_list (w : World) : Calls Tryz.prog 113 #[.pointer none] w fun e w' => e = .returned (.slice none 0 0) ∧ w' = w := by
  go_enter Tryz.func113, Tryz.ntmps113
  go_wp2
  go_ret
  exact ⟨rfl, rfl⟩
end Go.Proofs.YtfdmcbcomknebaaGreatDoor.Fif
