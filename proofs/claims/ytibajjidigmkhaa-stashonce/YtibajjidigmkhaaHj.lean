/- What a core keeps, and where the answer lies; truths as cells. -/
import Derived.Test.YtibajjidigmkhaaRows
import Derived.Test.YtibajjidigmkhaaHi
import Derived.WalkKit
import Derived.ProofKit
import Derived.OpenShut
import Derived.BigQuiet
import Derived.Deep.OwnRows
namespace Go.Proofs.Ytibajjidigmkhaa
open Go.ChangeShapes Go.WideShapes Go.ChangeAt Go.RowKit
open Om Hm

theorem Try.infoB : (Try.prog.info? 4).map (fun i => (i.zero, i.size, i.bytes)) = some (some (.bool false), 1, 1) := by kernel_rfl
theorem made_bool (n : Nat) : madeCells #[Value.bool false] n = ((List.replicate n false).map Value.bool).toArray := by
  apply Array.ext
  · simp [size_madeCells]
  · intro i h1 h2
    simp [madeCells, Nat.mod_one]

set_option maxHeartbeats 2000000 in
theorem skept_core {b pb lb n m : Nat} {A : List Nat} {V : List Value} {K : List (List Int)} (c : Nat) (w : World) (h : SH w b pb lb n m A V K) (hcn : c < n) (kl : ∀ i, (ks K i).length ≤ 4) :
    Calls Try.prog 33 #[.pointer (some ⟨b, 0, none⟩), .int .i64 (c : Int)] w fun e w' => e = .returned (.slice (some ⟨w.heap.size, 0, none⟩) (ks K c).length (ks K c).length) ∧ Gt w w' (.slice (some ⟨w.heap.size, 0, none⟩) (ks K c).length (ks K c).length) (ks K c) := by
  have C : Hid (∀ _ : Unit, _) := fun _ => isCore_any (c : Int) w h
  rw [show isc n (c : Int) = true from decide_eq_true (by omega)] at C
  have hc : (c : Int) < n := by omega
  have c1 := h.st.c1
  have cv := h.st.cv (i := c) (by omega)
  have lv := h.st.lv (i := c) (by omega)
  obtain ⟨a, cap, hv⟩ := lv.shape
  have hr := lv.row
  have hl : ((ks K c).length : Int) ≤ 4 := by have := kl c; omega
  rw [hv] at cv hr
  change Row w (.slice a (ks K c).length cap) (ks K c) at hr
  change w.cell? ⟨lb, c, none⟩ = some (.slice a (ks K c).length cap) at cv
  obtain ⟨xs, hxs⟩ : ∃ xs, ks K c = xs := ⟨_, rfl⟩
  rw [hxs] at hl cv hr ⊢
  have hmk := run_make_row' (P := Try.prog) 22 3 (.int .i64 0) 8 Try.underlying22 Try.info3 rfl .i64 .i64 xs.length (by omega) (by omega)
  rw [made_int] at hmk
  obtain ⟨Z, hZ⟩ : ∃ Z : List Value, (List.replicate xs.length (0 : Int)).map (Value.int .i64) = Z := ⟨_, rfl⟩
  have lZ : Hid (Z.length = xs.length) := by rw [← hZ]; simp [Hid]
  rw [hZ] at hmk
  have B0 : Fr w.heap.size [] w (w.alloc (.cells Z.toArray 3)) := (Fr.refl _ _ _).alloc (Nat.le_refl _) _
  have d1 : (w.alloc (.cells Z.toArray 3)).cell? ⟨b, 1, none⟩ = some (.slice (some ⟨lb, 0, none⟩) n n) := (h.st.sb.alloc _).cell 1
  have d2 : (w.alloc (.cells Z.toArray 3)).cell? ⟨lb, c, none⟩ = some (.slice a xs.length cap) := ((h.st.sl.alloc _).cell c).trans ((h.st.sl.cell c).symm.trans cv)
  have SB : Hid (Blk (w.alloc (.cells Z.toArray 3)) w.heap.size Z 3) := Blk.new w Z 3
  obtain ⟨X, hX⟩ : ∃ X, xs.map (Value.int .i64) = X := ⟨_, rfl⟩
  have lX : Hid (X.length = xs.length) := by rw [← hX]; simp [Hid]
  have oX : Hid (∀ v ∈ X, v.oneCell' = true) := by rw [← hX]; exact ints_one _
  have P1 : Hid (0 < X.length → _) := fun hp => row_src (w := w.alloc (.cells Z.toArray 3)) (hr.keep B0 (Nat.le_refl _)) (by have := lX.out; omega)
  rw [hX] at P1
  have N1 : Hid (X.length = Nat.min xs.length xs.length) := by rw [lX.out]; exact (Nat.min_self _).symm
  have F1 : Hid (0 + X.length ≤ Z.length) := by rw [lX.out, lZ.out]; unfold Hid; omega
  have FIN : Hid (∀ (w2 : World), Blk w2 w.heap.size (splice Z 0 X) 3 → Fr (w.alloc (.cells Z.toArray 3)).heap.size [w.heap.size] (w.alloc (.cells Z.toArray 3)) w2 → Gt w w2 (.slice (some ⟨w.heap.size, 0, none⟩) xs.length xs.length) xs) := fun w2 f fr => by
    rw [splice_all' Z X (by rw [lZ.out, lX.out]), ← hX] at f
    refine ⟨own_blk' f (Nat.le_refl _) (by omega), ?_⟩
    have f2 : Fr w.heap.size [w.heap.size] w w2 := (B0.mono (Nat.le_refl _) (by simp)).trans (fr.less (by simp))
    exact f2.below (by simp)
  clear h kl hcn hX hZ B0 lv hv hr hxs
  generalize xs.length = q at *
  go_enter Try.func33, Try.ntmps33
  go_wp2_with fail
  refine (C.out ()).mono ?_
  rintro e w' ⟨rfl, rfl⟩
  go_wp2_with (refine wpList_copy_at rfl (.tmp 23) (.tmp 30) 22 22 rfl 3 Try.underlying22 info3s _ _ _ _ _ _ rfl rfl _ 0 Z 3 SB.out X N1.out (fun hp => ⟨rfl, P1.out hp⟩) F1.out oX.out ?_; intro w2 G2 F2)
  go_ret
  exact ⟨rfl, FIN.out w2 G2.out F2.out⟩

end Go.Proofs.Ytibajjidigmkhaa
