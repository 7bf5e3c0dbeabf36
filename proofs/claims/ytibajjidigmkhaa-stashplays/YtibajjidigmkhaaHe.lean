/- What stash's rooms and New answer and leave; the law's fixed calls. -/
import Derived.Test.YtibajjidigmkhaaRows
import Derived.Test.YtibajjidigmkhaaHd
import Derived.Test.YtibajjidigmkhaaFi
import Derived.WalkKit
import Derived.ProofKit
import Derived.OpenShut
import Derived.BigQuiet
import Derived.Deep.OwnRows
namespace Go.Proofs.Ytibajjidigmkhaa
open Go.ChangeShapes Go.WideShapes Go.ChangeAt Go.RowKit
open Om Hm

theorem Try.infoL : (Try.prog.info? 22).map (fun i => (i.zero, i.size, i.bytes)) = some (some (.slice none 0 0), 1, 24) := by kernel_rfl

theorem made_nil (n : Nat) : madeCells #[Value.slice none 0 0] n = (List.replicate n nv).toArray := by
  apply Array.ext
  · simp [size_madeCells]
  · intro i h1 h2
    simp [madeCells, Nat.mod_one, nv]

/-- The table when k lists have their room. -/
def Vk (s n k : Nat) : List Value := (List.range n).map fun i => if i < k then .slice (some ⟨s, i * 4, none⟩) 0 4 else nv
theorem vk_zero (s n : Nat) : Vk s n 0 = List.replicate n nv := by
  unfold Vk
  apply List.ext_getElem?
  intro i
  rw [List.getElem?_map, List.getElem?_replicate]
  by_cases h : i < n
  · rw [List.getElem?_range h, if_pos h]
    rfl
  · rw [List.getElem?_eq_none (by simpa using h), if_neg h]
    rfl
theorem vk_len (s n k : Nat) : (Vk s n k).length = n := by simp [Vk]
theorem vk_at (s n k i : Nat) (h : i < n) : (Vk s n k)[i]? = some (if i < k then .slice (some ⟨s, i * 4, none⟩) 0 4 else nv) := by
  unfold Vk
  rw [List.getElem?_map, List.getElem?_range h]
  rfl
theorem vk_set (s n k : Nat) (_h : k < n) : (Vk s n k).set k (.slice (some ⟨s, k * 4, none⟩) 0 4) = Vk s n (k + 1) := by
  apply List.ext_getElem?
  intro i
  by_cases hi : i < n
  · rw [List.getElem?_set, vk_at s n k i hi, vk_at s n (k + 1) i hi]
    by_cases e : k = i
    · subst e
      rw [if_pos rfl, if_pos (by rw [vk_len]; exact hi), if_pos (by omega)]
    · rw [if_neg e]
      by_cases c : i < k
      · rw [if_pos c, if_pos (by omega)]
      · rw [if_neg c, if_neg (by omega)]
  · rw [List.getElem?_eq_none (by rw [List.length_set, vk_len]; omega), List.getElem?_eq_none (by rw [vk_len]; omega)]

set_option maxHeartbeats 1000000 in
theorem rooms_any (n : Nat) (w : World) (h1 : (1 : Int) ≤ n) (h2 : (n : Int) ≤ 64) :
    Calls Try.prog 43 #[.int .i64 (n : Int)] w fun e w' => e = .returned (.slice (some ⟨w.heap.size + 1, 0, none⟩) n n) ∧ Blk w' (w.heap.size + 1) (Vk w.heap.size n n) 22 ∧ Blk w' w.heap.size ((List.replicate (n * 4) (0 : Int)).map (Value.int .i64)) 3 ∧ Fr w.heap.size [] w w' := by
  obtain ⟨q, hq⟩ : ∃ q, n * 4 = q := ⟨_, rfl⟩
  have hqI : (n : Int) * 4 = (q : Int) := by omega
  have hqH : Hid ((q : Int) = n * 4) := by unfold Hid; omega
  have hmk := run_make_row' (P := Try.prog) 22 3 (.int .i64 0) 8 Try.underlying22 Try.info3 rfl .i64 .i64 q (by omega) (by omega)
  rw [made_int] at hmk
  have hmk2 := run_make_row' (P := Try.prog) 53 22 (.slice none 0 0) 24 Try.underlying53 Try.infoL rfl .i64 .i64 n (by omega) (by omega)
  rw [made_nil] at hmk2
  rw [hq]
  obtain ⟨s, hs⟩ : ∃ s, w.heap.size = s := ⟨_, rfl⟩
  have HS : Hid (w.heap.size = s) := hs
  obtain ⟨Z, hZ⟩ : ∃ Z : List Value, (List.replicate q (0 : Int)).map (Value.int .i64) = Z := ⟨_, rfl⟩
  rw [hZ] at hmk ⊢
  have B0 : Hid (Blk ((w.alloc (.cells Z.toArray 3)).alloc (.cells (List.replicate n nv).toArray 22)) (s + 1) (Vk s n 0) 22 ∧ Blk ((w.alloc (.cells Z.toArray 3)).alloc (.cells (List.replicate n nv).toArray 22)) s Z 3 ∧ Fr s [] w ((w.alloc (.cells Z.toArray 3)).alloc (.cells (List.replicate n nv).toArray 22))) := by
    subst hs
    refine ⟨?_, (Blk.new w Z 3).alloc _, ((Fr.refl _ _ _).alloc (Nat.le_refl _) _).alloc (by simp) _⟩
    rw [vk_zero]
    have := Blk.new (w.alloc (.cells Z.toArray 3)) (List.replicate n nv) 22
    simpa using this
  rw [hs]
  generalize List.replicate n nv = Y at *
  clear hq hZ
  go_enter Try.func43, Try.ntmps43
  go_wp2
  go_loopw [14] (fun i wr => ∃ k : Nat, (k : Int) ≤ n ∧ i = .int .i64 k ∧ Blk wr (s + 1) (Vk s n k) 22 ∧ Blk wr s Z 3 ∧ Fr s [] w wr) (fun i _ => n - (intOf i).toNat)
  case atStart => exact ⟨0, by omega, rfl, B0.out⟩
  case round =>
    obtain ⟨k, hk, rfl, b1, b2, f1⟩ := hrel
    by_cases l : (k : Int) < n
    · have cc := b1.cell k
      rw [vk_at s n k k (by omega), if_neg (by omega)] at cc
      have ff := b1.free k
      have BS : Hid (∀ v, v = Value.slice (some ⟨s, k * 4, none⟩) 0 4 → Blk (wr.setCell ⟨s + 1, k, none⟩ v) (s + 1) (Vk s n (k + 1)) 22 ∧ Blk (wr.setCell ⟨s + 1, k, none⟩ v) s Z 3 ∧ Fr s [] w (wr.setCell ⟨s + 1, k, none⟩ v)) := fun v hv => by
        subst hv
        refine ⟨?_, b2.other (by simp) _, f1.setCell (Or.inl (by simp)) _⟩
        rw [← vk_set s n k (by omega)]
        exact b1.set k _
      have m1 : (k : Int) * 4 + 4 ≤ q := by have := hqH.out; omega
      have m2 : (k : Int) * 4 ≤ q := by omega
      clear b1 b2 f1
      go_wp2
      go_roundw
      case rel => exact ⟨k + 1, by omega, by go_num, BS.out _ rfl⟩
      case measure => simp [intOf]; omega
    · obtain rfl : k = n := by omega
      go_wp2
      go_ret
      exact ⟨rfl, b1, b2, f1⟩

theorem ls_rooms {w : World} {s n : Nat} (h : Blk w s ((List.replicate (n * 4) (0 : Int)).map (Value.int .i64)) 3) : Ls w (Vk s n n) (List.replicate n []) := by
  have e : ∀ i, i < n → (Vk s n n).getD i nv = .slice (some ⟨s, i * 4, none⟩) 0 4 := fun i hi => by
    rw [List.getD_eq_getElem?_getD, vk_at s n n i hi, if_pos hi]
    rfl
  have e2 : ∀ i, (List.replicate n ([] : List Int)).getD i [] = [] := fun i => by
    rw [List.getD_eq_getElem?_getD, List.getElem?_replicate]
    split <;> rfl
  refine ⟨by simp [vk_len], fun i hi => ?_, fun i j hi hj hn => ?_⟩
  · simp at hi
    rw [e i hi, e2]
    exact Or.inr ⟨s, i * 4, 4, _, rfl, by simp, h, by simp; omega, fun j hj => by simp at hj⟩
  · simp at hi hj
    rw [e i hi, e j hj]
    intro g off n cap g2 off2 n2 cap2 h1 h2
    simp only [Value.slice.injEq, Option.some.injEq, Addr.mk.injEq] at h1 h2
    obtain ⟨⟨rfl, rfl, _⟩, _, rfl⟩ := h1
    obtain ⟨⟨rfl, rfl, _⟩, _, rfl⟩ := h2
    exact Or.inr (by omega)
theorem bl_vk {s n k g : Nat} (h : g ∈ bl (Vk s n k)) : g = s := by
  obtain ⟨v, hv, hg⟩ := List.mem_flatMap.1 h
  obtain ⟨i, _, e⟩ := List.mem_map.1 hv
  by_cases c : i < k
  · rw [if_pos c] at e
    subst e
    simpa [vb] using hg
  · rw [if_neg c] at e
    subst e
    simp [vb, nv] at hg

set_option maxHeartbeats 400000 in
theorem snew_any (n m : Nat) (w : World) (h1 : (1 : Int) ≤ n) (h2 : (n : Int) ≤ 64) (h3 : (1 : Int) ≤ m) (h4 : (m : Int) ≤ 12) :
    Calls Try.prog 22 #[.int .i64 (n : Int), .int .i64 (m : Int)] w fun e w' => ∃ b pb lb V, e = .returned (.tuple #[.pointer (some ⟨b, 0, none⟩), .int .i64 0]) ∧ SH w' b pb lb n m (List.replicate 12 0) V (List.replicate n []) ∧ (w.heap.size ≤ b ∧ w.heap.size ≤ pb ∧ w.heap.size ≤ lb ∧ ∀ g ∈ bl V, w.heap.size ≤ g) ∧ Fr w.heap.size [] w w' := by
  have C : Hid (∀ _ : Unit, _) := fun _ => pnew_any m w h3 h4
  have D : Hid (∀ w1, _) := fun w1 => rooms_any n w1 h1 h2
  have FIN : Hid (∀ u1 u2 : World, PO u1 w.heap.size m (List.replicate 12 0) → Fr w.heap.size [] w u1 → Blk u2 (u1.heap.size + 1) (Vk u1.heap.size n n) 22 → Blk u2 u1.heap.size ((List.replicate (n * 4) (0 : Int)).map (Value.int .i64)) 3 → Fr u1.heap.size [] u1 u2 →
      SH (u2.alloc (.cells #[.pointer (some ⟨w.heap.size, 0, none⟩), .slice (some ⟨u1.heap.size + 1, 0, none⟩) n n] 73)) u2.heap.size w.heap.size (u1.heap.size + 1) n m (List.replicate 12 0) (Vk u1.heap.size n n) (List.replicate n []) ∧ (w.heap.size ≤ u2.heap.size ∧ w.heap.size ≤ w.heap.size ∧ w.heap.size ≤ u1.heap.size + 1 ∧ ∀ g ∈ bl (Vk u1.heap.size n n), w.heap.size ≤ g) ∧ Fr w.heap.size [] w (u2.alloc (.cells #[.pointer (some ⟨w.heap.size, 0, none⟩), .slice (some ⟨u1.heap.size + 1, 0, none⟩) n n] 73))) := fun u1 u2 p f a b g => by
    have s1 := f.size
    have s2 := g.size
    have l1 := p.sb.lt
    refine ⟨⟨⟨?_, a.alloc _, ls_rooms (b.alloc _), by simp, by omega, by omega⟩, ?_⟩, ⟨by omega, by omega, by omega, fun q hq => by rw [bl_vk hq]; omega⟩, (f.trans (g.less s1)).alloc (by omega) _⟩
    · exact Blk.new u2 [.pointer (some ⟨w.heap.size, 0, none⟩), .slice (some ⟨u1.heap.size + 1, 0, none⟩) n n] 73
    · exact (p.keep g l1 (by simp)).keep ((Fr.refl u2.heap.size [] u2).alloc (Nat.le_refl _) _) (by omega) (by simp)
  go_enter Try.func22, Try.ntmps22
  go_wp2_with fail
  refine (C.out ()).mono ?_
  rintro e u1 ⟨rfl, p1, f1⟩
  have P1 : Hid (PO u1 w.heap.size m (List.replicate 12 0) ∧ Fr w.heap.size [] w u1) := ⟨p1, f1⟩
  clear p1 f1
  go_wp2_with fail
  refine (D.out _).mono ?_
  rintro e u2 ⟨rfl, a2, b2, f2⟩
  have FF : Hid (_ ∧ _) := FIN.out u1 u2 P1.out.1 P1.out.2 a2 b2 f2
  clear a2 b2 f2
  go_wp2
  go_ret2
  exact ⟨_, _, _, _, rfl, FF.out⟩

theorem snew_bad (n m : Int) (w : World) (h : (n < 1 ∨ 64 < n) ∨ (m < 1 ∨ 12 < m)) :
    Calls Try.prog 22 #[.int .i64 n, .int .i64 m] w fun e w' => e = .returned (.tuple #[.pointer none, .int .i64 2]) ∧ w' = w := by
  by_cases hn : n < 1
  · go_enter Try.func22, Try.ntmps22
    go_wp2
    go_ret2
    exact ⟨rfl, rfl⟩
  · by_cases hn2 : 64 < n
    · have h2 : (1 : Int) ≤ n := by omega
      go_enter Try.func22, Try.ntmps22
      go_wp2
      go_ret2
      exact ⟨rfl, rfl⟩
    · have h2 : (1 : Int) ≤ n := by omega
      have h3 : n ≤ 64 := by omega
      have C : Hid (∀ _ : Unit, _) := fun _ => pnew_bad m w (by omega)
      clear h hn hn2
      go_enter Try.func22, Try.ntmps22
      go_wp2_with fail
      refine (C.out ()).mono ?_
      rintro e w' ⟨rfl, rfl⟩
      go_wp2
      go_ret2
      exact ⟨rfl, rfl⟩

/-- A stash; nothing below block s has turned. -/
structure SW (w wr : World) (s b pb lb n m : Nat) (A : List Nat) (V : List Value) (K : List (List Int)) : Prop where
  h : SH wr b pb lb n m A V K
  bel : Below s w wr
  up : s ≤ b ∧ s ≤ pb ∧ s ≤ lb ∧ ∀ g ∈ bl V, s ≤ g

theorem SW.le {w wr : World} {s b pb lb n m : Nat} {A : List Nat} {V : List Value} {K : List (List Int)} (h : SW w wr s b pb lb n m A V K) : s ≤ wr.heap.size := by
  have := h.h.st.sb.lt
  have := h.up.1
  omega
theorem SW.act {w wr w1 : World} {s b pb lb n m : Nat} {A A2 : List Nat} {V : List Value} {K K2 : List (List Int)} (h : SW w wr s b pb lb n m A V K) (k : SC wr w1 b pb lb n m V A2 K2) : ∃ V2, SW w w1 s b pb lb n m A2 V2 K2 := by
  obtain ⟨V2, h2, hV⟩ := k.ex
  have hl := h.le
  obtain ⟨u1, u2, u3, u4⟩ := h.up
  refine ⟨V2, h2, h.bel.trans ((k.fr.less hl).below fun g hg => ?_), u1, u2, u3, fun g hg => ?_⟩
  · simp only [List.mem_cons] at hg
    rcases hg with e | e | e
    · omega
    · omega
    · exact u4 g e
  · rcases hV g hg with e | e
    · exact u4 g e
    · omega
theorem SW.sm {w wr w1 : World} {s b pb lb n m : Nat} {A : List Nat} {V : List Value} {K : List (List Int)} (h : SW w wr s b pb lb n m A V K) (e : Sm w1 wr) : SW w w1 s b pb lb n m A V K := ⟨h.h.heap e.1, e.below h.bel, h.up⟩
theorem SW.keep {w wr w1 : World} {s b pb lb n m : Nat} {A : List Nat} {V : List Value} {K : List (List Int)} (h : SW w wr s b pb lb n m A V K) (f : Below wr.heap.size wr w1) : SW w w1 s b pb lb n m A V K :=
  ⟨h.h.keep (Fr.of_below f) (Nat.le_refl _) (by simp) (by simp) (by simp) (by simp), h.bel.trans (f.mono h.le), h.up⟩

theorem kn_a : alN 2 2 (List.replicate 12 0) (List.replicate 2 []) 0 = 2 ∧ alE 2 2 (List.replicate 12 0) (List.replicate 2 []) 0 = 0 ∧ alA 2 2 (List.replicate 12 0) (List.replicate 2 []) 0 = 3 :: List.replicate 11 0 ∧ alK 2 2 (List.replicate 12 0) (List.replicate 2 []) 0 = [[1], []] := by decide +kernel
theorem kn_b : alN 2 2 (3 :: List.replicate 11 0) [[1], []] 0 = 1 ∧ alE 2 2 (3 :: List.replicate 11 0) [[1], []] 0 = 0 ∧ alA 2 2 (3 :: List.replicate 11 0) [[1], []] 0 = 3 :: List.replicate 11 0 ∧ alK 2 2 (3 :: List.replicate 11 0) [[1], []] 0 = [[], []] := by decide +kernel
theorem kn_c : giE 2 2 (3 :: List.replicate 11 0) [[], []] 1 2 = 0 ∧ giA 2 2 (3 :: List.replicate 11 0) [[], []] 1 2 = 3 :: List.replicate 11 0 ∧ giK 2 2 (3 :: List.replicate 11 0) [[], []] 1 2 = [[], [2]] := by decide +kernel
theorem kn_d : drN 2 [[], [2]] 1 = 1 ∧ drE 2 1 = 0 ∧ drA 2 2 (3 :: List.replicate 11 0) [[], [2]] 1 = 1 :: List.replicate 11 0 ∧ drK 2 [[], [2]] 1 = [[], []] := by decide +kernel
theorem kn_e : ol 2 (1 :: List.replicate 11 0) [[], []] 96 = [1] ∧ fr 2 (1 :: List.replicate 11 0) = 15 := by decide +kernel
theorem kl2 (a b : List Int) (ha : a.length ≤ 4) (hb : b.length ≤ 4) : ∀ i, (ks [a, b] i).length ≤ 4 := fun i => by
  match i with
  | 0 => exact ha
  | 1 => exact hb
  | i + 2 => simp [ks]

set_option maxHeartbeats 2000000 in
theorem sknown_yes (w : World) : Calls Try.prog 24 #[] w fun e w' => e = .returned (.bool true) ∧ Below w.heap.size w w' := by
  have C0 : Hid (∀ _ : Unit, _) := fun _ => snew_any 2 2 w (by omega) (by omega) (by omega) (by omega)
  have K0 : Hid (∀ i, (ks (List.replicate 2 []) i).length ≤ 4) := kl2 [] [] (by decide) (by decide)
  obtain ⟨s, hs⟩ : ∃ s, w.heap.size = s := ⟨_, rfl⟩
  rw [hs] at C0 ⊢
  clear hs
  go_enter Try.func24, Try.ntmps24
  go_wp2_with fail
  refine (C0.out ()).mono ?_
  rintro e w0 ⟨b, pb, lb, V0, rfl, h0, up, f0⟩
  have S0 : Hid (SW w w0 s b pb lb 2 2 (List.replicate 12 0) V0 (List.replicate 2 [])) := ⟨h0, f0.below (by simp), up⟩
  have C1 : Hid (∀ _ : Unit, _) := fun _ => salloc_any 0 w0 h0 K0.out
  rw [kn_a.1, kn_a.2.1, kn_a.2.2.1, kn_a.2.2.2] at C1
  clear h0 up f0 C0
  go_wp2_with fail
  refine (C1.out ()).mono ?_
  rintro e w1 ⟨rfl, k1⟩
  obtain ⟨V1, s1⟩ := S0.out.act k1
  have S1 : Hid (SW w w1 s b pb lb 2 2 (3 :: List.replicate 11 0) V1 [[1], []]) := s1
  have C2 : Hid (∀ _ : Unit, _) := fun _ => salloc_any 0 w1 s1.h (kl2 [1] [] (by decide) (by decide))
  rw [kn_b.1, kn_b.2.1, kn_b.2.2.1, kn_b.2.2.2] at C2
  clear s1 k1 C1 S0
  go_wp2_with fail
  refine (C2.out ()).mono ?_
  rintro e w2 ⟨rfl, k2⟩
  obtain ⟨V2, s2⟩ := S1.out.act k2
  have S2 : Hid (SW w w2 s b pb lb 2 2 (3 :: List.replicate 11 0) V2 [[], []]) := s2
  have C3 : Hid (∀ _ : Unit, _) := fun _ => sgive_any 1 2 w2 s2.h (kl2 [] [] (by decide) (by decide))
  rw [kn_c.1, kn_c.2.1, kn_c.2.2] at C3
  clear s2 k2 C2 S1
  go_wp2_with fail
  refine (C3.out ()).mono ?_
  rintro e w3 ⟨rfl, k3⟩
  obtain ⟨V3, s3⟩ := S2.out.act k3
  have S3 : Hid (SW w w3 s b pb lb 2 2 (3 :: List.replicate 11 0) V3 [[], [2]]) := s3
  have C4 : Hid (∀ _ : Unit, _) := fun _ => sdrain_any 1 w3 s3.h (kl2 [] [2] (by decide) (by decide))
  rw [kn_d.1, kn_d.2.1, kn_d.2.2.1, kn_d.2.2.2] at C4
  clear s3 k3 C3 S2
  go_wp2_with fail
  refine (C4.out ()).mono ?_
  rintro e w4 ⟨rfl, k4⟩
  obtain ⟨V4, s4⟩ := S3.out.act k4
  have S4 : Hid (SW w w4 s b pb lb 2 2 (1 :: List.replicate 11 0) V4 [[], []]) := s4
  have C5 : Hid (∀ _ : Unit, _) := fun _ => sout_any w4 s4.h (kl2 [] [] (by decide) (by decide))
  rw [kn_e.1] at C5
  clear s4 k4 C4 S3
  go_wp2_with fail
  refine (C5.out ()).mono ?_
  rintro e w5 ⟨v5, rfl, g5⟩
  have S5 := S4.out.keep g5.bel
  have HI : Hid (∀ _ : Unit, _) := fun _ => ints_any [1] v5 (.slice (some ⟨w5.heap.size, 0, none⟩) 1 1) (w5.alloc (.cells #[.int .i64 1] 3)) (by simp) ((row_of_owns g5.own).keep ((Fr.refl w5.heap.size [] w5).alloc (Nat.le_refl _) _) (Nat.le_refl _)) (row_new w5 [1] 3 1 1 rfl)
  have S6 : Hid (SW w (w5.alloc (.cells #[.int .i64 1] 3)) s b pb lb 2 2 (1 :: List.replicate 11 0) V4 [[], []]) := S5.keep (((Fr.refl w5.heap.size [] w5).alloc (Nat.le_refl _) _).below (by simp))
  clear g5 S5 C5
  go_wp2_with fail
  refine (HI.out ()).mono ?_
  rintro e w6 ⟨rfl, d, rfl⟩
  have s6 := S6.out.sm (w1 := (w5.alloc (.cells #[.int .i64 1] 3)).drewN d) ⟨rfl, rfl, rfl, rfl⟩
  have C6 : Hid (∀ _ : Unit, _) := fun _ => sfree_any _ s6.h
  rw [kn_e.2] at C6
  have B6 : Hid (Below s w ((w5.alloc (.cells #[.int .i64 1] 3)).drewN d)) := s6.bel
  clear s6
  go_wp2_with fail
  refine (C6.out ()).mono ?_
  rintro e w7 ⟨rfl, rfl⟩
  go_wp2
  go_ret
  exact ⟨rfl, B6.out⟩
end Go.Proofs.Ytibajjidigmkhaa
