/- The texts Fm Fx Fa Fb Fc of one layer, laid together. -/
import Derived.Test.YtfipiifickdeiaaGreatDoorRows
import Derived.Test.YtfipiifickdeiaaGreatDoorXa
import Derived.WalkKit
import Derived.ProofKit
import Derived.OpenShut
import Derived.BigQuiet
import Derived.Deep.RegionHeld3
import Derived.Deep.OwnRows
import Derived.Laws.CopyOwn
namespace Go.Proofs.YtfipiifickdeiaaGreatDoor.Fm
/-- Where in a ring of m the one stands that has k ahead of it. -/
def pl (m f k : Nat) : Nat := if f + k < m then f + k else f + k - m
/-- How many are ahead of n; -1, if it is not there. -/
def ix (L : List Int) (n : Int) : Int := if n ∈ L then (L.idxOf n : Nat) else -1
theorem getD_of (L : List Int) (k : Nat) (h : k < L.length) : L.getD k 0 = L[k] := by simp [List.getD, h]
theorem ext_getD (A B : List Int) (hl : A.length = B.length) (h : ∀ i, i < A.length → A.getD i 0 = B.getD i 0) : A = B := by
  apply List.ext_getElem hl
  intro i h1 h2
  have := h i h1
  rwa [getD_of A i h1, getD_of B i h2] at this
theorem mem_getD (L : List Int) (n : Int) : n ∈ L ↔ ∃ k, k < L.length ∧ L.getD k 0 = n := by
  rw [List.mem_iff_getElem]
  constructor
  · rintro ⟨k, h, e⟩
    exact ⟨k, h, by rw [getD_of L k h]; exact e⟩
  · rintro ⟨k, h, e⟩
    exact ⟨k, h, by rw [getD_of L k h] at e; exact e⟩
theorem idx_first : ∀ (L : List Int) (n : Int) (k : Nat), k < L.length → L.getD k 0 = n → (∀ j, j < k → L.getD j 0 ≠ n) → L.idxOf n = k
  | [], _, k, h, _, _ => by simp at h
  | a :: r, n, 0, _, e, _ => by
    have : a = n := by simpa using e
    subst this
    simp
  | a :: r, n, k + 1, h, e, f => by
    have hne : a ≠ n := by simpa using f 0 (by omega)
    have ih := idx_first r n k (by simpa using h) (by simpa using e) fun j hj => by simpa using f (j + 1) (by omega)
    rw [List.idxOf_cons, show (a == n) = false by simpa using hne]
    simp only [cond_false, ih]
theorem idx_before : ∀ (L : List Int) (n : Int) (j : Nat), j < L.idxOf n → j < L.length → L.getD j 0 ≠ n
  | [], _, j, _, h => by simp at h
  | a :: r, n, 0, h, _ => by
    intro e
    have : a = n := by simpa using e
    subst this
    simp at h
  | a :: r, n, j + 1, h, h2 => by
    rw [List.idxOf_cons] at h
    have h3 : j < r.idxOf n := by
      by_cases c : a = n
      · rw [show (a == n) = true by simpa using c] at h
        simp only [cond_true] at h
        omega
      · rw [show (a == n) = false by simpa using c] at h
        simp only [cond_false] at h
        omega
    simpa using idx_before r n j h3 (by simpa using h2)
theorem ix_hit (L : List Int) (n : Int) (k : Nat) (h : k < L.length) (e : L.getD k 0 = n) (f : ∀ j, j < k → L.getD j 0 ≠ n) : ix L n = k := by
  unfold ix
  rw [if_pos ((mem_getD L n).2 ⟨k, h, e⟩)]
  rw [idx_first L n k h e f]
theorem ix_miss (L : List Int) (n : Int) (f : ∀ j, j < L.length → L.getD j 0 ≠ n) : ix L n = -1 := by
  unfold ix
  rw [if_neg]
  intro h
  obtain ⟨k, hk, e⟩ := (mem_getD L n).1 h
  exact f k hk e
theorem ix_neg (L : List Int) (n : Int) (h : n ∉ L) : ix L n = -1 := if_neg h
theorem ix_pos (L : List Int) (n : Int) (h : n ∈ L) : ∃ k : Nat, ix L n = k ∧ k < L.length ∧ L.getD k 0 = n ∧ ∀ j, j < k → L.getD j 0 ≠ n := by
  have hl : L.idxOf n < L.length := List.idxOf_lt_length_of_mem h
  refine ⟨L.idxOf n, if_pos h, hl, ?_, fun j hj => ?_⟩
  · rw [getD_of L _ hl]
    exact List.getElem_idxOf hl
  · exact idx_before L n j hj (by omega)
theorem getD_app_left (A B : List Int) (j : Nat) (h : j < A.length) : (A ++ B).getD j 0 = A.getD j 0 := by
  simp [List.getD, List.getElem?_append_left h]
theorem getD_app_right (A B : List Int) (j : Nat) (h : A.length ≤ j) : (A ++ B).getD j 0 = B.getD (j - A.length) 0 := by
  simp [List.getD, List.getElem?_append_right h]
theorem ix_app_left (A B : List Int) (n : Int) (h : n ∈ A) : ix (A ++ B) n = ix A n := by
  obtain ⟨k, e, hk, g, f⟩ := ix_pos A n h
  rw [e]
  exact ix_hit _ _ _ (by simp; omega) (by rw [getD_app_left _ _ _ hk]; exact g) fun j hj => by rw [getD_app_left _ _ _ (by omega)]; exact f j hj
theorem ix_app_right (A B : List Int) (n : Int) (h : n ∉ A) (h2 : n ∈ B) : ix (A ++ B) n = A.length + ix B n := by
  obtain ⟨k, e, hk, g, f⟩ := ix_pos B n h2
  rw [e]
  have := ix_hit (A ++ B) n (A.length + k) (by simp; omega) (by rw [getD_app_right _ _ _ (by omega), show A.length + k - A.length = k by omega]; exact g) fun j hj => by
    by_cases c : j < A.length
    · rw [getD_app_left _ _ _ c]
      intro e2
      exact h ((mem_getD A n).2 ⟨j, c, e2⟩)
    · rw [getD_app_right _ _ _ (by omega)]
      exact f _ (by omega)
  rw [this]
  omega
/-- The list L stands in the ring r of m, from f on. -/
structure Rg (m f : Nat) (r L : List Int) : Prop where
  len : r.length = m
  m1 : 1 ≤ m
  m2 : m ≤ 1024
  hf : f < m
  hc : L.length ≤ m
  at' : ∀ k, k < L.length → r.getD (pl m f k) 0 = L.getD k 0
theorem getD_set (r : List Int) (p q : Nat) (n : Int) (hp : p < r.length) : (r.set p n).getD q 0 = if q = p then n else r.getD q 0 := by
  simp only [List.getD, List.getElem?_set]
  by_cases h : p = q
  · subst h; simp [hp]
  · have : ¬ q = p := fun e => h e.symm
    simp [h, this]
theorem pl_lt {m f k : Nat} (hf : f < m) (hk : k ≤ m) : pl m f k < m := by unfold pl; split <;> omega
theorem pl_inj {m f j k : Nat} (_ : f < m) (hj : j < m) (hk : k < m) (h : pl m f j = pl m f k) : j = k := by
  unfold pl at h
  split at h <;> split at h <;> omega
theorem pl_pl {m f k : Nat} (hf : f < m) (hk : k + 1 < m) : pl m (pl m f 1) k = pl m f (k + 1) := by
  unfold pl
  split <;> split <;> split <;> omega
theorem rg_new (m : Nat) (h1 : 1 ≤ m) (h2 : m ≤ 1024) : Rg m 0 (List.replicate m 0) [] :=
  ⟨by simp, h1, h2, by omega, by simp, fun k hk => by simp at hk⟩
theorem rg_push {m f : Nat} {r L : List Int} (h : Rg m f r L) (n : Int) (hc : L.length < m) : Rg m f (r.set (pl m f L.length) n) (L ++ [n]) := by
  have hp := pl_lt (k := L.length) h.hf (by omega)
  refine ⟨by simp [h.len], h.m1, h.m2, h.hf, by simp; omega, fun k hk => ?_⟩
  rw [getD_set _ _ _ _ (by rw [h.len]; exact hp)]
  by_cases c : k = L.length
  · subst c
    rw [if_pos rfl, getD_app_right _ _ _ (Nat.le_refl _)]
    simp
  · have hk2 : k < L.length := by simp at hk; omega
    rw [if_neg, getD_app_left _ _ _ hk2]
    · exact h.at' k hk2
    · intro e
      have := pl_inj h.hf (by omega) hc e
      omega
theorem getD_tail (L : List Int) (k : Nat) : L.tail.getD k 0 = L.getD (k + 1) 0 := by
  cases L <;> simp [List.getD]
theorem rg_pop {m f : Nat} {r L : List Int} (h : Rg m f r L) (hc : 0 < L.length) : Rg m (pl m f 1) r L.tail := by
  have hl : L.tail.length = L.length - 1 := by simp
  have := h.hc
  refine ⟨h.len, h.m1, h.m2, pl_lt h.hf h.m1, by omega, fun k hk => ?_⟩
  rw [pl_pl h.hf (by omega), getD_tail]
  exact h.at' (k + 1) (by omega)
theorem rg_one {m f : Nat} {r L : List Int} (h : Rg m f r L) (hc : f + L.length ≤ m) : (r.drop f).take L.length = L := by
  have hl : ((r.drop f).take L.length).length = L.length := by simp [h.len]; omega
  apply ext_getD _ _ hl
  intro i hi
  rw [hl] at hi
  rw [← h.at' i hi]
  simp only [List.getD, List.getElem?_take, if_pos hi, List.getElem?_drop]
  rw [show pl m f i = f + i from if_pos (by omega)]
theorem rg_two {m f : Nat} {r L : List Int} (h : Rg m f r L) (hc : m < f + L.length) : (r.drop f).take (m - f) ++ (r.drop 0).take (f + L.length - m) = L := by
  have hm := h.hf
  have hh := h.hc
  have l1 : ((r.drop f).take (m - f)).length = m - f := by simp [h.len]
  have l2 : ((r.drop 0).take (f + L.length - m)).length = f + L.length - m := by simp [h.len]; omega
  have hl : ((r.drop f).take (m - f) ++ (r.drop 0).take (f + L.length - m)).length = L.length := by rw [List.length_append, l1, l2]; omega
  apply ext_getD _ _ hl
  intro i hi
  rw [hl] at hi
  rw [← h.at' i hi]
  by_cases c : i < m - f
  · rw [getD_app_left _ _ _ (by rw [l1]; exact c)]
    simp only [List.getD, List.getElem?_take, if_pos c, List.getElem?_drop]
    rw [show pl m f i = f + i from if_pos (by omega)]
  · rw [getD_app_right _ _ _ (by rw [l1]; omega), l1]
    simp only [List.getD, List.getElem?_take, List.getElem?_drop]
    rw [if_pos (by omega), show pl m f i = f + i - m from if_neg (by omega), show 0 + (i - (m - f)) = f + i - m by omega]
/-- What Push answers and leaves. -/
def pE (m : Nat) (L : List Int) (n : Int) : Int := if n ∈ L then 6 else if m ≤ L.length then 5 else 0
def pL (m : Nat) (L : List Int) (n : Int) : List Int := if n ∈ L then L else if m ≤ L.length then L else L ++ [n]
/-- Whether there is a first one. -/
def fE (L : List Int) : Int := if L = [] then 12 else 0
def wo (L : List Int) (n : Int) : List Int := L.filter fun x => x != n
theorem wo_miss (L : List Int) (n : Int) (h : n ∉ L) : wo L n = L := by
  unfold wo
  rw [List.filter_eq_self]
  intro x hx
  simp
  intro e
  exact h (e ▸ hx)
theorem wo_head (L : List Int) (n : Int) (h : (n :: L).Nodup) : wo (n :: L) n = L := by
  rw [List.nodup_cons] at h
  unfold wo
  rw [List.filter_cons]
  simp
  intro a ha e
  exact h.1 (e ▸ ha)
theorem nodup_wo (L : List Int) (n : Int) (h : L.Nodup) : (wo L n).Nodup := List.Pairwise.filter _ h
end Go.Proofs.YtfipiifickdeiaaGreatDoor.Fm
namespace Go.Proofs.YtfipiifickdeiaaGreatDoor.Fif
open Go.ChangeShapes Go.WideShapes Go.ChangeAt Go.RowKit
open Fm
set_option maxHeartbeats 400000 in
theorem index_any (xs : List Int) (v : Value) (n : Int) (w : World) (hl : (xs.length : Int) ≤ 100000) (hr : Row w v xs) :
    Calls Tryz.prog 342 #[v, .int .i64 n] w fun e w' => e = .returned (.int .i64 (ix xs n)) ∧ w' = w := by
  rcases hr with ⟨rfl, a, cap, rfl⟩ | ⟨b, off, cap, rfl, _, hc⟩
  · rw [show ix [] n = -1 from rfl]
    clear hl
    go_enter Tryz.func342, Tryz.ntmps342
    go_wp2
    go_loop [8] (fun i => i = .int .i64 0) (fun _ => 0)
    case atStart => rfl
    case round =>
      obtain rfl := hrel
      go_wp2
      go_ret
      exact ⟨rfl, rfl⟩
  · have HC : Hid (∀ i, i < xs.length → w.cell? ⟨b, off + i, none⟩ = some (.int .i64 (xs.getD i 0))) := hc
    obtain ⟨l, hn⟩ : ∃ l, xs.length = l := ⟨_, rfl⟩
    have HN : Hid (xs.length = l) := hn
    obtain ⟨R, hR⟩ : ∃ R, ix xs n = R := ⟨_, rfl⟩
    have HR : Hid (ix xs n = R) := hR
    rw [hn] at hl ⊢
    rw [hR]
    clear hc hn hR
    go_enter Tryz.func342, Tryz.ntmps342
    go_wp2
    go_loop [8] (fun i => ∃ k : Nat, (k : Int) ≤ l ∧ Hid (∀ j, j < k → xs.getD j 0 ≠ n) ∧ i = .int .i64 k) (fun i => l - (intOf i).toNat)
    case atStart => exact ⟨0, by omega, fun j hj => by omega, rfl⟩
    case round =>
      obtain ⟨k, hk, hM, rfl⟩ := hrel
      by_cases h : (k : Int) < l
      · have hc := HC.out k (by have := HN.out; omega)
        by_cases e : n = xs.getD k 0
        · have s : R = k := by
            rw [← HR.out]
            exact ix_hit xs n k (by have := HN.out; omega) e.symm hM.out
          subst s
          generalize xs.getD k 0 = c at *
          subst e
          go_wp2
          go_ret
          exact ⟨rfl, rfl⟩
        · have s : Hid (∀ j, j < k + 1 → xs.getD j 0 ≠ n) := fun j hj => by
            by_cases d : j = k
            · subst d; exact fun q => e q.symm
            · exact hM.out j (by omega)
          generalize xs.getD k 0 = c at *
          have e2 : (n == c) = false := by simpa using e
          clear e
          go_wp2
          go_round
          case rel => exact ⟨k + 1, by omega, s, by go_num⟩
          case measure => simp [intOf]; omega
      · have s : R = -1 := by
          rw [← HR.out]
          exact ix_miss xs n fun j hj => hM.out j (by have := HN.out; omega)
        subst s
        go_wp2
        go_ret
        exact ⟨rfl, rfl⟩
end Go.Proofs.YtfipiifickdeiaaGreatDoor.Fif
namespace Go.Proofs.YtfipiifickdeiaaGreatDoor.Fif
open Go.ChangeShapes Go.WideShapes Go.ChangeAt Go.RowKit
open Fm
/-- The queue at block b: its ring at block g of m, its first one at f; the ring holds r, of which L stands in the queue. -/
structure Q (w : World) (b g m f : Nat) (r L : List Int) : Prop where
  sb : Blk w b [.slice (some ⟨g, 0, none⟩) m m, .int .i64 (f : Int), .int .i64 (L.length : Int)] 225
  sg : Blk w g (r.map (Value.int .i64)) 3
  rg : Rg m f r L
theorem Q.c0 {w : World} {b g m f : Nat} {r L : List Int} (h : Q w b g m f r L) : w.cell? ⟨b, 0, none⟩ = some (.slice (some ⟨g, 0, none⟩) m m) := h.sb.cell 0
theorem Q.c1 {w : World} {b g m f : Nat} {r L : List Int} (h : Q w b g m f r L) : w.cell? ⟨b, 1, none⟩ = some (.int .i64 (f : Int)) := h.sb.cell 1
theorem Q.c2 {w : World} {b g m f : Nat} {r L : List Int} (h : Q w b g m f r L) : w.cell? ⟨b, 2, none⟩ = some (.int .i64 (L.length : Int)) := h.sb.cell 2
theorem Q.ne {w : World} {b g m f : Nat} {r L : List Int} (h : Q w b g m f r L) : b ≠ g := h.sb.ne h.sg (by decide)
theorem Q.drewN {w : World} {b g m f : Nat} {r L : List Int} (h : Q w b g m f r L) (n : Nat) : Q (w.drewN n) b g m f r L := ⟨h.sb, h.sg, h.rg⟩
theorem Q.keep {B : Nat} {S : List Nat} {w w' : World} {b g m f : Nat} {r L : List Int} (h : Q w b g m f r L) (k : Fr B S w w') (hb : b < B ∧ g < B) (hs : b ∉ S ∧ g ∉ S) : Q w' b g m f r L :=
  ⟨h.sb.keep k hb.1 hs.1, h.sg.keep k hb.2 hs.2, h.rg⟩
set_option maxHeartbeats 400000 in
theorem at_raw {b g m f : Nat} (k : Nat) (w : World) (c0 : w.cell? ⟨b, 0, none⟩ = some (.slice (some ⟨g, 0, none⟩) m m)) (c1 : w.cell? ⟨b, 1, none⟩ = some (.int .i64 (f : Int)))
    (h1 : (m : Int) ≤ 1024) (h2 : (f : Int) < m) (hk : (k : Int) ≤ m) :
    Calls Tryz.prog 242 #[.pointer (some ⟨b, 0, none⟩), .int .i64 (k : Int)] w fun e w' => e = .returned (.int .i64 (pl m f k : Nat)) ∧ w' = w := by
  by_cases c : (f : Int) + k < m
  · have e : ((pl m f k : Nat) : Int) = (f : Int) + k := by unfold pl; rw [if_pos (by omega)]; omega
    rw [e]
    clear e
    go_enter Tryz.func242, Tryz.ntmps242
    go_wp2
    go_ret
    exact ⟨rfl, rfl⟩
  · have e : ((pl m f k : Nat) : Int) = (f : Int) + k - m := by unfold pl; rw [if_neg (by omega)]; omega
    rw [e]
    clear e
    go_enter Tryz.func242, Tryz.ntmps242
    go_wp2
    go_ret
    exact ⟨rfl, rfl⟩
/-- What runs answers: two rows that are the queue's list, end to end. -/
def Two (w : World) (L : List Int) (v : Value) : Prop := ∃ v1 v2 A B, v = .tuple #[v1, v2] ∧ Row w v1 A ∧ Row w v2 B ∧ A ++ B = L ∧ ∃ a1 c1 a2 c2, v1 = .slice a1 A.length c1 ∧ v2 = .slice a2 B.length c2
set_option maxHeartbeats 400000 in
theorem runs_any {b g m f : Nat} {r L : List Int} (w : World) (h : Q w b g m f r L) :
    Calls Tryz.prog 317 #[.pointer (some ⟨b, 0, none⟩)] w fun e w' => ∃ v, e = .returned v ∧ Two w L v ∧ ∃ n, w' = w.drewN n := by
  have c0 := h.c0
  have c1 := h.c1
  have c2 := h.c2
  have h1 : (m : Int) ≤ 1024 := by have := h.rg.m2; omega
  have h2 : (f : Int) < m := by have := h.rg.hf; omega
  have h3 : (L.length : Int) ≤ m := by have := h.rg.hc; omega
  have hl := h.rg.len
  by_cases c : (f : Int) + L.length ≤ m
  · have T : Hid (Two w L (.tuple #[.slice (some ⟨g, f, none⟩) (f + L.length - f) (m - f), .slice none 0 0])) := by
      have R1 := row_of_part h.sg f L.length (m - f) (by omega)
      rw [rg_one h.rg (by omega)] at R1
      rw [show f + L.length - f = L.length by omega]
      exact ⟨_, _, L, [], rfl, R1, Or.inl ⟨rfl, none, 0, rfl⟩, by simp, _, _, _, _, rfl, rfl⟩
    clear h hl
    generalize L.length = l at *
    go_enter Tryz.func317, Tryz.ntmps317
    go_wp2
    go_quiet (fail)
    go_wp2
    go_quiet (fail)
    go_wp2
    go_ret2
    exact ⟨_, rfl, T.out, _, World.drewN_drewN ..⟩
  · have T : Hid (Two w L (.tuple #[.slice (some ⟨g, f, none⟩) (m - f) (m - f), .slice (some ⟨g, 0, none⟩) (f + L.length - m) m])) := by
      have R1 := row_of_part h.sg f (m - f) (m - f) (by omega)
      have R2 := row_of_part h.sg 0 (f + L.length - m) m (by omega)
      have e := rg_two h.rg (by omega)
      have l1 : ((r.drop f).take (m - f)).length = m - f := by simp [hl]
      have l2 : ((r.drop 0).take (f + L.length - m)).length = f + L.length - m := by simp [hl]; omega
      exact ⟨_, _, _, _, rfl, R1, R2, e, some ⟨g, f, none⟩, m - f, some ⟨g, 0, none⟩, m, by rw [l1], by rw [l2]⟩
    clear h hl
    generalize L.length = l at *
    go_enter Tryz.func317, Tryz.ntmps317
    go_wp2
    go_quiet (fail)
    go_wp2
    go_quiet (fail)
    go_wp2
    go_ret2
    exact ⟨_, rfl, T.out, _, World.drewN_drewN ..⟩
theorem ix_ge (L : List Int) (n : Int) (h : n ∈ L) : (0 : Int) ≤ ix L n := by
  obtain ⟨k, e, _⟩ := ix_pos L n h
  omega
theorem ix_lt (L : List Int) (n : Int) : ix L n < (L.length : Int) ∧ -1 ≤ ix L n := by
  by_cases h : n ∈ L
  · obtain ⟨k, e, hk, _⟩ := ix_pos L n h
    omega
  · rw [ix_neg L n h]
    omega
set_option maxHeartbeats 400000 in
theorem ahead_any {b g m f : Nat} {r L : List Int} (n : Int) (w : World) (h : Q w b g m f r L) :
    Calls Tryz.prog 314 #[.pointer (some ⟨b, 0, none⟩), .int .i64 n] w fun e w' => e = .returned (.int .i64 (ix L n)) ∧ ∃ k, w' = w.drewN k := by
  have C : Hid (∀ _ : Unit, _) := fun _ => runs_any w h
  have hL : (L.length : Int) ≤ 1024 := by have := h.rg.hc; have := h.rg.m2; omega
  obtain ⟨X, hX⟩ : ∃ X, ix L n = X := ⟨_, rfl⟩
  have HX : Hid (ix L n = X) := hX
  rw [hX]
  have HL : Hid ((L.length : Int) ≤ 1024) := hL
  clear h hX hL
  go_enter Tryz.func314, Tryz.ntmps314
  go_wp2_with fail
  refine (C.out ()).mono ?_
  rintro e w' ⟨v, rfl, ⟨v1, v2, A, B, rfl, R1, R2, hAB, a1, c1, a2, c2, rfl, rfl⟩, q, rfl⟩
  have HAB : Hid (A ++ B = L) := hAB
  have hl : (A.length : Int) + B.length ≤ 1024 := by have := HL.out; rw [← hAB, List.length_append] at this; omega
  have CA : Hid (∀ _ : Unit, _) := fun _ => index_any A _ n (w.drewN q) (by omega) R1
  have CB : Hid (∀ _ : Unit, _) := fun _ => index_any B _ n (w.drewN q) (by omega) R2
  clear R1 R2 hAB
  by_cases hA : n ∈ A
  · have e : X = ix A n := by rw [← HX.out, ← HAB.out]; exact ix_app_left A B n hA
    have g1 := ix_ge A n hA
    rw [← e] at CA g1
    clear hA CB e
    go_wp2_with fail
    refine (CA.out ()).mono ?_
    rintro e w' ⟨rfl, rfl⟩
    go_wp2
    go_ret
    exact ⟨rfl, _, rfl⟩
  · have ea := ix_neg A n hA
    rw [ea] at CA
    by_cases hB : n ∈ B
    · have e : X = A.length + ix B n := by rw [← HX.out, ← HAB.out]; exact ix_app_right A B n hA hB
      have g1 := ix_ge B n hB
      have g2 := (ix_lt B n).1
      have HE : Hid ((A.length : Int) + ix B n = X) := e.symm
      clear hA hB ea e
      generalize ix B n = x at *
      generalize A.length = la at *
      generalize B.length = lb at *
      go_wp2_with fail
      refine (CA.out ()).mono ?_
      rintro e w' ⟨rfl, rfl⟩
      go_wp2_with fail
      refine (CB.out ()).mono ?_
      rintro e w' ⟨rfl, rfl⟩
      go_wp2
      go_ret
      exact ⟨congrArg (fun z => Ending.returned (Value.int .i64 z)) HE.out, _, rfl⟩
    · have e : X = -1 := by
        rw [← HX.out, ← HAB.out]
        exact ix_neg _ _ (by rw [List.mem_append]; exact fun h => h.elim hA hB)
      have eb := ix_neg B n hB
      rw [eb] at CB
      subst e
      clear hA hB ea eb
      generalize A.length = la at *
      generalize B.length = lb at *
      go_wp2_with fail
      refine (CA.out ()).mono ?_
      rintro e w' ⟨rfl, rfl⟩
      go_wp2_with fail
      refine (CB.out ()).mono ?_
      rintro e w' ⟨rfl, rfl⟩
      go_wp2
      go_ret
      exact ⟨rfl, _, rfl⟩
end Go.Proofs.YtfipiifickdeiaaGreatDoor.Fif
namespace Go.Proofs.YtfipiifickdeiaaGreatDoor.Fif
open Go.ChangeShapes Go.WideShapes Go.ChangeAt Go.RowKit
open Fm
theorem Q.heap {w w1 : World} {b g m f : Nat} {r L : List Int} (h : Q w b g m f r L) (e : w1.heap = w.heap) : Q w1 b g m f r L :=
  ⟨by unfold Blk; rw [e]; exact h.sb, by unfold Blk; rw [e]; exact h.sg, h.rg⟩
theorem q_push {w : World} {b g m f : Nat} {r L : List Int} (h : Q w b g m f r L) (n : Int) (hc : L.length < m) :
    Q ((w.setCell ⟨g, pl m f L.length, none⟩ (.int .i64 n)).setCell ⟨b, 2, none⟩ (.int .i64 ((L.length : Int) + 1))) b g m f (r.set (pl m f L.length) n) (L ++ [n]) := by
  refine ⟨?_, ?_, rg_push h.rg n hc⟩
  · have := (h.sb.other (p := ⟨g, pl m f L.length, none⟩) h.ne (.int .i64 n)).set 2 (.int .i64 ((L.length : Int) + 1))
    simpa using this
  · have := (h.sg.set (pl m f L.length) (.int .i64 n)).other (p := ⟨b, 2, none⟩) h.ne.symm (.int .i64 ((L.length : Int) + 1))
    rwa [← List.map_set] at this
theorem q_pop {w : World} {b g m f : Nat} {r L : List Int} (h : Q w b g m f r L) (hc : 0 < L.length) (c : Int) (e : c = (L.length : Int) - 1) :
    Q ((w.setCell ⟨b, 1, none⟩ (.int .i64 (pl m f 1 : Nat))).setCell ⟨b, 2, none⟩ (.int .i64 c)) b g m (pl m f 1) r L.tail := by
  refine ⟨?_, ?_, rg_pop h.rg hc⟩
  · have := (h.sb.set 1 (.int .i64 (pl m f 1 : Nat))).set 2 (.int .i64 c)
    have e2 : ((L.tail.length : Nat) : Int) = c := by simp; omega
    rw [e2]
    exact this
  · exact (h.sg.other (p := ⟨b, 1, none⟩) h.ne.symm _).other (p := ⟨b, 2, none⟩) h.ne.symm _
set_option maxHeartbeats 400000 in
theorem new_at (m : Nat) (w : World) (h1 : (1 : Int) ≤ m) (h2 : (m : Int) ≤ 1024) :
    Calls Tryz.prog 50 #[.int .i64 (m : Int)] w fun e w' => e = .returned (.tuple #[.pointer (some ⟨w.heap.size + 1, 0, none⟩), .int .i64 0]) ∧ Q w' (w.heap.size + 1) w.heap.size m 0 (List.replicate m 0) [] ∧ Fr w.heap.size [] w w' ∧ w'.heap.size = w.heap.size + 2 := by
  have hmk := run_make_row' (P := Tryz.prog) 22 3 (.int .i64 0) 8 Tryz.underlying22 Tryz.info3 rfl .i64 .i64 m (by omega) (by omega)
  have F : Hid (∀ o1 o2, Fr w.heap.size [] w ((w.alloc o1).alloc o2)) := fun o1 o2 => ((Fr.refl _ _ _).alloc (Nat.le_refl _) o1).alloc (by simp) o2
  have G : Hid (Rg m 0 (List.replicate m 0) []) := rg_new m (by omega) (by omega)
  go_enter Tryz.func50, Tryz.ntmps50
  go_wp2
  go_ret2
  refine ⟨rfl, ⟨?_, ?_, G.out⟩, F.out _ _, by simp⟩
  · have := Blk.new (w.alloc (Obj.cells (madeCells #[Value.int IntKind.i64 0] m) 3)) [.slice (some ⟨w.heap.size, 0, none⟩) m m, .int .i64 0, .int .i64 0] 225
    simpa using this
  · rw [made_int]
    exact (Blk.new w _ 3).alloc _
theorem new_any (m : Nat) (w : World) (h1 : (1 : Int) ≤ m) (h2 : (m : Int) ≤ 1024) :
    Calls Tryz.prog 50 #[.int .i64 (m : Int)] w fun e w' => e = .returned (.tuple #[.pointer (some ⟨w.heap.size + 1, 0, none⟩), .int .i64 0]) ∧ Q w' (w.heap.size + 1) w.heap.size m 0 (List.replicate m 0) [] ∧ Fr w.heap.size [] w w' :=
  (new_at m w h1 h2).mono fun _ _ h => ⟨h.1, h.2.1, h.2.2.1⟩
set_option maxHeartbeats 400000 in
theorem front_any {b g m f : Nat} {r L : List Int} (w : World) (h : Q w b g m f r L) :
    Calls Tryz.prog 241 #[.pointer (some ⟨b, 0, none⟩)] w fun e w' => e = .returned (.tuple #[.int .i64 (L.headD 0), .int .i64 (fE L)]) ∧ ∃ k, w' = w.drewN k := by
  have c0 := h.c0
  have c1 := h.c1
  have c2 := h.c2
  have h1 : (m : Int) ≤ 1024 := by have := h.rg.m2; omega
  have h2 : (f : Int) < m := by have := h.rg.hf; omega
  by_cases c : L = []
  · subst c
    rw [show fE [] = 12 from rfl, show List.headD ([] : List Int) 0 = 0 from rfl]
    clear h
    go_enter Tryz.func241, Tryz.ntmps241
    go_wp2
    go_ret2
    exact ⟨rfl, 0, rfl⟩
  · have hl : 0 < L.length := List.length_pos_iff.2 c
    have cg : w.cell? ⟨g, f, none⟩ = some (.int .i64 (L.headD 0)) := by
      have a := h.rg.at' 0 hl
      rw [show pl m f 0 = f from if_pos (by have := h.rg.hf; omega)] at a
      rw [h.sg.cell f, getD_map_int r f (by rw [h.rg.len]; exact h.rg.hf), a]
      cases L <;> simp
    rw [show fE L = 0 from if_neg c]
    have hl2 : (0 : Int) < L.length := by omega
    clear h c hl
    generalize L.headD 0 = x at *
    generalize L.length = l at *
    go_enter Tryz.func241, Tryz.ntmps241
    go_wp2
    go_quiet (fail)
    go_wp2
    go_ret2
    exact ⟨rfl, _, rfl⟩
theorem len_any {b g m f : Nat} {r L : List Int} (w : World) (h : Q w b g m f r L) :
    Calls Tryz.prog 96 #[.pointer (some ⟨b, 0, none⟩)] w fun e w' => e = .returned (.int .i64 (L.length : Int)) ∧ w' = w := by
  have c2 := h.c2
  clear h
  go_enter Tryz.func96, Tryz.ntmps96
  go_wp2
  go_ret
  exact ⟨rfl, rfl⟩
set_option maxHeartbeats 1000000 in
theorem push_any {b g m f : Nat} {r L : List Int} (n : Int) (w : World) (h : Q w b g m f r L) :
    Calls Tryz.prog 275 #[.pointer (some ⟨b, 0, none⟩), .int .i64 n] w fun e w' => e = .returned (.int .i64 (pE m L n)) ∧ (∃ r', Q w' b g m f r' (pL m L n)) ∧ Fr w.heap.size [b, g] w w' := by
  have C : Hid (∀ _ : Unit, _) := fun _ => ahead_any n w h
  have c0 := h.c0
  have c1 := h.c1
  have c2 := h.c2
  have h1 : (m : Int) ≤ 1024 := by have := h.rg.m2; omega
  have h2 : (f : Int) < m := by have := h.rg.hf; omega
  have h3 : (L.length : Int) ≤ m := by have := h.rg.hc; omega
  have HQ : Hid (Q w b g m f r L) := h
  by_cases c : n ∈ L
  · have g1 := ix_ge L n c
    rw [show pE m L n = 6 from if_pos c, show pL m L n = L from if_pos c]
    clear h c c0 c1 c2 h1 h2 h3
    generalize ix L n = x at *
    go_enter Tryz.func275, Tryz.ntmps275
    go_wp2_with fail
    refine (C.out ()).mono ?_
    rintro e w' ⟨rfl, q, rfl⟩
    go_wp2
    go_ret
    exact ⟨rfl, ⟨_, HQ.out.drewN _⟩, (Fr.refl _ _ _).drewN _⟩
  · rw [ix_neg L n c] at C
    by_cases d : m ≤ L.length
    · rw [show pE m L n = 5 by unfold pE; rw [if_neg c, if_pos d], show pL m L n = L by unfold pL; rw [if_neg c, if_pos d]]
      have d2 : (L.length : Int) = m := by omega
      rw [d2] at c2
      clear h c c1 h3 d d2
      go_enter Tryz.func275, Tryz.ntmps275
      go_wp2_with fail
      refine (C.out ()).mono ?_
      rintro e w' ⟨rfl, q, rfl⟩
      go_wp2
      go_quiet (fail)
      go_wp2
      go_ret
      exact ⟨rfl, ⟨_, (HQ.out.drewN _).drewN _⟩, ((Fr.refl _ _ _).drewN _).drewN _⟩
    · rw [show pE m L n = 0 by unfold pE; rw [if_neg c, if_neg d], show pL m L n = L ++ [n] by unfold pL; rw [if_neg c, if_neg d]]
      have d2 : ((L.length : Int) == m) = false := by simp; omega
      have d3 : (L.length : Int) < m := by omega
      have A : Hid (∀ w1 : World, w1.heap = w.heap → _) := fun w1 e => at_raw L.length w1 (h.heap e).c0 (h.heap e).c1 h1 h2 h3
      have QP : Hid (∀ w1 : World, w1.heap = w.heap → _) := fun w1 e => q_push (h.heap e) n (by omega)
      have p1 : ((pl m f L.length : Nat) : Int) < m := by have := pl_lt (m := m) (f := f) (k := L.length) (by omega) (by omega); omega
      have cg : w.cell? ⟨g, pl m f L.length, none⟩ = some (.int .i64 (r.getD (pl m f L.length) 0)) := by
        rw [h.sg.cell, getD_map_int _ _ (by rw [h.rg.len]; omega)]
      have fg : w.frozen? ⟨g, pl m f L.length, none⟩ = false := h.sg.free _
      have fb : w.frozen? ⟨b, 2, none⟩ = false := h.sb.free _
      have ne1 := h.ne
      have ne2 := h.ne.symm
      clear h c d
      generalize L.length = l at *
      generalize pl m f l = p at *
      generalize r.getD p 0 = x at *
      go_enter Tryz.func275, Tryz.ntmps275
      go_wp2_with fail
      refine (C.out ()).mono ?_
      rintro e w' ⟨rfl, q, rfl⟩
      go_wp2
      go_quiet (fail)
      go_wp2
      go_region_held3 (fun w' => w'.cell? ⟨b, 0, none⟩ = some (.slice (some ⟨g, 0, none⟩) m m) ∧ w'.cell? ⟨b, 2, none⟩ = some (.int .i64 (l : Int))) (go_keep)
        (first | (go_at_call 242; refine (A.out _ ?_).mono ?_; rfl; rintro e w' ⟨rfl, rfl⟩))
      all_goals go_wp2
      go_ret
      exact ⟨rfl, ⟨_, QP.out _ rfl⟩, (((Fr.refl _ _ _).drewN _).setCell (Or.inr (by simp)) _).setCell (Or.inr (by simp)) _⟩
set_option maxHeartbeats 1000000 in
theorem pop_any {b g m f : Nat} {r L : List Int} (w : World) (h : Q w b g m f r L) :
    Calls Tryz.prog 184 #[.pointer (some ⟨b, 0, none⟩)] w fun e w' => e = .returned (.tuple #[.int .i64 (L.headD 0), .int .i64 (fE L)]) ∧ (∃ f', Q w' b g m f' r L.tail) ∧ Fr w.heap.size [b, g] w w' := by
  have C : Hid (∀ _ : Unit, _) := fun _ => front_any w h
  have HQ : Hid (Q w b g m f r L) := h
  by_cases c : L = []
  · subst c
    rw [show fE [] = 12 from rfl, show List.headD ([] : List Int) 0 = 0 from rfl, show ([] : List Int).tail = [] from rfl] at *
    clear h
    go_enter Tryz.func184, Tryz.ntmps184
    go_wp2_with fail
    refine (C.out ()).mono ?_
    rintro e w' ⟨rfl, q, rfl⟩
    go_wp2
    go_ret2
    exact ⟨rfl, ⟨_, HQ.out.drewN _⟩, (Fr.refl _ _ _).drewN _⟩
  · have hl : 0 < L.length := List.length_pos_iff.2 c
    rw [show fE L = 0 from if_neg c] at C ⊢
    have c2 := h.c2
    have h1 : (m : Int) ≤ 1024 := by have := h.rg.m2; omega
    have h2 : (f : Int) < m := by have := h.rg.hf; omega
    have h3 : (L.length : Int) ≤ m := by have := h.rg.hc; omega
    have h4 : (1 : Int) ≤ L.length := by omega
    have A : Hid (∀ w1 : World, w1.heap = w.heap → _) := fun w1 e => at_raw 1 w1 (h.heap e).c0 (h.heap e).c1 h1 h2 (by omega)
    have QP : Hid (∀ w1 : World, w1.heap = w.heap → _) := fun w1 e => q_pop (h.heap e) hl ((L.length : Int) - 1) rfl
    have c1 := h.c1
    have f1 : w.frozen? ⟨b, 1, none⟩ = false := h.sb.free _
    have f2 : w.frozen? ⟨b, 2, none⟩ = false := h.sb.free _
    clear h c hl
    generalize L.length = l at *
    generalize pl m f 1 = p at *
    generalize L.headD 0 = x at *
    go_enter Tryz.func184, Tryz.ntmps184
    go_wp2_with fail
    refine (C.out ()).mono ?_
    rintro e w' ⟨rfl, q, rfl⟩
    go_wp2_with fail
    refine (A.out (w.drewN q) rfl).mono ?_
    rintro e w' ⟨rfl, rfl⟩
    go_wp2
    go_ret2
    exact ⟨rfl, ⟨_, QP.out _ rfl⟩, (((Fr.refl _ _ _).drewN _).setCell (Or.inr (by simp)) _).setCell (Or.inr (by simp)) _⟩
end Go.Proofs.YtfipiifickdeiaaGreatDoor.Fif
namespace Go.Proofs.YtfipiifickdeiaaGreatDoor.Fif
open Go.ChangeShapes Go.WideShapes Go.ChangeAt Go.RowKit
open Fm
set_option maxHeartbeats 2000000 in
theorem list_at {b g m f : Nat} {r L : List Int} (w : World) (h : Q w b g m f r L) :
    Calls Tryz.prog 262 #[.pointer (some ⟨b, 0, none⟩)] w fun e w' => ∃ v g, e = .returned v ∧ v = .slice (some ⟨g, 0, none⟩) L.length L.length ∧ w'.ownsRow w.heap.size 3 1 v L.length (L.map (Value.int .i64)) ∧ Below w.heap.size w w' := by
  have C : Hid (∀ _ : Unit, _) := fun _ => runs_any w h
  have c2 := h.c2
  have hL : (L.length : Int) ≤ 1024 := by have := h.rg.hc; have := h.rg.m2; omega
  have hmk := run_make_row' (P := Tryz.prog) 22 3 (.int .i64 0) 8 Tryz.underlying22 Tryz.info3 rfl .i64 .i64 L.length (by omega) (by omega)
  clear h
  rw [made_int] at hmk
  obtain ⟨Z, hZ⟩ : ∃ Z : List Value, (List.replicate L.length (0 : Int)).map (Value.int .i64) = Z := ⟨_, rfl⟩
  have lZ : Hid (Z.length = L.length) := by rw [← hZ]; simp [Hid]
  rw [hZ] at hmk
  clear hZ
  obtain ⟨l, hl⟩ : ∃ l, L.length = l := ⟨_, rfl⟩
  have HL : Hid (L.length = l) := hl
  rw [hl] at c2 hL hmk lZ
  clear hl
  go_enter Tryz.func262, Tryz.ntmps262
  go_wp2_with fail
  refine (C.out ()).mono ?_
  rintro e w' ⟨v, rfl, ⟨v1, v2, A, B, rfl, R1, R2, hAB, a1, k1, a2, k2, rfl, rfl⟩, q, rfl⟩
  have HAB : Hid (A ++ B = L) := hAB
  have hs : (A.length : Int) + B.length = l := by have := HL.out; rw [← hAB, List.length_append] at this; omega
  have BW : Below w.heap.size w ((w.drewN q).alloc (.cells Z.toArray 3)) := (((Fr.refl w.heap.size [] w).drewN q).alloc (Nat.le_refl _) _).below (by simp)
  have R1' : Row ((w.drewN q).alloc (.cells Z.toArray 3)) _ A := Row.keep (w := w) (B := w.heap.size) R1 (Fr.of_below BW) (Nat.le_refl _)
  have R2' : Hid (Row w _ B) := R2
  have GW : Hid (((w.drewN q).alloc (.cells Z.toArray 3)).heap[w.heap.size]? = some (.cells Z.toArray 3 (0, 0))) := heap_alloc_new _ _
  have HB : Hid (Below w.heap.size w ((w.drewN q).alloc (.cells Z.toArray 3))) := BW
  obtain ⟨X, hX⟩ : ∃ X, A.map (Value.int .i64) = X := ⟨_, rfl⟩
  have lX : X.length = A.length := by rw [← hX]; simp
  have oX : Hid (∀ v ∈ X, v.oneCell' = true) := by rw [← hX]; exact ints_one A
  have sX : Hid (0 < A.length → _) := fun hp => row_src R1' hp
  obtain ⟨Y, hY⟩ : ∃ Y, B.map (Value.int .i64) = Y := ⟨_, rfl⟩
  have lY : Y.length = B.length := by rw [← hY]; simp
  have oY : Hid (∀ v ∈ Y, v.oneCell' = true) := by rw [← hY]; exact ints_one B
  have HXY : Hid (splice (splice Z 0 X) A.length Y = L.map (Value.int .i64)) := by
    have e := splice_two Z X Y (by rw [lX, lY, lZ.out]; omega)
    rw [lX] at e
    rw [e, ← hX, ← hY, ← List.map_append, hAB]
    exact rfl
  have HY : Hid (B.map (Value.int .i64) = Y) := hY
  rw [hX] at sX
  have N1 : Hid (X.length = Nat.min A.length l) := by rw [lX]; exact (Nat.min_eq_left (by omega)).symm
  have P1 : Hid (0 < X.length → _) := fun hp => sX.out (by omega)
  have F1 : Hid (0 + X.length ≤ Z.length) := by rw [lX, lZ.out]; unfold Hid; omega
  have F2 : Hid (A.length + Y.length ≤ (splice Z 0 X).length) := by rw [length_splice _ _ _ F1.out, lY, lZ.out]; unfold Hid; omega
  have N2 : Hid (Y.length = Nat.min B.length (l - A.length)) := by rw [lY]; exact (Nat.min_eq_left (by omega)).symm
  have LY : Hid (Y.length = B.length) := lY
  have PY : Hid (∀ w2 : World, Below w.heap.size w w2 → 0 < Y.length → ∃ ad, a2 = some ad ∧ ∀ j v, Y[j]? = some v → w2.cell? (ad.add j) = some v) := fun w2 hb hp => by
    have := row_src (Row.keep (w := w) (B := w.heap.size) R2 (Fr.of_below hb) (Nat.le_refl _)) (by omega)
    rwa [hY] at this
  have RE : Hid (∀ w3 : World, w3.heap[w.heap.size]? = some (.cells (splice (splice Z 0 X) A.length Y).toArray 3 (0, 0)) → w3.ownsRow w.heap.size 3 1 (.slice (some ⟨w.heap.size, 0, none⟩) l l) L.length (L.map (Value.int .i64))) := fun w3 hw => by
    rw [HXY.out] at hw
    have hl := HL.out
    exact ⟨by simp, Or.inr ⟨w.heap.size, l, _, by rw [hl], Nat.le_refl _, hw, by omega, by unfold maxLen; omega, by simp [hl], by rw [Nat.mul_one]; exact List.take_of_length_le (by simp)⟩⟩
  clear hAB BW R1 R2 hX hY lX lY R1' sX HAB
  by_cases hb : (B.length : Int) = 0
  · have ea : (A.length : Int) = l := by omega
    have N3 : Hid (Y.length = Nat.min B.length 0) := by rw [LY.out]; exact (show B.length = min B.length 0 by omega)
    have N4 : Hid (¬ 0 < Y.length) := by rw [LY.out]; exact (show ¬ 0 < B.length by omega)
    go_wp2_with (first | (refine wpList_copy_splice rfl (.tmp 18) (.tmp 19) 22 22 rfl 3 Tryz.underlying22 info3s _ _ _ _ _ _ rfl rfl w.heap.size 0 Z 3 GW.out X N1.out (fun hp => ⟨rfl, P1.out hp⟩) F1.out oX.out w.heap.size w HB.out (Nat.le_refl _) ?_; intro w2 HG2 hB2) | (refine wpList_copy_splice rfl (.tmp 24) (.tmp 25) 22 22 rfl 3 Tryz.underlying22 info3s _ _ _ _ _ _ rfl rfl w.heap.size A.length (splice Z 0 X) 3 HG2.out Y N3.out (fun hp => absurd hp N4.out) F2.out oY.out w.heap.size w hB2 (Nat.le_refl _) ?_; intro w3 HG3 hB3))
    go_ret
    exact ⟨.slice (some ⟨w.heap.size, 0, none⟩) l l, w.heap.size, rfl, by rw [HL.out], RE.out _ HG3.out, hB3⟩
  · have ea : (A.length : Int) < l := by omega
    go_wp2_with (first | (refine wpList_copy_splice rfl (.tmp 18) (.tmp 19) 22 22 rfl 3 Tryz.underlying22 info3s _ _ _ _ _ _ rfl rfl w.heap.size 0 Z 3 GW.out X N1.out (fun hp => ⟨rfl, P1.out hp⟩) F1.out oX.out w.heap.size w HB.out (Nat.le_refl _) ?_; intro w2 HG2 hB2) | (refine wpList_copy_splice rfl (.tmp 24) (.tmp 25) 22 22 rfl 3 Tryz.underlying22 info3s _ _ _ _ _ _ rfl rfl w.heap.size A.length (splice Z 0 X) 3 HG2.out Y N2.out (fun hp => ⟨rfl, PY.out w2 hB2 hp⟩) F2.out oY.out w.heap.size w hB2 (Nat.le_refl _) ?_; intro w3 HG3 hB3))
    go_ret
    exact ⟨.slice (some ⟨w.heap.size, 0, none⟩) l l, w.heap.size, rfl, by rw [HL.out], RE.out _ HG3.out, hB3⟩
/- The calls of a queue that is not there. -/
theorem nil_len (w : World) : Calls Tryz.prog 96 #[.pointer none] w fun e w' => e = .returned (.int .i64 0) ∧ w' = w := by
  go_enter Tryz.func96, Tryz.ntmps96
  go_wp2
  go_ret
  exact ⟨rfl, rfl⟩
end Go.Proofs.YtfipiifickdeiaaGreatDoor.Fif
