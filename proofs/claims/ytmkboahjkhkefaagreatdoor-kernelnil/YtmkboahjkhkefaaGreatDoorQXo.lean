/- Contracts of the program's layers, as far as this claim needs them. -/
import Derived.Test.YtmkboahjkhkefaaGreatDoorRows
import Derived.Test.YtmkboahjkhkefaaGreatDoorQXa
import Derived.WalkKit
import Derived.ProofKit
import Derived.OpenShut
import Derived.BigQuiet
import Derived.Deep.RegionHeld3
import Derived.Laws.BitsAllLaws
import Derived.Lib.BitFns
import Derived.ArgAppend
import Derived.Deep.RegionLaw
import Derived.Deep.DeepCutAuto
import Derived.Deep.CutBlock
import Derived.Deep.OwnRows
set_option linter.unusedVariables false
set_option linter.unusedSimpArgs false
namespace Go.Proofs.YtmkboahjkhkefaaGreatDoor.Om
def bt (A : List Nat) (i : Nat) : Bool := (A.getD (i / 8) 0).testBit (i % 8)
def lz (x : Nat) : Nat := ((List.range 8).find? fun j => !x.testBit j).getD 0
def sb (x j : Nat) (b : Bool) : Nat := if b = true then x ||| 2 ^ j else x - (if x.testBit j = true then 2 ^ j else 0)
def em (A : List Nat) (p : Nat) : Bool := A.getD p 0 == 0
def fu (A : List Nat) (p : Nat) : Bool := A.getD p 0 == 255
def pt (A : List Nat) (p : Nat) : Bool := !em A p && !fu A p
def fi (f : Nat → Bool) (m : Nat) : Option Nat := (List.range m).find? f
def nx (m : Nat) (A : List Nat) : Option Nat := match fi (pt A) m with
  | some p => some p
  | none => fi (em A) m
def tkN (m : Nat) (A : List Nat) : Int := match nx m A with
  | some p => ((p * 8 + lz (A.getD p 0) + 1 : Nat) : Int)
  | none => 0
def tkE (m : Nat) (A : List Nat) : Int := match nx m A with
  | some _ => 0
  | none => 5
def tkA (m : Nat) (A : List Nat) : List Nat := match nx m A with
  | some p => A.set p (sb (A.getD p 0) (lz (A.getD p 0)) true)
  | none => A
def ou (m : Nat) (A : List Nat) (n : Int) : Bool := decide (1 ≤ n ∧ n ≤ 8 * m) && bt A (n - 1).toNat
def gvA (m : Nat) (A : List Nat) (n : Int) : List Nat := if ou m A n = true then A.set ((n - 1).toNat / 8) (sb (A.getD ((n - 1).toNat / 8) 0) ((n - 1).toNat % 8) false) else A
structure Pg (m : Nat) (A : List Nat) : Prop where
  len : A.length = 12
  lt : ∀ p, A.getD p 0 < 256
  m1 : 1 ≤ m
  m2 : m ≤ 12
end Go.Proofs.YtmkboahjkhkefaaGreatDoor.Om
namespace Go.Proofs.YtmkboahjkhkefaaGreatDoor.Sta
open Om
end Go.Proofs.YtmkboahjkhkefaaGreatDoor.Sta
namespace Go.Proofs.YtmkboahjkhkefaaGreatDoor.Sta
open Go.ChangeShapes Go.WideShapes Go.ChangeAt Go.RowKit
open Om
def bv (x : Nat) : Value := .int .u8 (x : Int)
structure PO (w : World) (b m : Nat) (A : List Nat) : Prop where
  sb : Blk w b (A.map bv ++ [.int .i64 (m : Int)]) 252
  pg : Pg m A
theorem PO.keep {B : Nat} {S : List Nat} {w w' : World} {b m : Nat} {A : List Nat} (h : PO w b m A) (k : Fr B S w w') (hb : b < B) (hs : b ∉ S) : PO w' b m A := ⟨h.sb.keep k hb hs, h.pg⟩
set_option maxHeartbeats 400000 in
theorem pnew_any (m : Nat) (w : World) (h1 : (1 : Int) ≤ m) (h2 : (m : Int) ≤ 12) :
    Calls Tryz.prog 81 #[.int .i64 (m : Int)] w fun e w' => e = .returned (.tuple #[.pointer (some ⟨w.heap.size, 0, none⟩), .int .i64 0]) ∧ PO w' w.heap.size m (List.replicate 12 0) ∧ Fr w.heap.size [] w w' := by
  have F : Hid (∀ o, Fr w.heap.size [] w (w.alloc o)) := fun o => (Fr.refl _ _ _).alloc (Nat.le_refl _) o
  have G : Hid (PO (w.alloc (.cells ((List.replicate 12 0).map bv ++ [Value.int .i64 (m : Int)]).toArray 252)) w.heap.size m (List.replicate 12 0)) :=
    ⟨Blk.new w _ _, by simp, fun p => by rw [List.getD_eq_getElem?_getD, List.getElem?_replicate]; split <;> simp, by omega, by omega⟩
  go_enter Tryz.func81, Tryz.ntmps81
  go_wp2
  go_ret2
  exact ⟨rfl, G.out, F.out _⟩
end Go.Proofs.YtmkboahjkhkefaaGreatDoor.Sta
namespace Go.Proofs.YtmkboahjkhkefaaGreatDoor.Sta
open Go.ChangeShapes Go.WideShapes Go.ChangeAt Go.RowKit
open Om
/- The calls of a pool that is not there. -/
end Go.Proofs.YtmkboahjkhkefaaGreatDoor.Sta
namespace Go.Proofs.YtmkboahjkhkefaaGreatDoor.Sta
open Go.ChangeShapes Go.WideShapes Go.ChangeAt Go.RowKit
def Lv (w : World) (v : Value) (xs : List Int) : Prop :=
  (v = .slice none 0 0 ∧ xs = []) ∨ ∃ (g off cap : Nat) (cur : List Value), v = .slice (some ⟨g, off, none⟩) xs.length cap ∧ xs.length ≤ cap ∧ Blk w g cur 3 ∧ off + cap ≤ cur.length ∧ ∀ j, j < xs.length → cur[off + j]? = some (.int .i64 (xs.getD j 0))
def vb (v : Value) : List Nat := match v with
  | .slice (some a) _ _ => [a.block]
  | _ => []
def Ap (v u : Value) : Prop := ∀ (g off n cap g2 off2 n2 cap2 : Nat), v = .slice (some ⟨g, off, none⟩) n cap → u = .slice (some ⟨g2, off2, none⟩) n2 cap2 → g ≠ g2 ∨ off + cap ≤ off2 ∨ off2 + cap2 ≤ off
theorem Lv.keep {B : Nat} {S : List Nat} {w w' : World} {v : Value} {xs : List Int} (h : Lv w v xs) (f : Fr B S w w') (hB : w.heap.size ≤ B) (hS : ∀ g ∈ vb v, g ∉ S) : Lv w' v xs := by
  rcases h with h | ⟨g, off, cap, cur, rfl, h1, hb, h2⟩
  · exact Or.inl h
  · exact Or.inr ⟨g, off, cap, cur, rfl, h1, hb.keep f (Nat.lt_of_lt_of_le hb.lt hB) (hS g (by simp [vb])), h2⟩
theorem Lv.lt {w : World} {v : Value} {xs : List Int} (h : Lv w v xs) : ∀ g ∈ vb v, g < w.heap.size := by
  rcases h with ⟨rfl, _⟩ | ⟨g, off, cap, cur, rfl, _, hb, _⟩
  · simp [vb]
  · simpa [vb] using hb.lt
/- Tables of lists. -/
def nv : Value := .slice none 0 0
structure Ls (w : World) (V : List Value) (K : List (List Int)) : Prop where
  len : V.length = K.length
  lv : ∀ i, i < K.length → Lv w (V.getD i nv) (K.getD i [])
  apart : ∀ i j, i < K.length → j < K.length → i ≠ j → Ap (V.getD i nv) (V.getD j nv)
theorem Ls.keep {B : Nat} {S : List Nat} {w w' : World} {V : List Value} {K : List (List Int)} (h : Ls w V K) (f : Fr B S w w') (hB : w.heap.size ≤ B) (hS : ∀ i, i < K.length → ∀ g ∈ vb (V.getD i nv), g ∉ S) : Ls w' V K :=
  ⟨h.len, fun i hi => (h.lv i hi).keep f hB (hS i hi), h.apart⟩
structure St (tS : TypeId) (w : World) (b pb lb n : Nat) (V : List Value) (K : List (List Int)) : Prop where
  sb : Blk w b [.pointer (some ⟨pb, 0, none⟩), .slice (some ⟨lb, 0, none⟩) n n] tS
  sl : Blk w lb V 133
  ls : Ls w V K
  kn : K.length = n
  n1 : 1 ≤ n
  n2 : n ≤ 64
def bl (V : List Value) : List Nat := V.flatMap vb
theorem bl_get {V : List Value} {i : Nat} {g : Nat} (h : g ∈ vb (V.getD i nv)) : g ∈ bl V := by
  rw [List.getD_eq_getElem?_getD] at h
  cases e : V[i]? with
  | none => rw [e] at h; simp [nv, vb] at h
  | some v =>
    rw [e] at h
    exact List.mem_flatMap.2 ⟨v, List.mem_of_getElem? e, h⟩
theorem bl_mem {V : List Value} {g : Nat} (h : g ∈ bl V) : ∃ i, i < V.length ∧ g ∈ vb (V.getD i nv) := by
  obtain ⟨v, hv, hg⟩ := List.mem_flatMap.1 h
  obtain ⟨i, hi, e⟩ := List.mem_iff_getElem.1 hv
  refine ⟨i, hi, ?_⟩
  rw [List.getD_eq_getElem?_getD, List.getElem?_eq_getElem hi, Option.getD_some, e]
  exact hg
theorem St.vl {tS : TypeId} {w : World} {b pb lb n : Nat} {V : List Value} {K : List (List Int)} (h : St tS w b pb lb n V K) : V.length = n := h.ls.len.trans h.kn
theorem St.lv {tS : TypeId} {w : World} {b pb lb n : Nat} {V : List Value} {K : List (List Int)} (h : St tS w b pb lb n V K) {i : Nat} (hi : i < n) : Lv w (V.getD i nv) (K.getD i []) := h.ls.lv i (by rw [h.kn]; exact hi)
theorem St.keep {tS : TypeId} {B : Nat} {S : List Nat} {w w' : World} {b pb lb n : Nat} {V : List Value} {K : List (List Int)} (h : St tS w b pb lb n V K) (f : Fr B S w w') (hB : w.heap.size ≤ B) (h1 : b ∉ S) (h2 : lb ∉ S) (h3 : ∀ g ∈ bl V, g ∉ S) : St tS w' b pb lb n V K :=
  ⟨h.sb.keep f (Nat.lt_of_lt_of_le h.sb.lt hB) h1, h.sl.keep f (Nat.lt_of_lt_of_le h.sl.lt hB) h2, h.ls.keep f hB fun _ _ g hg => h3 g (bl_get hg), h.kn, h.n1, h.n2⟩
theorem St.bl_lt {tS : TypeId} {w : World} {b pb lb n : Nat} {V : List Value} {K : List (List Int)} (h : St tS w b pb lb n V K) {g : Nat} (hg : g ∈ bl V) : g < w.heap.size := by
  obtain ⟨i, hi, hm⟩ := bl_mem hg
  exact (h.lv (by rw [← h.vl]; exact hi)).lt g hm
end Go.Proofs.YtmkboahjkhkefaaGreatDoor.Sta
namespace Go.Proofs.YtmkboahjkhkefaaGreatDoor.Hm
open Sta
open Om
def ks (K : List (List Int)) (i : Nat) : List Int := K.getD i []
def isc (n : Nat) (c : Int) : Bool := decide (0 ≤ c ∧ c < n)
def kp (K : List (List Int)) (x : Int) : Bool := K.any fun l => decide (x ∈ l)
def hs (m : Nat) (A : List Nat) (K : List (List Int)) (x : Int) : Bool := ou m A x && !kp K x
def f1 (m : Nat) (s : List Nat × List Int) : List Nat × List Int := if tkE m s.1 = 0 then (tkA m s.1, s.2 ++ [tkN m s.1]) else s
def fk (m : Nat) (s : List Nat × List Int) : Nat → List Nat × List Int
  | 0 => s
  | k + 1 => f1 m (fk m s k)
def al (m : Nat) (A : List Nat) (l : List Int) : List Nat × List Int := if l = [] then fk m (A, l) 2 else (A, l)
def alE (m n : Nat) (A : List Nat) (K : List (List Int)) (c : Int) : Int := if isc n c = true then if (al m A (ks K c.toNat)).2 = [] then 5 else 0 else 3
def alN (m n : Nat) (A : List Nat) (K : List (List Int)) (c : Int) : Int := if isc n c = true then (al m A (ks K c.toNat)).2.getLastD 0 else 0
def alA (m n : Nat) (A : List Nat) (K : List (List Int)) (c : Int) : List Nat := if isc n c = true then (al m A (ks K c.toNat)).1 else A
def alK (m n : Nat) (A : List Nat) (K : List (List Int)) (c : Int) : List (List Int) := if isc n c = true then K.set c.toNat (al m A (ks K c.toNat)).2.dropLast else K
def gvs (m : Nat) (A : List Nat) (xs : List Int) : List Nat := xs.foldl (gvA m) A
def gs (m : Nat) (A : List Nat) (l : List Int) : List Nat × List Int := if l.length = 4 then (gvs m A (l.take 2), l.drop 2) else (A, l)
def giE (m n : Nat) (A : List Nat) (K : List (List Int)) (c x : Int) : Int := if isc n c = true then if hs m A K x = true then 0 else 4 else 3
def giA (m n : Nat) (A : List Nat) (K : List (List Int)) (c x : Int) : List Nat := if isc n c = true then if hs m A K x = true then (gs m A (ks K c.toNat)).1 else A else A
def giK (m n : Nat) (A : List Nat) (K : List (List Int)) (c x : Int) : List (List Int) := if isc n c = true then if hs m A K x = true then K.set c.toNat ((gs m A (ks K c.toNat)).2 ++ [x]) else K else K
def drA (m n : Nat) (A : List Nat) (K : List (List Int)) (c : Int) : List Nat := if isc n c = true then gvs m A (ks K c.toNat) else A
def drK (n : Nat) (K : List (List Int)) (c : Int) : List (List Int) := if isc n c = true then K.set c.toNat [] else K
structure Kv (m : Nat) (A : List Nat) (K : List (List Int)) : Prop where
  pg : Pg m A
  kl : ∀ i, (ks K i).length ≤ 4
  nd : ∀ i, (ks K i).Nodup
  ap : ∀ i j x, i ≠ j → x ∈ ks K i → x ∉ ks K j
  ou : ∀ i x, x ∈ ks K i → ou m A x = true
theorem kv_new (m n : Nat) (h : Pg m (List.replicate 12 0)) : Kv m (List.replicate 12 0) (List.replicate n []) := by
  have e : ∀ i, ks (List.replicate n []) i = [] := fun i => by
    unfold ks
    rw [List.getD_eq_getElem?_getD, List.getElem?_replicate]
    split <;> rfl
  exact ⟨h, fun i => by rw [e]; simp, fun i => by rw [e]; exact List.nodup_nil, fun i j x _ hx => by rw [e] at hx; simp at hx, fun i x hx => by rw [e] at hx; simp at hx⟩
end Go.Proofs.YtmkboahjkhkefaaGreatDoor.Hm
namespace Go.Proofs.YtmkboahjkhkefaaGreatDoor.Sta
open Go.ChangeShapes Go.WideShapes Go.ChangeAt Go.RowKit
open Om Hm
structure SH (w : World) (b pb lb n m : Nat) (A : List Nat) (V : List Value) (K : List (List Int)) : Prop where
  st : St 191 w b pb lb n V K
  po : PO w pb m A
theorem SH.keep {B : Nat} {S : List Nat} {w w' : World} {b pb lb n m : Nat} {A : List Nat} {V : List Value} {K : List (List Int)} (h : SH w b pb lb n m A V K) (f : Fr B S w w') (hB : w.heap.size ≤ B) (h0 : pb ∉ S) (h1 : b ∉ S) (h2 : lb ∉ S) (h3 : ∀ g ∈ bl V, g ∉ S) : SH w' b pb lb n m A V K :=
  ⟨h.st.keep f hB h1 h2 h3, h.po.keep f (Nat.lt_of_lt_of_le h.po.sb.lt hB) h0⟩
end Go.Proofs.YtmkboahjkhkefaaGreatDoor.Sta
namespace Go.Proofs.YtmkboahjkhkefaaGreatDoor.Sta
open Go.ChangeShapes Go.WideShapes Go.ChangeAt Go.RowKit
open Om Hm
/- The calls of a stash that is not there. -/
end Go.Proofs.YtmkboahjkhkefaaGreatDoor.Sta
namespace Go.Proofs.YtmkboahjkhkefaaGreatDoor.Sta
open Go.ChangeShapes Go.WideShapes Go.ChangeAt Go.RowKit
open Om Hm
end Go.Proofs.YtmkboahjkhkefaaGreatDoor.Sta
namespace Go.Proofs.YtmkboahjkhkefaaGreatDoor.Sta
open Go.ChangeShapes Go.WideShapes Go.ChangeAt Go.RowKit
open Om Hm
end Go.Proofs.YtmkboahjkhkefaaGreatDoor.Sta
namespace Go.Proofs.YtmkboahjkhkefaaGreatDoor.Sta
open Go.ChangeShapes Go.WideShapes Go.ChangeAt Go.RowKit
end Go.Proofs.YtmkboahjkhkefaaGreatDoor.Sta
namespace Go.Proofs.YtmkboahjkhkefaaGreatDoor.Sta
open Go.ChangeShapes Go.WideShapes Go.ChangeAt Go.RowKit
open Om Hm
theorem Tryz.infoL : (Tryz.prog.info? 133).map (fun i => (i.zero, i.size, i.bytes)) = some (some (.slice none 0 0), 1, 24) := by kernel_rfl
theorem made_nil (n : Nat) : madeCells #[Value.slice none 0 0] n = (List.replicate n nv).toArray := by
  apply Array.ext
  · simp [size_madeCells]
  · intro i h1 h2
    simp [madeCells, Nat.mod_one, nv]
def Vk (s n k : Nat) : List Value := (List.range n).map fun i => if i < k then .slice (some ⟨s, i * 4, none⟩) 0 4 else nv
theorem vk_zero (s n : Nat) : Vk s n 0 = List.replicate n nv := by
  unfold Vk
  apply List.ext_getElem?
  intro i
  rw [List.getElem?_map, List.getElem?_replicate]
  by_cases h : i < n
  · rw [List.getElem?_range h, if_pos h]
    rfl
  · rw [List.getElem?_eq_none (by simpa using h), if_neg h]
    rfl
theorem vk_len (s n k : Nat) : (Vk s n k).length = n := by simp [Vk]
theorem vk_at (s n k i : Nat) (h : i < n) : (Vk s n k)[i]? = some (if i < k then .slice (some ⟨s, i * 4, none⟩) 0 4 else nv) := by
  unfold Vk
  rw [List.getElem?_map, List.getElem?_range h]
  rfl
theorem vk_set (s n k : Nat) (_h : k < n) : (Vk s n k).set k (.slice (some ⟨s, k * 4, none⟩) 0 4) = Vk s n (k + 1) := by
  apply List.ext_getElem?
  intro i
  by_cases hi : i < n
  · rw [List.getElem?_set, vk_at s n k i hi, vk_at s n (k + 1) i hi]
    by_cases e : k = i
    · subst e
      rw [if_pos rfl, if_pos (by rw [vk_len]; exact hi), if_pos (by omega)]
    · rw [if_neg e]
      by_cases c : i < k
      · rw [if_pos c, if_pos (by omega)]
      · rw [if_neg c, if_neg (by omega)]
  · rw [List.getElem?_eq_none (by rw [List.length_set, vk_len]; omega), List.getElem?_eq_none (by rw [vk_len]; omega)]
set_option maxHeartbeats 1000000 in
theorem rooms_any (n : Nat) (w : World) (h1 : (1 : Int) ≤ n) (h2 : (n : Int) ≤ 64) :
    Calls Tryz.prog 82 #[.int .i64 (n : Int)] w fun e w' => e = .returned (.slice (some ⟨w.heap.size + 1, 0, none⟩) n n) ∧ Blk w' (w.heap.size + 1) (Vk w.heap.size n n) 133 ∧ Blk w' w.heap.size ((List.replicate (n * 4) (0 : Int)).map (Value.int .i64)) 3 ∧ Fr w.heap.size [] w w' := by
  obtain ⟨q, hq⟩ : ∃ q, n * 4 = q := ⟨_, rfl⟩
  have hqI : (n : Int) * 4 = (q : Int) := by omega
  have hqH : Hid ((q : Int) = n * 4) := by unfold Hid; omega
  have hmk := run_make_row' (P := Tryz.prog) 133 3 (.int .i64 0) 8 Tryz.underlying133 Tryz.info3 rfl .i64 .i64 q (by omega) (by omega)
  rw [made_int] at hmk
  have hmk2 := run_make_row' (P := Tryz.prog) 188 133 (.slice none 0 0) 24 Tryz.underlying188 Tryz.infoL rfl .i64 .i64 n (by omega) (by omega)
  rw [made_nil] at hmk2
  rw [hq]
  obtain ⟨s, hs⟩ : ∃ s, w.heap.size = s := ⟨_, rfl⟩
  have HS : Hid (w.heap.size = s) := hs
  obtain ⟨Z, hZ⟩ : ∃ Z : List Value, (List.replicate q (0 : Int)).map (Value.int .i64) = Z := ⟨_, rfl⟩
  rw [hZ] at hmk ⊢
  have B0 : Hid (Blk ((w.alloc (.cells Z.toArray 3)).alloc (.cells (List.replicate n nv).toArray 133)) (s + 1) (Vk s n 0) 133 ∧ Blk ((w.alloc (.cells Z.toArray 3)).alloc (.cells (List.replicate n nv).toArray 133)) s Z 3 ∧ Fr s [] w ((w.alloc (.cells Z.toArray 3)).alloc (.cells (List.replicate n nv).toArray 133))) := by
    subst hs
    refine ⟨?_, (Blk.new w Z 3).alloc _, ((Fr.refl _ _ _).alloc (Nat.le_refl _) _).alloc (by simp) _⟩
    rw [vk_zero]
    have := Blk.new (w.alloc (.cells Z.toArray 3)) (List.replicate n nv) 133
    simpa using this
  rw [hs]
  generalize List.replicate n nv = Y at *
  clear hq hZ
  go_enter Tryz.func82, Tryz.ntmps82
  go_wp2
  go_loopw [14] (fun i wr => ∃ k : Nat, (k : Int) ≤ n ∧ i = .int .i64 k ∧ Blk wr (s + 1) (Vk s n k) 133 ∧ Blk wr s Z 3 ∧ Fr s [] w wr) (fun i _ => n - (intOf i).toNat)
  case atStart => exact ⟨0, by omega, rfl, B0.out⟩
  case round =>
    obtain ⟨k, hk, rfl, b1, b2, f1⟩ := hrel
    by_cases l : (k : Int) < n
    · have cc := b1.cell k
      rw [vk_at s n k k (by omega), if_neg (by omega)] at cc
      have ff := b1.free k
      have BS : Hid (∀ v, v = Value.slice (some ⟨s, k * 4, none⟩) 0 4 → Blk (wr.setCell ⟨s + 1, k, none⟩ v) (s + 1) (Vk s n (k + 1)) 133 ∧ Blk (wr.setCell ⟨s + 1, k, none⟩ v) s Z 3 ∧ Fr s [] w (wr.setCell ⟨s + 1, k, none⟩ v)) := fun v hv => by
        subst hv
        refine ⟨?_, b2.other (by simp) _, f1.setCell (Or.inl (by simp)) _⟩
        rw [← vk_set s n k (by omega)]
        exact b1.set k _
      have m1 : (k : Int) * 4 + 4 ≤ q := by have := hqH.out; omega
      have m2 : (k : Int) * 4 ≤ q := by omega
      clear b1 b2 f1
      go_wp2
      go_roundw
      case rel => exact ⟨k + 1, by omega, by go_num, BS.out _ rfl⟩
      case measure => simp [intOf]; omega
    · obtain rfl : k = n := by omega
      go_wp2
      go_ret
      exact ⟨rfl, b1, b2, f1⟩
theorem ls_rooms {w : World} {s n : Nat} (h : Blk w s ((List.replicate (n * 4) (0 : Int)).map (Value.int .i64)) 3) : Ls w (Vk s n n) (List.replicate n []) := by
  have e : ∀ i, i < n → (Vk s n n).getD i nv = .slice (some ⟨s, i * 4, none⟩) 0 4 := fun i hi => by
    rw [List.getD_eq_getElem?_getD, vk_at s n n i hi, if_pos hi]
    rfl
  have e2 : ∀ i, (List.replicate n ([] : List Int)).getD i [] = [] := fun i => by
    rw [List.getD_eq_getElem?_getD, List.getElem?_replicate]
    split <;> rfl
  refine ⟨by simp [vk_len], fun i hi => ?_, fun i j hi hj hn => ?_⟩
  · simp at hi
    rw [e i hi, e2]
    exact Or.inr ⟨s, i * 4, 4, _, rfl, by simp, h, by simp; omega, fun j hj => by simp at hj⟩
  · simp at hi hj
    rw [e i hi, e j hj]
    intro g off n cap g2 off2 n2 cap2 h1 h2
    simp only [Value.slice.injEq, Option.some.injEq, Addr.mk.injEq] at h1 h2
    obtain ⟨⟨rfl, rfl, _⟩, _, rfl⟩ := h1
    obtain ⟨⟨rfl, rfl, _⟩, _, rfl⟩ := h2
    exact Or.inr (by omega)
theorem bl_vk {s n k g : Nat} (h : g ∈ bl (Vk s n k)) : g = s := by
  obtain ⟨v, hv, hg⟩ := List.mem_flatMap.1 h
  obtain ⟨i, _, e⟩ := List.mem_map.1 hv
  by_cases c : i < k
  · rw [if_pos c] at e
    subst e
    simpa [vb] using hg
  · rw [if_neg c] at e
    subst e
    simp [vb, nv] at hg
set_option maxHeartbeats 400000 in
theorem snew_any (n m : Nat) (w : World) (h1 : (1 : Int) ≤ n) (h2 : (n : Int) ≤ 64) (h3 : (1 : Int) ≤ m) (h4 : (m : Int) ≤ 12) :
    Calls Tryz.prog 50 #[.int .i64 (n : Int), .int .i64 (m : Int)] w fun e w' => ∃ b pb lb V, e = .returned (.tuple #[.pointer (some ⟨b, 0, none⟩), .int .i64 0]) ∧ SH w' b pb lb n m (List.replicate 12 0) V (List.replicate n []) ∧ (w.heap.size ≤ b ∧ w.heap.size ≤ pb ∧ w.heap.size ≤ lb ∧ ∀ g ∈ bl V, w.heap.size ≤ g) ∧ Fr w.heap.size [] w w' := by
  have C : Hid (∀ _ : Unit, _) := fun _ => pnew_any m w h3 h4
  have D : Hid (∀ w1, _) := fun w1 => rooms_any n w1 h1 h2
  have FIN : Hid (∀ u1 u2 : World, PO u1 w.heap.size m (List.replicate 12 0) → Fr w.heap.size [] w u1 → Blk u2 (u1.heap.size + 1) (Vk u1.heap.size n n) 133 → Blk u2 u1.heap.size ((List.replicate (n * 4) (0 : Int)).map (Value.int .i64)) 3 → Fr u1.heap.size [] u1 u2 →
      SH (u2.alloc (.cells #[.pointer (some ⟨w.heap.size, 0, none⟩), .slice (some ⟨u1.heap.size + 1, 0, none⟩) n n] 191)) u2.heap.size w.heap.size (u1.heap.size + 1) n m (List.replicate 12 0) (Vk u1.heap.size n n) (List.replicate n []) ∧ (w.heap.size ≤ u2.heap.size ∧ w.heap.size ≤ w.heap.size ∧ w.heap.size ≤ u1.heap.size + 1 ∧ ∀ g ∈ bl (Vk u1.heap.size n n), w.heap.size ≤ g) ∧ Fr w.heap.size [] w (u2.alloc (.cells #[.pointer (some ⟨w.heap.size, 0, none⟩), .slice (some ⟨u1.heap.size + 1, 0, none⟩) n n] 191))) := fun u1 u2 p f a b g => by
    have s1 := f.size
    have s2 := g.size
    have l1 := p.sb.lt
    refine ⟨⟨⟨?_, a.alloc _, ls_rooms (b.alloc _), by simp, by omega, by omega⟩, ?_⟩, ⟨by omega, by omega, by omega, fun q hq => by rw [bl_vk hq]; omega⟩, (f.trans (g.less s1)).alloc (by omega) _⟩
    · exact Blk.new u2 [.pointer (some ⟨w.heap.size, 0, none⟩), .slice (some ⟨u1.heap.size + 1, 0, none⟩) n n] 191
    · exact (p.keep g l1 (by simp)).keep ((Fr.refl u2.heap.size [] u2).alloc (Nat.le_refl _) _) (by omega) (by simp)
  go_enter Tryz.func50, Tryz.ntmps50
  go_wp2_with fail
  refine (C.out ()).mono ?_
  rintro e u1 ⟨rfl, p1, f1⟩
  have P1 : Hid (PO u1 w.heap.size m (List.replicate 12 0) ∧ Fr w.heap.size [] w u1) := ⟨p1, f1⟩
  clear p1 f1
  go_wp2_with fail
  refine (D.out _).mono ?_
  rintro e u2 ⟨rfl, a2, b2, f2⟩
  have FF : Hid (_ ∧ _) := FIN.out u1 u2 P1.out.1 P1.out.2 a2 b2 f2
  clear a2 b2 f2
  go_wp2
  go_ret2
  exact ⟨_, _, _, _, rfl, FF.out⟩
end Go.Proofs.YtmkboahjkhkefaaGreatDoor.Sta
