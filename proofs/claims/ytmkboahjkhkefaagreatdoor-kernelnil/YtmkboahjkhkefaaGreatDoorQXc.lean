/- Contracts of the program's layers, as far as this claim needs them. -/
import Derived.Test.YtmkboahjkhkefaaGreatDoorRows
import Derived.Test.YtmkboahjkhkefaaGreatDoorQXs
import Derived.Test.YtmkboahjkhkefaaGreatDoorQXf
import Derived.WalkKit
import Derived.ProofKit
import Derived.OpenShut
import Derived.BigQuiet
import Derived.Deep.OwnRows
import Derived.Laws.Bits64b
import Derived.Laws.BitsAllLaws
import Derived.Maps.OwnSet
set_option linter.unusedVariables false
set_option linter.unusedSimpArgs false
namespace Go.Proofs.YtmkboahjkhkefaaGreatDoor.Cm
open Fif
open Fm Sl
abbrev Ks := List (List Int)
def ks (K : Ks) (c : Nat) : List Int := K.getD c []
theorem ks_lt {K : Ks} {c : Nat} {id : Int} (h : id ∈ ks K c) : c < K.length := by
  rcases Nat.lt_or_ge c K.length with q | q
  · exact q
  · unfold ks at h
    rw [List.getD_eq_getElem?_getD, List.getElem?_eq_none q] at h
    simp at h
theorem ks_nil (n c : Nat) : ks (List.replicate n []) c = [] := by
  unfold ks
  rw [List.getD_eq_getElem?_getD, List.getElem?_replicate]
  split <;> rfl
def onc (K : Ks) (id : Int) : Option Nat := (List.range K.length).find? fun c => decide (id ∈ ks K c)
def oc (K : Ks) (i : Nat) : Bool := (onc K (i : Int)).isSome
structure Al (K : Ks) : Prop where
  nd : ∀ c, (ks K c).Nodup
  one : ∀ c d id, id ∈ ks K c → id ∈ ks K d → c = d
  rg : ∀ c, ∀ id ∈ ks K c, 1 ≤ id ∧ id ≤ 32
theorem onc_none {K : Ks} {id : Int} : onc K id = none ↔ ∀ c, id ∉ ks K c := by
  unfold onc
  rw [List.find?_eq_none]
  constructor
  · intro h c hc
    have := h c (List.mem_range.2 (ks_lt hc))
    simp [hc] at this
  · intro h c _
    simp [h c]
theorem oc_false {K : Ks} {i : Nat} : oc K i = false ↔ onc K (i : Int) = none := by
  unfold oc
  cases onc K (i : Int) <;> simp
theorem al_nil (n : Nat) : Al (List.replicate n []) := by
  refine ⟨fun c => ?_, fun c d id h => ?_, fun c id h => ?_⟩
  · rw [ks_nil]; exact List.Pairwise.nil
  · rw [ks_nil] at h; simp at h
  · rw [ks_nil] at h; simp at h
theorem onc_nil (n : Nat) (id : Int) : onc (List.replicate n []) id = none := onc_none.2 fun c => by rw [ks_nil]; simp
theorem oc_nil (n : Nat) : oc (List.replicate n []) = fun _ => false := funext fun i => by rw [oc_false]; exact onc_nil n _
def mv (K : Ks) (a b : Nat) : Ks := if ks K a = [] then K else (K.set a (ks K a).tail).set b (ks K b ++ [(ks K a).headD 0])
def cnt (O : Nat → Bool) : Nat := (List.range 32).countP fun i => O (i + 1)
/- The answers. -/
def isc (n : Nat) (c : Int) : Bool := decide (0 ≤ c ∧ c < n)
theorem isc_true {n : Nat} {c : Int} (h : isc n c = true) : 0 ≤ c ∧ c < n := of_decide_eq_true h
theorem isc_nat {n : Nat} {c : Int} (h : isc n c = true) : ∃ k : Nat, c = (k : Int) ∧ k < n ∧ (k : Int) < n := by
  have := isc_true h
  exact ⟨c.toNat, by omega, by omega, by omega⟩
theorem isc_false {n : Nat} {c : Int} (h : isc n c = false) : c < 0 ∨ (0 ≤ c ∧ (n : Int) ≤ c) := by
  have := of_decide_eq_false h
  omega
def nx (K : Ks) : Option Nat := ff 32 (oc K)
def psh (K : Ks) (k : Nat) : Option Nat → Ks
  | some i => K.set k (ks K k ++ [((i + 1 : Nat) : Int)])
  | none => K
/- Of calls. -/
def seN (K : Ks) (c : Int) : Int := if isc K.length c = true then tN (nx K) else 0
def seE (K : Ks) (c : Int) : Int := if isc K.length c = true then tE (nx K) else 3
def seK (K : Ks) (c : Int) : Ks := if isc K.length c = true then psh K c.toNat (nx K) else K
def ckN (K : Ks) (c : Int) : Int := if isc K.length c = true then (ks K c.toNat).headD 0 else 0
def ckK (K : Ks) (c : Int) : Ks := if isc K.length c = true then K.set c.toNat (ks K c.toNat).tail else K
def moE (K : Ks) (a b : Int) : Int := if isc K.length a = true ∧ isc K.length b = true then if a = b then 2 else fE (ks K a.toNat) else 3
def moK (K : Ks) (a b : Int) : Ks := if isc K.length a = true ∧ isc K.length b = true ∧ a ≠ b then mv K a.toNat b.toNat else K
def clL (K : Ks) (c : Int) : List Int := if isc K.length c = true then ks K c.toNat else []
def haB (K : Ks) (id : Int) : Bool := (onc K id).isSome
/- Of works: the last list is no core's. -/
def pc (n : Nat) (c : Int) : Option Nat := if c = -1 then some n else if isc n c = true then some c.toNat else none
theorem pc_lt {n : Nat} {c : Int} {k : Nat} (h : pc n c = some k) : k ≤ n := by
  unfold pc at h
  split at h
  · cases h; omega
  · split at h
    · rename_i e
      have := isc_true e
      cases h
      omega
    · cases h
def quN (n : Nat) (K : Ks) (c : Int) : Int := if (pc n c).isSome = true then tN (nx K) else 0
def quE (n : Nat) (K : Ks) (c : Int) : Int := if (pc n c).isSome = true then tE (nx K) else 3
def quK (n : Nat) (K : Ks) (c : Int) : Ks := match pc n c with
  | some k => psh K k (nx K)
  | none => K
def taP (n : Nat) (K : Ks) (c : Int) : Nat := if ks K c.toNat = [] then n else c.toNat
def taN (n : Nat) (K : Ks) (c : Int) : Int := if isc n c = true then (ks K (taP n K c)).headD 0 else 0
def taK (n : Nat) (K : Ks) (c : Int) : Ks := if isc n c = true then K.set (taP n K c) (ks K (taP n K c)).tail else K
def unE (n : Nat) (K : Ks) (c : Int) : Int := if isc n c = true then fE (ks K c.toNat) else 3
def unK (n : Nat) (K : Ks) (c : Int) : Ks := if isc n c = true then mv K c.toNat n else K
def nm (n k : Nat) : Int := if k = n then -1 else (k : Int)
def wq (n : Nat) (K : Ks) (id : Int) : Option Int := (onc K id).map (nm n)
def wlL (n : Nat) (K : Ks) (c : Int) : List Int := match pc n c with
  | some k => ks K k
  | none => []
end Go.Proofs.YtmkboahjkhkefaaGreatDoor.Cm
namespace Go.Proofs.YtmkboahjkhkefaaGreatDoor.Wrk
open Fif
open Go.ChangeShapes Go.WideShapes Go.ChangeAt Go.RowKit
open Mm Sl
theorem Tryz.infoW : (Tryz.prog.info? 28).map (fun i => (i.zero, i.size, i.bytes)) = some (some (.int .u64 0), 1, 8) := by kernel_rfl
def wv (x : Nat) : Value := .int .u64 (x : Int)
theorem made_word (n : Nat) : madeCells #[Value.int .u64 0] n = ((List.replicate n 0).map wv).toArray := by
  apply Array.ext
  · simp [size_madeCells]
  · intro i h1 h2
    simp [madeCells, Nat.mod_one, wv]
structure T (w : World) (b g m : Nat) (W : List Nat) (O : Nat → Bool) : Prop where
  sb : Blk w b [.slice (some ⟨g, 0, none⟩) W.length W.length, .int .i64 (m : Int)] 237
  sg : Blk w g (W.map wv) 28
  wd : Wd m W O
theorem T.keep {B : Nat} {S : List Nat} {w w' : World} {b g m : Nat} {W : List Nat} {O : Nat → Bool} (h : T w b g m W O) (k : Fr B S w w') (hb : b < B ∧ g < B) (hs : b ∉ S ∧ g ∉ S) : T w' b g m W O :=
  ⟨h.sb.keep k hb.1 hs.1, h.sg.keep k hb.2 hs.2, h.wd⟩
set_option maxHeartbeats 400000 in
theorem snew_any (m : Nat) (w : World) (h1 : (1 : Int) ≤ m) (h2 : (m : Int) ≤ 1024) :
    Calls Tryz.prog 77 #[.int .i64 (m : Int)] w fun e w' => e = .returned (.tuple #[.pointer (some ⟨w.heap.size + 1, 0, none⟩), .int .i64 0]) ∧ (∃ W, T w' (w.heap.size + 1) w.heap.size m W fun _ => false) ∧ Fr w.heap.size [] w w' ∧ w'.heap.size = w.heap.size + 2 := by
  obtain ⟨n, hn⟩ : ∃ n, (m + 63) / 64 = n := ⟨_, rfl⟩
  have G := wd_new m (by omega) (by omega)
  rw [hn] at G
  have hq : ((m : Int) + 64 - 1).tdiv 64 = (n : Int) := by rw [Int.tdiv_eq_ediv_of_nonneg (by omega)]; omega
  have hmk := run_make_row' (P := Tryz.prog) 235 28 (.int .u64 0) 8 Tryz.underlying235 Tryz.infoW rfl .i64 .i64 n (by omega) (by omega)
  have F : Hid (∀ o1 o2, Fr w.heap.size [] w ((w.alloc o1).alloc o2)) := fun o1 o2 => ((Fr.refl _ _ _).alloc (Nat.le_refl _) o1).alloc (by simp) o2
  have HG : Hid (Wd m (List.replicate n 0) fun _ => false) := G
  clear G
  go_enter Tryz.func77, Tryz.ntmps77
  go_wp2
  go_ret2
  refine ⟨rfl, ⟨List.replicate n 0, ?_, ?_, HG.out⟩, F.out _ _, by simp⟩
  · have := Blk.new (w.alloc (Obj.cells (madeCells #[Value.int IntKind.u64 0] n) 28)) [.slice (some ⟨w.heap.size, 0, none⟩) n n, .int .i64 (m : Int)] 237
    simpa using this
  · rw [made_word]
    exact (Blk.new w _ 28).alloc _
end Go.Proofs.YtmkboahjkhkefaaGreatDoor.Wrk
namespace Go.Proofs.YtmkboahjkhkefaaGreatDoor.Wrk
open Fif
open Go.ChangeShapes Go.WideShapes Go.ChangeAt Go.RowKit
open Fm Sl Cm
def QB (w : World) (a : Nat) (L : List Int) : Prop := ∃ f r, Q w (a + 1) a 32 f r L
theorem QB.lt {w : World} {a : Nat} {L : List Int} (h : QB w a L) : a + 1 < w.heap.size := by
  obtain ⟨f, r, q⟩ := h
  exact q.sb.lt
theorem QB.keep {B : Nat} {S : List Nat} {w w' : World} {a : Nat} {L : List Int} (h : QB w a L) (k : Fr B S w w') (hb : a + 1 < B) (h1 : a ∉ S) (h2 : a + 1 ∉ S) : QB w' a L := by
  obtain ⟨f, r, q⟩ := h
  exact ⟨f, r, q.keep k ⟨hb, by omega⟩ ⟨h2, h1⟩⟩
theorem qlen_any {w : World} {a : Nat} {L : List Int} (h : QB w a L) :
    Calls Tryz.prog 115 #[.pointer (some ⟨a + 1, 0, none⟩)] w fun e w' => e = .returned (.int .i64 (L.length : Int)) ∧ w' = w := by
  obtain ⟨f, r, q⟩ := h
  exact len_any w q
theorem qnew_any (w : World) :
    Calls Tryz.prog 80 #[.int .i64 32] w fun e w' => e = .returned (.tuple #[.pointer (some ⟨w.heap.size + 1, 0, none⟩), .int .i64 0]) ∧ QB w' w.heap.size [] ∧ Fr w.heap.size [] w w' ∧ w'.heap.size = w.heap.size + 2 := by
  refine (new_at 32 w (by decide) (by decide)).mono ?_
  rintro e w' ⟨rfl, q, f, z⟩
  exact ⟨rfl, ⟨_, _, q⟩, f, z⟩
def QS (w : World) (a : Nat → Nat) (p : Nat) (K : Ks) : Prop := ∀ c, c < p → QB w (a c) (ks K c)
theorem QS.keep {B : Nat} {S : List Nat} {w w' : World} {a : Nat → Nat} {p : Nat} {K : Ks} (h : QS w a p K) (k : Fr B S w w') (hB : w.heap.size ≤ B) (hS : ∀ c, c < p → a c ∉ S ∧ a c + 1 ∉ S) : QS w' a p K := fun c hc =>
  (h c hc).keep k (Nat.lt_of_lt_of_le (h c hc).lt hB) (hS c hc).1 (hS c hc).2
def qtab (a : Nat → Nat) (n : Nat) : List Value := (List.range n).map fun c => .pointer (some ⟨a c + 1, 0, none⟩)
theorem qtab_get (a : Nat → Nat) (n c : Nat) (h : c < n) : (qtab a n)[c]? = some (.pointer (some ⟨a c + 1, 0, none⟩)) := by
  unfold qtab
  rw [List.getElem?_map, List.getElem?_range h]
  rfl
def qtak (a : Nat → Nat) (n k : Nat) : List Value := (List.range n).map fun c => if c < k then .pointer (some ⟨a c + 1, 0, none⟩) else .pointer none
theorem qtak_get (a : Nat → Nat) (n k c : Nat) (h : c < n) : (qtak a n k)[c]? = some (if c < k then .pointer (some ⟨a c + 1, 0, none⟩) else .pointer none) := by
  unfold qtak
  rw [List.getElem?_map, List.getElem?_range h]
  rfl
theorem qtak_set (a : Nat → Nat) (n k : Nat) : (qtak a n k).set k (.pointer (some ⟨a k + 1, 0, none⟩)) = qtak a n (k + 1) := by
  apply List.ext_getElem?
  intro c
  by_cases hc : c < n
  · rw [qtak_get _ _ _ _ hc, List.getElem?_set]
    by_cases e : k = c
    · subst e
      rw [if_pos rfl, if_pos (by simpa [qtak] using hc), if_pos (by omega)]
    · rw [if_neg e, qtak_get _ _ _ _ hc]
      by_cases q : c < k
      · rw [if_pos q, if_pos (by omega)]
      · rw [if_neg q, if_neg (by omega)]
  · rw [List.getElem?_eq_none (by simp [qtak]; omega), List.getElem?_eq_none (by simp [qtak]; omega)]
theorem qtak_all (a : Nat → Nat) (n : Nat) : qtak a n n = qtab a n := by
  unfold qtak qtab
  apply List.map_congr_left
  intro c hc
  rw [if_pos (List.mem_range.1 hc)]
theorem made_qtak (a : Nat → Nat) (n : Nat) : madeCells #[Value.pointer none] n = (qtak a n 0).toArray := by
  apply Array.ext
  · simp [size_madeCells, qtak]
  · intro i h1 h2
    simp [madeCells, qtak, Nat.mod_one]
theorem Tryz.infoPQ : (Tryz.prog.info? 177).map (fun i => (i.zero, i.size, i.bytes)) = some (some (.pointer none), 1, 8) := by kernel_rfl
end Go.Proofs.YtmkboahjkhkefaaGreatDoor.Wrk
namespace Go.Proofs.YtmkboahjkhkefaaGreatDoor.Wrk
open Fif
open Go.ChangeShapes Go.WideShapes Go.ChangeAt Go.RowKit
def MQ (te : TypeId) (w : World) (b m : Nat) (f : Int → Option Int) : Prop :=
  ∃ D : DataW Unit, w.ownsMap Tryz.prog 3 (plainElem Tryz.prog te) b m D ∧ Maps.size D = m ∧ ∀ id, (Lit.int .i64 id).wf = true → Maps.has D (.int .i64 id) = (f id).isSome ∧ D.atKey (.int .i64 id) (.lit (.int .i64 0)) = .lit (.int .i64 ((f id).getD 0))
theorem MQ.lt {te : TypeId} {w : World} {b m : Nat} {f : Int → Option Int} (h : MQ te w b m f) : b < w.heap.size := by obtain ⟨D, o, _⟩ := h; exact o.lt
theorem MQ.same {te : TypeId} {w w' : World} {b m : Nat} {f : Int → Option Int} (h : MQ te w b m f) (e : w'.heap[b]? = w.heap[b]?) : MQ te w' b m f := by
  obtain ⟨D, ⟨es, clock, hb, rest⟩, k⟩ := h
  exact ⟨D, ⟨es, clock, e.trans hb, rest⟩, k⟩
theorem MQ.keep {te : TypeId} {B : Nat} {S : List Nat} {w w' : World} {b m : Nat} {f : Int → Option Int} (h : MQ te w b m f) (k : Fr B S w w') (hb : b < B) (hs : b ∉ S) : MQ te w' b m f := h.same (k.block b hb hs)
theorem mq_new {te : TypeId} (w : World) : MQ te (w.alloc (.map #[] 0)) w.heap.size 0 (fun _ => none) :=
  ⟨_, World.ownsMap_made w Tryz.prog 3 _, rfl, fun _ _ => ⟨rfl, rfl⟩⟩
section
variable {te tm : TypeId}
end
end Go.Proofs.YtmkboahjkhkefaaGreatDoor.Wrk
namespace Go.Proofs.YtmkboahjkhkefaaGreatDoor.Wrk
open Fif
open Go.ChangeShapes Go.WideShapes Go.ChangeAt Go.RowKit
open Fm Sl Cm
def ga (s n c : Nat) : Nat := if c = n then s + 2 else s + 7 + 2 * c
theorem ga_core {s n c : Nat} (h : c < n) : ga s n c = s + 7 + 2 * c := if_neg (by omega)
theorem ga_free (s n : Nat) : ga s n n = s + 2 := if_pos rfl
def gz (s n : Nat) : List Nat := List.range' s (7 + 2 * n)
theorem mem_gz (s n k : Nat) : k ∈ gz s n ↔ s ≤ k ∧ k < s + (7 + 2 * n) := by unfold gz; rw [List.mem_range'_1]
theorem ga_in {s n c : Nat} (h : c ≤ n) : s + 2 ≤ ga s n c ∧ ga s n c + 1 < s + (7 + 2 * n) ∧ (ga s n c + 1 < s + 4 ∨ s + 7 ≤ ga s n c) := by
  by_cases e : c = n
  · subst e
    rw [ga_free]
    omega
  · rw [ga_core (by omega)]
    omega
structure GB (w : World) (s n : Nat) (K : Ks) (W : List Nat) (O : Nat → Bool) (m : Nat) (f : Int → Option Int) : Prop where
  st : Blk w (s + 6) [.pointer (some ⟨s + 1, 0, none⟩), .slice (some ⟨s + 4, 0, none⟩) n n, .pointer (some ⟨s + 3, 0, none⟩), .map (some (s + 5))] 182
  tb : Blk w (s + 4) (qtab (ga s n) n) 177
  sl : T w (s + 1) s 32 W O
  mp : MQ 3 w (s + 5) m f
  qs : QS w (ga s n) (n + 1) K
  kn : K.length = n + 1
  n1 : 1 ≤ n
  n2 : n ≤ 64
section
variable {w w' : World} {s n : Nat} {K : Ks} {W : List Nat} {O : Nat → Bool} {m : Nat} {f : Int → Option Int}
theorem GB.hi (h : GB w s n K W O m f) : s + (7 + 2 * n) ≤ w.heap.size := by
  have := (h.qs (n - 1) (by omega)).lt
  have := h.n1
  rw [ga_core (by omega)] at *
  omega
theorem GB.c1 (h : GB w s n K W O m f) : w.cell? ⟨s + 6, 1, none⟩ = some (.slice (some ⟨s + 4, 0, none⟩) n n) := h.st.cell 1
theorem GB.c2 (h : GB w s n K W O m f) : w.cell? ⟨s + 6, 2, none⟩ = some (.pointer (some ⟨ga s n n + 1, 0, none⟩)) := by rw [ga_free]; exact h.st.cell 2
theorem GB.cq (h : GB w s n K W O m f) {c : Nat} (hc : c < n) : w.cell? ⟨s + 4, c, none⟩ = some (.pointer (some ⟨ga s n c + 1, 0, none⟩)) := by
  rw [h.tb.cell c, qtab_get _ _ _ hc]
theorem GB.keep {B : Nat} {S : List Nat} (h : GB w s n K W O m f) (k : Fr B S w w') (hB : w.heap.size ≤ B) (hS : ∀ k, s ≤ k → k < s + (7 + 2 * n) → k ∉ S) : GB w' s n K W O m f := by
  have hi := h.hi
  refine ⟨h.st.keep k (by omega) (hS _ (by omega) (by omega)), h.tb.keep k (by omega) (hS _ (by omega) (by omega)), h.sl.keep k ⟨by omega, by omega⟩ ⟨hS _ (by omega) (by omega), hS _ (by omega) (by omega)⟩, h.mp.keep k (by omega) (hS _ (by omega) (by omega)), h.qs.keep k hB fun c hc => ?_, h.kn, h.n1, h.n2⟩
  obtain ⟨h1, h2, _⟩ := ga_in (s := s) (n := n) (c := c) (by omega)
  exact ⟨hS _ (by omega) (by omega), hS _ (by omega) (by omega)⟩
end
def GX (w : World) (s n : Nat) (K : Ks) : Prop := ∃ W O, GB w s n K W O (cnt (oc K)) (wq n K) ∧ Al K ∧ ∀ i, 1 ≤ i → i ≤ 32 → O i = oc K i
theorem GX.keep {B : Nat} {S : List Nat} {w w' : World} {s n : Nat} {K : Ks} (h : GX w s n K) (f : Fr B S w w') (hB : w.heap.size ≤ B) (hS : ∀ k, s ≤ k → k < s + (7 + 2 * n) → k ∉ S) : GX w' s n K := by
  obtain ⟨W, O, b, a, o⟩ := h
  exact ⟨W, O, b.keep f hB hS, a, o⟩
theorem GX.hi {w : World} {s n : Nat} {K : Ks} (h : GX w s n K) : s + (7 + 2 * n) ≤ w.heap.size := by
  obtain ⟨W, O, b, a, o⟩ := h
  exact b.hi
theorem gon_yes {w : World} {t tb n a : Nat} (c : Nat) (hc : (c : Int) < n) (c1 : w.cell? ⟨t, 1, none⟩ = some (.slice (some ⟨tb, 0, none⟩) n n)) (cw : w.cell? ⟨tb, c, none⟩ = some (.pointer (some ⟨a, 0, none⟩))) :
    Calls Tryz.prog 185 #[.pointer (some ⟨t, 0, none⟩), .int .i64 (c : Int)] w fun e w' => e = .returned (.tuple #[.pointer (some ⟨a, 0, none⟩), .int .i64 0]) ∧ w' = w := by
  go_enter Tryz.func185, Tryz.ntmps185
  go_wp2
  go_ret2
  exact ⟨rfl, rfl⟩
theorem gon_no {w : World} {t tb n : Nat} (c : Int) (hc : isc n c = false) (c1 : w.cell? ⟨t, 1, none⟩ = some (.slice (some ⟨tb, 0, none⟩) n n)) :
    Calls Tryz.prog 185 #[.pointer (some ⟨t, 0, none⟩), .int .i64 c] w fun e w' => e = .returned (.tuple #[.pointer none, .int .i64 3]) ∧ w' = w := by
  rcases isc_false hc with q | ⟨q, q2⟩
  · clear hc
    go_enter Tryz.func185, Tryz.ntmps185
    go_wp2
    go_ret2
    exact ⟨rfl, rfl⟩
  · clear hc
    go_enter Tryz.func185, Tryz.ntmps185
    go_wp2
    go_ret2
    exact ⟨rfl, rfl⟩
theorem glist_yes {w : World} {s n k : Nat} {K : Ks} {W : List Nat} {O : Nat → Bool} {m : Nat} {f : Int → Option Int} (c : Int) (h : GB w s n K W O m f) (hp : pc n c = some k) :
    Calls Tryz.prog 114 #[.pointer (some ⟨s + 6, 0, none⟩), .int .i64 c] w fun e w' => e = .returned (.tuple #[.pointer (some ⟨ga s n k + 1, 0, none⟩), .int .i64 0]) ∧ w' = w := by
  unfold pc at hp
  by_cases e : c = -1
  · rw [if_pos e] at hp
    obtain rfl : n = k := by injection hp
    have c2 := h.c2
    subst e
    generalize ga s n n + 1 = a at *
    clear h hp
    go_enter Tryz.func114, Tryz.ntmps114
    go_wp2
    go_ret2
    exact ⟨rfl, rfl⟩
  · rw [if_neg e] at hp
    cases i : isc n c with
    | false =>
      rw [i, if_neg (by decide)] at hp
      cases hp
    | true =>
      rw [i, if_pos rfl] at hp
      obtain ⟨q, rfl, hq, hq2⟩ := isc_nat i
      obtain rfl : q = k := by injection hp
      have C : Hid (∀ _ : Unit, _) := fun _ => gon_yes q hq2 h.c1 (h.cq hq)
      have e2 : ((q : Int) == -1) = false := by simp
      generalize ga s n q + 1 = a at *
      clear h hp i e
      go_enter Tryz.func114, Tryz.ntmps114
      go_wp2_with fail
      refine (C.out ()).mono ?_
      rintro e w' ⟨rfl, rfl⟩
      go_wp2
      go_ret2
      exact ⟨rfl, rfl⟩
theorem glist_no {w : World} {s n : Nat} {K : Ks} {W : List Nat} {O : Nat → Bool} {m : Nat} {f : Int → Option Int} (c : Int) (h : GB w s n K W O m f) (hp : pc n c = none) :
    Calls Tryz.prog 114 #[.pointer (some ⟨s + 6, 0, none⟩), .int .i64 c] w fun e w' => e = .returned (.tuple #[.pointer none, .int .i64 3]) ∧ w' = w := by
  unfold pc at hp
  by_cases e : c = -1
  · rw [if_pos e] at hp
    cases hp
  · rw [if_neg e] at hp
    cases i : isc n c with
    | true =>
      rw [i, if_pos rfl] at hp
      cases hp
    | false =>
      have C : Hid (∀ _ : Unit, _) := fun _ => gon_no c i h.c1
      have e2 : (c == -1) = false := by simpa using e
      clear h hp i e
      go_enter Tryz.func114, Tryz.ntmps114
      go_wp2_with fail
      refine (C.out ()).mono ?_
      rintro e w' ⟨rfl, rfl⟩
      go_wp2
      go_ret2
      exact ⟨rfl, rfl⟩
set_option maxHeartbeats 400000 in
theorem gload_any {w : World} {s n : Nat} {K : Ks} (c : Int) (h : GX w s n K) :
    Calls Tryz.prog 67 #[.pointer (some ⟨s + 6, 0, none⟩), .int .i64 c] w fun e w' => e = .returned (.int .i64 ((wlL n K c).length : Int)) ∧ w' = w := by
  obtain ⟨W, O, b, a, o⟩ := h
  unfold wlL
  cases e : pc n c with
  | none =>
    have C : Hid (∀ _ : Unit, _) := fun _ => glist_no c b e
    have D : Hid (∀ w, _) := fun w => nil_len w
    show Calls _ _ _ _ fun e w' => e = .returned (.int .i64 0) ∧ w' = w
    clear b a o e
    go_enter Tryz.func67, Tryz.ntmps67
    go_wp2_with fail
    refine (C.out ()).mono ?_
    rintro e w' ⟨rfl, rfl⟩
    go_wp2_with fail
    refine (D.out _).mono ?_
    rintro e w' ⟨rfl, rfl⟩
    go_wp2
    go_ret
    exact ⟨rfl, rfl⟩
  | some k =>
    have C : Hid (∀ _ : Unit, _) := fun _ => glist_yes c b e
    have D : Hid (∀ _ : Unit, _) := fun _ => qlen_any (b.qs k (by have := pc_lt e; omega))
    show Calls _ _ _ _ fun e w' => e = .returned (.int .i64 ((ks K k).length : Int)) ∧ w' = w
    generalize (ks K k).length = l at *
    clear b a o e
    go_enter Tryz.func67, Tryz.ntmps67
    go_wp2_with fail
    refine (C.out ()).mono ?_
    rintro e w' ⟨rfl, rfl⟩
    go_wp2_with fail
    refine (D.out ()).mono ?_
    rintro e w' ⟨rfl, rfl⟩
    go_wp2
    go_ret
    exact ⟨rfl, rfl⟩
end Go.Proofs.YtmkboahjkhkefaaGreatDoor.Wrk
namespace Go.Proofs.YtmkboahjkhkefaaGreatDoor.Wrk
open Fif
open Go.ChangeShapes Go.WideShapes Go.ChangeAt Go.RowKit
open Fm Sl Cm
end Go.Proofs.YtmkboahjkhkefaaGreatDoor.Wrk
namespace Go.Proofs.YtmkboahjkhkefaaGreatDoor.Wrk
open Fif
open Go.ChangeShapes Go.WideShapes Go.ChangeAt Go.RowKit
open Fm Sl Cm
structure GN (w wr : World) (s n k : Nat) (W : List Nat) : Prop where
  bel : Below s w wr
  st : Blk wr (s + 6) [.pointer (some ⟨s + 1, 0, none⟩), .slice (some ⟨s + 4, 0, none⟩) n n, .pointer (some ⟨s + 3, 0, none⟩), .map (some (s + 5))] 182
  tb : Blk wr (s + 4) (qtak (ga s n) n k) 177
  sl : T wr (s + 1) s 32 W fun _ => false
  mp : MQ 3 wr (s + 5) 0 fun _ => none
  fq : QB wr (s + 2) []
  qs : ∀ c, c < k → QB wr (s + 7 + 2 * c) []
  sz : wr.heap.size = s + 7 + 2 * k
theorem gn_step {w wr w1 : World} {s n k : Nat} {W : List Nat} (h : GN w wr s n k W) (hk : k < n) (q : QB w1 (s + 7 + 2 * k) []) (f : Fr wr.heap.size [] wr w1) (z : w1.heap.size = wr.heap.size + 2) :
    GN w (w1.setCell ⟨s + 4, k, none⟩ (.pointer (some ⟨s + 7 + 2 * k + 1, 0, none⟩))) s n (k + 1) W := by
  have hz := h.sz
  have fs : Fr w1.heap.size [s + 4] w1 (w1.setCell ⟨s + 4, k, none⟩ (.pointer (some ⟨s + 7 + 2 * k + 1, 0, none⟩))) := (Fr.refl _ _ _).setCell (Or.inr (by simp)) _
  refine ⟨(h.bel.trans ((f.below (by simp)).mono (by omega))).setCell (p := ⟨s + 4, k, none⟩) (by show s ≤ s + 4; omega) _, (h.st.keep f h.st.lt (by simp)).other (p := ⟨s + 4, k, none⟩) (by show s + 6 ≠ s + 4; omega) _, ?_, ?_, ?_, ?_, fun c hc => ?_, ?_⟩
  · rw [← qtak_set, ga_core hk]
    exact (h.tb.keep f h.tb.lt (by simp)).set k _
  · have s1 := h.sl.keep f ⟨h.sl.sb.lt, h.sl.sg.lt⟩ (by simp)
    exact s1.keep fs ⟨s1.sb.lt, s1.sg.lt⟩ ⟨by simp, by simp⟩
  · have m1 := h.mp.keep f h.mp.lt (by simp)
    exact m1.keep fs m1.lt (by simp)
  · have q1 := h.fq.keep f h.fq.lt (by simp) (by simp)
    exact q1.keep fs q1.lt (by simp) (by simp)
  · by_cases e : c = k
    · subst e
      exact q.keep fs q.lt (by simp; omega) (by simp; omega)
    · have q1 := (h.qs c (by omega)).keep f (h.qs c (by omega)).lt (by simp) (by simp)
      exact q1.keep fs q1.lt (by simp; omega) (by simp; omega)
  · show (w1.heap.modify _ _).size = _
    rw [Array.size_modify, z, hz]
    omega
theorem gn_end {w wr : World} {s n : Nat} {W : List Nat} (h : GN w wr s n n W) (h1 : 1 ≤ n) (h2 : n ≤ 64) : GX wr s n (List.replicate (n + 1) []) ∧ Below s w wr := by
  have e1 := oc_nil (n + 1)
  have e2 : wq n (List.replicate (n + 1) []) = fun _ => none := funext fun j => by unfold wq; rw [onc_nil]; rfl
  have e3 : cnt (fun _ => false) = 0 := by decide
  refine ⟨⟨W, fun _ => false, ⟨h.st, by rw [← qtak_all]; exact h.tb, h.sl, by rw [e1, e2, e3]; exact h.mp, ?_, by simp, h1, h2⟩, al_nil _, fun i _ _ => by rw [e1]⟩, h.bel⟩
  intro c hc
  rw [ks_nil]
  by_cases e : c = n
  · rw [e, ga_free]
    exact h.fq
  · rw [ga_core (by omega)]
    exact h.qs c (by omega)
set_option maxRecDepth 100000 in
set_option maxHeartbeats 1000000 in
theorem gnew_any (n : Nat) (w : World) (h1 : (1 : Int) ≤ n) (h2 : (n : Int) ≤ 64) :
    Calls Tryz.prog 48 #[.int .i64 (n : Int)] w fun e w' => e = .returned (.tuple #[.pointer (some ⟨w.heap.size + 6, 0, none⟩), .int .i64 0]) ∧ GX w' w.heap.size n (List.replicate (n + 1) []) ∧ Below w.heap.size w w' := by
  have NS : Hid (∀ _ : Unit, _) := fun _ => snew_any 32 w (by decide) (by decide)
  have C : Hid (∀ w, _) := fun w => qnew_any w
  have hmk := run_make_row' (P := Tryz.prog) 180 177 (.pointer none) 8 Tryz.underlying180 Tryz.infoPQ rfl .i64 .i64 n (by omega) (by omega)
  have hmm := @run_makeMap Tryz.prog
  obtain ⟨s, hs⟩ : ∃ s, w.heap.size = s := ⟨_, rfl⟩
  have HS : Hid (w.heap.size = s) := hs
  rw [hs] at NS ⊢
  rw [made_qtak (ga s n) n] at hmk
  obtain ⟨T0, hT⟩ : ∃ T0, qtak (ga s n) n 0 = T0 := ⟨_, rfl⟩
  have HT : Hid (qtak (ga s n) n 0 = T0) := hT
  rw [hT] at hmk
  clear hT hs
  go_enter Tryz.func48, Tryz.ntmps48
  go_wp2_with fail
  refine (NS.out ()).mono ?_
  rintro e w1 ⟨rfl, ⟨W, sl⟩, f1, z1⟩
  have SL : Hid (T w1 (s + 1) s 32 W fun _ => false) := sl
  have F1 : Hid (Fr s [] w w1 ∧ w1.heap.size = s + 2) := ⟨f1, z1⟩
  have C1 : Hid (∀ _ : Unit, _) := fun _ => C.out w1
  rw [z1] at C1
  clear sl f1 z1 NS
  go_wp2_with fail
  refine (C1.out ()).mono ?_
  rintro e w2 ⟨rfl, fq, f2, z2⟩
  have P0 : Hid (GN w (((w2.alloc (.cells T0.toArray 177)).alloc (.map #[] 0)).alloc (.cells #[.pointer (some ⟨s + 1, 0, none⟩), .slice (some ⟨s + 4, 0, none⟩) n n, .pointer (some ⟨s + 3, 0, none⟩), .map (some (s + 5))] 182)) s n 0 W) := by
    obtain ⟨f1, z1⟩ := F1.out
    have b0 : Below s w w2 := (f1.below (by simp)).trans ((f2.less (by omega)).below (by simp))
    have s2 := SL.out.keep f2 ⟨by omega, by omega⟩ ⟨by simp, by simp⟩
    refine ⟨((b0.alloc (by omega) _).alloc (by simp; omega) _).alloc (by simp; omega) _, ?_, ?_, ?_, ?_, ?_, fun c hc => by omega, by simp [z2]⟩
    · have := Blk.new ((w2.alloc (.cells T0.toArray 177)).alloc (.map #[] 0)) [.pointer (some ⟨s + 1, 0, none⟩), .slice (some ⟨s + 4, 0, none⟩) n n, .pointer (some ⟨s + 3, 0, none⟩), .map (some (s + 5))] 182
      rwa [World.size_alloc, World.size_alloc, z2] at this
    · rw [HT.out]
      have := ((Blk.new w2 T0 177).alloc (.map #[] 0)).alloc (.cells #[.pointer (some ⟨s + 1, 0, none⟩), .slice (some ⟨s + 4, 0, none⟩) n n, .pointer (some ⟨s + 3, 0, none⟩), .map (some (s + 5))] 182)
      rwa [z2] at this
    · exact ⟨((s2.sb.alloc _).alloc _).alloc _, ((s2.sg.alloc _).alloc _).alloc _, s2.wd⟩
    · have m0 := mq_new (te := 3) (w2.alloc (.cells T0.toArray 177))
      rw [World.size_alloc, z2] at m0
      exact m0.keep ((Fr.refl _ [] _).alloc (Nat.le_refl _) _) m0.lt (by simp)
    · exact fq.keep ((((Fr.refl w2.heap.size [] w2).alloc (Nat.le_refl _) _).alloc (by simp) _).alloc (by simp; omega) _) fq.lt (by simp) (by simp)
  have z3 : w2.heap.size = s + 4 := by rw [z2]
  clear fq f2 C1 SL F1 z2
  go_wp2
  simp only [z3] at *
  go_loopw [43] (fun i wr => ∃ (k : Nat), (k : Int) ≤ n ∧ i = .int .i64 (k : Int) ∧ GN w wr s n k W) (fun i _ => n - (intOf i).toNat)
  case atStart => exact ⟨0, by omega, rfl, P0.out⟩
  case round =>
    obtain ⟨k, hk, rfl, P⟩ := hrel
    by_cases c : (k : Int) < n
    · have C1 : Hid (∀ _ : Unit, _) := fun _ => C.out wr
      have ST : Hid (∀ w1 : World, QB w1 wr.heap.size [] → Fr wr.heap.size [] wr w1 → w1.heap.size = wr.heap.size + 2 → GN w (w1.setCell ⟨s + 4, k, none⟩ (.pointer (some ⟨wr.heap.size + 1, 0, none⟩))) s n (k + 1) W) := fun w1 q f z => by
        rw [P.sz] at q ⊢
        exact gn_step P (by omega) q f z
      have cb : Hid (∀ w1 : World, Fr wr.heap.size [] wr w1 → w1.cell? ⟨s + 4, k, none⟩ = some (.pointer none) ∧ w1.frozen? ⟨s + 4, k, none⟩ = false ∧ w1.cell? ⟨s + 6, 1, none⟩ = some (.slice (some ⟨s + 4, 0, none⟩) n n)) := fun w1 f => by
        have b := P.tb.keep f P.tb.lt (by simp)
        have b2 := P.st.keep f P.st.lt (by simp)
        exact ⟨by rw [b.cell, qtak_get _ _ _ _ (by omega), if_neg (by omega)], b.free k, b2.cell 1⟩
      clear P P0
      go_wp2_with fail
      refine (C1.out ()).mono ?_
      rintro e w1 ⟨rfl, q, f, z⟩
      obtain ⟨c1, f1, s1⟩ := cb.out w1 f
      have N2 : Hid _ := ST.out w1 q f z
      clear q f z
      go_wp2
      go_roundw
      case rel => exact ⟨k + 1, by omega, by go_num, N2.out⟩
      case measure => simp [intOf]; omega
    · obtain rfl : k = n := by omega
      have e : Hid _ := gn_end P (by omega) (by omega)
      clear P P0
      go_wp2
      go_ret2
      exact ⟨rfl, e.out⟩
end Go.Proofs.YtmkboahjkhkefaaGreatDoor.Wrk
namespace Go.Proofs.YtmkboahjkhkefaaGreatDoor.Wrk
open Fif
open Go.ChangeShapes Go.WideShapes Go.ChangeAt Go.RowKit
open Fm Sl Cm
def ca (s c : Nat) : Nat := s + 4 + 2 * c
def cz (s p : Nat) : List Nat := List.range' s (4 + 2 * p)
theorem mem_cz (s p k : Nat) : k ∈ cz s p ↔ s ≤ k ∧ k < s + (4 + 2 * p) := by unfold cz; rw [List.mem_range'_1]
structure CB (w : World) (s : Nat) (K : Ks) (W : List Nat) (O : Nat → Bool) : Prop where
  st : Blk w (s + 3) [.pointer (some ⟨s + 1, 0, none⟩), .slice (some ⟨s + 2, 0, none⟩) K.length K.length] 184
  tb : Blk w (s + 2) (qtab (ca s) K.length) 177
  sl : T w (s + 1) s 32 W O
  qs : QS w (ca s) K.length K
  n1 : 1 ≤ K.length
  n2 : K.length ≤ 64
section
variable {w w' : World} {s : Nat} {K : Ks} {W : List Nat} {O : Nat → Bool}
theorem CB.hi (h : CB w s K W O) : s + (4 + 2 * K.length) ≤ w.heap.size := by
  have := (h.qs (K.length - 1) (by have := h.n1; omega)).lt
  have := h.n1
  unfold ca at *
  omega
theorem CB.c1 (h : CB w s K W O) : w.cell? ⟨s + 3, 1, none⟩ = some (.slice (some ⟨s + 2, 0, none⟩) K.length K.length) := h.st.cell 1
theorem CB.cq (h : CB w s K W O) {c : Nat} (hc : c < K.length) : w.cell? ⟨s + 2, c, none⟩ = some (.pointer (some ⟨ca s c + 1, 0, none⟩)) := by
  rw [h.tb.cell c, qtab_get _ _ _ hc]
theorem CB.keep {B : Nat} {S : List Nat} (h : CB w s K W O) (f : Fr B S w w') (hB : w.heap.size ≤ B) (hS : ∀ k, s ≤ k → k < s + (4 + 2 * K.length) → k ∉ S) : CB w' s K W O := by
  have hi := h.hi
  refine ⟨h.st.keep f (by omega) (hS _ (by omega) (by omega)), h.tb.keep f (by omega) (hS _ (by omega) (by omega)), h.sl.keep f ⟨by omega, by omega⟩ ⟨hS _ (by omega) (by omega), hS _ (by omega) (by omega)⟩, h.qs.keep f hB fun c hc => ⟨hS _ (by unfold ca; omega) (by unfold ca; omega), hS _ (by unfold ca; omega) (by unfold ca; omega)⟩, h.n1, h.n2⟩
end
def CX (w : World) (s : Nat) (K : Ks) : Prop := ∃ W O, CB w s K W O ∧ Al K ∧ ∀ i, 1 ≤ i → i ≤ 32 → O i = oc K i
theorem CX.keep {B : Nat} {S : List Nat} {w w' : World} {s : Nat} {K : Ks} (h : CX w s K) (f : Fr B S w w') (hB : w.heap.size ≤ B) (hS : ∀ k, s ≤ k → k < s + (4 + 2 * K.length) → k ∉ S) : CX w' s K := by
  obtain ⟨W, O, b, a, o⟩ := h
  exact ⟨W, O, b.keep f hB hS, a, o⟩
theorem CX.hi {w : World} {s : Nat} {K : Ks} (h : CX w s K) : s + (4 + 2 * K.length) ≤ w.heap.size := by
  obtain ⟨W, O, b, a, o⟩ := h
  exact b.hi
theorem con_yes {w : World} {t tb n a : Nat} (c : Nat) (hc : (c : Int) < n) (c1 : w.cell? ⟨t, 1, none⟩ = some (.slice (some ⟨tb, 0, none⟩) n n)) (cw : w.cell? ⟨tb, c, none⟩ = some (.pointer (some ⟨a, 0, none⟩))) :
    Calls Tryz.prog 116 #[.pointer (some ⟨t, 0, none⟩), .int .i64 (c : Int)] w fun e w' => e = .returned (.tuple #[.pointer (some ⟨a, 0, none⟩), .int .i64 0]) ∧ w' = w := by
  go_enter Tryz.func116, Tryz.ntmps116
  go_wp2
  go_ret2
  exact ⟨rfl, rfl⟩
theorem con_no {w : World} {t tb n : Nat} (c : Int) (hc : isc n c = false) (c1 : w.cell? ⟨t, 1, none⟩ = some (.slice (some ⟨tb, 0, none⟩) n n)) :
    Calls Tryz.prog 116 #[.pointer (some ⟨t, 0, none⟩), .int .i64 c] w fun e w' => e = .returned (.tuple #[.pointer none, .int .i64 3]) ∧ w' = w := by
  rcases isc_false hc with q | ⟨q, q2⟩
  · clear hc
    go_enter Tryz.func116, Tryz.ntmps116
    go_wp2
    go_ret2
    exact ⟨rfl, rfl⟩
  · clear hc
    go_enter Tryz.func116, Tryz.ntmps116
    go_wp2
    go_ret2
    exact ⟨rfl, rfl⟩
set_option maxHeartbeats 400000 in
theorem cload_any {w : World} {s : Nat} {K : Ks} (c : Int) (h : CX w s K) :
    Calls Tryz.prog 68 #[.pointer (some ⟨s + 3, 0, none⟩), .int .i64 c] w fun e w' => e = .returned (.int .i64 ((clL K c).length : Int)) ∧ w' = w := by
  obtain ⟨W, O, b, a, o⟩ := h
  unfold clL
  cases e : isc K.length c with
  | false =>
    have C : Hid (∀ _ : Unit, _) := fun _ => con_no c e b.c1
    have D : Hid (∀ w, _) := fun w => nil_len w
    rw [if_neg (by decide), show ((([] : List Int).length : Nat) : Int) = 0 from rfl]
    clear b a o e
    go_enter Tryz.func68, Tryz.ntmps68
    go_wp2_with fail
    refine (C.out ()).mono ?_
    rintro e w' ⟨rfl, rfl⟩
    go_wp2_with fail
    refine (D.out _).mono ?_
    rintro e w' ⟨rfl, rfl⟩
    go_wp2
    go_ret
    exact ⟨rfl, rfl⟩
  | true =>
    obtain ⟨k, rfl, hk, hk2⟩ := isc_nat e
    rw [if_pos rfl, Int.toNat_natCast]
    have C : Hid (∀ _ : Unit, _) := fun _ => con_yes k hk2 b.c1 (b.cq hk)
    have D : Hid (∀ _ : Unit, _) := fun _ => qlen_any (b.qs k hk)
    generalize (ks K k).length = l at *
    clear b a o e
    go_enter Tryz.func68, Tryz.ntmps68
    go_wp2_with fail
    refine (C.out ()).mono ?_
    rintro e w' ⟨rfl, rfl⟩
    go_wp2_with fail
    refine (D.out ()).mono ?_
    rintro e w' ⟨rfl, rfl⟩
    go_wp2
    go_ret
    exact ⟨rfl, rfl⟩
end Go.Proofs.YtmkboahjkhkefaaGreatDoor.Wrk
namespace Go.Proofs.YtmkboahjkhkefaaGreatDoor.Wrk
open Fif
open Go.ChangeShapes Go.WideShapes Go.ChangeAt Go.RowKit
open Fm Sl Cm
structure CN (w wr : World) (s n k : Nat) (W : List Nat) : Prop where
  bel : Below s w wr
  st : Blk wr (s + 3) [.pointer (some ⟨s + 1, 0, none⟩), .slice (some ⟨s + 2, 0, none⟩) n n] 184
  tb : Blk wr (s + 2) (qtak (ca s) n k) 177
  sl : T wr (s + 1) s 32 W fun _ => false
  qs : ∀ c, c < k → QB wr (ca s c) []
  sz : wr.heap.size = ca s k
theorem cn_step {w wr w1 : World} {s n k : Nat} {W : List Nat} (h : CN w wr s n k W) (q : QB w1 (ca s k) []) (f : Fr wr.heap.size [] wr w1) (z : w1.heap.size = wr.heap.size + 2) :
    CN w (w1.setCell ⟨s + 2, k, none⟩ (.pointer (some ⟨ca s k + 1, 0, none⟩))) s n (k + 1) W := by
  have hz := h.sz
  have fs : Fr w1.heap.size [s + 2] w1 (w1.setCell ⟨s + 2, k, none⟩ (.pointer (some ⟨ca s k + 1, 0, none⟩))) := (Fr.refl _ _ _).setCell (Or.inr (by simp)) _
  have hc : s + 4 ≤ ca s k := by unfold ca; omega
  refine ⟨(h.bel.trans ((f.below (by simp)).mono (by omega))).setCell (p := ⟨s + 2, k, none⟩) (by show s ≤ s + 2; omega) _, (h.st.keep f h.st.lt (by simp)).other (p := ⟨s + 2, k, none⟩) (by show s + 3 ≠ s + 2; omega) _, ?_, ?_, fun c hc => ?_, ?_⟩
  · rw [← qtak_set]
    exact (h.tb.keep f h.tb.lt (by simp)).set k _
  · have s1 := h.sl.keep f ⟨h.sl.sb.lt, h.sl.sg.lt⟩ (by simp)
    exact s1.keep fs ⟨s1.sb.lt, s1.sg.lt⟩ ⟨by simp, by simp⟩
  · by_cases e : c = k
    · subst e
      exact q.keep fs q.lt (by simp; omega) (by simp; omega)
    · have q1 := (h.qs c (by omega)).keep f (h.qs c (by omega)).lt (by simp) (by simp)
      exact q1.keep fs q1.lt (by simp [ca]; omega) (by simp [ca]; omega)
  · show (w1.heap.modify _ _).size = _
    rw [Array.size_modify, z, hz]
    unfold ca
    omega
theorem cn_end {w wr : World} {s n : Nat} {W : List Nat} (h : CN w wr s n n W) (h1 : 1 ≤ n) (h2 : n ≤ 64) : CX wr s (List.replicate n []) ∧ Below s w wr := by
  refine ⟨⟨W, fun _ => false, ⟨by rw [List.length_replicate]; exact h.st, by rw [List.length_replicate, ← qtak_all]; exact h.tb, h.sl, ?_, by simpa using h1, by simpa using h2⟩, al_nil n, fun i _ _ => by rw [oc_nil]⟩, h.bel⟩
  rw [List.length_replicate]
  intro c hc
  rw [ks_nil]
  exact h.qs c hc
set_option maxRecDepth 100000 in
set_option maxHeartbeats 1000000 in
theorem cnew_any (n : Nat) (w : World) (h1 : (1 : Int) ≤ n) (h2 : (n : Int) ≤ 64) :
    Calls Tryz.prog 49 #[.int .i64 (n : Int)] w fun e w' => e = .returned (.tuple #[.pointer (some ⟨w.heap.size + 3, 0, none⟩), .int .i64 0]) ∧ CX w' w.heap.size (List.replicate n []) ∧ Below w.heap.size w w' := by
  have NS : Hid (∀ _ : Unit, _) := fun _ => snew_any 32 w (by decide) (by decide)
  have C : Hid (∀ w, _) := fun w => qnew_any w
  have hmk := run_make_row' (P := Tryz.prog) 180 177 (.pointer none) 8 Tryz.underlying180 Tryz.infoPQ rfl .i64 .i64 n (by omega) (by omega)
  obtain ⟨s, hs⟩ : ∃ s, w.heap.size = s := ⟨_, rfl⟩
  have HS : Hid (w.heap.size = s) := hs
  rw [hs] at NS ⊢
  rw [made_qtak (ca s) n] at hmk
  obtain ⟨T0, hT⟩ : ∃ T0, qtak (ca s) n 0 = T0 := ⟨_, rfl⟩
  have HT : Hid (qtak (ca s) n 0 = T0) := hT
  rw [hT] at hmk
  clear hT hs
  go_enter Tryz.func49, Tryz.ntmps49
  go_wp2_with fail
  refine (NS.out ()).mono ?_
  rintro e w1 ⟨rfl, ⟨W, sl⟩, f1, z1⟩
  have P0 : Hid (CN w ((w1.alloc (.cells T0.toArray 177)).alloc (.cells #[.pointer (some ⟨s + 1, 0, none⟩), .slice (some ⟨s + 2, 0, none⟩) n n] 184)) s n 0 W) := by
    have b0 : Below s w w1 := f1.below (by simp)
    refine ⟨(b0.alloc (by omega) _).alloc (by simp; omega) _, ?_, ?_, ?_, fun c hc => by omega, by simp [ca, z1]⟩
    · have := Blk.new (w1.alloc (.cells T0.toArray 177)) [.pointer (some ⟨s + 1, 0, none⟩), .slice (some ⟨s + 2, 0, none⟩) n n] 184
      rwa [World.size_alloc, z1] at this
    · rw [HT.out]
      have := (Blk.new w1 T0 177).alloc (.cells #[.pointer (some ⟨s + 1, 0, none⟩), .slice (some ⟨s + 2, 0, none⟩) n n] 184)
      rwa [z1] at this
    · exact ⟨(sl.sb.alloc _).alloc _, (sl.sg.alloc _).alloc _, sl.wd⟩
  clear sl f1 NS
  go_wp2
  simp only [z1] at *
  go_loopw [33] (fun i wr => ∃ (k : Nat), (k : Int) ≤ n ∧ i = .int .i64 (k : Int) ∧ CN w wr s n k W) (fun i _ => n - (intOf i).toNat)
  case atStart => exact ⟨0, by omega, rfl, P0.out⟩
  case round =>
    obtain ⟨k, hk, rfl, P⟩ := hrel
    by_cases c : (k : Int) < n
    · have C1 : Hid (∀ _ : Unit, _) := fun _ => C.out wr
      have ST : Hid (∀ w1 : World, QB w1 wr.heap.size [] → Fr wr.heap.size [] wr w1 → w1.heap.size = wr.heap.size + 2 → CN w (w1.setCell ⟨s + 2, k, none⟩ (.pointer (some ⟨wr.heap.size + 1, 0, none⟩))) s n (k + 1) W) := fun w1 q f z => by
        rw [P.sz] at q ⊢
        exact cn_step P q f z
      have cb : Hid (∀ w1 : World, Fr wr.heap.size [] wr w1 → w1.cell? ⟨s + 2, k, none⟩ = some (.pointer none) ∧ w1.frozen? ⟨s + 2, k, none⟩ = false ∧ w1.cell? ⟨s + 3, 1, none⟩ = some (.slice (some ⟨s + 2, 0, none⟩) n n)) := fun w1 f => by
        have b := P.tb.keep f P.tb.lt (by simp)
        have b2 := P.st.keep f P.st.lt (by simp)
        exact ⟨by rw [b.cell, qtak_get _ _ _ _ (by omega), if_neg (by omega)], b.free k, b2.cell 1⟩
      clear P P0
      go_wp2_with fail
      refine (C1.out ()).mono ?_
      rintro e w1 ⟨rfl, q, f, z⟩
      obtain ⟨c1, f1, s1⟩ := cb.out w1 f
      have N2 : Hid _ := ST.out w1 q f z
      clear q f z
      go_wp2
      go_roundw
      case rel => exact ⟨k + 1, by omega, by go_num, N2.out⟩
      case measure => simp [intOf]; omega
    · obtain rfl : k = n := by omega
      have e : Hid _ := cn_end P (by omega) (by omega)
      clear P P0
      go_wp2
      go_ret2
      exact ⟨rfl, e.out⟩
end Go.Proofs.YtmkboahjkhkefaaGreatDoor.Wrk
