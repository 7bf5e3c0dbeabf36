/- The texts Cm Cs Cq Wf Ga Gb Gc Ja Jb of one layer, laid together. -/
import Derived.Test.YtfdmcbcomknebaaGreatDoorRows
import Derived.Test.YtfdmcbcomknebaaGreatDoorXs
import Derived.Test.YtfdmcbcomknebaaGreatDoorXf
import Derived.WalkKit
import Derived.ProofKit
import Derived.OpenShut
import Derived.BigQuiet
import Derived.Deep.OwnRows
import Derived.Laws.Bits64b
import Derived.Laws.BitsAllLaws
import Derived.Maps.OwnSet
namespace Go.Proofs.YtfdmcbcomknebaaGreatDoor.Cm
open Fif
open Fm Sl
abbrev Ks := List (List Int)
def ks (K : Ks) (c : Nat) : List Int := K.getD c []
theorem ks_set (K : Ks) (c i : Nat) (X : List Int) (hc : c < K.length) : ks (K.set c X) i = if i = c then X else ks K i := by
  unfold ks
  rw [List.getD_eq_getElem?_getD, List.getElem?_set]
  by_cases e : c = i
  · subst e
    simp [hc]
  · rw [if_neg e, if_neg (fun g => e g.symm), List.getD_eq_getElem?_getD]
theorem ks_lt {K : Ks} {c : Nat} {id : Int} (h : id ∈ ks K c) : c < K.length := by
  rcases Nat.lt_or_ge c K.length with q | q
  · exact q
  · unfold ks at h
    rw [List.getD_eq_getElem?_getD, List.getElem?_eq_none q] at h
    simp at h
theorem ks_nil (n c : Nat) : ks (List.replicate n []) c = [] := by
  unfold ks
  rw [List.getD_eq_getElem?_getD, List.getElem?_replicate]
  split <;> rfl
/-- The list that a number is in. -/
def onc (K : Ks) (id : Int) : Option Nat := (List.range K.length).find? fun c => decide (id ∈ ks K c)
def oc (K : Ks) (i : Nat) : Bool := (onc K (i : Int)).isSome
/-- Each number is in one list at most, and once. -/
structure Al (K : Ks) : Prop where
  nd : ∀ c, (ks K c).Nodup
  one : ∀ c d id, id ∈ ks K c → id ∈ ks K d → c = d
  rg : ∀ c, ∀ id ∈ ks K c, 1 ≤ id ∧ id ≤ 32
theorem onc_none {K : Ks} {id : Int} : onc K id = none ↔ ∀ c, id ∉ ks K c := by
  unfold onc
  rw [List.find?_eq_none]
  constructor
  · intro h c hc
    have := h c (List.mem_range.2 (ks_lt hc))
    simp [hc] at this
  · intro h c _
    simp [h c]
theorem oc_false {K : Ks} {i : Nat} : oc K i = false ↔ onc K (i : Int) = none := by
  unfold oc
  cases onc K (i : Int) <;> simp
theorem al_nil (n : Nat) : Al (List.replicate n []) := by
  refine ⟨fun c => ?_, fun c d id h => ?_, fun c id h => ?_⟩
  · rw [ks_nil]; exact List.Pairwise.nil
  · rw [ks_nil] at h; simp at h
  · rw [ks_nil] at h; simp at h
theorem onc_nil (n : Nat) (id : Int) : onc (List.replicate n []) id = none := onc_none.2 fun c => by rw [ks_nil]; simp
theorem oc_nil (n : Nat) : oc (List.replicate n []) = fun _ => false := funext fun i => by rw [oc_false]; exact onc_nil n _
theorem mem_wo (L : List Int) (n j : Int) : j ∈ wo L n ↔ j ∈ L ∧ j ≠ n := by
  unfold wo
  rw [List.mem_filter]
  simp
/-- The first one of a list behind all of another one. -/
def mv (K : Ks) (a b : Nat) : Ks := if ks K a = [] then K else (K.set a (ks K a).tail).set b (ks K b ++ [(ks K a).headD 0])
/-- No more than there are numbers. -/
theorem few : ∀ (m : Nat) (L : List Int), L.Nodup → (∀ x ∈ L, 1 ≤ x ∧ x ≤ (m : Int)) → L.length ≤ m
  | 0, L, _, h => by
    cases L with
    | nil => simp
    | cons a t => have := h a (by simp); omega
  | m + 1, L, hn, h => by
    have ih := few m (wo L ((m : Int) + 1)) (nodup_wo _ _ hn) fun x hx => by
      obtain ⟨h1, h2⟩ := (mem_wo _ _ _).1 hx
      have := h x h1
      omega
    by_cases q : ((m : Int) + 1) ∈ L
    · have e : wo L ((m : Int) + 1) = L.erase ((m : Int) + 1) := (List.Nodup.erase_eq_filter hn _).symm
      rw [e, List.length_erase_of_mem q] at ih
      omega
    · rw [wo_miss _ _ q] at ih
      omega
theorem Al.len {K : Ks} (h : Al K) (c : Nat) : (ks K c).length ≤ 32 := few 32 _ (h.nd c) (h.rg c)
/-- How many there are. -/
def cnt (O : Nat → Bool) : Nat := (List.range 32).countP fun i => O (i + 1)
/- The answers. -/
def isc (n : Nat) (c : Int) : Bool := decide (0 ≤ c ∧ c < n)
theorem isc_true {n : Nat} {c : Int} (h : isc n c = true) : 0 ≤ c ∧ c < n := of_decide_eq_true h
theorem isc_nat {n : Nat} {c : Int} (h : isc n c = true) : ∃ k : Nat, c = (k : Int) ∧ k < n ∧ (k : Int) < n := by
  have := isc_true h
  exact ⟨c.toNat, by omega, by omega, by omega⟩
theorem isc_false {n : Nat} {c : Int} (h : isc n c = false) : c < 0 ∨ (0 ≤ c ∧ (n : Int) ≤ c) := by
  have := of_decide_eq_false h
  omega
/-- The next number. -/
def nx (K : Ks) : Option Nat := ff 32 (oc K)
def psh (K : Ks) (k : Nat) : Option Nat → Ks
  | some i => K.set k (ks K k ++ [((i + 1 : Nat) : Int)])
  | none => K
/- Of calls. -/
def seN (K : Ks) (c : Int) : Int := if isc K.length c = true then tN (nx K) else 0
def seE (K : Ks) (c : Int) : Int := if isc K.length c = true then tE (nx K) else 3
def seK (K : Ks) (c : Int) : Ks := if isc K.length c = true then psh K c.toNat (nx K) else K
def ckN (K : Ks) (c : Int) : Int := if isc K.length c = true then (ks K c.toNat).headD 0 else 0
def ckK (K : Ks) (c : Int) : Ks := if isc K.length c = true then K.set c.toNat (ks K c.toNat).tail else K
def moE (K : Ks) (a b : Int) : Int := if isc K.length a = true ∧ isc K.length b = true then if a = b then 2 else fE (ks K a.toNat) else 3
def moK (K : Ks) (a b : Int) : Ks := if isc K.length a = true ∧ isc K.length b = true ∧ a ≠ b then mv K a.toNat b.toNat else K
def clL (K : Ks) (c : Int) : List Int := if isc K.length c = true then ks K c.toNat else []
def haB (K : Ks) (id : Int) : Bool := (onc K id).isSome
/- Of works: the last list is no core's. -/
def pc (n : Nat) (c : Int) : Option Nat := if c = -1 then some n else if isc n c = true then some c.toNat else none
theorem pc_lt {n : Nat} {c : Int} {k : Nat} (h : pc n c = some k) : k ≤ n := by
  unfold pc at h
  split at h
  · cases h; omega
  · split at h
    · rename_i e
      have := isc_true e
      cases h
      omega
    · cases h
def quN (n : Nat) (K : Ks) (c : Int) : Int := if (pc n c).isSome = true then tN (nx K) else 0
def quE (n : Nat) (K : Ks) (c : Int) : Int := if (pc n c).isSome = true then tE (nx K) else 3
def quK (n : Nat) (K : Ks) (c : Int) : Ks := match pc n c with
  | some k => psh K k (nx K)
  | none => K
def taP (n : Nat) (K : Ks) (c : Int) : Nat := if ks K c.toNat = [] then n else c.toNat
def taN (n : Nat) (K : Ks) (c : Int) : Int := if isc n c = true then (ks K (taP n K c)).headD 0 else 0
def taK (n : Nat) (K : Ks) (c : Int) : Ks := if isc n c = true then K.set (taP n K c) (ks K (taP n K c)).tail else K
def unE (n : Nat) (K : Ks) (c : Int) : Int := if isc n c = true then fE (ks K c.toNat) else 3
def unK (n : Nat) (K : Ks) (c : Int) : Ks := if isc n c = true then mv K c.toNat n else K
def drK (K : Ks) (id : Int) : Ks := match onc K id with
  | some c => K.set c (wo (ks K c) id)
  | none => K
/-- A list's own number. -/
def nm (n k : Nat) : Int := if k = n then -1 else (k : Int)
def wq (n : Nat) (K : Ks) (id : Int) : Option Int := (onc K id).map (nm n)
def wlL (n : Nat) (K : Ks) (c : Int) : List Int := match pc n c with
  | some k => ks K k
  | none => []
end Go.Proofs.YtfdmcbcomknebaaGreatDoor.Cm
namespace Go.Proofs.YtfdmcbcomknebaaGreatDoor.Wrk
open Fif
open Go.ChangeShapes Go.WideShapes Go.ChangeAt Go.RowKit
open Mm Sl
theorem Tryz.infoW : (Tryz.prog.info? 22).map (fun i => (i.zero, i.size, i.bytes)) = some (some (.int .u64 0), 1, 8) := by kernel_rfl
def wv (x : Nat) : Value := .int .u64 (x : Int)
theorem made_word (n : Nat) : madeCells #[Value.int .u64 0] n = ((List.replicate n 0).map wv).toArray := by
  apply Array.ext
  · simp [size_madeCells]
  · intro i h1 h2
    simp [madeCells, Nat.mod_one, wv]
/-- The table at block b, its words at block g. -/
structure T (w : World) (b g m : Nat) (W : List Nat) (O : Nat → Bool) : Prop where
  sb : Blk w b [.slice (some ⟨g, 0, none⟩) W.length W.length, .int .i64 (m : Int)] 244
  sg : Blk w g (W.map wv) 22
  wd : Wd m W O
theorem T.c0 {w : World} {b g m : Nat} {W : List Nat} {O : Nat → Bool} (h : T w b g m W O) : w.cell? ⟨b, 0, none⟩ = some (.slice (some ⟨g, 0, none⟩) W.length W.length) := h.sb.cell 0
theorem T.c1 {w : World} {b g m : Nat} {W : List Nat} {O : Nat → Bool} (h : T w b g m W O) : w.cell? ⟨b, 1, none⟩ = some (.int .i64 (m : Int)) := h.sb.cell 1
theorem T.ne {w : World} {b g m : Nat} {W : List Nat} {O : Nat → Bool} (h : T w b g m W O) : b ≠ g := h.sb.ne h.sg (by decide)
theorem T.heap {w w1 : World} {b g m : Nat} {W : List Nat} {O : Nat → Bool} (h : T w b g m W O) (e : w1.heap = w.heap) : T w1 b g m W O := ⟨h.sb.heap e, h.sg.heap e, h.wd⟩
theorem T.keep {B : Nat} {S : List Nat} {w w' : World} {b g m : Nat} {W : List Nat} {O : Nat → Bool} (h : T w b g m W O) (k : Fr B S w w') (hb : b < B ∧ g < B) (hs : b ∉ S ∧ g ∉ S) : T w' b g m W O :=
  ⟨h.sb.keep k hb.1 hs.1, h.sg.keep k hb.2 hs.2, h.wd⟩
theorem T.len {w : World} {b g m : Nat} {W : List Nat} {O : Nat → Bool} (h : T w b g m W O) : (W.length : Int) ≤ 16 := by have := h.wd.len; have := h.wd.m2; omega
set_option maxHeartbeats 400000 in
theorem snew_any (m : Nat) (w : World) (h1 : (1 : Int) ≤ m) (h2 : (m : Int) ≤ 1024) :
    Calls Tryz.prog 90 #[.int .i64 (m : Int)] w fun e w' => e = .returned (.tuple #[.pointer (some ⟨w.heap.size + 1, 0, none⟩), .int .i64 0]) ∧ (∃ W, T w' (w.heap.size + 1) w.heap.size m W fun _ => false) ∧ Fr w.heap.size [] w w' ∧ w'.heap.size = w.heap.size + 2 := by
  obtain ⟨n, hn⟩ : ∃ n, (m + 63) / 64 = n := ⟨_, rfl⟩
  have G := wd_new m (by omega) (by omega)
  rw [hn] at G
  have hq : ((m : Int) + 64 - 1).tdiv 64 = (n : Int) := by rw [Int.tdiv_eq_ediv_of_nonneg (by omega)]; omega
  have hmk := run_make_row' (P := Tryz.prog) 242 22 (.int .u64 0) 8 Tryz.underlying242 Tryz.infoW rfl .i64 .i64 n (by omega) (by omega)
  have F : Hid (∀ o1 o2, Fr w.heap.size [] w ((w.alloc o1).alloc o2)) := fun o1 o2 => ((Fr.refl _ _ _).alloc (Nat.le_refl _) o1).alloc (by simp) o2
  have HG : Hid (Wd m (List.replicate n 0) fun _ => false) := G
  clear G
  go_enter Tryz.func90, Tryz.ntmps90
  go_wp2
  go_ret2
  refine ⟨rfl, ⟨List.replicate n 0, ?_, ?_, HG.out⟩, F.out _ _, by simp⟩
  · have := Blk.new (w.alloc (Obj.cells (madeCells #[Value.int IntKind.u64 0] n) 22)) [.slice (some ⟨w.heap.size, 0, none⟩) n n, .int .i64 (m : Int)] 244
    simpa using this
  · rw [made_word]
    exact (Blk.new w _ 22).alloc _
end Go.Proofs.YtfdmcbcomknebaaGreatDoor.Wrk
namespace Go.Proofs.YtfdmcbcomknebaaGreatDoor.Wrk
open Fif
open Go.ChangeShapes Go.WideShapes Go.ChangeAt Go.RowKit
open Fm Sl Cm
/-- The queue at block a + 1, its ring at a. -/
def QB (w : World) (a : Nat) (L : List Int) : Prop := ∃ f r, Q w (a + 1) a 32 f r L
theorem QB.lt {w : World} {a : Nat} {L : List Int} (h : QB w a L) : a + 1 < w.heap.size := by
  obtain ⟨f, r, q⟩ := h
  exact q.sb.lt
theorem QB.keep {B : Nat} {S : List Nat} {w w' : World} {a : Nat} {L : List Int} (h : QB w a L) (k : Fr B S w w') (hb : a + 1 < B) (h1 : a ∉ S) (h2 : a + 1 ∉ S) : QB w' a L := by
  obtain ⟨f, r, q⟩ := h
  exact ⟨f, r, q.keep k ⟨hb, by omega⟩ ⟨h2, h1⟩⟩
theorem QB.heap {w w1 : World} {a : Nat} {L : List Int} (h : QB w a L) (e : w1.heap = w.heap) : QB w1 a L := by
  obtain ⟨f, r, q⟩ := h
  exact ⟨f, r, q.heap e⟩
theorem qlist_any {w : World} {a : Nat} {L : List Int} (h : QB w a L) :
    Calls Tryz.prog 113 #[.pointer (some ⟨a + 1, 0, none⟩)] w fun e w' => ∃ v, e = .returned v ∧ w'.ownsRow w.heap.size 3 1 v L.length (L.map (Value.int .i64)) ∧ Below w.heap.size w w' := by
  obtain ⟨f, r, q⟩ := h
  exact list_any w q
theorem qnew_any (w : World) :
    Calls Tryz.prog 93 #[.int .i64 32] w fun e w' => e = .returned (.tuple #[.pointer (some ⟨w.heap.size + 1, 0, none⟩), .int .i64 0]) ∧ QB w' w.heap.size [] ∧ Fr w.heap.size [] w w' ∧ w'.heap.size = w.heap.size + 2 := by
  refine (new_at 32 w (by decide) (by decide)).mono ?_
  rintro e w' ⟨rfl, q, f, z⟩
  exact ⟨rfl, ⟨_, _, q⟩, f, z⟩
/-- The queues of p lists; a: where each one's ring lies. -/
def QS (w : World) (a : Nat → Nat) (p : Nat) (K : Ks) : Prop := ∀ c, c < p → QB w (a c) (ks K c)
theorem QS.keep {B : Nat} {S : List Nat} {w w' : World} {a : Nat → Nat} {p : Nat} {K : Ks} (h : QS w a p K) (k : Fr B S w w') (hB : w.heap.size ≤ B) (hS : ∀ c, c < p → a c ∉ S ∧ a c + 1 ∉ S) : QS w' a p K := fun c hc =>
  (h c hc).keep k (Nat.lt_of_lt_of_le (h c hc).lt hB) (hS c hc).1 (hS c hc).2
theorem QS.heap {w w1 : World} {a : Nat → Nat} {p : Nat} {K : Ks} (h : QS w a p K) (e : w1.heap = w.heap) : QS w1 a p K := fun c hc => (h c hc).heap e
/-- One queue has turned. -/
theorem QS.put {w w' : World} {a : Nat → Nat} {p : Nat} {K : Ks} (h : QS w a p K) {c : Nat} (hc : c < K.length) (sep : ∀ d, d < p → d ≠ c → a d + 1 < a c ∨ a c + 1 < a d) {X : List Int} (q : QB w' (a c) X) (f : Fr w.heap.size [a c + 1, a c] w w') : QS w' a p (K.set c X) := fun d hd => by
  rw [ks_set _ _ _ _ hc]
  by_cases e : d = c
  · subst e
    rw [if_pos rfl]
    exact q
  · rw [if_neg e]
    have s := sep d hd e
    exact (h d hd).keep f (h d hd).lt (by simp; omega) (by simp; omega)
/-- The table of pointers to queues. -/
def qtab (a : Nat → Nat) (n : Nat) : List Value := (List.range n).map fun c => .pointer (some ⟨a c + 1, 0, none⟩)
theorem qtab_get (a : Nat → Nat) (n c : Nat) (h : c < n) : (qtab a n)[c]? = some (.pointer (some ⟨a c + 1, 0, none⟩)) := by
  unfold qtab
  rw [List.getElem?_map, List.getElem?_range h]
  rfl
/-- The table while the first k queues are there. -/
def qtak (a : Nat → Nat) (n k : Nat) : List Value := (List.range n).map fun c => if c < k then .pointer (some ⟨a c + 1, 0, none⟩) else .pointer none
theorem qtak_get (a : Nat → Nat) (n k c : Nat) (h : c < n) : (qtak a n k)[c]? = some (if c < k then .pointer (some ⟨a c + 1, 0, none⟩) else .pointer none) := by
  unfold qtak
  rw [List.getElem?_map, List.getElem?_range h]
  rfl
theorem qtak_set (a : Nat → Nat) (n k : Nat) : (qtak a n k).set k (.pointer (some ⟨a k + 1, 0, none⟩)) = qtak a n (k + 1) := by
  apply List.ext_getElem?
  intro c
  by_cases hc : c < n
  · rw [qtak_get _ _ _ _ hc, List.getElem?_set]
    by_cases e : k = c
    · subst e
      rw [if_pos rfl, if_pos (by simpa [qtak] using hc), if_pos (by omega)]
    · rw [if_neg e, qtak_get _ _ _ _ hc]
      by_cases q : c < k
      · rw [if_pos q, if_pos (by omega)]
      · rw [if_neg q, if_neg (by omega)]
  · rw [List.getElem?_eq_none (by simp [qtak]; omega), List.getElem?_eq_none (by simp [qtak]; omega)]
theorem qtak_all (a : Nat → Nat) (n : Nat) : qtak a n n = qtab a n := by
  unfold qtak qtab
  apply List.map_congr_left
  intro c hc
  rw [if_pos (List.mem_range.1 hc)]
theorem made_qtak (a : Nat → Nat) (n : Nat) : madeCells #[Value.pointer none] n = (qtak a n 0).toArray := by
  apply Array.ext
  · simp [size_madeCells, qtak]
  · intro i h1 h2
    simp [madeCells, qtak, Nat.mod_one]
theorem Tryz.infoPQ : (Tryz.prog.info? 185).map (fun i => (i.zero, i.size, i.bytes)) = some (some (.pointer none), 1, 8) := by kernel_rfl
end Go.Proofs.YtfdmcbcomknebaaGreatDoor.Wrk
namespace Go.Proofs.YtfdmcbcomknebaaGreatDoor.Wrk
open Fif
open Go.ChangeShapes Go.WideShapes Go.ChangeAt Go.RowKit
/-- The map at block b, of m entries with elements of type te, is f. -/
def MQ (te : TypeId) (w : World) (b m : Nat) (f : Int → Option Int) : Prop :=
  ∃ D : DataW Unit, w.ownsMap Tryz.prog 3 (plainElem Tryz.prog te) b m D ∧ Maps.size D = m ∧ ∀ id, (Lit.int .i64 id).wf = true → Maps.has D (.int .i64 id) = (f id).isSome ∧ D.atKey (.int .i64 id) (.lit (.int .i64 0)) = .lit (.int .i64 ((f id).getD 0))
theorem MQ.lt {te : TypeId} {w : World} {b m : Nat} {f : Int → Option Int} (h : MQ te w b m f) : b < w.heap.size := by obtain ⟨D, o, _⟩ := h; exact o.lt
theorem MQ.same {te : TypeId} {w w' : World} {b m : Nat} {f : Int → Option Int} (h : MQ te w b m f) (e : w'.heap[b]? = w.heap[b]?) : MQ te w' b m f := by
  obtain ⟨D, ⟨es, clock, hb, rest⟩, k⟩ := h
  exact ⟨D, ⟨es, clock, e.trans hb, rest⟩, k⟩
theorem MQ.keep {te : TypeId} {B : Nat} {S : List Nat} {w w' : World} {b m : Nat} {f : Int → Option Int} (h : MQ te w b m f) (k : Fr B S w w') (hb : b < B) (hs : b ∉ S) : MQ te w' b m f := h.same (k.block b hb hs)
theorem MQ.blk {te : TypeId} {w : World} {b m : Nat} {f : Int → Option Int} (h : MQ te w b m f) {g : Nat} {cs : List Value} {t : TypeId} (k : Blk w g cs t) : b ≠ g := by
  intro e
  subst e
  obtain ⟨D, ⟨es, clock, hb, _⟩, _⟩ := h
  have := (show w.heap[b]? = _ from k).symm.trans hb
  cases this
theorem mq_new {te : TypeId} (w : World) : MQ te (w.alloc (.map #[] 0)) w.heap.size 0 (fun _ => none) :=
  ⟨_, World.ownsMap_made w Tryz.prog 3 _, rfl, fun _ _ => ⟨rfl, rfl⟩⟩
section
variable {te tm : TypeId}
end
end Go.Proofs.YtfdmcbcomknebaaGreatDoor.Wrk
namespace Go.Proofs.YtfdmcbcomknebaaGreatDoor.Wrk
open Fif
open Go.ChangeShapes Go.WideShapes Go.ChangeAt Go.RowKit
open Fm Sl Cm
/-- Where a list's ring lies; the last one is no core's. -/
def ga (s n c : Nat) : Nat := if c = n then s + 2 else s + 7 + 2 * c
theorem ga_core {s n c : Nat} (h : c < n) : ga s n c = s + 7 + 2 * c := if_neg (by omega)
theorem ga_free (s n : Nat) : ga s n n = s + 2 := if_pos rfl
def gz (s n : Nat) : List Nat := List.range' s (7 + 2 * n)
theorem mem_gz (s n k : Nat) : k ∈ gz s n ↔ s ≤ k ∧ k < s + (7 + 2 * n) := by unfold gz; rw [List.mem_range'_1]
theorem ga_in {s n c : Nat} (h : c ≤ n) : s + 2 ≤ ga s n c ∧ ga s n c + 1 < s + (7 + 2 * n) ∧ (ga s n c + 1 < s + 4 ∨ s + 7 ≤ ga s n c) := by
  by_cases e : c = n
  · subst e
    rw [ga_free]
    omega
  · rw [ga_core (by omega)]
    omega
theorem ga_sep {s n c d : Nat} (hc : c ≤ n) (hd : d ≤ n) (h : d ≠ c) : ga s n d + 1 < ga s n c ∨ ga s n c + 1 < ga s n d := by
  by_cases e : c = n
  · subst e
    rw [ga_free, ga_core (by omega)]
    omega
  · rw [ga_core (c := c) (by omega)]
    by_cases f : d = n
    · subst f
      rw [ga_free]
      omega
    · rw [ga_core (by omega)]
      omega
/-- Lists of works at s + 6: numbers at s + 1, the free list at s + 3, the table at s + 4, the map at s + 5. -/
structure GB (w : World) (s n : Nat) (K : Ks) (W : List Nat) (O : Nat → Bool) (m : Nat) (f : Int → Option Int) : Prop where
  st : Blk w (s + 6) [.pointer (some ⟨s + 1, 0, none⟩), .slice (some ⟨s + 4, 0, none⟩) n n, .pointer (some ⟨s + 3, 0, none⟩), .map (some (s + 5))] 190
  tb : Blk w (s + 4) (qtab (ga s n) n) 185
  sl : T w (s + 1) s 32 W O
  mp : MQ 3 w (s + 5) m f
  qs : QS w (ga s n) (n + 1) K
  kn : K.length = n + 1
  n1 : 1 ≤ n
  n2 : n ≤ 64
section
variable {w w' : World} {s n : Nat} {K : Ks} {W : List Nat} {O : Nat → Bool} {m : Nat} {f : Int → Option Int}
theorem GB.hi (h : GB w s n K W O m f) : s + (7 + 2 * n) ≤ w.heap.size := by
  have := (h.qs (n - 1) (by omega)).lt
  have := h.n1
  rw [ga_core (by omega)] at *
  omega
theorem GB.c0 (h : GB w s n K W O m f) : w.cell? ⟨s + 6, 0, none⟩ = some (.pointer (some ⟨s + 1, 0, none⟩)) := h.st.cell 0
theorem GB.c1 (h : GB w s n K W O m f) : w.cell? ⟨s + 6, 1, none⟩ = some (.slice (some ⟨s + 4, 0, none⟩) n n) := h.st.cell 1
theorem GB.c2 (h : GB w s n K W O m f) : w.cell? ⟨s + 6, 2, none⟩ = some (.pointer (some ⟨ga s n n + 1, 0, none⟩)) := by rw [ga_free]; exact h.st.cell 2
theorem GB.c3 (h : GB w s n K W O m f) : w.cell? ⟨s + 6, 3, none⟩ = some (.map (some (s + 5))) := h.st.cell 3
theorem GB.cq (h : GB w s n K W O m f) {c : Nat} (hc : c < n) : w.cell? ⟨s + 4, c, none⟩ = some (.pointer (some ⟨ga s n c + 1, 0, none⟩)) := by
  rw [h.tb.cell c, qtab_get _ _ _ hc]
theorem GB.heap {w1 : World} (h : GB w s n K W O m f) (e : w1.heap = w.heap) : GB w1 s n K W O m f := ⟨h.st.heap e, h.tb.heap e, h.sl.heap e, h.mp.same (by rw [e]), h.qs.heap e, h.kn, h.n1, h.n2⟩
theorem GB.keep {B : Nat} {S : List Nat} (h : GB w s n K W O m f) (k : Fr B S w w') (hB : w.heap.size ≤ B) (hS : ∀ k, s ≤ k → k < s + (7 + 2 * n) → k ∉ S) : GB w' s n K W O m f := by
  have hi := h.hi
  refine ⟨h.st.keep k (by omega) (hS _ (by omega) (by omega)), h.tb.keep k (by omega) (hS _ (by omega) (by omega)), h.sl.keep k ⟨by omega, by omega⟩ ⟨hS _ (by omega) (by omega), hS _ (by omega) (by omega)⟩, h.mp.keep k (by omega) (hS _ (by omega) (by omega)), h.qs.keep k hB fun c hc => ?_, h.kn, h.n1, h.n2⟩
  obtain ⟨h1, h2, _⟩ := ga_in (s := s) (n := n) (c := c) (by omega)
  exact ⟨hS _ (by omega) (by omega), hS _ (by omega) (by omega)⟩
/-- One queue has turned. -/
theorem GB.put (h : GB w s n K W O m f) {c : Nat} (hc : c ≤ n) {X : List Int} (q : QB w' (ga s n c) X) (k : Fr w.heap.size [ga s n c + 1, ga s n c] w w') : GB w' s n (K.set c X) W O m f ∧ Fr w.heap.size (gz s n) w w' := by
  have hi := h.hi
  obtain ⟨h1, h2, h3⟩ := ga_in (s := s) (n := n) (c := c) hc
  have nz : ∀ k, (k < s + 2 ∨ (s + 4 ≤ k ∧ k < s + 7)) → k ∉ [ga s n c + 1, ga s n c] := fun k hk e => by simp at e; omega
  refine ⟨⟨h.st.keep k (by omega) (nz _ (by omega)), h.tb.keep k (by omega) (nz _ (by omega)), h.sl.keep k ⟨by omega, by omega⟩ ⟨nz _ (by omega), nz _ (by omega)⟩, h.mp.keep k (by omega) (nz _ (by omega)), h.qs.put (by rw [h.kn]; omega) (fun d hd e => ga_sep hc (by omega) e) q k, by simp [h.kn], h.n1, h.n2⟩, k.mono (Nat.le_refl _) fun k _ hk e => hk ((mem_gz s _ k).2 (by simp at e; omega))⟩
/-- The numbers have turned. -/
theorem GB.slot (h : GB w s n K W O m f) {W' : List Nat} {O' : Nat → Bool} (q : T w' (s + 1) s 32 W' O') (k : Fr w.heap.size [s + 1, s] w w') : GB w' s n K W' O' m f ∧ Fr w.heap.size (gz s n) w w' := by
  have hi := h.hi
  have nz : ∀ k, s + 2 ≤ k → k ∉ [s + 1, s] := fun k hk e => by simp at e; omega
  refine ⟨⟨h.st.keep k (by omega) (nz _ (by omega)), h.tb.keep k (by omega) (nz _ (by omega)), q, h.mp.keep k (by omega) (nz _ (by omega)), h.qs.keep k (Nat.le_refl _) fun c hc => ?_, h.kn, h.n1, h.n2⟩, k.mono (Nat.le_refl _) fun k _ hk e => hk ((mem_gz s _ k).2 (by simp at e; omega))⟩
  obtain ⟨h1, _, _⟩ := ga_in (s := s) (n := n) (c := c) (by omega)
  exact ⟨nz _ (by omega), nz _ (by omega)⟩
/-- The map has turned. -/
theorem GB.map (h : GB w s n K W O m f) {m' : Nat} {f' : Int → Option Int} (q : MQ 3 w' (s + 5) m' f') (k : Fr w.heap.size [s + 5] w w') : GB w' s n K W O m' f' ∧ Fr w.heap.size (gz s n) w w' := by
  have hi := h.hi
  refine ⟨⟨h.st.keep k (by omega) (by simp), h.tb.keep k (by omega) (by simp), h.sl.keep k ⟨by omega, by omega⟩ ⟨by simp, by simp⟩, q, h.qs.keep k (Nat.le_refl _) fun c hc => ?_, h.kn, h.n1, h.n2⟩, k.mono (Nat.le_refl _) fun k _ hk e => hk ((mem_gz s _ k).2 (by simp at e; omega))⟩
  obtain ⟨_, _, h3⟩ := ga_in (s := s) (n := n) (c := c) (by omega)
  exact ⟨by simp; omega, by simp; omega⟩
end
/-- Lists of n cores. -/
def GX (w : World) (s n : Nat) (K : Ks) : Prop := ∃ W O, GB w s n K W O (cnt (oc K)) (wq n K) ∧ Al K ∧ ∀ i, 1 ≤ i → i ≤ 32 → O i = oc K i
theorem GX.heap {w w1 : World} {s n : Nat} {K : Ks} (h : GX w s n K) (e : w1.heap = w.heap) : GX w1 s n K := by
  obtain ⟨W, O, b, a, o⟩ := h
  exact ⟨W, O, b.heap e, a, o⟩
theorem GX.keep {B : Nat} {S : List Nat} {w w' : World} {s n : Nat} {K : Ks} (h : GX w s n K) (f : Fr B S w w') (hB : w.heap.size ≤ B) (hS : ∀ k, s ≤ k → k < s + (7 + 2 * n) → k ∉ S) : GX w' s n K := by
  obtain ⟨W, O, b, a, o⟩ := h
  exact ⟨W, O, b.keep f hB hS, a, o⟩
theorem GX.below {w w' : World} {s n : Nat} {K : Ks} (h : GX w s n K) (f : Below w.heap.size w w') : GX w' s n K := h.keep (Fr.of_below f) (Nat.le_refl _) (by simp)
theorem GX.hi {w : World} {s n : Nat} {K : Ks} (h : GX w s n K) : s + (7 + 2 * n) ≤ w.heap.size := by
  obtain ⟨W, O, b, a, o⟩ := h
  exact b.hi
theorem GX.al {w : World} {s n : Nat} {K : Ks} (h : GX w s n K) : Al K := by
  obtain ⟨W, O, b, a, o⟩ := h
  exact a
theorem GX.kn {w : World} {s n : Nat} {K : Ks} (h : GX w s n K) : K.length = n + 1 := by
  obtain ⟨W, O, b, a, o⟩ := h
  exact b.kn
/-- The queue of a core. -/
theorem gon_yes {w : World} {t tb n a : Nat} (c : Nat) (hc : (c : Int) < n) (c1 : w.cell? ⟨t, 1, none⟩ = some (.slice (some ⟨tb, 0, none⟩) n n)) (cw : w.cell? ⟨tb, c, none⟩ = some (.pointer (some ⟨a, 0, none⟩))) :
    Calls Tryz.prog 129 #[.pointer (some ⟨t, 0, none⟩), .int .i64 (c : Int)] w fun e w' => e = .returned (.tuple #[.pointer (some ⟨a, 0, none⟩), .int .i64 0]) ∧ w' = w := by
  go_enter Tryz.func129, Tryz.ntmps129
  go_wp2
  go_ret2
  exact ⟨rfl, rfl⟩
theorem gon_no {w : World} {t tb n : Nat} (c : Int) (hc : isc n c = false) (c1 : w.cell? ⟨t, 1, none⟩ = some (.slice (some ⟨tb, 0, none⟩) n n)) :
    Calls Tryz.prog 129 #[.pointer (some ⟨t, 0, none⟩), .int .i64 c] w fun e w' => e = .returned (.tuple #[.pointer none, .int .i64 3]) ∧ w' = w := by
  rcases isc_false hc with q | ⟨q, q2⟩
  · clear hc
    go_enter Tryz.func129, Tryz.ntmps129
    go_wp2
    go_ret2
    exact ⟨rfl, rfl⟩
  · clear hc
    go_enter Tryz.func129, Tryz.ntmps129
    go_wp2
    go_ret2
    exact ⟨rfl, rfl⟩
/-- The queue of a list. -/
theorem glist_yes {w : World} {s n k : Nat} {K : Ks} {W : List Nat} {O : Nat → Bool} {m : Nat} {f : Int → Option Int} (c : Int) (h : GB w s n K W O m f) (hp : pc n c = some k) :
    Calls Tryz.prog 112 #[.pointer (some ⟨s + 6, 0, none⟩), .int .i64 c] w fun e w' => e = .returned (.tuple #[.pointer (some ⟨ga s n k + 1, 0, none⟩), .int .i64 0]) ∧ w' = w := by
  unfold pc at hp
  by_cases e : c = -1
  · rw [if_pos e] at hp
    obtain rfl : n = k := by injection hp
    have c2 := h.c2
    subst e
    generalize ga s n n + 1 = a at *
    clear h hp
    go_enter Tryz.func112, Tryz.ntmps112
    go_wp2
    go_ret2
    exact ⟨rfl, rfl⟩
  · rw [if_neg e] at hp
    cases i : isc n c with
    | false =>
      rw [i, if_neg (by decide)] at hp
      cases hp
    | true =>
      rw [i, if_pos rfl] at hp
      obtain ⟨q, rfl, hq, hq2⟩ := isc_nat i
      obtain rfl : q = k := by injection hp
      have C : Hid (∀ _ : Unit, _) := fun _ => gon_yes q hq2 h.c1 (h.cq hq)
      have e2 : ((q : Int) == -1) = false := by simp
      generalize ga s n q + 1 = a at *
      clear h hp i e
      go_enter Tryz.func112, Tryz.ntmps112
      go_wp2_with fail
      refine (C.out ()).mono ?_
      rintro e w' ⟨rfl, rfl⟩
      go_wp2
      go_ret2
      exact ⟨rfl, rfl⟩
theorem glist_no {w : World} {s n : Nat} {K : Ks} {W : List Nat} {O : Nat → Bool} {m : Nat} {f : Int → Option Int} (c : Int) (h : GB w s n K W O m f) (hp : pc n c = none) :
    Calls Tryz.prog 112 #[.pointer (some ⟨s + 6, 0, none⟩), .int .i64 c] w fun e w' => e = .returned (.tuple #[.pointer none, .int .i64 3]) ∧ w' = w := by
  unfold pc at hp
  by_cases e : c = -1
  · rw [if_pos e] at hp
    cases hp
  · rw [if_neg e] at hp
    cases i : isc n c with
    | true =>
      rw [i, if_pos rfl] at hp
      cases hp
    | false =>
      have C : Hid (∀ _ : Unit, _) := fun _ => gon_no c i h.c1
      have e2 : (c == -1) = false := by simpa using e
      clear h hp i e
      go_enter Tryz.func112, Tryz.ntmps112
      go_wp2_with fail
      refine (C.out ()).mono ?_
      rintro e w' ⟨rfl, rfl⟩
      go_wp2
      go_ret2
      exact ⟨rfl, rfl⟩
set_option maxHeartbeats 400000 in
theorem glist_any {w : World} {s n : Nat} {K : Ks} (c : Int) (h : GX w s n K) :
    Calls Tryz.prog 54 #[.pointer (some ⟨s + 6, 0, none⟩), .int .i64 c] w fun e w' => ∃ v, e = .returned v ∧ w'.ownsRow w.heap.size 3 1 v (wlL n K c).length ((wlL n K c).map (Value.int .i64)) ∧ Below w.heap.size w w' := by
  obtain ⟨W, O, b, a, o⟩ := h
  unfold wlL
  cases e : pc n c with
  | none =>
    have C : Hid (∀ _ : Unit, _) := fun _ => glist_no c b e
    have D : Hid (∀ w, _) := fun w => nil_list w
    have F : Hid (w.ownsRow w.heap.size 3 1 (.slice none 0 0) ([] : List Int).length (([] : List Int).map (Value.int .i64)) ∧ Below w.heap.size w w) := ⟨World.ownsRow_nil _ _ _ _, Below.refl _ _⟩
    clear b a o e
    go_enter Tryz.func54, Tryz.ntmps54
    go_wp2_with fail
    refine (C.out ()).mono ?_
    rintro e w' ⟨rfl, rfl⟩
    go_wp2_with fail
    refine (D.out _).mono ?_
    rintro e w' ⟨rfl, rfl⟩
    go_wp2
    go_ret
    exact ⟨_, rfl, F.out⟩
  | some k =>
    have C : Hid (∀ _ : Unit, _) := fun _ => glist_yes c b e
    have D : Hid (∀ _ : Unit, _) := fun _ => qlist_any (b.qs k (by have := pc_lt e; omega))
    clear b a o e
    go_enter Tryz.func54, Tryz.ntmps54
    go_wp2_with fail
    refine (C.out ()).mono ?_
    rintro e w' ⟨rfl, rfl⟩
    go_wp2_with fail
    refine (D.out ()).mono ?_
    rintro e w2 ⟨v, rfl, q⟩
    have F : Hid _ := q
    clear q
    go_wp2
    go_ret
    exact ⟨_, rfl, F.out⟩
end Go.Proofs.YtfdmcbcomknebaaGreatDoor.Wrk
namespace Go.Proofs.YtfdmcbcomknebaaGreatDoor.Wrk
open Fif
open Go.ChangeShapes Go.WideShapes Go.ChangeAt Go.RowKit
open Fm Sl Cm
end Go.Proofs.YtfdmcbcomknebaaGreatDoor.Wrk
namespace Go.Proofs.YtfdmcbcomknebaaGreatDoor.Wrk
open Fif
open Go.ChangeShapes Go.WideShapes Go.ChangeAt Go.RowKit
open Fm Sl Cm
/-- Lists while their queues are made: the first k are there. -/
structure GN (w wr : World) (s n k : Nat) (W : List Nat) : Prop where
  bel : Below s w wr
  st : Blk wr (s + 6) [.pointer (some ⟨s + 1, 0, none⟩), .slice (some ⟨s + 4, 0, none⟩) n n, .pointer (some ⟨s + 3, 0, none⟩), .map (some (s + 5))] 190
  tb : Blk wr (s + 4) (qtak (ga s n) n k) 185
  sl : T wr (s + 1) s 32 W fun _ => false
  mp : MQ 3 wr (s + 5) 0 fun _ => none
  fq : QB wr (s + 2) []
  qs : ∀ c, c < k → QB wr (s + 7 + 2 * c) []
  sz : wr.heap.size = s + 7 + 2 * k
theorem gn_step {w wr w1 : World} {s n k : Nat} {W : List Nat} (h : GN w wr s n k W) (hk : k < n) (q : QB w1 (s + 7 + 2 * k) []) (f : Fr wr.heap.size [] wr w1) (z : w1.heap.size = wr.heap.size + 2) :
    GN w (w1.setCell ⟨s + 4, k, none⟩ (.pointer (some ⟨s + 7 + 2 * k + 1, 0, none⟩))) s n (k + 1) W := by
  have hz := h.sz
  have fs : Fr w1.heap.size [s + 4] w1 (w1.setCell ⟨s + 4, k, none⟩ (.pointer (some ⟨s + 7 + 2 * k + 1, 0, none⟩))) := (Fr.refl _ _ _).setCell (Or.inr (by simp)) _
  refine ⟨(h.bel.trans ((f.below (by simp)).mono (by omega))).setCell (p := ⟨s + 4, k, none⟩) (by show s ≤ s + 4; omega) _, (h.st.keep f h.st.lt (by simp)).other (p := ⟨s + 4, k, none⟩) (by show s + 6 ≠ s + 4; omega) _, ?_, ?_, ?_, ?_, fun c hc => ?_, ?_⟩
  · rw [← qtak_set, ga_core hk]
    exact (h.tb.keep f h.tb.lt (by simp)).set k _
  · have s1 := h.sl.keep f ⟨h.sl.sb.lt, h.sl.sg.lt⟩ (by simp)
    exact s1.keep fs ⟨s1.sb.lt, s1.sg.lt⟩ ⟨by simp, by simp⟩
  · have m1 := h.mp.keep f h.mp.lt (by simp)
    exact m1.keep fs m1.lt (by simp)
  · have q1 := h.fq.keep f h.fq.lt (by simp) (by simp)
    exact q1.keep fs q1.lt (by simp) (by simp)
  · by_cases e : c = k
    · subst e
      exact q.keep fs q.lt (by simp; omega) (by simp; omega)
    · have q1 := (h.qs c (by omega)).keep f (h.qs c (by omega)).lt (by simp) (by simp)
      exact q1.keep fs q1.lt (by simp; omega) (by simp; omega)
  · show (w1.heap.modify _ _).size = _
    rw [Array.size_modify, z, hz]
    omega
theorem gn_end {w wr : World} {s n : Nat} {W : List Nat} (h : GN w wr s n n W) (h1 : 1 ≤ n) (h2 : n ≤ 64) : GX wr s n (List.replicate (n + 1) []) ∧ Below s w wr := by
  have e1 := oc_nil (n + 1)
  have e2 : wq n (List.replicate (n + 1) []) = fun _ => none := funext fun j => by unfold wq; rw [onc_nil]; rfl
  have e3 : cnt (fun _ => false) = 0 := by decide
  refine ⟨⟨W, fun _ => false, ⟨h.st, by rw [← qtak_all]; exact h.tb, h.sl, by rw [e1, e2, e3]; exact h.mp, ?_, by simp, h1, h2⟩, al_nil _, fun i _ _ => by rw [e1]⟩, h.bel⟩
  intro c hc
  rw [ks_nil]
  by_cases e : c = n
  · rw [e, ga_free]
    exact h.fq
  · rw [ga_core (by omega)]
    exact h.qs c (by omega)
set_option maxRecDepth 100000 in
set_option maxHeartbeats 1000000 in
theorem gnew_any (n : Nat) (w : World) (h1 : (1 : Int) ≤ n) (h2 : (n : Int) ≤ 64) :
    Calls Tryz.prog 35 #[.int .i64 (n : Int)] w fun e w' => e = .returned (.tuple #[.pointer (some ⟨w.heap.size + 6, 0, none⟩), .int .i64 0]) ∧ GX w' w.heap.size n (List.replicate (n + 1) []) ∧ Below w.heap.size w w' := by
  have NS : Hid (∀ _ : Unit, _) := fun _ => snew_any 32 w (by decide) (by decide)
  have C : Hid (∀ w, _) := fun w => qnew_any w
  have hmk := run_make_row' (P := Tryz.prog) 188 185 (.pointer none) 8 Tryz.underlying188 Tryz.infoPQ rfl .i64 .i64 n (by omega) (by omega)
  have hmm := @run_makeMap Tryz.prog
  obtain ⟨s, hs⟩ : ∃ s, w.heap.size = s := ⟨_, rfl⟩
  have HS : Hid (w.heap.size = s) := hs
  rw [hs] at NS ⊢
  rw [made_qtak (ga s n) n] at hmk
  obtain ⟨T0, hT⟩ : ∃ T0, qtak (ga s n) n 0 = T0 := ⟨_, rfl⟩
  have HT : Hid (qtak (ga s n) n 0 = T0) := hT
  rw [hT] at hmk
  clear hT hs
  go_enter Tryz.func35, Tryz.ntmps35
  go_wp2_with fail
  refine (NS.out ()).mono ?_
  rintro e w1 ⟨rfl, ⟨W, sl⟩, f1, z1⟩
  have SL : Hid (T w1 (s + 1) s 32 W fun _ => false) := sl
  have F1 : Hid (Fr s [] w w1 ∧ w1.heap.size = s + 2) := ⟨f1, z1⟩
  have C1 : Hid (∀ _ : Unit, _) := fun _ => C.out w1
  rw [z1] at C1
  clear sl f1 z1 NS
  go_wp2_with fail
  refine (C1.out ()).mono ?_
  rintro e w2 ⟨rfl, fq, f2, z2⟩
  have P0 : Hid (GN w (((w2.alloc (.cells T0.toArray 185)).alloc (.map #[] 0)).alloc (.cells #[.pointer (some ⟨s + 1, 0, none⟩), .slice (some ⟨s + 4, 0, none⟩) n n, .pointer (some ⟨s + 3, 0, none⟩), .map (some (s + 5))] 190)) s n 0 W) := by
    obtain ⟨f1, z1⟩ := F1.out
    have b0 : Below s w w2 := (f1.below (by simp)).trans ((f2.less (by omega)).below (by simp))
    have s2 := SL.out.keep f2 ⟨by omega, by omega⟩ ⟨by simp, by simp⟩
    refine ⟨((b0.alloc (by omega) _).alloc (by simp; omega) _).alloc (by simp; omega) _, ?_, ?_, ?_, ?_, ?_, fun c hc => by omega, by simp [z2]⟩
    · have := Blk.new ((w2.alloc (.cells T0.toArray 185)).alloc (.map #[] 0)) [.pointer (some ⟨s + 1, 0, none⟩), .slice (some ⟨s + 4, 0, none⟩) n n, .pointer (some ⟨s + 3, 0, none⟩), .map (some (s + 5))] 190
      rwa [World.size_alloc, World.size_alloc, z2] at this
    · rw [HT.out]
      have := ((Blk.new w2 T0 185).alloc (.map #[] 0)).alloc (.cells #[.pointer (some ⟨s + 1, 0, none⟩), .slice (some ⟨s + 4, 0, none⟩) n n, .pointer (some ⟨s + 3, 0, none⟩), .map (some (s + 5))] 190)
      rwa [z2] at this
    · exact ⟨((s2.sb.alloc _).alloc _).alloc _, ((s2.sg.alloc _).alloc _).alloc _, s2.wd⟩
    · have m0 := mq_new (te := 3) (w2.alloc (.cells T0.toArray 185))
      rw [World.size_alloc, z2] at m0
      exact m0.keep ((Fr.refl _ [] _).alloc (Nat.le_refl _) _) m0.lt (by simp)
    · exact fq.keep ((((Fr.refl w2.heap.size [] w2).alloc (Nat.le_refl _) _).alloc (by simp) _).alloc (by simp; omega) _) fq.lt (by simp) (by simp)
  have z3 : w2.heap.size = s + 4 := by rw [z2]
  clear fq f2 C1 SL F1 z2
  go_wp2
  simp only [z3] at *
  go_loopw [43] (fun i wr => ∃ (k : Nat), (k : Int) ≤ n ∧ i = .int .i64 (k : Int) ∧ GN w wr s n k W) (fun i _ => n - (intOf i).toNat)
  case atStart => exact ⟨0, by omega, rfl, P0.out⟩
  case round =>
    obtain ⟨k, hk, rfl, P⟩ := hrel
    by_cases c : (k : Int) < n
    · have C1 : Hid (∀ _ : Unit, _) := fun _ => C.out wr
      have ST : Hid (∀ w1 : World, QB w1 wr.heap.size [] → Fr wr.heap.size [] wr w1 → w1.heap.size = wr.heap.size + 2 → GN w (w1.setCell ⟨s + 4, k, none⟩ (.pointer (some ⟨wr.heap.size + 1, 0, none⟩))) s n (k + 1) W) := fun w1 q f z => by
        rw [P.sz] at q ⊢
        exact gn_step P (by omega) q f z
      have cb : Hid (∀ w1 : World, Fr wr.heap.size [] wr w1 → w1.cell? ⟨s + 4, k, none⟩ = some (.pointer none) ∧ w1.frozen? ⟨s + 4, k, none⟩ = false ∧ w1.cell? ⟨s + 6, 1, none⟩ = some (.slice (some ⟨s + 4, 0, none⟩) n n)) := fun w1 f => by
        have b := P.tb.keep f P.tb.lt (by simp)
        have b2 := P.st.keep f P.st.lt (by simp)
        exact ⟨by rw [b.cell, qtak_get _ _ _ _ (by omega), if_neg (by omega)], b.free k, b2.cell 1⟩
      clear P P0
      go_wp2_with fail
      refine (C1.out ()).mono ?_
      rintro e w1 ⟨rfl, q, f, z⟩
      obtain ⟨c1, f1, s1⟩ := cb.out w1 f
      have N2 : Hid _ := ST.out w1 q f z
      clear q f z
      go_wp2
      go_roundw
      case rel => exact ⟨k + 1, by omega, by go_num, N2.out⟩
      case measure => simp [intOf]; omega
    · obtain rfl : k = n := by omega
      have e : Hid _ := gn_end P (by omega) (by omega)
      clear P P0
      go_wp2
      go_ret2
      exact ⟨rfl, e.out⟩
end Go.Proofs.YtfdmcbcomknebaaGreatDoor.Wrk
namespace Go.Proofs.YtfdmcbcomknebaaGreatDoor.Wrk
open Fif
open Go.ChangeShapes Go.WideShapes Go.ChangeAt Go.RowKit
open Fm Sl Cm
/-- Where core c's ring lies. -/
def ca (s c : Nat) : Nat := s + 4 + 2 * c
/-- All blocks of it. -/
def cz (s p : Nat) : List Nat := List.range' s (4 + 2 * p)
theorem mem_cz (s p k : Nat) : k ∈ cz s p ↔ s ≤ k ∧ k < s + (4 + 2 * p) := by unfold cz; rw [List.mem_range'_1]
/-- A box at s + 3, its numbers at s + 1, the table of its queues at s + 2. -/
structure CB (w : World) (s : Nat) (K : Ks) (W : List Nat) (O : Nat → Bool) : Prop where
  st : Blk w (s + 3) [.pointer (some ⟨s + 1, 0, none⟩), .slice (some ⟨s + 2, 0, none⟩) K.length K.length] 192
  tb : Blk w (s + 2) (qtab (ca s) K.length) 185
  sl : T w (s + 1) s 32 W O
  qs : QS w (ca s) K.length K
  n1 : 1 ≤ K.length
  n2 : K.length ≤ 64
section
variable {w w' : World} {s : Nat} {K : Ks} {W : List Nat} {O : Nat → Bool}
theorem CB.hi (h : CB w s K W O) : s + (4 + 2 * K.length) ≤ w.heap.size := by
  have := (h.qs (K.length - 1) (by have := h.n1; omega)).lt
  have := h.n1
  unfold ca at *
  omega
theorem CB.c0 (h : CB w s K W O) : w.cell? ⟨s + 3, 0, none⟩ = some (.pointer (some ⟨s + 1, 0, none⟩)) := h.st.cell 0
theorem CB.c1 (h : CB w s K W O) : w.cell? ⟨s + 3, 1, none⟩ = some (.slice (some ⟨s + 2, 0, none⟩) K.length K.length) := h.st.cell 1
theorem CB.cq (h : CB w s K W O) {c : Nat} (hc : c < K.length) : w.cell? ⟨s + 2, c, none⟩ = some (.pointer (some ⟨ca s c + 1, 0, none⟩)) := by
  rw [h.tb.cell c, qtab_get _ _ _ hc]
theorem CB.heap {w1 : World} (h : CB w s K W O) (e : w1.heap = w.heap) : CB w1 s K W O := ⟨h.st.heap e, h.tb.heap e, h.sl.heap e, h.qs.heap e, h.n1, h.n2⟩
theorem CB.keep {B : Nat} {S : List Nat} (h : CB w s K W O) (f : Fr B S w w') (hB : w.heap.size ≤ B) (hS : ∀ k, s ≤ k → k < s + (4 + 2 * K.length) → k ∉ S) : CB w' s K W O := by
  have hi := h.hi
  refine ⟨h.st.keep f (by omega) (hS _ (by omega) (by omega)), h.tb.keep f (by omega) (hS _ (by omega) (by omega)), h.sl.keep f ⟨by omega, by omega⟩ ⟨hS _ (by omega) (by omega), hS _ (by omega) (by omega)⟩, h.qs.keep f hB fun c hc => ⟨hS _ (by unfold ca; omega) (by unfold ca; omega), hS _ (by unfold ca; omega) (by unfold ca; omega)⟩, h.n1, h.n2⟩
/-- One queue has turned. -/
theorem CB.put (h : CB w s K W O) {c : Nat} (hc : c < K.length) {X : List Int} (q : QB w' (ca s c) X) (f : Fr w.heap.size [ca s c + 1, ca s c] w w') : CB w' s (K.set c X) W O ∧ Fr w.heap.size (cz s K.length) w w' := by
  have hi := h.hi
  have nz : ∀ k, k < s + 4 → k ∉ [ca s c + 1, ca s c] := fun k hk e => by simp at e; unfold ca at e; omega
  refine ⟨⟨?_, ?_, h.sl.keep f ⟨by omega, by omega⟩ ⟨nz _ (by omega), nz _ (by omega)⟩, ?_, by simpa using h.n1, by simpa using h.n2⟩, f.mono (Nat.le_refl _) fun k _ hk e => hk ((mem_cz s _ k).2 (by simp at e; unfold ca at e; omega))⟩
  · rw [List.length_set]
    exact h.st.keep f (by omega) (nz _ (by omega))
  · rw [List.length_set]
    exact h.tb.keep f (by omega) (nz _ (by omega))
  · rw [List.length_set]
    exact h.qs.put hc (fun d hd e => by unfold ca; omega) q f
/-- The numbers have turned. -/
theorem CB.slot (h : CB w s K W O) {W' : List Nat} {O' : Nat → Bool} (q : T w' (s + 1) s 32 W' O') (f : Fr w.heap.size [s + 1, s] w w') : CB w' s K W' O' ∧ Fr w.heap.size (cz s K.length) w w' := by
  have hi := h.hi
  have nz : ∀ k, s + 2 ≤ k → k ∉ [s + 1, s] := fun k hk e => by simp at e; omega
  refine ⟨⟨h.st.keep f (by omega) (nz _ (by omega)), h.tb.keep f (by omega) (nz _ (by omega)), q, h.qs.keep f (Nat.le_refl _) fun c hc => ⟨nz _ (by unfold ca; omega), nz _ (by unfold ca; omega)⟩, h.n1, h.n2⟩, f.mono (Nat.le_refl _) fun k _ hk e => hk ((mem_cz s _ k).2 (by simp at e; omega))⟩
end
/-- A box whose core c has K c. -/
def CX (w : World) (s : Nat) (K : Ks) : Prop := ∃ W O, CB w s K W O ∧ Al K ∧ ∀ i, 1 ≤ i → i ≤ 32 → O i = oc K i
theorem CX.heap {w w1 : World} {s : Nat} {K : Ks} (h : CX w s K) (e : w1.heap = w.heap) : CX w1 s K := by
  obtain ⟨W, O, b, a, o⟩ := h
  exact ⟨W, O, b.heap e, a, o⟩
theorem CX.keep {B : Nat} {S : List Nat} {w w' : World} {s : Nat} {K : Ks} (h : CX w s K) (f : Fr B S w w') (hB : w.heap.size ≤ B) (hS : ∀ k, s ≤ k → k < s + (4 + 2 * K.length) → k ∉ S) : CX w' s K := by
  obtain ⟨W, O, b, a, o⟩ := h
  exact ⟨W, O, b.keep f hB hS, a, o⟩
theorem CX.below {w w' : World} {s : Nat} {K : Ks} (h : CX w s K) (f : Below w.heap.size w w') : CX w' s K := h.keep (Fr.of_below f) (Nat.le_refl _) (by simp)
theorem CX.hi {w : World} {s : Nat} {K : Ks} (h : CX w s K) : s + (4 + 2 * K.length) ≤ w.heap.size := by
  obtain ⟨W, O, b, a, o⟩ := h
  exact b.hi
theorem CX.al {w : World} {s : Nat} {K : Ks} (h : CX w s K) : Al K := by
  obtain ⟨W, O, b, a, o⟩ := h
  exact a
theorem CX.n {w : World} {s : Nat} {K : Ks} (h : CX w s K) : 1 ≤ K.length ∧ K.length ≤ 64 := by
  obtain ⟨W, O, b, a, o⟩ := h
  exact ⟨b.n1, b.n2⟩
/-- The queue of a core. -/
theorem con_yes {w : World} {t tb n a : Nat} (c : Nat) (hc : (c : Int) < n) (c1 : w.cell? ⟨t, 1, none⟩ = some (.slice (some ⟨tb, 0, none⟩) n n)) (cw : w.cell? ⟨tb, c, none⟩ = some (.pointer (some ⟨a, 0, none⟩))) :
    Calls Tryz.prog 114 #[.pointer (some ⟨t, 0, none⟩), .int .i64 (c : Int)] w fun e w' => e = .returned (.tuple #[.pointer (some ⟨a, 0, none⟩), .int .i64 0]) ∧ w' = w := by
  go_enter Tryz.func114, Tryz.ntmps114
  go_wp2
  go_ret2
  exact ⟨rfl, rfl⟩
theorem con_no {w : World} {t tb n : Nat} (c : Int) (hc : isc n c = false) (c1 : w.cell? ⟨t, 1, none⟩ = some (.slice (some ⟨tb, 0, none⟩) n n)) :
    Calls Tryz.prog 114 #[.pointer (some ⟨t, 0, none⟩), .int .i64 c] w fun e w' => e = .returned (.tuple #[.pointer none, .int .i64 3]) ∧ w' = w := by
  rcases isc_false hc with q | ⟨q, q2⟩
  · clear hc
    go_enter Tryz.func114, Tryz.ntmps114
    go_wp2
    go_ret2
    exact ⟨rfl, rfl⟩
  · clear hc
    go_enter Tryz.func114, Tryz.ntmps114
    go_wp2
    go_ret2
    exact ⟨rfl, rfl⟩
set_option maxHeartbeats 400000 in
theorem clist_any {w : World} {s : Nat} {K : Ks} (c : Int) (h : CX w s K) :
    Calls Tryz.prog 56 #[.pointer (some ⟨s + 3, 0, none⟩), .int .i64 c] w fun e w' => ∃ v, e = .returned v ∧ w'.ownsRow w.heap.size 3 1 v (clL K c).length ((clL K c).map (Value.int .i64)) ∧ Below w.heap.size w w' := by
  obtain ⟨W, O, b, a, o⟩ := h
  unfold clL
  cases e : isc K.length c with
  | false =>
    have C : Hid (∀ _ : Unit, _) := fun _ => con_no c e b.c1
    have D : Hid (∀ w, _) := fun w => nil_list w
    have F : Hid (w.ownsRow w.heap.size 3 1 (.slice none 0 0) ([] : List Int).length (([] : List Int).map (Value.int .i64)) ∧ Below w.heap.size w w) := ⟨World.ownsRow_nil _ _ _ _, Below.refl _ _⟩
    rw [if_neg (by decide)]
    clear b a o e
    go_enter Tryz.func56, Tryz.ntmps56
    go_wp2_with fail
    refine (C.out ()).mono ?_
    rintro e w' ⟨rfl, rfl⟩
    go_wp2_with fail
    refine (D.out _).mono ?_
    rintro e w' ⟨rfl, rfl⟩
    go_wp2
    go_ret
    exact ⟨_, rfl, F.out⟩
  | true =>
    obtain ⟨k, rfl, hk, hk2⟩ := isc_nat e
    rw [if_pos rfl, Int.toNat_natCast]
    have C : Hid (∀ _ : Unit, _) := fun _ => con_yes k hk2 b.c1 (b.cq hk)
    have D : Hid (∀ _ : Unit, _) := fun _ => qlist_any (b.qs k hk)
    clear b a o e
    go_enter Tryz.func56, Tryz.ntmps56
    go_wp2_with fail
    refine (C.out ()).mono ?_
    rintro e w' ⟨rfl, rfl⟩
    go_wp2_with fail
    refine (D.out ()).mono ?_
    rintro e w2 ⟨v, rfl, q⟩
    have F : Hid _ := q
    clear q
    go_wp2
    go_ret
    exact ⟨_, rfl, F.out⟩
end Go.Proofs.YtfdmcbcomknebaaGreatDoor.Wrk
namespace Go.Proofs.YtfdmcbcomknebaaGreatDoor.Wrk
open Fif
open Go.ChangeShapes Go.WideShapes Go.ChangeAt Go.RowKit
open Fm Sl Cm
/-- A box while its queues are made: the first k are there. -/
structure CN (w wr : World) (s n k : Nat) (W : List Nat) : Prop where
  bel : Below s w wr
  st : Blk wr (s + 3) [.pointer (some ⟨s + 1, 0, none⟩), .slice (some ⟨s + 2, 0, none⟩) n n] 192
  tb : Blk wr (s + 2) (qtak (ca s) n k) 185
  sl : T wr (s + 1) s 32 W fun _ => false
  qs : ∀ c, c < k → QB wr (ca s c) []
  sz : wr.heap.size = ca s k
theorem cn_step {w wr w1 : World} {s n k : Nat} {W : List Nat} (h : CN w wr s n k W) (q : QB w1 (ca s k) []) (f : Fr wr.heap.size [] wr w1) (z : w1.heap.size = wr.heap.size + 2) :
    CN w (w1.setCell ⟨s + 2, k, none⟩ (.pointer (some ⟨ca s k + 1, 0, none⟩))) s n (k + 1) W := by
  have hz := h.sz
  have fs : Fr w1.heap.size [s + 2] w1 (w1.setCell ⟨s + 2, k, none⟩ (.pointer (some ⟨ca s k + 1, 0, none⟩))) := (Fr.refl _ _ _).setCell (Or.inr (by simp)) _
  have hc : s + 4 ≤ ca s k := by unfold ca; omega
  refine ⟨(h.bel.trans ((f.below (by simp)).mono (by omega))).setCell (p := ⟨s + 2, k, none⟩) (by show s ≤ s + 2; omega) _, (h.st.keep f h.st.lt (by simp)).other (p := ⟨s + 2, k, none⟩) (by show s + 3 ≠ s + 2; omega) _, ?_, ?_, fun c hc => ?_, ?_⟩
  · rw [← qtak_set]
    exact (h.tb.keep f h.tb.lt (by simp)).set k _
  · have s1 := h.sl.keep f ⟨h.sl.sb.lt, h.sl.sg.lt⟩ (by simp)
    exact s1.keep fs ⟨s1.sb.lt, s1.sg.lt⟩ ⟨by simp, by simp⟩
  · by_cases e : c = k
    · subst e
      exact q.keep fs q.lt (by simp; omega) (by simp; omega)
    · have q1 := (h.qs c (by omega)).keep f (h.qs c (by omega)).lt (by simp) (by simp)
      exact q1.keep fs q1.lt (by simp [ca]; omega) (by simp [ca]; omega)
  · show (w1.heap.modify _ _).size = _
    rw [Array.size_modify, z, hz]
    unfold ca
    omega
theorem cn_end {w wr : World} {s n : Nat} {W : List Nat} (h : CN w wr s n n W) (h1 : 1 ≤ n) (h2 : n ≤ 64) : CX wr s (List.replicate n []) ∧ Below s w wr := by
  refine ⟨⟨W, fun _ => false, ⟨by rw [List.length_replicate]; exact h.st, by rw [List.length_replicate, ← qtak_all]; exact h.tb, h.sl, ?_, by simpa using h1, by simpa using h2⟩, al_nil n, fun i _ _ => by rw [oc_nil]⟩, h.bel⟩
  rw [List.length_replicate]
  intro c hc
  rw [ks_nil]
  exact h.qs c hc
set_option maxRecDepth 100000 in
set_option maxHeartbeats 1000000 in
theorem cnew_any (n : Nat) (w : World) (h1 : (1 : Int) ≤ n) (h2 : (n : Int) ≤ 64) :
    Calls Tryz.prog 36 #[.int .i64 (n : Int)] w fun e w' => e = .returned (.tuple #[.pointer (some ⟨w.heap.size + 3, 0, none⟩), .int .i64 0]) ∧ CX w' w.heap.size (List.replicate n []) ∧ Below w.heap.size w w' := by
  have NS : Hid (∀ _ : Unit, _) := fun _ => snew_any 32 w (by decide) (by decide)
  have C : Hid (∀ w, _) := fun w => qnew_any w
  have hmk := run_make_row' (P := Tryz.prog) 188 185 (.pointer none) 8 Tryz.underlying188 Tryz.infoPQ rfl .i64 .i64 n (by omega) (by omega)
  obtain ⟨s, hs⟩ : ∃ s, w.heap.size = s := ⟨_, rfl⟩
  have HS : Hid (w.heap.size = s) := hs
  rw [hs] at NS ⊢
  rw [made_qtak (ca s) n] at hmk
  obtain ⟨T0, hT⟩ : ∃ T0, qtak (ca s) n 0 = T0 := ⟨_, rfl⟩
  have HT : Hid (qtak (ca s) n 0 = T0) := hT
  rw [hT] at hmk
  clear hT hs
  go_enter Tryz.func36, Tryz.ntmps36
  go_wp2_with fail
  refine (NS.out ()).mono ?_
  rintro e w1 ⟨rfl, ⟨W, sl⟩, f1, z1⟩
  have P0 : Hid (CN w ((w1.alloc (.cells T0.toArray 185)).alloc (.cells #[.pointer (some ⟨s + 1, 0, none⟩), .slice (some ⟨s + 2, 0, none⟩) n n] 192)) s n 0 W) := by
    have b0 : Below s w w1 := f1.below (by simp)
    refine ⟨(b0.alloc (by omega) _).alloc (by simp; omega) _, ?_, ?_, ?_, fun c hc => by omega, by simp [ca, z1]⟩
    · have := Blk.new (w1.alloc (.cells T0.toArray 185)) [.pointer (some ⟨s + 1, 0, none⟩), .slice (some ⟨s + 2, 0, none⟩) n n] 192
      rwa [World.size_alloc, z1] at this
    · rw [HT.out]
      have := (Blk.new w1 T0 185).alloc (.cells #[.pointer (some ⟨s + 1, 0, none⟩), .slice (some ⟨s + 2, 0, none⟩) n n] 192)
      rwa [z1] at this
    · exact ⟨(sl.sb.alloc _).alloc _, (sl.sg.alloc _).alloc _, sl.wd⟩
  clear sl f1 NS
  go_wp2
  simp only [z1] at *
  go_loopw [33] (fun i wr => ∃ (k : Nat), (k : Int) ≤ n ∧ i = .int .i64 (k : Int) ∧ CN w wr s n k W) (fun i _ => n - (intOf i).toNat)
  case atStart => exact ⟨0, by omega, rfl, P0.out⟩
  case round =>
    obtain ⟨k, hk, rfl, P⟩ := hrel
    by_cases c : (k : Int) < n
    · have C1 : Hid (∀ _ : Unit, _) := fun _ => C.out wr
      have ST : Hid (∀ w1 : World, QB w1 wr.heap.size [] → Fr wr.heap.size [] wr w1 → w1.heap.size = wr.heap.size + 2 → CN w (w1.setCell ⟨s + 2, k, none⟩ (.pointer (some ⟨wr.heap.size + 1, 0, none⟩))) s n (k + 1) W) := fun w1 q f z => by
        rw [P.sz] at q ⊢
        exact cn_step P q f z
      have cb : Hid (∀ w1 : World, Fr wr.heap.size [] wr w1 → w1.cell? ⟨s + 2, k, none⟩ = some (.pointer none) ∧ w1.frozen? ⟨s + 2, k, none⟩ = false ∧ w1.cell? ⟨s + 3, 1, none⟩ = some (.slice (some ⟨s + 2, 0, none⟩) n n)) := fun w1 f => by
        have b := P.tb.keep f P.tb.lt (by simp)
        have b2 := P.st.keep f P.st.lt (by simp)
        exact ⟨by rw [b.cell, qtak_get _ _ _ _ (by omega), if_neg (by omega)], b.free k, b2.cell 1⟩
      clear P P0
      go_wp2_with fail
      refine (C1.out ()).mono ?_
      rintro e w1 ⟨rfl, q, f, z⟩
      obtain ⟨c1, f1, s1⟩ := cb.out w1 f
      have N2 : Hid _ := ST.out w1 q f z
      clear q f z
      go_wp2
      go_roundw
      case rel => exact ⟨k + 1, by omega, by go_num, N2.out⟩
      case measure => simp [intOf]; omega
    · obtain rfl : k = n := by omega
      have e : Hid _ := cn_end P (by omega) (by omega)
      clear P P0
      go_wp2
      go_ret2
      exact ⟨rfl, e.out⟩
end Go.Proofs.YtfdmcbcomknebaaGreatDoor.Wrk
