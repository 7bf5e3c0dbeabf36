/- A picture that came in, as plain data. -/
import Derived.Test.YtfdmcbcomknebaaGreatDoorAu0
import Derived.Deep.Slices
import Derived.Test.YtfdmcbcomknebaaGreatDoorFtx
import Derived.Lib.SmallJoins
namespace Go.Proofs.YtfdmcbcomknebaaGreatDoor.Aud
open Go.ChangeShapes Go.WideShapes Go.ChangeAt Go.RowKit Go.Deep
open Mm

theorem lrow_of_trow {w : World} {v : Value} {n : Nat} {X : Nat → Nat → Int} (h : TRow w v n [1, 1, 1] X) : LRow tr w v ((List.range n).map fun i => ⟨X i 0, X i 1, X i 2⟩) := by
  rcases h with ⟨rfl, a, cap, rfl⟩ | ⟨b, off, cap, hv, hlt, hc⟩
  · exact Or.inl ⟨rfl, a, cap, rfl⟩
  · refine Or.inr ⟨b, off, cap, by rw [hv]; simp, hlt, fun i hi j hj => ?_⟩
    have hi' : i < n := by simpa using hi
    have e : ((List.range n).map fun i => (⟨X i 0, X i 1, X i 2⟩ : Tr)).getD i tr.z = ⟨X i 0, X i 1, X i 2⟩ := by simp [List.getD, hi']
    rw [e]
    have hj3 : j < 3 := hj
    have c := hc i hi' j hj
    have : j = 0 ∨ j = 1 ∨ j = 2 := by omega
    rcases this with rfl | rfl | rfl <;> exact c
theorem ok_of_trow {n : Nat} {X : Nat → Nat → Int} (h : ∀ i, i < n → ∀ j, j < [1, 1, 1].length → kwf ([1, 1, 1].getD j 1) (X i j)) : Okl ((List.range n).map fun i => ⟨X i 0, X i 1, X i 2⟩) := by
  intro e he
  obtain ⟨i, hi, rfl⟩ := List.mem_map.1 he
  have hi' : i < n := by simpa using hi
  exact ⟨h i hi' 0 (by decide), h i hi' 1 (by decide), h i hi' 2 (by decide)⟩

/-- A field of a picture: a truth, a number, or (3) a list of triples. -/
def Fld (w : World) (k : Nat) (u : Value) : Prop := if k < 3 then ∃ z : Int, u = kval k z ∧ kwf k z else ∃ a n cap L, u = .slice a n cap ∧ LRow tr w (.slice a n cap) L ∧ Okl L
theorem open_mix {H : Type} {enc : TypeId × Value → H} {P : Program} {w : World} {base : Nat} {spare : Nat → Bool} {held : Bool} {r : Reach} {b0 : Nat} {t : TypeId} {fs : Array Field} {v : Value} {d : DataW H} {p : List MemPlace} (ks : List Nat)
    (he : P.underlying t = some (.struct fs)) (ce : P.cellsOf t = ks.length) (hs : fs.size = ks.length)
    (hk : ∀ j, j < ks.length → ∃ f, fs[j]? = some f ∧ f.offset = j ∧ P.cellsOf f.type = 1 ∧ ((ks.getD j 1 < 3 ∧ P.underlying f.type = some (kund (ks.getD j 1))) ∨
      (¬ ks.getD j 1 < 3 ∧ ∃ e es, P.underlying f.type = some (.slice e) ∧ P.underlying e = some (.struct es) ∧ P.cellsOf e = 3 ∧ es.size = 3 ∧ ∀ i, i < 3 → ∃ g, es[i]? = some g ∧ g.offset = i ∧ P.cellsOf g.type = 1 ∧ P.underlying g.type = some (.int .i64))))
    (hv : Value.okWide P w r b0 t v) (h : DataW.Trod enc P w base spare held t v d p) :
    ∃ g : Nat → Value, v = .agg ((List.range ks.length).map g).toArray ∧ ∀ j, j < ks.length → Fld w (ks.getD j 1) (g j) := by
  obtain ⟨cs, rfl, hsz⟩ := okWide_struct he hv
  obtain ⟨fuel, hf⟩ := h
  have hl : cs.toList.length = ks.length := by rw [Array.length_toList]; exact hsz.trans ce
  rw [show (Value.agg cs).cells.toList = cs.toList from rfl] at hf
  obtain ⟨xs, n', _, _, _, hxl, hff⟩ := DataW.trod_struct he hf
  refine ⟨fun j => cs.toList.getD j undef, ?_, fun j hj => ?_⟩
  · congr 1
    apply Array.toList_inj.1
    apply List.ext_getElem?
    intro j
    by_cases hj : j < ks.length
    · rw [List.getElem?_eq_getElem (by omega), List.getElem?_map, List.getElem?_range hj]
      show some _ = some (cs.toList.getD j undef)
      rw [List.getD_eq_getElem?_getD, List.getElem?_eq_getElem (show j < cs.toList.length by omega)]
      rfl
    · rw [List.getElem?_eq_none (by omega), List.getElem?_eq_none (by simp; omega)]
  · obtain ⟨f, e1, e2, e3, e4⟩ := hk j hj
    have g := hff j f e1
    have hjl : j < cs.toList.length := by omega
    rw [e2, e3] at g
    have e5 : (cs.toList.drop j).take 1 = [cs.toList[j]] := by
      rw [List.drop_eq_getElem_cons hjl]
      rfl
    rw [e5, List.getElem?_eq_getElem (by omega)] at g
    have e6 : cs.toList.getD j undef = cs.toList[j] := by simp [List.getD, List.getElem?_eq_getElem hjl]
    show Fld w _ (cs.toList.getD j undef)
    rw [e6]
    unfold Fld
    rcases e4 with ⟨k3, e4⟩ | ⟨k3, e, es, u1, u2, c3, s3, hes⟩
    · rw [if_pos k3]
      exact open_field _ e4 g
    · rw [if_neg k3]
      have hsl : ∃ a len cap, cs.toList[j] = .slice a len cap := by
        rcases open_slice u1 g with ⟨hcs, _⟩ | ⟨x, l, c', m, n', D, Pl, hcs, _⟩
        · exact ⟨none, 0, 0, by simpa using hcs⟩
        · exact ⟨some x, l, c', by simpa using hcs⟩
      obtain ⟨a, len, cap, ev⟩ := hsl
      rw [ev] at g ⊢
      obtain ⟨X, hX, hz⟩ := open_recx [1, 1, 1] u1 u2 c3 s3 (by decide) (fun i hi => by
        obtain ⟨g, q1, q2, q3, q4⟩ := hes i hi
        refine ⟨g, q1, q2, q3, ?_⟩
        have hi3 : i < 3 := hi
        have : i = 0 ∨ i = 1 ∨ i = 2 := by omega
        rcases this with rfl | rfl | rfl <;> exact q4) g
      exact ⟨a, len, cap, _, rfl, lrow_of_trow hX, ok_of_trow hz⟩

/-- A picture as a value, and as plain data. -/
def pv (p : Pic) (v4 v5 v6 v7 v8 v9 v10 : Value) : Value := .agg #[.int .i64 p.cp, .int .u64 (p.on : Int), .int .u64 (p.ac : Int), .int .u64 (p.pw : Int), v4, v5, v6, v7, v8, v9, v10, .bool p.bu, .bool p.up, .int .i64 p.cc, .int .i64 p.by']
structure PV (w : World) (p : Pic) (v4 v5 v6 v7 v8 v9 v10 : Value) : Prop where
  th : LRow tr w v4 p.th
  qu : LRow tr w v5 p.qu
  ti : LRow tr w v6 p.ti
  ir : LRow tr w v7 p.ir
  wo : LRow tr w v8 p.wo
  ca : LRow tr w v9 p.ca
  ke : LRow tr w v10 p.ke
  oth : Okl p.th
  oqu : Okl p.qu
  oti : Okl p.ti
  oir : Okl p.ir
  owo : Okl p.wo
  oca : Okl p.ca
  oke : Okl p.ke
  on : p.on < 18446744073709551616
  ac : p.ac < 18446744073709551616
  pw : p.pw < 18446744073709551616
  cp : (Lit.int .i64 p.cp).wf = true
  cc : (Lit.int .i64 p.cc).wf = true
  by' : (Lit.int .i64 p.by').wf = true
theorem PV.below {w w' : World} {p : Pic} {v4 v5 v6 v7 v8 v9 v10 : Value} (h : PV w p v4 v5 v6 v7 v8 v9 v10) (b : Below w.heap.size w w') : PV w' p v4 v5 v6 v7 v8 v9 v10 :=
  ⟨h.th.below b, h.qu.below b, h.ti.below b, h.ir.below b, h.wo.below b, h.ca.below b, h.ke.below b, h.oth, h.oqu, h.oti, h.oir, h.owo, h.oca, h.oke, h.on, h.ac, h.pw, h.cp, h.cc, h.by'⟩
theorem PV.heap {w w' : World} {p : Pic} {v4 v5 v6 v7 v8 v9 v10 : Value} (h : PV w p v4 v5 v6 v7 v8 v9 v10) (b : w'.heap = w.heap) : PV w' p v4 v5 v6 v7 v8 v9 v10 :=
  ⟨h.th.heap b, h.qu.heap b, h.ti.heap b, h.ir.heap b, h.wo.heap b, h.ca.heap b, h.ke.heap b, h.oth, h.oqu, h.oti, h.oir, h.owo, h.oca, h.oke, h.on, h.ac, h.pw, h.cp, h.cc, h.by'⟩
def kinds : List Nat := [1, 2, 2, 2, 3, 3, 3, 3, 3, 3, 3, 0, 0, 1, 1]
theorem nat_of {z : Int} (h : (Lit.int .u64 z).wf = true) : ∃ n : Nat, z = (n : Int) ∧ n < 18446744073709551616 := by
  simp [Lit.wf, IntKind.min, IntKind.max, IntKind.bits, IntKind.signed] at h
  exact ⟨z.toNat, by omega, by omega⟩
theorem pic_of {w : World} {g : Nat → Value} (h : ∀ j, j < kinds.length → Fld w (kinds.getD j 1) (g j)) : ∃ p v4 v5 v6 v7 v8 v9 v10, .agg ((List.range kinds.length).map g).toArray = pv p v4 v5 v6 v7 v8 v9 v10 ∧ PV w p v4 v5 v6 v7 v8 v9 v10 := by
  obtain ⟨z0, e0, k0⟩ : ∃ z : Int, g 0 = .int .i64 z ∧ (Lit.int .i64 z).wf = true := h 0 (by decide)
  obtain ⟨z1, e1, k1⟩ : ∃ z : Int, g 1 = .int .u64 z ∧ (Lit.int .u64 z).wf = true := h 1 (by decide)
  obtain ⟨z2, e2, k2⟩ : ∃ z : Int, g 2 = .int .u64 z ∧ (Lit.int .u64 z).wf = true := h 2 (by decide)
  obtain ⟨z3, e3, k3⟩ : ∃ z : Int, g 3 = .int .u64 z ∧ (Lit.int .u64 z).wf = true := h 3 (by decide)
  obtain ⟨a4, n4, c4, L4, e4, r4, o4⟩ : ∃ a n cap L, g 4 = .slice a n cap ∧ LRow tr w (.slice a n cap) L ∧ Okl L := h 4 (by decide)
  obtain ⟨a5, n5, c5, L5, e5, r5, o5⟩ : ∃ a n cap L, g 5 = .slice a n cap ∧ LRow tr w (.slice a n cap) L ∧ Okl L := h 5 (by decide)
  obtain ⟨a6, n6, c6, L6, e6, r6, o6⟩ : ∃ a n cap L, g 6 = .slice a n cap ∧ LRow tr w (.slice a n cap) L ∧ Okl L := h 6 (by decide)
  obtain ⟨a7, n7, c7, L7, e7, r7, o7⟩ : ∃ a n cap L, g 7 = .slice a n cap ∧ LRow tr w (.slice a n cap) L ∧ Okl L := h 7 (by decide)
  obtain ⟨a8, n8, c8, L8, e8, r8, o8⟩ : ∃ a n cap L, g 8 = .slice a n cap ∧ LRow tr w (.slice a n cap) L ∧ Okl L := h 8 (by decide)
  obtain ⟨a9, n9, c9, L9, e9, r9, o9⟩ : ∃ a n cap L, g 9 = .slice a n cap ∧ LRow tr w (.slice a n cap) L ∧ Okl L := h 9 (by decide)
  obtain ⟨a10, n10, c10, L10, e10, r10, o10⟩ : ∃ a n cap L, g 10 = .slice a n cap ∧ LRow tr w (.slice a n cap) L ∧ Okl L := h 10 (by decide)
  obtain ⟨z11, e11, -⟩ : ∃ z : Int, g 11 = .bool (z != 0) ∧ True := h 11 (by decide)
  obtain ⟨z12, e12, -⟩ : ∃ z : Int, g 12 = .bool (z != 0) ∧ True := h 12 (by decide)
  obtain ⟨z13, e13, k13⟩ : ∃ z : Int, g 13 = .int .i64 z ∧ (Lit.int .i64 z).wf = true := h 13 (by decide)
  obtain ⟨z14, e14, k14⟩ : ∃ z : Int, g 14 = .int .i64 z ∧ (Lit.int .i64 z).wf = true := h 14 (by decide)
  obtain ⟨y1, rfl, l1⟩ := nat_of k1
  obtain ⟨y2, rfl, l2⟩ := nat_of k2
  obtain ⟨y3, rfl, l3⟩ := nat_of k3
  refine ⟨⟨z0, y1, y2, y3, L4, L5, L6, L7, L8, L9, L10, z11 != 0, z12 != 0, z13, z14⟩, _, _, _, _, _, _, _, ?_, r4, r5, r6, r7, r8, r9, r10, o4, o5, o6, o7, o8, o9, o10, l1, l2, l3, k0, k13, k14⟩
  unfold pv
  rw [show (List.range kinds.length).map g = [g 0, g 1, g 2, g 3, g 4, g 5, g 6, g 7, g 8, g 9, g 10, g 11, g 12, g 13, g 14] from rfl, e0, e1, e2, e3, e4, e5, e6, e7, e8, e9, e10, e11, e12, e13, e14]
end Go.Proofs.YtfdmcbcomknebaaGreatDoor.Aud
