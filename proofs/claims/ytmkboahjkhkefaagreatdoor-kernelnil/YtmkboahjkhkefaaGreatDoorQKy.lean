/- Contracts of the program's layers, as far as this claim needs them. -/
import Derived.Test.YtmkboahjkhkefaaGreatDoorQKx
set_option linter.unusedVariables false
set_option linter.unusedSimpArgs false
namespace Go.Proofs.YtmkboahjkhkefaaGreatDoor.Krn
open Go.ChangeShapes Go.WideShapes Go.ChangeAt Go.RowKit
open Mm
def pi (x : Cor.Co.Kc) : Bool × Bool := (x.p, x.i)
theorem pi_get (Y : List Cor.Co.Kc) (k : Nat) : (Y.map pi).getD k (false, false) = pi (Y.getD k Cor.Co.kz) := by
  simp only [List.getD, List.getElem?_map]
  cases Y[k]? <;> rfl
theorem pi_set (Y : List Cor.Co.Kc) (k : Nat) (x : Cor.Co.Kc) : (Y.set k x).map pi = (Y.map pi).set k (pi x) := by rw [List.map_set]
theorem pi_same (Y : List Cor.Co.Kc) {k : Nat} (hk : k < Y.length) {x : Cor.Co.Kc} (e : pi x = pi (Y.getD k Cor.Co.kz)) : (Y.set k x).map pi = Y.map pi := by
  rw [pi_set, e]
  apply List.ext_getElem?
  intro j
  rw [List.getElem?_set]
  split
  · rename_i q
    subst q
    simp [hk, List.getD]
  · rfl
theorem gt_is {Y : List Cor.Co.Kc} {c : Int} (h : Cor.Co.isk Y.length c = true) : Cor.Co.gt Y c = Y.getD c.toNat Cor.Co.kz := by unfold Cor.Co.gt; rw [if_pos h]
section
variable {B : Nat} {w0 : World} {A : List (Nat × List Value × TypeId)} {a : KA} {m m' : Nat} {S S' : KS} {w w' : World}
theorem co_get (h : KX B w0 A a m S w) (c : Int) (hc : isC a.n c = true) :
    Calls Tryz.prog 64 #[.pointer (some ⟨a.co, 0, none⟩), .int .i64 c] w fun e w' => ∃ x : Cor.Co.Kc, e = .returned (.tuple #[.agg #[.bool x.p, .bool x.i, .int .i64 x.way, .int .i64 x.since, .int .i64 x.steps, .int .i64 x.busy], .int .i64 0]) ∧ pi x = zc S c ∧ KX B w0 A a m S w' := by
  obtain ⟨F, K, hB, hA⟩ := h.ex
  obtain ⟨g, Y, t, y0, l0, e0⟩ := K.p 13 (by omega)
  have ly : Y.length = a.n := by rw [← l0, ← y0, List.length_map]
  have k1 : Cor.Co.isk Y.length c = true := by rw [ly]; exact hc
  refine (Cor.cget_any w c t).mono ?_
  rintro e w' ⟨rfl, q⟩
  refine ⟨Cor.Co.gt Y c, ?_, ?_, h.below q⟩
  · unfold Cor.Co.inE
    rw [if_pos k1]
    rfl
  · rw [gt_is k1]
    unfold zc
    rw [← y0]
    exact (pi_get Y _).symm
theorem co_count (h : KX B w0 A a m S w) (c : Int) (b : Bool) (hc : isC a.n c = true) :
    Calls Tryz.prog 86 #[.pointer (some ⟨a.co, 0, none⟩), .int .i64 c, .bool b] w fun e w' => (∃ x, e = .returned (.int .i64 x)) ∧ KX B w0 A a m S w' := by
  obtain ⟨F, K, hB, hA⟩ := h.ex
  obtain ⟨g, Y, t, y0, l0, e0⟩ := K.p 13 (by omega)
  have ly : Y.length = a.n := by rw [← l0, ← y0, List.length_map]
  have k1 : Cor.Co.isk Y.length c = true := by rw [ly]; exact hc
  have kl : c.toNat < Y.length := by
    obtain ⟨k, rfl, hk⟩ := Cor.Co.isk_yes k1
    simpa using hk
  refine (Cor.ccount_any w c b t).mono ?_
  rintro e w' ⟨rfl, t2, f⟩
  refine ⟨⟨_, rfl⟩, h.turn0 K hB hA 13 (by omega) ⟨g, _, t2, ?_, l0, e0⟩ f (by rw [e0]; simp) (Eqx.refl _ _) (by omega)⟩
  rw [← y0]
  show (Cor.Co.ctY Y c b).map pi = Y.map pi
  unfold Cor.Co.ctY
  rw [if_pos k1, gt_is k1]
  exact pi_same Y kl rfl
/- The meter. -/
/- Governors. -/
end
/- The kernel's own block. -/
section
variable {B : Nat} {w0 : World} {A : List (Nat × List Value × TypeId)} {a : KA} {m m' : Nat} {S S' : KS} {w w' : World}
theorem KX.own (h : KX B w0 A a m S w) : w.cell? ⟨a.k, 0, none⟩ = some (.int .u64 (S.on : Int)) ∧ w.cell? ⟨a.k, 1, none⟩ = some (.int .u64 (S.ac : Int)) := by
  obtain ⟨⟨l, b⟩, _⟩ := h.kb
  exact ⟨b.cell 0, b.cell 1⟩
theorem KX.c0 (h : KX B w0 A a m S w) : w.cell? ⟨a.k, 0, none⟩ = some (.int .u64 (S.on : Int)) := h.own.1
theorem KX.c1 (h : KX B w0 A a m S w) : w.cell? ⟨a.k, 1, none⟩ = some (.int .u64 (S.ac : Int)) := h.own.2
theorem KX.c3 (h : KX B w0 A a m S w) : w.cell? ⟨a.k, 3, none⟩ = some (.pointer (some ⟨a.th + 2, 0, none⟩)) := by obtain ⟨⟨l, b⟩, _⟩ := h.kb; exact b.cell 3
theorem KX.c4 (h : KX B w0 A a m S w) : w.cell? ⟨a.k, 4, none⟩ = some (.pointer (some ⟨a.rq + 2, 0, none⟩)) := by obtain ⟨⟨l, b⟩, _⟩ := h.kb; exact b.cell 4
theorem KX.c5 (h : KX B w0 A a m S w) : w.cell? ⟨a.k, 5, none⟩ = some (.pointer (some ⟨a.tm, 0, none⟩)) := by obtain ⟨⟨l, b⟩, _⟩ := h.kb; exact b.cell 5
theorem KX.c6 (h : KX B w0 A a m S w) : w.cell? ⟨a.k, 6, none⟩ = some (.pointer (some ⟨a.iq, 0, none⟩)) := by obtain ⟨⟨l, b⟩, _⟩ := h.kb; exact b.cell 6
theorem KX.c7 (h : KX B w0 A a m S w) : w.cell? ⟨a.k, 7, none⟩ = some (.pointer (some ⟨a.rt, 0, none⟩)) := by obtain ⟨⟨l, b⟩, _⟩ := h.kb; exact b.cell 7
theorem KX.c8 (h : KX B w0 A a m S w) : w.cell? ⟨a.k, 8, none⟩ = some (.pointer (some ⟨a.wk + 6, 0, none⟩)) := by obtain ⟨⟨l, b⟩, _⟩ := h.kb; exact b.cell 8
theorem KX.c9 (h : KX B w0 A a m S w) : w.cell? ⟨a.k, 9, none⟩ = some (.pointer (some ⟨a.cl + 3, 0, none⟩)) := by obtain ⟨⟨l, b⟩, _⟩ := h.kb; exact b.cell 9
theorem KX.c11 (h : KX B w0 A a m S w) : w.cell? ⟨a.k, 11, none⟩ = some (.pointer (some ⟨a.ct, 0, none⟩)) := by obtain ⟨⟨l, b⟩, _⟩ := h.kb; exact b.cell 11
theorem KX.c12 (h : KX B w0 A a m S w) : w.cell? ⟨a.k, 12, none⟩ = some (.pointer (some ⟨a.dk, 0, none⟩)) := by obtain ⟨⟨l, b⟩, _⟩ := h.kb; exact b.cell 12
theorem KX.c14 (h : KX B w0 A a m S w) : w.cell? ⟨a.k, 14, none⟩ = some (.pointer (some ⟨a.st, 0, none⟩)) := by obtain ⟨⟨l, b⟩, _⟩ := h.kb; exact b.cell 14
theorem KX.c15 (h : KX B w0 A a m S w) : w.cell? ⟨a.k, 15, none⟩ = some (.pointer (some ⟨a.co, 0, none⟩)) := by obtain ⟨⟨l, b⟩, _⟩ := h.kb; exact b.cell 15
theorem KX.c17 (h : KX B w0 A a m S w) : w.cell? ⟨a.k, 17, none⟩ = some (.slice (some ⟨a.gv, 0, none⟩) a.n a.gc) := by obtain ⟨⟨l, b⟩, _⟩ := h.kb; exact b.cell 17
theorem KX.isT (h : KX B w0 A a m S w) : 0 ≤ S.now ∧ S.now ≤ 1152921504606846976 := by
  obtain ⟨F, K, _⟩ := h.ex
  have t := K.p 3 (by omega)
  simp only [Part] at t
  obtain ⟨sb, sg, tb, mb, SS, G, W, O, b, _⟩ := t
  obtain ⟨mp, V, q, _⟩ := b.ws 0 h.n1
  exact q.now
end
/- A tick that is later. -/
end Go.Proofs.YtmkboahjkhkefaaGreatDoor.Krn
