/- Contracts of the program's layers, as far as this claim needs them. -/
import Derived.Test.YtmkboahjkhkefaaGreatDoorQKnb
set_option linter.unusedVariables false
set_option linter.unusedSimpArgs false
namespace Go.Proofs.YtmkboahjkhkefaaGreatDoor.Krn
open Go.ChangeShapes Go.WideShapes Go.ChangeAt Go.RowKit
open Mm
section
variable {n : Nat} {w0 w w' : World} {z : Nat} {cs : List Value} {J : List Pt}
theorem NB.s1 (h : NB (new n) w0 w z cs J) (h1 : 1 ≤ n) {b : Nat} (hb : w.heap.size = b) (t : Thr.TT w' b n (fun _ => false) (fun _ => Tm.zt)) (l : Below w.heap.size w w') : NB (new n) w0 w' z cs ((1, fun a => a.n = n ∧ a.th = b, [b, b + 1, b + 2]) :: J) := by
  have hi := t.hi
  refine h.add l ?_ (fun g hg => by simp at hg; omega)
  rintro a ⟨rfl, rfl⟩
  exact ⟨t, fun i => ⟨by simp [Tm.zt, new], by simp [Tm.zt, new], by simp [Tm.zt, new]; omega, by simp [Tm.zt, new], by simp [Tm.zt, new]⟩, rfl⟩
theorem NB.s2 (h : NB (new n) w0 w z cs J) {b : Nat} (hb : w.heap.size = b) (t : Rqu.RR w' b n 0 (fun _ => [])) (l : Below w.heap.size w w') : NB (new n) w0 w' z cs ((2, fun a => a.n = n ∧ a.rq = b, Rqu.rz b n) :: J) := by
  have hi := t.rb.hi
  refine h.add l ?_ (fun g hg => by have := (Rqu.mem_rz _ _ _).1 hg; omega)
  rintro a ⟨rfl, rfl⟩
  exact ⟨t, rfl⟩
theorem NB.s3 (h : NB (new n) w0 w z cs J) {b : Nat} {F : List Nat} (t : Tim.TX w' b n 0 (fun _ => []) F) (hF : ∀ g ∈ F, w.heap.size ≤ g) (l : Below w.heap.size w w') : NB (new n) w0 w' z cs ((3, fun a => a.n = n ∧ a.tm = b, F) :: J) := by
  refine h.add l ?_ (fun g hg => ⟨hF g hg, Tim.TX.lt t hg⟩)
  rintro a ⟨rfl, rfl⟩
  exact t
theorem NB.s4 (h : NB (new n) w0 w z cs J) {b : Nat} (hb : w.heap.size = b) (t : Irq.IT w' b n (fun _ => Bm.zi)) (l : Below w.heap.size w w') : NB (new n) w0 w' z cs ((4, fun a => a.n = n ∧ a.iq = b, [b]) :: J) := by
  have hi := t.lt
  refine h.add l ?_ (fun g hg => by simp at hg; omega)
  rintro a ⟨rfl, rfl⟩
  exact ⟨t, fun i => by simp [Bm.zi, new], rfl⟩
theorem NB.s5 (h : NB (new n) w0 w z cs J) {b : Nat} (hb : w.heap.size = b) (t : Rou.RT w' b n (fun _ => -1)) (l : Below w.heap.size w w') : NB (new n) w0 w' z cs ((5, fun a => a.n = n ∧ a.rt = b, [b]) :: J) := by
  have hi := t.lt
  refine h.add l ?_ (fun g hg => by simp at hg; omega)
  rintro a ⟨rfl, rfl⟩
  exact ⟨t, rfl⟩
theorem NB.s9 (h : NB (new n) w0 w z cs J) {b : Nat} (hb : w.heap.size = b) (t : Spl.SL w' (b + 1) b (List.replicate n 0)) (l : Fr w.heap.size [] w w') : NB (new n) w0 w' z cs ((9, fun a => a.n = n ∧ a.ct = b + 1, [b + 1, b]) :: J) := by
  have hi := t.sb.lt
  have hj := t.sg.lt
  refine h.add (l.below (by simp)) ?_ (fun g hg => by simp at hg; omega)
  rintro a ⟨rfl, e⟩
  unfold Part
  simp only [e]
  exact ⟨b, t, by simp [new], rfl⟩
theorem NB.s11 (h : NB (new n) w0 w z cs J) {b : Nat} (hb : w.heap.size = b) (t : Gat.GT w' (b + 2) b 0 (List.replicate n 0)) (l : Fr w.heap.size [] w w') : NB (new n) w0 w' z cs ((11, fun a => a.n = n ∧ a.gt = b + 2, [b + 2, b]) :: J) := by
  have hi := t.sb.lt
  have hj := t.sg.lt
  refine h.add (l.below (by simp)) ?_ (fun g hg => by simp at hg; omega)
  rintro a ⟨rfl, e⟩
  unfold Part
  simp only [e]
  exact ⟨b, t, by simp [new], rfl⟩
theorem NB.s13 (h : NB (new n) w0 w z cs J) {b : Nat} (hb : w.heap.size = b) (t : Cor.CT w' (b + 1) b (List.replicate n Cor.Co.kn)) (l : Below w.heap.size w w') : NB (new n) w0 w' z cs ((13, fun a => a.n = n ∧ a.co = b + 1, [b + 1, b]) :: J) := by
  have hi := t.sb.lt
  have hj := t.gb.lt
  refine h.add l ?_ (fun g hg => by simp at hg; omega)
  rintro a ⟨rfl, e⟩
  unfold Part
  simp only [e]
  exact ⟨b, _, t, by simp [new, Cor.Co.kn], by simp [new], rfl⟩
theorem NB.s14 (h : NB (new n) w0 w z cs J) {b : Nat} (hb : w.heap.size = b) (t : Met.PM w' (b + 1) b n (fun _ => Met.Mt.za)) (l : Below w.heap.size w w') : NB (new n) w0 w' z cs ((14, fun a => a.n = n ∧ a.mt = b + 1, [b + 1, b]) :: J) := by
  have hi := Met.MT.slt t
  have hj := Met.MT.glt t
  refine h.add l ?_ (fun g hg => by simp at hg; omega)
  rintro a ⟨rfl, e⟩
  unfold Part
  simp only [e]
  exact ⟨b, _, t, fun k hk => ⟨by simp [Met.Mt.za], by simp [Met.Mt.za], by simp [Met.Mt.za], by simp [Met.Mt.za], by simp [Met.Mt.za, Met.Mt.tk, Met.Mt.sm8]⟩, rfl⟩
theorem NB.s12 (h : NB (new n) w0 w z cs J) {b : Nat} (hb : w.heap.size = b) : NB (new n) w0 (w.alloc (.cells #[.int .u64 0, .int .u64 0] 92)) z cs ((12, fun a => a.st = b, [b]) :: J) := by
  subst hb
  have B := Blk.new w [.int .u64 0, .int .u64 0] 92
  refine h.add (((Fr.refl w.heap.size [] w).alloc (Nat.le_refl _) _).below (by simp)) ?_ (fun g hg => by have := B.lt; simp at hg; omega)
  intro a e
  unfold Part
  simp only [e]
  exact ⟨⟨B, by constructor <;> simp [new]⟩, trivial⟩
theorem NB.s6 (h : NB (new n) w0 w z cs J) {b : Nat} (hb : w.heap.size = b) (t : Wrk.GX w' b n (List.replicate (n + 1) [])) (l : Below w.heap.size w w') : NB (new n) w0 w' z cs ((6, fun a => a.n = n ∧ a.wk = b, Wrk.gz b n) :: J) := by
  have hi := Wrk.GX.hi t
  refine h.add l ?_ (fun g hg => by have := (Wrk.mem_gz _ _ _).1 hg; omega)
  rintro a ⟨rfl, rfl⟩
  exact ⟨t, rfl⟩
theorem NB.s7 (h : NB (new n) w0 w z cs J) {b : Nat} (hb : w.heap.size = b) (t : Wrk.CX w' b (List.replicate n [])) (l : Below w.heap.size w w') : NB (new n) w0 w' z cs ((7, fun a => a.n = n ∧ a.cl = b, Wrk.cz b n) :: J) := by
  have hi := Wrk.CX.hi t
  rw [List.length_replicate] at hi
  refine h.add l ?_ (fun g hg => by have := (Wrk.mem_cz _ _ _).1 hg; omega)
  rintro a ⟨rfl, rfl⟩
  exact ⟨t, by simp [new], rfl⟩
theorem NB.s10 (h : NB (new n) w0 w z cs J) {b : Nat} (hb : w.heap.size = b) : NB (new n) w0 (w.alloc (.cells #[.pointer none, .map none] 90)) z cs ((10, fun a => a.dk = b, [b]) :: J) := by
  subst hb
  have B := Blk.new w [.pointer none, .map none] 90
  refine h.add (((Fr.refl w.heap.size [] w).alloc (Nat.le_refl _) _).below (by simp)) ?_ (fun g hg => by have := B.lt; simp at hg; omega)
  intro a e
  unfold Part
  simp only [e]
  exact ⟨_, _, B, rfl, Or.inl ⟨rfl, fun _ => rfl⟩, by simp, fun k hk => by have := B.lt; simp at hk; omega⟩
theorem NB.s8 (h : NB (new n) w0 w z cs J) {b pb lb : Nat} {V : List Value} (t : Sta.SH w' b pb lb n 12 (List.replicate 12 0) V (List.replicate n [])) (hb : w.heap.size ≤ b ∧ w.heap.size ≤ pb ∧ w.heap.size ≤ lb ∧ ∀ g ∈ Sta.bl V, w.heap.size ≤ g) (hv : ∀ g ∈ Sta.bl V, g < w'.heap.size) (hp : Om.Pg 12 (List.replicate 12 0)) (l : Fr w.heap.size [] w w') : NB (new n) w0 w' z cs ((8, fun a => a.n = n ∧ a.ob = b, b :: lb :: pb :: Sta.bl V) :: J) := by
  obtain ⟨b1, b2, b3, b4⟩ := hb
  have i1 := t.st.sb.lt
  have i2 := t.st.sl.lt
  have i3 := t.po.sb.lt
  refine h.add (l.below (by simp)) ?_ (fun g hg => ?_)
  · rintro a ⟨rfl, rfl⟩
    exact ⟨pb, lb, V, t, Hm.kv_new _ _ hp, rfl⟩
  · rcases List.mem_cons.1 hg with rfl | hg
    · omega
    rcases List.mem_cons.1 hg with rfl | hg
    · omega
    rcases List.mem_cons.1 hg with rfl | hg
    · omega
    exact ⟨b4 g hg, hv g hg⟩
end
end Go.Proofs.YtmkboahjkhkefaaGreatDoor.Krn
