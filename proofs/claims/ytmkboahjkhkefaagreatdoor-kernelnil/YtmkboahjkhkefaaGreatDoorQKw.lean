/- Contracts of the program's layers, as far as this claim needs them. -/
import Derived.Test.YtmkboahjkhkefaaGreatDoorQKp
import Derived.Test.YtmkboahjkhkefaaGreatDoorQXm
import Derived.Test.YtmkboahjkhkefaaGreatDoorQXv
import Derived.Test.YtmkboahjkhkefaaGreatDoorRows
import Derived.Test.YtmkboahjkhkefaaGreatDoorQXa
import Derived.WalkKit
import Derived.ProofKit
import Derived.OpenShut
import Derived.BigQuiet
import Derived.Deep.RegionHeld3
set_option linter.unusedVariables false
set_option linter.unusedSimpArgs false
namespace Go.Proofs.YtmkboahjkhkefaaGreatDoor.Krn
open Go.ChangeShapes Go.WideShapes Go.ChangeAt Go.RowKit
open Mm
structure KA where
  n : Nat
  k : Nat
  th : Nat
  rq : Nat
  tm : Nat
  iq : Nat
  rt : Nat
  wk : Nat
  cl : Nat
  ob : Nat
  ct : Nat
  dk : Nat
  gt : Nat
  st : Nat
  co : Nat
  mt : Nat
  gv : Nat
  gc : Nat
  gs : Nat → Nat
def kc (a : KA) (S : KS) (lim : Int) : List Value :=
  [.int .u64 (S.on : Int), .int .u64 (S.ac : Int), .int .i64 lim, .pointer (some ⟨a.th + 2, 0, none⟩), .pointer (some ⟨a.rq + 2, 0, none⟩), .pointer (some ⟨a.tm, 0, none⟩), .pointer (some ⟨a.iq, 0, none⟩), .pointer (some ⟨a.rt, 0, none⟩), .pointer (some ⟨a.wk + 6, 0, none⟩), .pointer (some ⟨a.cl + 3, 0, none⟩), .pointer (some ⟨a.ob, 0, none⟩), .pointer (some ⟨a.ct, 0, none⟩), .pointer (some ⟨a.dk, 0, none⟩), .pointer (some ⟨a.gt, 0, none⟩), .pointer (some ⟨a.st, 0, none⟩), .pointer (some ⟨a.co, 0, none⟩), .pointer (some ⟨a.mt, 0, none⟩), .slice (some ⟨a.gv, 0, none⟩) a.n a.gc]
def OkX (n : Nat) (X : Nat → Tm.Th) : Prop := ∀ i, (X i).mask < 18446744073709551616 ∧ 0 ≤ (X i).cpu ∧ (X i).cpu < n ∧ 0 ≤ (X i).timer ∧ (X i).timer ≤ 48
def OkI (X : Nat → Bm.Iq) : Prop := ∀ i, (X i).bs < 18446744073709551616
def Part (a : KA) (S : KS) (m : Nat) (i : Nat) (w : World) (F : List Nat) : Prop := match i with
  | 0 => (∃ lim, Blk w a.k (kc a S lim) 86) ∧ (S.on < 18446744073709551616 ∧ S.ac < 18446744073709551616) ∧ F = [a.k]
  | 1 => Thr.TT w a.th a.n S.O S.X ∧ OkX a.n S.X ∧ F = [a.th, a.th + 1, a.th + 2]
  | 2 => Rqu.RR w a.rq a.n m S.q ∧ F = Rqu.rz a.rq a.n
  | 3 => Tim.TX w a.tm a.n S.now S.t F
  | 4 => Irq.IT w a.iq a.n S.i ∧ OkI S.i ∧ F = [a.iq]
  | 5 => Rou.RT w a.rt a.n S.r ∧ F = [a.rt]
  | 6 => Wrk.GX w a.wk a.n S.wk ∧ F = Wrk.gz a.wk a.n
  | 7 => Wrk.CX w a.cl S.cl ∧ S.cl.length = a.n ∧ F = Wrk.cz a.cl a.n
  | 8 => ∃ pb lb V, Sta.SH w a.ob pb lb a.n 12 S.oa V S.ok ∧ Hm.Kv 12 S.oa S.ok ∧ F = a.ob :: lb :: pb :: Sta.bl V
  | 9 => ∃ g, Spl.SL w a.ct g S.ct ∧ S.ct.length = a.n ∧ F = [a.ct, g]
  | 10 => Hot.PD w a.dk F S.R S.P m
  | 11 => ∃ g, Gat.GT w a.gt g S.gs S.gl ∧ S.gl.length = a.n ∧ F = [a.gt, g]
  | 12 => Stp.ST w a.st S.sl S.sh ∧ F = [a.st]
  | 13 => ∃ g Y, Cor.CT w a.co g Y ∧ Y.map (fun x => (x.p, x.i)) = S.z ∧ S.z.length = a.n ∧ F = [a.co, g]
  | 14 => ∃ g M, Met.PM w a.mt g a.n M ∧ Met.Mt.OkF a.n M ((m : Int) * 2147483648) ∧ F = [a.mt, g]
  | 15 => ∃ (V : List Value), Blk w a.gv ((List.range a.n).map (fun c => .pointer (some ⟨a.gs c, 0, none⟩)) ++ V) 55 ∧ (∀ c, c < a.n → ∃ lo hi q p, Frq.PG w (a.gs c) lo hi q p ∧ Frq.Lim lo hi) ∧ F = a.gv :: (List.range a.n).map a.gs
  | _ => F = []
theorem Part.keep {a : KA} {S : KS} {m i : Nat} {w w' : World} {F Z : List Nat} (h : Part a S m i w F) (f : Fr w.heap.size Z w w') (hz : ∀ g ∈ F, g ∉ Z) (lt : ∀ g ∈ F, g < w.heap.size) : Part a S m i w' F := by
  match i, h with
  | 0, ⟨⟨l, b⟩, c, e⟩ => subst e; exact ⟨⟨l, b.keep f b.lt (hz _ (by simp))⟩, c, rfl⟩
  | 1, ⟨t, o, e⟩ =>
    subst e
    exact ⟨t.keep f t.hi (fun k h1 h2 => hz k (by simp; omega)), o, rfl⟩
  | 2, ⟨t, e⟩ =>
    subst e
    exact ⟨⟨t.rb.keep f t.rb.hi (fun k h1 h2 _ => hz k ((Rqu.mem_rz _ _ _).2 ⟨h1, h2⟩)), t.mp.keep f t.mp.lt (hz _ ((Rqu.mem_rz _ _ _).2 (by omega))), t.al⟩, rfl⟩
  | 3, t => exact Tim.TX.keep t f (Nat.le_refl _) hz
  | 4, ⟨t, o, e⟩ => subst e; exact ⟨t.keep f t.lt (hz _ (by simp)), o, rfl⟩
  | 5, ⟨t, e⟩ => subst e; exact ⟨t.keep f t.lt (hz _ (by simp)), rfl⟩
  | 6, ⟨t, e⟩ => subst e; exact ⟨t.keep f (Nat.le_refl _) (fun k h1 h2 => hz k (by unfold Wrk.gz; rw [List.mem_range'_1]; omega)), rfl⟩
  | 7, ⟨t, l, e⟩ => subst e; exact ⟨t.keep f (Nat.le_refl _) (fun k h1 h2 => hz k (by unfold Wrk.cz; rw [List.mem_range'_1]; rw [l] at h2; omega)), l, rfl⟩
  | 8, ⟨pb, lb, V, t, k, e⟩ => subst e; exact ⟨pb, lb, V, t.keep f (Nat.le_refl _) (hz _ (by simp)) (hz _ (by simp)) (hz _ (by simp)) (fun g hg => hz g (by simp [hg])), k, rfl⟩
  | 9, ⟨g, t, l, e⟩ => subst e; exact ⟨g, t.keep f ⟨t.sb.lt, t.sg.lt⟩ ⟨hz _ (by simp), hz _ (by simp)⟩, l, rfl⟩
  | 10, t => exact Hot.PD.keep t f (fun k hk => ⟨lt k hk, hz k hk⟩)
  | 11, ⟨g, t, l, e⟩ => subst e; exact ⟨g, t.keep f ⟨t.sb.lt, t.sg.lt⟩ ⟨hz _ (by simp), hz _ (by simp)⟩, l, rfl⟩
  | 12, ⟨t, e⟩ => subst e; exact ⟨t.keep f t.sb.lt (hz _ (by simp)), rfl⟩
  | 13, ⟨g, Y, t, y, l, e⟩ => subst e; exact ⟨g, Y, t.keep f t.sb.lt t.gb.lt (hz _ (by simp)) (hz _ (by simp)), y, l, rfl⟩
  | 14, ⟨g, M, t, o, e⟩ => subst e; exact ⟨g, M, Met.MT.keep t f (Met.MT.slt t) (Met.MT.glt t) (hz _ (by simp)) (hz _ (by simp)), o, rfl⟩
  | 15, ⟨V, b, t, e⟩ =>
    subst e
    refine ⟨V, b.keep f b.lt (hz _ (by simp)), fun c hc => ?_, rfl⟩
    obtain ⟨lo, hi, q, p, g, li⟩ := t c hc
    exact ⟨lo, hi, q, p, g.keep f g.sb.lt (hz _ (by simp; exact Or.inr ⟨c, hc, rfl⟩)), li⟩
  | _ + 16, h => exact h
def Eqx (i : Nat) (S S' : KS) : Prop :=
  (i = 0 ∨ (S'.on = S.on ∧ S'.ac = S.ac)) ∧ (i = 1 ∨ (S'.O = S.O ∧ S'.X = S.X)) ∧ (i = 2 ∨ S'.q = S.q) ∧ (i = 3 ∨ (S'.now = S.now ∧ S'.t = S.t)) ∧ (i = 4 ∨ S'.i = S.i) ∧ (i = 5 ∨ S'.r = S.r) ∧ (i = 6 ∨ S'.wk = S.wk) ∧ (i = 7 ∨ S'.cl = S.cl) ∧ (i = 8 ∨ (S'.oa = S.oa ∧ S'.ok = S.ok)) ∧ (i = 9 ∨ S'.ct = S.ct) ∧ (i = 10 ∨ (S'.R = S.R ∧ S'.P = S.P)) ∧ (i = 11 ∨ (S'.gs = S.gs ∧ S'.gl = S.gl)) ∧ (i = 12 ∨ (S'.sl = S.sl ∧ S'.sh = S.sh)) ∧ (i = 13 ∨ S'.z = S.z)
theorem Eqx.refl (i : Nat) (S : KS) : Eqx i S S := by simp [Eqx]
theorem Part.other {a : KA} {S S' : KS} {m m' i j : Nat} {w : World} {F : List Nat} (e : Eqx i S S') (hm : m ≤ m') (hn : j ≠ i) (h : Part a S m j w F) : Part a S' m' j w F := by
  obtain ⟨e0, e1, e2, e3, e4, e5, e6, e7, e8, e9, e10, e11, e12, e13⟩ := e
  match j, h with
  | 0, h => obtain ⟨x, y⟩ := e0.resolve_left (fun q => hn q.symm); simp only [Part] at h ⊢; unfold kc at h ⊢; rw [x, y]; exact h
  | 1, h => obtain ⟨x, y⟩ := e1.resolve_left (fun q => hn q.symm); simp only [Part] at h ⊢; rw [x, y]; exact h
  | 2, h =>
    have x := e2.resolve_left (fun q => hn q.symm)
    simp only [Part] at h ⊢
    rw [x]
    exact ⟨⟨h.1.rb, by obtain ⟨D, o, k⟩ := h.1.mp; exact ⟨D, o.mono hm, k⟩, h.1.al⟩, h.2⟩
  | 3, h => obtain ⟨x, y⟩ := e3.resolve_left (fun q => hn q.symm); simp only [Part] at h ⊢; rw [x, y]; exact h
  | 4, h => have x := e4.resolve_left (fun q => hn q.symm); simp only [Part] at h ⊢; rw [x]; exact h
  | 5, h => have x := e5.resolve_left (fun q => hn q.symm); simp only [Part] at h ⊢; rw [x]; exact h
  | 6, h => have x := e6.resolve_left (fun q => hn q.symm); simp only [Part] at h ⊢; rw [x]; exact h
  | 7, h => have x := e7.resolve_left (fun q => hn q.symm); simp only [Part] at h ⊢; rw [x]; exact h
  | 8, h => obtain ⟨x, y⟩ := e8.resolve_left (fun q => hn q.symm); simp only [Part] at h ⊢; rw [x, y]; exact h
  | 9, h => have x := e9.resolve_left (fun q => hn q.symm); simp only [Part] at h ⊢; rw [x]; exact h
  | 10, h => obtain ⟨x, y⟩ := e10.resolve_left (fun q => hn q.symm); simp only [Part] at h ⊢; rw [x, y]; exact h.up hm
  | 11, h => obtain ⟨x, y⟩ := e11.resolve_left (fun q => hn q.symm); simp only [Part] at h ⊢; rw [x, y]; exact h
  | 12, h => obtain ⟨x, y⟩ := e12.resolve_left (fun q => hn q.symm); simp only [Part] at h ⊢; rw [x, y]; exact h
  | 13, h => have x := e13.resolve_left (fun q => hn q.symm); simp only [Part] at h ⊢; rw [x]; exact h
  | 14, h =>
    obtain ⟨g, M, t, o, e⟩ := h
    exact ⟨g, M, t, fun k hk => ⟨(o k hk).e0, (o k hk).e1, (o k hk).w0, (o k hk).r0, Int.le_trans (o k hk).tb (by omega)⟩, e⟩
  | 15, h => exact h
  | _ + 16, h => exact h
structure KW (w : World) (a : KA) (S : KS) (m : Nat) (F : Nat → List Nat) : Prop where
  p : ∀ i, i < 16 → Part a S m i w (F i)
  dis : ∀ i j, i < 16 → j < 16 → i ≠ j → ∀ g ∈ F i, g ∉ F j
  lt : ∀ i, i < 16 → ∀ g ∈ F i, g < w.heap.size
structure KX (B : Nat) (w0 : World) (A : List (Nat × List Value × TypeId)) (a : KA) (m : Nat) (S : KS) (w : World) : Prop where
  ex : ∃ F, KW w a S m F ∧ (∀ i, i < 16 → ∀ g ∈ F i, B ≤ g) ∧ ∀ x ∈ A, ∀ i, i < 16 → x.1 ∉ F i
  bx : ∀ x ∈ A, Blk w x.1 x.2.1 x.2.2
  bel : Below B w0 w
  sz : B ≤ w.heap.size
  b1 : 1 ≤ B
  tab : Tab w
  n1 : 1 ≤ a.n
  n2 : a.n ≤ 64
section
variable {B : Nat} {w0 : World} {A : List (Nat × List Value × TypeId)} {a : KA} {m m' : Nat} {S S' : KS} {w w' : World}
theorem tab_keep {Z : List Nat} (h : Tab w) (hs : 1 ≤ w.heap.size) (f : Fr w.heap.size Z w w') (hz : 0 ∉ Z) : Tab w' := fun i hi => by
  rw [f.cell (p := ⟨0, i, none⟩) hs hz]
  exact h i hi
def upF (F : Nat → List Nat) (i : Nat) (G : List Nat) : Nat → List Nat := fun j => if j = i then G else F j
theorem upF_same {F : Nat → List Nat} {i : Nat} {G : List Nat} : upF F i G i = G := if_pos rfl
theorem upF_other {F : Nat → List Nat} {i j : Nat} {G : List Nat} (h : ¬ j = i) : upF F i G j = F j := if_neg h
theorem KX.turn (h : KX B w0 A a m S w) {F : Nat → List Nat} (K : KW w a S m F) (hB : ∀ i, i < 16 → ∀ g ∈ F i, B ≤ g) (hA : ∀ x ∈ A, ∀ i, i < 16 → x.1 ∉ F i) (i : Nat) (hi : i < 16) {G : List Nat} (p : Part a S' m' i w' G) (f : Fr w.heap.size (F i) w w') (sub : ∀ g ∈ G, g ∈ F i ∨ w.heap.size ≤ g) (lt : ∀ g ∈ G, g < w'.heap.size) (e : Eqx i S S') (hm : m ≤ m') : KX B w0 A a m' S' w' := by
  have hs := h.sz
  have h1 := h.b1
  refine ⟨⟨upF F i G, ⟨fun j hj => ?_, fun j k hj hk hn g hg => ?_, fun j hj g hg => ?_⟩, fun j hj g hg => ?_, fun x hx j hj => ?_⟩, fun x hx => ?_, ?_, Nat.le_trans hs f.size, h1, ?_, h.n1, h.n2⟩
  · by_cases q : j = i
    · subst q; rw [upF_same]; exact p
    · rw [upF_other q]; exact Part.other e hm q ((K.p j hj).keep f (K.dis j i hj hi q) (K.lt j hj))
  · by_cases q : j = i
    · subst q
      rw [upF_same] at hg
      have q2 : ¬ k = j := fun e => hn e.symm
      rw [upF_other q2]
      rcases sub g hg with s | s
      · exact K.dis j k hj hk hn g s
      · exact fun e => by have := K.lt k hk g e; omega
    · rw [upF_other q] at hg
      by_cases q2 : k = i
      · subst q2
        rw [upF_same]
        intro e2
        rcases sub g e2 with s | s
        · exact K.dis j k hj hk hn g hg s
        · have := K.lt j hj g hg; omega
      · rw [upF_other q2]
        exact K.dis j k hj hk hn g hg
  · by_cases q : j = i
    · subst q; rw [upF_same] at hg; exact lt g hg
    · rw [upF_other q] at hg; exact Nat.lt_of_lt_of_le (K.lt j hj g hg) f.size
  · by_cases q : j = i
    · subst q
      rw [upF_same] at hg
      rcases sub g hg with s | s
      · exact hB j hj g s
      · omega
    · rw [upF_other q] at hg; exact hB j hj g hg
  · by_cases q : j = i
    · subst q
      rw [upF_same]
      intro e2
      rcases sub _ e2 with s | s
      · exact hA x hx j hj s
      · have := (h.bx x hx).lt; omega
    · rw [upF_other q]; exact hA x hx j hj
  · exact (h.bx x hx).keep f (h.bx x hx).lt (hA x hx i hi)
  · exact h.bel.trans ((f.less hs).below fun k hk => hB i hi k hk)
  · exact tab_keep h.tab (by omega) f (fun e => by have := hB i hi 0 e; omega)
theorem KX.below (h : KX B w0 A a m S w) (f : Below w.heap.size w w') : KX B w0 A a m S w' := by
  obtain ⟨F, K, hB, hA⟩ := h.ex
  have g := Fr.of_below f
  have hs := h.sz
  have h1 := h.b1
  exact ⟨⟨F, ⟨fun i hi => (K.p i hi).keep g (by simp) (K.lt i hi), K.dis, fun i hi k hk => Nat.lt_of_lt_of_le (K.lt i hi k hk) f.size⟩, hB, hA⟩, fun x hx => (h.bx x hx).keep g (h.bx x hx).lt (by simp), h.bel.trans ((g.less hs).below (by simp)), Nat.le_trans hs f.size, h1, tab_keep h.tab (by omega) g (by simp), h.n1, h.n2⟩
theorem KX.sm (h : KX B w0 A a m S w) (e : Sm w' w) : KX B w0 A a m S w' := h.below (e.below (Below.refl _ _))
theorem KX.drew (h : KX B w0 A a m S w) : KX B w0 A a m S w.drew := h.below ⟨rfl, rfl, rfl, Nat.le_refl _, fun _ _ => rfl⟩
theorem KX.more (h : KX B w0 A a m S w) (hm : m ≤ m') : KX B w0 A a m' S w := by
  obtain ⟨F, K, hB, hA⟩ := h.ex
  refine ⟨⟨F, ⟨fun i hi => ?_, K.dis, K.lt⟩, hB, hA⟩, h.bx, h.bel, h.sz, h.b1, h.tab, h.n1, h.n2⟩
  exact Part.other (i := 99) (Eqx.refl _ _) hm (by omega) (K.p i hi)
theorem KX.box (h : KX B w0 A a m S w) {b : Nat} {cs : List Value} {t : TypeId} (k : Blk w' b cs t) (f : Below w.heap.size w w') (hb : w.heap.size ≤ b) : KX B w0 ((b, cs, t) :: A) a m S w' := by
  obtain ⟨F, K, hB, hA⟩ := h.ex
  obtain ⟨_, bx, bel, sz, b1, tab, n1, n2⟩ := h.below f
  have g := Fr.of_below f
  refine ⟨⟨F, ⟨fun i hi => (K.p i hi).keep g (by simp) (K.lt i hi), K.dis, fun i hi k hk => Nat.lt_of_lt_of_le (K.lt i hi k hk) f.size⟩, hB, fun x hx i hi => ?_⟩, fun x hx => ?_, bel, sz, b1, tab, n1, n2⟩
  · rcases List.mem_cons.1 hx with rfl | hx
    · exact fun e => by have := K.lt i hi _ e; simp only at this; omega
    · exact hA x hx i hi
  · rcases List.mem_cons.1 hx with rfl | hx
    · exact k
    · exact bx x hx
theorem KX.sub {A2 : List (Nat × List Value × TypeId)} (h : KX B w0 A a m S w) (k : ∀ x ∈ A2, x ∈ A) : KX B w0 A2 a m S w := by
  obtain ⟨F, K, hB, hA⟩ := h.ex
  exact ⟨⟨F, K, hB, fun x hx => hA x (k x hx)⟩, fun x hx => h.bx x (k x hx), h.bel, h.sz, h.b1, h.tab, h.n1, h.n2⟩
theorem KX.drop {x : Nat × List Value × TypeId} (h : KX B w0 (x :: A) a m S w) : KX B w0 A a m S w := h.sub fun _ hx => List.mem_cons_of_mem _ hx
theorem KX.blk {x : Nat × List Value × TypeId} (h : KX B w0 (x :: A) a m S w) : Blk w x.1 x.2.1 x.2.2 := h.bx x (by simp)
theorem KX.kb (h : KX B w0 A a m S w) : (∃ lim, Blk w a.k (kc a S lim) 86) ∧ S.on < 18446744073709551616 ∧ S.ac < 18446744073709551616 := by
  obtain ⟨F, K, _⟩ := h.ex
  obtain ⟨b, c, _⟩ := K.p 0 (by omega)
  exact ⟨b, c⟩
end
end Go.Proofs.YtmkboahjkhkefaaGreatDoor.Krn
