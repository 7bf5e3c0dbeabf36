/- Contracts of the program's layers, as far as this claim needs them. -/
import Derived.Test.YtmkboahjkhkefaaGreatDoorQKw
set_option linter.unusedVariables false
set_option linter.unusedSimpArgs false
namespace Go.Proofs.YtmkboahjkhkefaaGreatDoor.Krn
open Go.ChangeShapes Go.WideShapes Go.ChangeAt Go.RowKit
open Mm
theorem _root_.Go.Proofs.YtmkboahjkhkefaaGreatDoor.Fr.wide {B : Nat} {Z Z' : List Nat} {w w' : World} (f : Fr B Z w w') (h : ∀ k ∈ Z, k ∈ Z') : Fr B Z' w w' := f.mono (Nat.le_refl _) fun k _ hk hm => hk (h k hm)
def wf (id : Int) : Prop := (Lit.int .i64 id).wf = true
theorem wf_of {id : Int} (h1 : -9223372036854775808 ≤ id) (h2 : id ≤ 9223372036854775807) : wf id := by
  simp [wf, Lit.wf, IntKind.min, IntKind.max, IntKind.signed, IntKind.bits]
  omega
def Rw (X : List (Nat × List Value × TypeId)) (v : Value) (L : List Int) : Prop :=
  (X = [] ∧ L = [] ∧ v = .slice none 0 0) ∨ ∃ b cap cur, X = [(b, cur, 3)] ∧ v = .slice (some ⟨b, 0, none⟩) L.length cap ∧ ∀ i, i < L.length → cur[i]? = some (.int .i64 (L.getD i 0))
theorem Rw.shape {X : List (Nat × List Value × TypeId)} {v : Value} {L : List Int} (h : Rw X v L) : ∃ p cap, v = .slice p L.length cap := by
  rcases h with ⟨_, rfl, rfl⟩ | ⟨b, cap, cur, _, rfl, _⟩
  · exact ⟨none, 0, rfl⟩
  · exact ⟨_, cap, rfl⟩
section
variable {B : Nat} {w0 : World} {A : List (Nat × List Value × TypeId)} {a : KA} {m m' : Nat} {S S' : KS} {w w' : World}
theorem Rw.cell {X : List (Nat × List Value × TypeId)} {p : Option Addr} {n cap : Nat} {L : List Int} (h : Rw X (.slice p n cap) L) (k : KX B w0 (X ++ A) a m S w) {i : Nat} (hi : i < L.length) : ∃ b, p = some ⟨b, 0, none⟩ ∧ w.cell? ⟨b, i, none⟩ = some (.int .i64 (L.getD i 0)) := by
  rcases h with ⟨_, rfl, _⟩ | ⟨b, c, cur, rfl, e, q⟩
  · simp at hi
  · simp only [Value.slice.injEq] at e
    refine ⟨b, e.1, ?_⟩
    rw [(k.bx (b, cur, 3) (by simp)).cell i]
    exact q i hi
theorem KX.row (h : KX B w0 A a m S w) {v : Value} {L : List Int} (o : w'.ownsRow w.heap.size 3 1 v L.length (L.map (Value.int .i64))) (f : Below w.heap.size w w') : ∃ X, KX B w0 (X ++ A) a m S w' ∧ Rw X v L := by
  rcases o.2 with ⟨rfl, e⟩ | ⟨b, cap, cur, rfl, hb, hh, hn, hc, hz, ht⟩
  · exact ⟨[], h.below f, Or.inl ⟨rfl, List.eq_nil_of_length_eq_zero e, rfl⟩⟩
  · refine ⟨[(b, cur.toList, 3)], h.box (show Blk w' b cur.toList 3 from ?_) f hb, Or.inr ⟨b, cap, cur.toList, rfl, rfl, fun i hi => ?_⟩⟩
    · rw [Blk, hh]
    · have := o.cellAt i (by omega)
      rw [getD_map_int L i hi] at this
      rw [← this]
      simp [World.cell?, hh]
theorem KX.turn0 (h : KX B w0 A a m S w) {F : Nat → List Nat} (K : KW w a S m F) (hB : ∀ i, i < 16 → ∀ g ∈ F i, B ≤ g) (hA : ∀ x ∈ A, ∀ i, i < 16 → x.1 ∉ F i) (i : Nat) (hi : i < 16) (p : Part a S' m' i w' (F i)) {Z : List Nat} (f : Fr w.heap.size Z w w') (hZ : ∀ k ∈ Z, k ∈ F i) (e : Eqx i S S') (hm : m ≤ m') : KX B w0 A a m' S' w' :=
  h.turn K hB hA i hi p (f.wide hZ) (fun _ hg => Or.inl hg) (fun g hg => Nat.lt_of_lt_of_le (K.lt i hi g hg) f.size) e hm
theorem okx_sx {n : Nat} {X : Nat → Tm.Th} (h : OkX n X) (i : Nat) {t : Tm.Th} (ht : t.mask < 18446744073709551616 ∧ 0 ≤ t.cpu ∧ t.cpu < n ∧ 0 ≤ t.timer ∧ t.timer ≤ 48) : OkX n (Tm.sx X i t) := fun j => by
  unfold Tm.sx
  split
  · exact ht
  · exact h j
theorem okx_spawn {n : Nat} {X : Nat → Tm.Th} (h : OkX n X) (h1 : 1 ≤ n) (O : Nat → Bool) (p : Int) {x : Nat} (hx : x < 18446744073709551616) : OkX n (Tm.spX n O X p x) := by
  unfold Tm.spX
  split
  · cases Sl.ff 32 O with
    | none => exact h
    | some i => exact okx_sx h i ⟨hx, Int.le_refl _, by simp [Tm.nw]; omega, Int.le_refl _, by simp [Tm.nw]⟩
  · exact h
theorem okx_place {n : Nat} {X : Nat → Tm.Th} (h : OkX n X) (O : Nat → Bool) (id c : Int) (f : Bool) : OkX n (Tm.plX n O X id c f) := by
  unfold Tm.plX
  split
  · rename_i q
    have := h (id.toNat - 1)
    exact okx_sx h _ ⟨this.1, q.2.1, q.2.2, this.2.2.2⟩
  · exact h
theorem KX.okx (h : KX B w0 A a m S w) : OkX a.n S.X := by
  obtain ⟨F, K, _⟩ := h.ex
  obtain ⟨_, o, _⟩ := K.p 1 (by omega)
  exact o
theorem geT_ok (h : KX B w0 A a m S w) (id : Int) : (geT S id).mask < 18446744073709551616 ∧ 0 ≤ (geT S id).cpu ∧ (geT S id).cpu < a.n ∧ 0 ≤ (geT S id).timer ∧ (geT S id).timer ≤ 48 := by
  unfold geT Tm.gtX
  have := h.n1
  split
  · exact h.okx _
  · exact ⟨by simp [Tm.zt], by simp [Tm.zt], by simp [Tm.zt]; omega, by simp [Tm.zt], by simp [Tm.zt]⟩
theorem th_spawn (h : KX B w0 A a m S w) (p : Int) (x : Nat) (hx : x < 18446744073709551616) :
    Calls Tryz.prog 148 #[.pointer (some ⟨a.th + 2, 0, none⟩), .int .i64 (p), .int .u64 (x : Int)] w fun e w' => e = .returned (.tuple #[.int .i64 (Tm.spN a.n S.O p x), .int .i64 (Tm.spE a.n S.O p x)]) ∧ KX B w0 A a (m) (spS a.n S p x) w' := by
  obtain ⟨F, K, hB, hA⟩ := h.ex
  obtain ⟨t, o, e0⟩ := K.p 1 (by omega)
  refine (Thr.thspawn_any p x w hx t h.tab).mono ?_
  rintro e w' ⟨rfl, t2, f⟩
  refine ⟨rfl, h.turn0 K hB hA 1 (by omega) ?_ f ?_ (by simp [Eqx, spS]) (by omega)⟩
  · exact ⟨t2, okx_spawn o h.n1 _ _ hx, e0⟩
  · intro k hk; rw [e0]; simpa using hk
theorem th_get (h : KX B w0 A a m S w) (id : Int) :
    Calls Tryz.prog 76 #[.pointer (some ⟨a.th + 2, 0, none⟩), .int .i64 (id)] w fun e w' => e = .returned (.tuple #[.agg #[.int .i64 (geT S id).prio, .int .u64 ((geT S id).mask : Int), .int .i64 (geT S id).cpu, .bool (geT S id).forced, .bool (geT S id).sleeps, .int .i64 (geT S id).timer], .int .i64 (geE S id)]) ∧ KX B w0 A a m S w' := by
  obtain ⟨F, K, hB, hA⟩ := h.ex
  obtain ⟨t, o, e0⟩ := K.p 1 (by omega)
  refine (Thr.thget_any id w t).mono ?_
  rintro e w' ⟨rfl, q⟩
  exact ⟨rfl, h.below q⟩
theorem th_place (h : KX B w0 A a m S w) (id c : Int) (f : Bool) :
    Calls Tryz.prog 228 #[.pointer (some ⟨a.th + 2, 0, none⟩), .int .i64 (id), .int .i64 (c), .bool f] w fun e w' => e = .returned (.int .i64 (Tm.plE a.n S.O id c)) ∧ KX B w0 A a (m) ({ S with X := Tm.plX a.n S.O S.X id c f }) w' := by
  obtain ⟨F, K, hB, hA⟩ := h.ex
  obtain ⟨t, o, e0⟩ := K.p 1 (by omega)
  refine (Thr.thplace_any id c f w t).mono ?_
  rintro e w' ⟨rfl, t2, f⟩
  refine ⟨rfl, h.turn0 K hB hA 1 (by omega) ?_ f ?_ (by simp [Eqx]) (by omega)⟩
  · exact ⟨t2, okx_place o _ _ _ _, e0⟩
  · intro k hk; rw [e0]; simpa using hk
theorem rq_put (h : KX B w0 A a m S w) (c p id : Int) (hw : wf id) (hm : m ≤ 1000000) :
    Calls Tryz.prog 229 #[.pointer (some ⟨a.rq + 2, 0, none⟩), .int .i64 (c), .int .i64 (p), .int .i64 (id)] w fun e w' => e = .returned (.int .i64 (Rqu.puE a.n S.q c p id)) ∧ KX B w0 A a (m + 1) ({ S with q := Rqu.puK a.n S.q c p id }) w' := by
  obtain ⟨F, K, hB, hA⟩ := h.ex
  obtain ⟨t, e0⟩ := K.p 2 (by omega)
  refine (Rqu.put_any c p id hw hm t).mono ?_
  rintro e w' ⟨rfl, t2, f⟩
  refine ⟨rfl, h.turn0 K hB hA 2 (by omega) ?_ f ?_ (by simp [Eqx]) (by omega)⟩
  · exact ⟨t2, e0⟩
  · intro k hk; rw [e0]; simpa using hk
theorem rq_pick (h : KX B w0 A a m S w) (c : Int) :
    Calls Tryz.prog 147 #[.pointer (some ⟨a.rq + 2, 0, none⟩), .int .i64 (c)] w fun e w' => e = .returned (.tuple #[.int .i64 (Rqu.pkN a.n S.q c), .int .i64 (Rqu.pkE a.n S.q c)]) ∧ KX B w0 A a (m) ({ S with q := Rqu.pkK a.n S.q c }) w' := by
  obtain ⟨F, K, hB, hA⟩ := h.ex
  obtain ⟨t, e0⟩ := K.p 2 (by omega)
  refine (Rqu.pick_any c t).mono ?_
  rintro e w' ⟨rfl, t2, f⟩
  refine ⟨rfl, h.turn0 K hB hA 2 (by omega) ?_ f ?_ (by simp [Eqx]) (by omega)⟩
  · exact ⟨t2, e0⟩
  · intro k hk; rw [e0]; simpa using hk
theorem rq_load (h : KX B w0 A a m S w) (c : Int) :
    Calls Tryz.prog 65 #[.pointer (some ⟨a.rq + 2, 0, none⟩), .int .i64 (c)] w fun e w' => e = .returned (.int .i64 (Rqu.loN a.n S.q c)) ∧ KX B w0 A a m S w' := by
  obtain ⟨F, K, hB, hA⟩ := h.ex
  obtain ⟨t, e0⟩ := K.p 2 (by omega)
  refine (Rqu.load_any c t).mono ?_
  rintro e w' ⟨rfl, rfl⟩
  exact ⟨rfl, h⟩
theorem tm_ready (h : KX B w0 A a m S w) (c : Int) :
    Calls Tryz.prog 127 #[.pointer (some ⟨a.tm, 0, none⟩), .int .i64 (c)] w fun e w' => e = .returned (.bool (Tim.txR a.n S.now S.t c)) ∧ KX B w0 A a m S w' := by
  obtain ⟨F, K, hB, hA⟩ := h.ex
  have t := K.p 3 (by omega)
  simp only [Part] at t
  refine (Tim.tready_any c t).mono ?_
  rintro e w' ⟨rfl, rfl⟩
  exact ⟨rfl, h⟩
theorem iq_ready (h : KX B w0 A a m S w) (k : Int) :
    Calls Tryz.prog 190 #[.pointer (some ⟨a.iq, 0, none⟩), .int .i64 (k)] w fun e w' => e = .returned (.bool (Bm.rdB S.i k)) ∧ KX B w0 A a m S w' := by
  obtain ⟨F, K, hB, hA⟩ := h.ex
  obtain ⟨t, o, e0⟩ := K.p 4 (by omega)
  refine (Irq.iqready_any k w t).mono ?_
  rintro e w' ⟨rfl, q⟩
  exact ⟨rfl, h.below q⟩
theorem rt_on (h : KX B w0 A a m S w) (c : Int) :
    Calls Tryz.prog 70 #[.pointer (some ⟨a.rt, 0, none⟩), .int .i64 (c)] w fun e w' => ∃ v X, e = .returned v ∧ KX B w0 (X ++ A) a m S w' ∧ Rw X v (onL S c) := by
  obtain ⟨F, K, hB, hA⟩ := h.ex
  obtain ⟨t, e0⟩ := K.p 5 (by omega)
  refine (Rou.rton_any c w t).mono ?_
  rintro e w' ⟨v, rfl, q⟩
  obtain ⟨X, k, r⟩ := h.row q.own q.bel
  exact ⟨v, X, rfl, k, r⟩
theorem wk_load (h : KX B w0 A a m S w) (c : Int) :
    Calls Tryz.prog 67 #[.pointer (some ⟨a.wk + 6, 0, none⟩), .int .i64 (c)] w fun e w' => e = .returned (.int .i64 (((Cm.wlL a.n S.wk c).length : Int))) ∧ KX B w0 A a m S w' := by
  obtain ⟨F, K, hB, hA⟩ := h.ex
  obtain ⟨t, e0⟩ := K.p 6 (by omega)
  refine (Wrk.gload_any c t).mono ?_
  rintro e w' ⟨rfl, rfl⟩
  exact ⟨rfl, h⟩
theorem cl_load (h : KX B w0 A a m S w) (c : Int) :
    Calls Tryz.prog 68 #[.pointer (some ⟨a.cl + 3, 0, none⟩), .int .i64 (c)] w fun e w' => e = .returned (.int .i64 (((Cm.clL S.cl c).length : Int))) ∧ KX B w0 A a m S w' := by
  obtain ⟨F, K, hB, hA⟩ := h.ex
  obtain ⟨t, l0, e0⟩ := K.p 7 (by omega)
  refine (Wrk.cload_any c t).mono ?_
  rintro e w' ⟨rfl, rfl⟩
  exact ⟨rfl, h⟩
theorem adL_len (L : List Int) (c x : Int) : (Pm.adL L c x).length = L.length := by unfold Pm.adL; split <;> simp
theorem ct_add (h : KX B w0 A a m S w) (c : Int) :
    Calls Tryz.prog 142 #[.pointer (some ⟨a.ct, 0, none⟩), .int .i64 (c), .int .i64 (1)] w fun e w' => e = .returned (.int .i64 (Pm.adE S.ct c 1)) ∧ KX B w0 A a (m) (adS S c) w' := by
  obtain ⟨F, K, hB, hA⟩ := h.ex
  obtain ⟨g, t, l0, e0⟩ := K.p 9 (by omega)
  refine (Spl.add_any c 1 w t ⟨by decide, by decide⟩).mono ?_
  rintro e w' ⟨rfl, t2, f⟩
  refine ⟨rfl, h.turn0 K hB hA 9 (by omega) ?_ f ?_ (by simp [Eqx, adS]) (by omega)⟩
  · exact ⟨g, t2, (adL_len _ _ _).trans l0, e0⟩
  · intro k hk; rw [e0]; simp only [List.mem_cons, List.not_mem_nil, or_false] at hk ⊢; simp [hk]
theorem dk_busy (h : KX B w0 A a m S w) :
    Calls Tryz.prog 23 #[.pointer (some ⟨a.dk, 0, none⟩)] w fun e w' => e = .returned (.bool S.R.isSome) ∧ KX B w0 A a m S w' := by
  obtain ⟨F, K, hB, hA⟩ := h.ex
  have t := K.p 10 (by omega)
  simp only [Part] at t
  refine (Hot.hbusy_any w t).mono ?_
  rintro e w' ⟨rfl, q⟩
  exact ⟨rfl, h.below q⟩
theorem dk_by (h : KX B w0 A a m S w) :
    Calls Tryz.prog 126 #[.pointer (some ⟨a.dk, 0, none⟩)] w fun e w' => e = .returned (.int .i64 (Hp.cos S.R)) ∧ KX B w0 A a m S w' := by
  obtain ⟨F, K, hB, hA⟩ := h.ex
  have t := K.p 10 (by omega)
  simp only [Part] at t
  refine (Hot.hby_any w t).mono ?_
  rintro e w' ⟨rfl, q⟩
  exact ⟨rfl, h.below q⟩
theorem st_must (h : KX B w0 A a m S w) (c : Int) :
    Calls Tryz.prog 124 #[.pointer (some ⟨a.st, 0, none⟩), .int .i64 (c)] w fun e w' => e = .returned (.bool (tb S.sl c)) ∧ KX B w0 A a m S w' := by
  obtain ⟨F, K, hB, hA⟩ := h.ex
  obtain ⟨t, e0⟩ := K.p 12 (by omega)
  refine (Stp.tmust_any c w t).mono ?_
  rintro e w' ⟨rfl, q⟩
  exact ⟨rfl, h.sm q⟩
theorem st_held (h : KX B w0 A a m S w) (c : Int) :
    Calls Tryz.prog 125 #[.pointer (some ⟨a.st, 0, none⟩), .int .i64 (c)] w fun e w' => e = .returned (.bool (tb S.sh c)) ∧ KX B w0 A a m S w' := by
  obtain ⟨F, K, hB, hA⟩ := h.ex
  obtain ⟨t, e0⟩ := K.p 12 (by omega)
  refine (Stp.theld_any c w t).mono ?_
  rintro e w' ⟨rfl, q⟩
  exact ⟨rfl, h.sm q⟩
end
end Go.Proofs.YtmkboahjkhkefaaGreatDoor.Krn
