/- What work's Queue, Take, Unbind and Drop answer and leave, for all lists. -/
import Derived.Test.YtofdhljgchefgaaDoorRows
import Derived.Test.YtofdhljgchefgaaDoorGa
import Derived.WalkKit
import Derived.ProofKit
import Derived.OpenShut
import Derived.BigQuiet
namespace Go.Proofs.YtofdhljgchefgaaDoor
open Go.ChangeShapes Go.WideShapes Go.ChangeAt Go.RowKit
open Fm Sl Cm

theorem put3 {w : World} {b m : Nat} {f : Int → Option Int} (h : MQ 3 w b m f) (hm : m ≤ 100000) {id c : Int} (hi : (Lit.int .i64 id).wf = true) (hc : (Lit.int .i64 c).wf = true) :
    ∃ w', (Instr.mapUpdate 64 (.map (some b)) (.int .i64 id) (.int .i64 c)).run Tryd.prog w = .ok () w' ∧ MQ 3 w' b (if (f id).isSome = true then m else m + 1) (fun j => if j = id then some c else f j) ∧ Fr w.heap.size [b] w w' :=
  mq_put (tm := 64) Tryd.underlying3 Tryd.underlying64 h hm hi hc

/-- Behind a number that is given out, laid into the map, and queued. -/
theorem queue_end {w1 w2 w3 : World} {s n : Nat} {K : Ks} {W' : List Nat} {O : Nat → Bool} {k i : Nat} {c : Int} (a : Al K) (o : ∀ i, 1 ≤ i → i ≤ 32 → O i = oc K i) (hk : pc n c = some k) (hx : nx K = some i)
    (b2 : GB w2 s n K W' (st O (i + 1) true) (cnt (oc K) + 1) (fun j => if j = ((i + 1 : Nat) : Int) then some c else wq n K j)) (q : QB w3 (ga s n k) (ks K k ++ [((i + 1 : Nat) : Int)])) (f3 : Fr w2.heap.size [ga s n k + 1, ga s n k] w2 w3) (f1 : Fr w1.heap.size (gz s n) w1 w2) :
    GX w3 s n (K.set k (ks K k ++ [((i + 1 : Nat) : Int)])) ∧ Fr w1.heap.size (gz s n) w1 w3 := by
  obtain ⟨h1, h2⟩ := nx_some hx
  have kl := pc_lt hk
  obtain ⟨a2, e2⟩ := al_push a (c := k) (by have := b2.kn; omega) h2 (by omega) (by omega)
  obtain ⟨b3, g3⟩ := b2.put kl q f3
  have t1 : (((i + 1 : Nat) : Int)).toNat = i + 1 := by omega
  have e3 : cnt (oc (K.set k (ks K k ++ [((i + 1 : Nat) : Int)]))) = cnt (oc K) + 1 := by
    refine cnt_in (k := i + 1) (by omega) (by omega) (fun j hj => ?_) ?_ (oc_false.2 h2)
    · rw [oc_push e2 (by omega), if_neg (by omega)]
    · rw [oc_push e2 (by omega), if_pos (by omega)]
  have e4 : (fun j => if j = ((i + 1 : Nat) : Int) then some c else wq n K j) = wq n (K.set k (ks K k ++ [((i + 1 : Nat) : Int)])) := funext fun j => by
    unfold wq
    rw [e2]
    split
    · rw [Option.map_some, nm_pc hk]
    · rfl
  rw [← e3, e4] at b3
  refine ⟨⟨W', _, b3, a2, fun j j1 j2 => ?_⟩, f1.trans (g3.less f1.size)⟩
  rw [oc_push e2 (by omega)]
  unfold st
  by_cases z : j = i + 1
  · rw [if_pos z, if_pos (by omega)]
  · rw [if_neg z, if_neg (by omega), o j j1 j2]

set_option maxRecDepth 100000 in
set_option maxHeartbeats 1000000 in
theorem queue_any {w : World} {s n : Nat} {K : Ks} (c : Int) (h : GX w s n K) (ht : Tab w) :
    Calls Tryd.prog 20 #[.pointer (some ⟨s + 6, 0, none⟩), .int .i64 c] w fun e w' => e = .returned (.tuple #[.int .i64 (quN n K c), .int .i64 (quE n K c)]) ∧ GX w' s n (quK n K c) ∧ Fr w.heap.size (gz s n) w w' := by
  have HX : Hid (GX w s n K) := h
  obtain ⟨W, O, b, a, o⟩ := h
  unfold quN quE quK
  cases e : pc n c with
  | none =>
    have C : Hid (∀ _ : Unit, _) := fun _ => glist_no c b e
    rw [if_neg (by decide), if_neg (by decide)]
    show Calls _ _ _ _ fun e w' => e = .returned (.tuple #[.int .i64 0, .int .i64 3]) ∧ GX w' s n K ∧ Fr w.heap.size (gz s n) w w'
    clear b a o e
    go_enter Tryd.func20, Tryd.ntmps20
    go_wp2_with fail
    refine (C.out ()).mono ?_
    rintro e w' ⟨rfl, rfl⟩
    go_wp2
    go_ret2
    exact ⟨rfl, HX.out, Fr.refl _ _ _⟩
  | some k =>
    have kl := pc_lt e
    have C : Hid (∀ _ : Unit, _) := fun _ => glist_yes c b e
    rw [if_pos (show (some k).isSome = true from rfl), if_pos (show (some k).isSome = true from rfl)]
    have c0 := b.c0
    have D : Hid (∀ _ : Unit, _) := fun _ => stake_any w b.sl ht
    rw [ff_same o] at D
    cases hx : nx K with
    | none =>
      rw [hx] at D
      have FE : Hid (∀ w1 : World, (∃ W', T w1 (s + 1) s 32 W' (tO O none)) → Fr w.heap.size [s + 1, s] w w1 → GX w1 s n K ∧ Fr w.heap.size (gz s n) w w1) := fun w1 ⟨W', q⟩ f => by
        obtain ⟨b1, f1⟩ := b.slot q f
        exact ⟨⟨W', _, b1, a, o⟩, f1⟩
      rw [show tN none = 0 from rfl, show tE none = 5 from rfl] at D ⊢
      show Calls _ _ _ _ fun e w' => e = .returned (.tuple #[.int .i64 0, .int .i64 5]) ∧ GX w' s n K ∧ Fr w.heap.size (gz s n) w w'
      generalize ga s n k + 1 = gk at *
      clear b a o e HX
      go_enter Tryd.func20, Tryd.ntmps20
      go_wp2_with fail
      refine (C.out ()).mono ?_
      rintro e w' ⟨rfl, rfl⟩
      go_wp2_with fail
      refine (D.out ()).mono ?_
      rintro e w1 ⟨rfl, q, f⟩
      have F1 : Hid _ := FE.out w1 q f
      clear q f FE
      go_wp2
      go_ret2
      exact ⟨rfl, F1.out⟩
    | some i =>
      rw [hx] at D
      obtain ⟨h1, h2⟩ := nx_some hx
      have rm := a.room h2 (by omega) (by omega) (c := k) (by have := b.kn; omega)
      obtain ⟨p1, p2⟩ := push_ok (onc_none.1 h2 k) rm
      have wc : (Lit.int .i64 c).wf = true := wf_small c (by rw [← nm_pc e]; unfold nm; split <;> omega) (by rw [← nm_pc e]; have := b.n2; unfold nm; split <;> omega)
      have FE : Hid (∀ w1 : World, (∃ W', T w1 (s + 1) s 32 W' (tO O (some i))) → Fr w.heap.size [s + 1, s] w w1 → w1.cell? ⟨s + 6, 3, none⟩ = some (.map (some (s + 5))) ∧ ∃ w2, (Instr.mapUpdate 64 (.map (some (s + 5))) (.int .i64 ((i + 1 : Nat) : Int)) (.int .i64 c)).run Tryd.prog w1 = .ok () w2 ∧ Hid (Calls Tryd.prog 51 #[.pointer (some ⟨ga s n k + 1, 0, none⟩), .int .i64 ((i + 1 : Nat) : Int)] w2 fun e w' => e = .returned (.int .i64 0) ∧ GX w' s n (K.set k (ks K k ++ [((i + 1 : Nat) : Int)])) ∧ Fr w.heap.size (gz s n) w w')) := fun w1 ⟨W', q⟩ f => by
        obtain ⟨b1, f1⟩ := b.slot q f
        obtain ⟨w2, r2, M2, f2⟩ := put3 b1.mp (by have := cnt_le (oc K); omega) (id := ((i + 1 : Nat) : Int)) (wf_small _ (by omega) (by omega)) wc
        rw [wq_some, h2, if_neg (by decide)] at M2
        obtain ⟨b2, g2⟩ := b1.map M2 f2
        refine ⟨b1.c3, w2, r2, ?_⟩
        refine (qpush_any ((i + 1 : Nat) : Int) (b2.qs k (by omega))).mono ?_
        rw [p1, p2]
        rintro e w3 ⟨rfl, q3, f3⟩
        exact ⟨rfl, queue_end a o (by assumption) hx b2 q3 f3 (f1.trans (g2.less f1.size))⟩
      rw [show tN (some i) = ((i + 1 : Nat) : Int) from rfl, show tE (some i) = 0 from rfl] at D ⊢
      show Calls _ _ _ _ fun e w' => e = .returned (.tuple #[.int .i64 ((i + 1 : Nat) : Int), .int .i64 0]) ∧ GX w' s n (K.set k (ks K k ++ [((i + 1 : Nat) : Int)])) ∧ Fr w.heap.size (gz s n) w w'
      clear b a o e HX hx h1 h2 rm p1 p2 wc
      generalize ((i + 1 : Nat) : Int) = x at *
      generalize ga s n k + 1 = gk at *
      go_enter Tryd.func20, Tryd.ntmps20
      go_wp2_with fail
      refine (C.out ()).mono ?_
      rintro e w' ⟨rfl, rfl⟩
      go_wp2_with fail
      refine (D.out ()).mono ?_
      rintro e w1 ⟨rfl, q, f⟩
      obtain ⟨d3, w2, r2, F1⟩ := FE.out w1 q f
      clear q f FE
      go_wp2_with fail
      refine F1.out.mono ?_
      rintro e w3 ⟨rfl, q2⟩
      have F2 : Hid _ := q2
      clear q2
      go_wp2
      go_ret2
      exact ⟨rfl, F2.out⟩

set_option maxRecDepth 100000 in
set_option maxHeartbeats 1000000 in
theorem gtake_any {w : World} {s n : Nat} {K : Ks} (c : Int) (h : GX w s n K) :
    Calls Tryd.prog 21 #[.pointer (some ⟨s + 6, 0, none⟩), .int .i64 c] w fun e w' => e = .returned (.tuple #[.int .i64 (taN n K c), .int .i64 (taE n K c)]) ∧ GX w' s n (taK n K c) ∧ Fr w.heap.size (gz s n) w w' := by
  have HX : Hid (GX w s n K) := h
  obtain ⟨W, O, b, a, o⟩ := h
  unfold taN taE taK
  cases e : isc n c with
  | false =>
    have C : Hid (∀ _ : Unit, _) := fun _ => gon_no c e b.c1
    rw [if_neg (by decide), if_neg (by decide), if_neg (by decide)]
    clear b a o e
    go_enter Tryd.func21, Tryd.ntmps21
    go_wp2_with fail
    refine (C.out ()).mono ?_
    rintro e w' ⟨rfl, rfl⟩
    go_wp2
    go_ret2
    exact ⟨rfl, HX.out, Fr.refl _ _ _⟩
  | true =>
    obtain ⟨k, rfl, hk, hk2⟩ := isc_nat e
    rw [if_pos rfl, if_pos rfl, if_pos rfl]
    have C : Hid (∀ _ : Unit, _) := fun _ => gon_yes k hk2 b.c1 (b.cq hk)
    have L : Hid (∀ _ : Unit, _) := fun _ => qlen_any (b.qs k (by omega))
    obtain ⟨p, hp⟩ : ∃ p, taP n K (k : Int) = p := ⟨_, rfl⟩
    have hpn : p ≤ n := by rw [← hp]; unfold taP; rw [Int.toNat_natCast]; split <;> omega
    have D : Hid (∀ _ : Unit, _) := fun _ => qpop_any (b.qs p (by omega))
    rw [hp]
    have c2 := b.c2
    have HP : Hid ((ks K k = [] → p = n) ∧ (ks K k ≠ [] → p = k)) := by
      rw [← hp]
      unfold taP
      rw [Int.toNat_natCast]
      exact ⟨fun z => by rw [if_pos z], fun z => by rw [if_neg z]⟩
    by_cases hq : ks K p = []
    · have FE : Hid (∀ w1 : World, QB w1 (ga s n p) (ks K p).tail → Fr w.heap.size [ga s n p + 1, ga s n p] w w1 → GX w1 s n (K.set p (ks K p).tail) ∧ Fr w.heap.size (gz s n) w w1) := fun w1 q f => by
        obtain ⟨b1, f1⟩ := b.put hpn q f
        rw [set_same K p _ (by rw [hq]; rfl)] at b1 ⊢
        exact ⟨⟨W, O, b1, a, o⟩, f1⟩
      have e0 : ks K k = [] := by
        by_cases z : ks K k = []
        · exact z
        · rw [HP.out.2 z] at hq; exact hq
      have pn : p = n := HP.out.1 e0
      rw [show (ks K k).length = 0 by rw [e0]; rfl] at L
      rw [show fE (ks K p) = 12 from if_pos hq, show (ks K p).headD 0 = 0 by rw [hq]; rfl] at D ⊢
      subst pn
      generalize ga s p p + 1 = gn at *
      generalize ga s p k + 1 = gk at *
      clear b a o e HX hq e0 HP hp
      go_enter Tryd.func21, Tryd.ntmps21
      go_wp2_with fail
      refine (C.out ()).mono ?_
      rintro e w' ⟨rfl, rfl⟩
      go_wp2_with fail
      refine (L.out ()).mono ?_
      rintro e w' ⟨rfl, rfl⟩
      go_wp2_with fail
      refine (D.out ()).mono ?_
      rintro e w1 ⟨rfl, q, f⟩
      have F1 : Hid _ := FE.out w1 q f
      clear q f FE
      go_wp2
      go_ret2
      exact ⟨rfl, F1.out⟩
    · obtain ⟨a2, e2⟩ := al_pop a hq
      have FE : Hid (∀ w1 : World, QB w1 (ga s n p) (ks K p).tail → Fr w.heap.size [ga s n p + 1, ga s n p] w w1 → Hid (Calls Tryd.prog 54 #[.pointer (some ⟨s + 6, 0, none⟩), .int .i64 ((ks K p).headD 0)] w1 fun e w' => e = .returned (.int .i64 0) ∧ GX w' s n (K.set p (ks K p).tail) ∧ Fr w.heap.size (gz s n) w w')) := fun w1 q f => by
        obtain ⟨b1, f1⟩ := b.put hpn q f
        refine (forget_yes ((ks K p).headD 0) b1 a a2 o ((onc_iff a).2 (hd_mem hq)) e2).mono ?_
        rintro e w2 ⟨rfl, q2, f2⟩
        exact ⟨rfl, q2, f1.trans (f2.less f1.size)⟩
      rw [show fE (ks K p) = 0 from if_neg hq] at D ⊢
      by_cases z : ks K k = []
      · have pn : p = n := HP.out.1 z
        rw [show (ks K k).length = 0 by rw [z]; rfl] at L
        subst pn
        generalize ga s p p + 1 = gn at *
        generalize ga s p k + 1 = gk at *
        clear b a o e HX hq HP z hp a2 e2
        generalize (ks K p).headD 0 = x at *
        go_enter Tryd.func21, Tryd.ntmps21
        go_wp2_with fail
        refine (C.out ()).mono ?_
        rintro e w' ⟨rfl, rfl⟩
        go_wp2_with fail
        refine (L.out ()).mono ?_
        rintro e w' ⟨rfl, rfl⟩
        go_wp2_with fail
        refine (D.out ()).mono ?_
        rintro e w1 ⟨rfl, q, f⟩
        have F1 := FE.out w1 q f
        clear q f FE
        go_wp2_with fail
        refine F1.out.mono ?_
        rintro e w2 ⟨rfl, q2⟩
        have F2 : Hid _ := q2
        clear q2
        go_wp2
        go_ret2
        exact ⟨rfl, F2.out⟩
      · have pk : p = k := HP.out.2 z
        subst pk
        have z0 : (((ks K p).length : Int) == 0) = false := by
          have := List.length_pos_iff.2 z
          simp
          omega
        generalize (ks K p).length = l at *
        generalize ga s n p + 1 = gk at *
        clear b a o e HX hq HP z hp a2 e2 c2
        generalize (ks K p).headD 0 = x at *
        go_enter Tryd.func21, Tryd.ntmps21
        go_wp2_with fail
        refine (C.out ()).mono ?_
        rintro e w' ⟨rfl, rfl⟩
        go_wp2_with fail
        refine (L.out ()).mono ?_
        rintro e w' ⟨rfl, rfl⟩
        go_wp2_with fail
        refine (D.out ()).mono ?_
        rintro e w1 ⟨rfl, q, f⟩
        have F1 := FE.out w1 q f
        clear q f FE
        go_wp2_with fail
        refine F1.out.mono ?_
        rintro e w2 ⟨rfl, q2⟩
        have F2 : Hid _ := q2
        clear q2
        go_wp2
        go_ret2
        exact ⟨rfl, F2.out⟩

/-- Behind a number that goes to the list that is no core's. -/
theorem unbind_end {w w2 w3 : World} {s n : Nat} {K : Ks} {W : List Nat} {O : Nat → Bool} {k : Nat} (a : Al K) (o : ∀ i, 1 ≤ i → i ≤ 32 → O i = oc K i) (hk : k < n) (hp : ks K k ≠ [])
    (b2 : GB w2 s n (K.set k (ks K k).tail) W O (cnt (oc K)) (fun j => if j = (ks K k).headD 0 then some (-1) else wq n K j)) (q : QB w3 (ga s n n) (ks K n ++ [(ks K k).headD 0])) (f3 : Fr w2.heap.size [ga s n n + 1, ga s n n] w2 w3) (f1 : Fr w.heap.size (gz s n) w w2) :
    GX w3 s n (mv K k n) ∧ Fr w.heap.size (gz s n) w w3 := by
  have kn : K.length = n + 1 := by have := b2.kn; simpa using this
  obtain ⟨a2, ea⟩ := al_move a (a := k) (b := n) (by omega) (by omega) hp
  obtain ⟨b3, g3⟩ := b2.put (Nat.le_refl n) q f3
  have hr := a.rg k _ (hd_mem hp)
  have e1 : oc ((K.set k (ks K k).tail).set n (ks K n ++ [(ks K k).headD 0])) = oc K := funext fun j => by
    rw [oc_push ea hr.1]
    by_cases z : j = ((ks K k).headD 0).toNat
    · rw [if_pos z, z]
      unfold oc
      rw [show ((((ks K k).headD 0).toNat : Nat) : Int) = (ks K k).headD 0 by omega, (onc_iff a).2 (hd_mem hp)]
      rfl
    · rw [if_neg z]
  have e4 : (fun j => if j = (ks K k).headD 0 then some (-1) else wq n K j) = wq n ((K.set k (ks K k).tail).set n (ks K n ++ [(ks K k).headD 0])) := funext fun j => by
    unfold wq
    rw [ea]
    split
    · rw [Option.map_some]
      unfold nm
      rw [if_pos rfl]
    · rfl
  rw [e4, ← e1] at b3
  rw [show mv K k n = (K.set k (ks K k).tail).set n (ks K n ++ [(ks K k).headD 0]) from if_neg hp]
  exact ⟨⟨W, O, b3, a2, fun j j1 j2 => by rw [e1]; exact o j j1 j2⟩, f1.trans (g3.less f1.size)⟩

set_option maxRecDepth 100000 in
set_option maxHeartbeats 1000000 in
theorem unbind_any {w : World} {s n : Nat} {K : Ks} (c : Int) (h : GX w s n K) :
    Calls Tryd.prog 22 #[.pointer (some ⟨s + 6, 0, none⟩), .int .i64 c] w fun e w' => e = .returned (.tuple #[.int .i64 (unN n K c), .int .i64 (unE n K c)]) ∧ GX w' s n (unK n K c) ∧ Fr w.heap.size (gz s n) w w' := by
  have HX : Hid (GX w s n K) := h
  obtain ⟨W, O, b, a, o⟩ := h
  unfold unN unE unK
  cases e : isc n c with
  | false =>
    have C : Hid (∀ _ : Unit, _) := fun _ => gon_no c e b.c1
    rw [if_neg (by decide), if_neg (by decide), if_neg (by decide)]
    clear b a o e
    go_enter Tryd.func22, Tryd.ntmps22
    go_wp2_with fail
    refine (C.out ()).mono ?_
    rintro e w' ⟨rfl, rfl⟩
    go_wp2
    go_ret2
    exact ⟨rfl, HX.out, Fr.refl _ _ _⟩
  | true =>
    obtain ⟨k, rfl, hk, hk2⟩ := isc_nat e
    rw [if_pos rfl, if_pos rfl, if_pos rfl, Int.toNat_natCast]
    have C : Hid (∀ _ : Unit, _) := fun _ => gon_yes k hk2 b.c1 (b.cq hk)
    have D : Hid (∀ _ : Unit, _) := fun _ => qpop_any (b.qs k (by omega))
    by_cases hp : ks K k = []
    · have FE : Hid (∀ w1 : World, QB w1 (ga s n k) (ks K k).tail → Fr w.heap.size [ga s n k + 1, ga s n k] w w1 → GX w1 s n (mv K k n) ∧ Fr w.heap.size (gz s n) w w1) := fun w1 q f => by
        obtain ⟨b1, f1⟩ := b.put (by omega) q f
        rw [set_same K k _ (by rw [hp]; rfl)] at b1
        rw [show mv K k n = K from if_pos hp]
        exact ⟨⟨W, O, b1, a, o⟩, f1⟩
      rw [show fE (ks K k) = 12 from if_pos hp, show (ks K k).headD 0 = 0 by rw [hp]; rfl] at D ⊢
      generalize ga s n k + 1 = gk at *
      clear b a o e HX hp
      go_enter Tryd.func22, Tryd.ntmps22
      go_wp2_with fail
      refine (C.out ()).mono ?_
      rintro e w' ⟨rfl, rfl⟩
      go_wp2_with fail
      refine (D.out ()).mono ?_
      rintro e w1 ⟨rfl, q, f⟩
      have F1 : Hid _ := FE.out w1 q f
      clear q f FE
      go_wp2
      go_ret2
      exact ⟨rfl, F1.out⟩
    · have kn := b.kn
      obtain ⟨a2, ea⟩ := al_move a (a := k) (b := n) (by omega) (by omega) hp
      have hm : ks (K.set k (ks K k).tail) n = ks K n := by rw [ks_set _ _ _ _ (by omega), if_neg (by omega)]
      have no : (ks K k).headD 0 ∉ ks K n := fun z => by have := a.one k n _ (hd_mem hp) z; omega
      have rm : (ks K n).length < 32 := by
        have := a2.len n
        rw [ks_set _ _ _ _ (by simp; omega), if_pos rfl] at this
        simp at this
        omega
      obtain ⟨p1, p2⟩ := push_ok no rm
      have hr := a.rg k _ (hd_mem hp)
      have FE : Hid (∀ w1 : World, QB w1 (ga s n k) (ks K k).tail → Fr w.heap.size [ga s n k + 1, ga s n k] w w1 → w1.cell? ⟨s + 6, 3, none⟩ = some (.map (some (s + 5))) ∧ ∃ w2, (Instr.mapUpdate 64 (.map (some (s + 5))) (.int .i64 ((ks K k).headD 0)) (.int .i64 (-1))).run Tryd.prog w1 = .ok () w2 ∧ w2.cell? ⟨s + 6, 2, none⟩ = some (.pointer (some ⟨ga s n n + 1, 0, none⟩)) ∧ Hid (Calls Tryd.prog 51 #[.pointer (some ⟨ga s n n + 1, 0, none⟩), .int .i64 ((ks K k).headD 0)] w2 fun e w' => e = .returned (.int .i64 0) ∧ GX w' s n (mv K k n) ∧ Fr w.heap.size (gz s n) w w')) := fun w1 q f => by
        obtain ⟨b1, f1⟩ := b.put (by omega) q f
        obtain ⟨w2, r2, M2, f2⟩ := put3 b1.mp (by have := cnt_le (oc K); omega) (id := (ks K k).headD 0) (c := -1) (wf_small _ (by omega) (by omega)) (wf_small _ (by omega) (by omega))
        rw [wq_some, (onc_iff a).2 (hd_mem hp), if_pos (show (some k).isSome = true from rfl)] at M2
        obtain ⟨b2, g2⟩ := b1.map M2 f2
        have q1 := b2.qs n (by omega)
        rw [hm] at q1
        refine ⟨b1.c3, w2, r2, b2.c2, ?_⟩
        refine (qpush_any ((ks K k).headD 0) q1).mono ?_
        rw [p1, p2]
        rintro e w3 ⟨rfl, q3, f3⟩
        exact ⟨rfl, unbind_end a o hk hp b2 q3 f3 (f1.trans (g2.less f1.size))⟩
      rw [show fE (ks K k) = 0 from if_neg hp] at D ⊢
      generalize (ks K k).headD 0 = x at *
      generalize ga s n k + 1 = gk at *
      generalize ga s n n + 1 = gn at *
      clear b a o e HX hp a2 ea hm no rm p1 p2 kn hr
      go_enter Tryd.func22, Tryd.ntmps22
      go_wp2_with fail
      refine (C.out ()).mono ?_
      rintro e w' ⟨rfl, rfl⟩
      go_wp2_with fail
      refine (D.out ()).mono ?_
      rintro e w1 ⟨rfl, q, f⟩
      obtain ⟨d3, w2, r2, d2, F1⟩ := FE.out w1 q f
      clear q f FE
      go_wp2_with fail
      refine F1.out.mono ?_
      rintro e w3 ⟨rfl, q2⟩
      have F2 : Hid _ := q2
      clear q2
      go_wp2
      go_ret2
      exact ⟨rfl, F2.out⟩

set_option maxRecDepth 100000 in
set_option maxHeartbeats 1000000 in
theorem gdrop_any {w : World} {s n : Nat} {K : Ks} (id : Int) (hi : (Lit.int .i64 id).wf = true) (h : GX w s n K) :
    Calls Tryd.prog 23 #[.pointer (some ⟨s + 6, 0, none⟩), .int .i64 id] w fun e w' => e = .returned (.int .i64 (drE K id)) ∧ GX w' s n (drK K id) ∧ Fr w.heap.size (gz s n) w w' := by
  have HX : Hid (GX w s n K) := h
  obtain ⟨W, O, b, a, o⟩ := h
  have c3 := b.c3
  have l := look3 b.mp hi
  unfold drE drK
  cases e : onc K id with
  | none =>
    rw [show wq n K id = none by unfold wq; rw [e]; rfl] at l
    rw [if_neg (by decide)]
    show Calls _ _ _ _ fun e w' => e = .returned (.int .i64 4) ∧ GX w' s n K ∧ Fr w.heap.size (gz s n) w w'
    clear b a o e
    go_enter Tryd.func23, Tryd.ntmps23
    go_wp2
    go_ret
    exact ⟨rfl, HX.out, Fr.refl _ _ _⟩
  | some c =>
    have hm := onc_spec e
    have hc : c ≤ n := by have := ks_lt hm; have := b.kn; omega
    rw [show wq n K id = some (nm n c) by unfold wq; rw [e]; rfl] at l
    rw [if_pos (show (some c).isSome = true from rfl)]
    have C : Hid (∀ _ : Unit, _) := fun _ => glist_yes (nm n c) b (pc_nm hc)
    have D : Hid (∀ _ : Unit, _) := fun _ => qdrop_any id (b.qs c (by omega)) (a.nd c)
    rw [show dE (ks K c) id = 0 from if_pos hm] at D
    obtain ⟨a2, e2⟩ := al_del a hm
    have FE : Hid (∀ w1 : World, QB w1 (ga s n c) (wo (ks K c) id) → Fr w.heap.size [ga s n c + 1, ga s n c] w w1 → Hid (Calls Tryd.prog 54 #[.pointer (some ⟨s + 6, 0, none⟩), .int .i64 id] w1 fun e w' => e = .returned (.int .i64 0) ∧ GX w' s n (K.set c (wo (ks K c) id)) ∧ Fr w.heap.size (gz s n) w w')) := fun w1 q f => by
      obtain ⟨b1, f1⟩ := b.put hc q f
      refine (forget_yes id b1 a a2 o e e2).mono ?_
      rintro e w2 ⟨rfl, q2, f2⟩
      exact ⟨rfl, q2, f1.trans (f2.less f1.size)⟩
    show Calls _ _ _ _ fun e w' => e = .returned (.int .i64 0) ∧ GX w' s n (K.set c (wo (ks K c) id)) ∧ Fr w.heap.size (gz s n) w w'
    generalize nm n c = x at *
    generalize ga s n c + 1 = gk at *
    clear b a o e HX hm a2 e2 hi
    go_enter Tryd.func23, Tryd.ntmps23
    go_wp2_with fail
    refine (C.out ()).mono ?_
    rintro e w' ⟨rfl, rfl⟩
    go_wp2_with fail
    refine (D.out ()).mono ?_
    rintro e w1 ⟨rfl, q, f⟩
    have F1 := FE.out w1 q f
    clear q f FE
    go_wp2_with fail
    refine F1.out.mono ?_
    rintro e w2 ⟨rfl, q2⟩
    have F2 : Hid _ := q2
    clear q2
    go_wp2
    go_ret
    exact ⟨rfl, F2.out⟩
end Go.Proofs.YtofdhljgchefgaaDoor
