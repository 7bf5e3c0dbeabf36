/- What runq's Move answers and leaves, for all queues of cores, and what New answers. -/
import Derived.Test.YtpmjojemcpgpiaaDoorUb
import Derived.WalkKit
import Derived.ProofKit
import Derived.OpenShut
import Derived.BigQuiet
namespace Go.Proofs.YtpmjojemcpgpiaaDoor
open Go.ChangeShapes Go.WideShapes Go.ChangeAt Go.RowKit
open Fm Qm

/-- The last of all. -/
def lst (X : Its) : Int := (cat X).getD ((cat X).length - 1) 0
theorem gth_in {X : Its} {k : Nat} {n : Int} (h : n ∈ gth X k) : n ∈ ids X := by
  induction k with
  | zero => simp [gth] at h
  | succ k ih =>
    unfold gth at h
    rcases List.mem_append.1 h with h | h
    · exact ih h
    · exact (mem_ids X n).2 ⟨_, (mem_lv _ _ _).1 h⟩
theorem lst_in {m : Nat} {X : Its} (h : Ok m X) (hX : X ≠ []) : lst X ∈ ids X ∧ 0 < (cat X).length := by
  have hl : 0 < (cat X).length := by rw [len_cat h.rg]; exact List.length_pos_iff.2 hX
  refine ⟨gth_in (k := 8) ?_, hl⟩
  unfold lst
  rw [getD_of _ _ (by omega : (cat X).length - 1 < (cat X).length)]
  exact List.getElem_mem _

/-- What Move answers and leaves. -/
def mvE (n : Nat) (K : Ks) (a b : Int) : Int := if isC n a ∧ isC n b then (if a = b then 2 else if K a.toNat = [] then 12 else psE 32 (K b.toNat) (prP (K a.toNat) (lst (K a.toNat))) (lst (K a.toNat))) else 3
def mvN (n : Nat) (K : Ks) (a b : Int) : Int := if mvE n K a b = 0 then lst (K a.toNat) else 0
def mvK (n : Nat) (K : Ks) (a b : Int) : Ks := if mvE n K a b = 0 then up (up K b.toNat (K b.toNat ++ [(prP (K a.toNat) (lst (K a.toNat)), lst (K a.toNat))])) a.toNat (del (K a.toNat) (lst (K a.toNat))) else K

set_option maxRecDepth 100000 in
set_option maxHeartbeats 4000000 in
theorem move_any {w : World} {s n m : Nat} {K : Ks} (a b : Int) (hm : m ≤ 10000) (h : RR w s n m K) :
    Calls Tryd.prog 25 #[.pointer (some ⟨s + 2, 0, none⟩), .int .i64 a, .int .i64 b] w fun e w' => e = .returned (.tuple #[.int .i64 (mvN n K a b), .int .i64 (mvE n K a b)]) ∧ RR w' s n (m + 1) (mvK n K a b) ∧ Fr w.heap.size (rz s n) w w' := by
  have up1 : ∀ {w : World} {K : Ks}, RR w s n m K → RR w s n (m + 1) K := fun h => ⟨h.rb, by obtain ⟨D, o, k⟩ := h.mp; exact ⟨D, o.mono (by omega), k⟩, h.al⟩
  have H0 : Hid (RR w s n (m + 1) K) := up1 h
  by_cases ha : isC n a
  case neg =>
    have e : mvE n K a b = 3 := if_neg (fun q => ha q.1)
    rw [show mvN n K a b = 0 by unfold mvN; rw [e]; rfl, show mvK n K a b = K by unfold mvK; rw [e]; rfl, e]
    have C : Hid (∀ _ : Unit, _) := fun _ => isc_no a ha h.rb
    clear h ha e
    go_enter Tryd.func25, Tryd.ntmps25
    go_wp2_with fail
    refine (C.out ()).mono ?_
    rintro e w' ⟨rfl, rfl⟩
    go_wp2
    go_ret2
    exact ⟨rfl, H0.out, Fr.refl _ _ _⟩
  obtain ⟨i, rfl⟩ : ∃ i : Nat, a = (i : Int) := ⟨a.toNat, by unfold isC at ha; omega⟩
  have hi : (i : Int) < n := ha.2
  have CA : Hid (∀ _ : Unit, _) := fun _ => isc_yes i hi h.rb
  by_cases hb : isC n b
  case neg =>
    have e : mvE n K i b = 3 := if_neg (fun q => hb q.2)
    rw [show mvN n K i b = 0 by unfold mvN; rw [e]; rfl, show mvK n K i b = K by unfold mvK; rw [e]; rfl, e]
    have C : Hid (∀ _ : Unit, _) := fun _ => isc_no b hb h.rb
    clear h ha hb e
    go_enter Tryd.func25, Tryd.ntmps25
    go_wp2_with fail
    refine (CA.out ()).mono ?_
    rintro e w' ⟨rfl, rfl⟩
    go_wp2_with fail
    refine (C.out ()).mono ?_
    rintro e w' ⟨rfl, rfl⟩
    go_wp2
    go_ret2
    exact ⟨rfl, H0.out, Fr.refl _ _ _⟩
  obtain ⟨j, rfl⟩ : ∃ j : Nat, b = (j : Int) := ⟨b.toNat, by unfold isC at hb; omega⟩
  have hj : (j : Int) < n := hb.2
  have CB : Hid (∀ _ : Unit, _) := fun _ => isc_yes j hj h.rb
  by_cases hij : i = j
  · subst hij
    have e : mvE n K i i = 2 := by unfold mvE; rw [if_pos ⟨ha, hb⟩, if_pos rfl]
    rw [show mvN n K i i = 0 by unfold mvN; rw [e]; rfl, show mvK n K i i = K by unfold mvK; rw [e]; rfl, e]
    clear h ha hb e
    go_enter Tryd.func25, Tryd.ntmps25
    go_wp2_with fail
    refine (CA.out ()).mono ?_
    rintro e w' ⟨rfl, rfl⟩
    go_wp2_with fail
    refine (CB.out ()).mono ?_
    rintro e w' ⟨rfl, rfl⟩
    go_wp2
    go_ret2
    exact ⟨rfl, H0.out, Fr.refl _ _ _⟩
  have hne : ((i : Int) == (j : Int)) = false := by simp; omega
  have hnI : ¬ (i : Int) = (j : Int) := by omega
  have L : Hid (∀ _ : Unit, _) := fun _ => plist_any w (h.rb.qs i (by omega))
  have c0 := h.rb.c0
  have ci := h.rb.cq (c := i) (by omega)
  by_cases hX : K i = []
  · have e : mvE n K i j = 12 := by unfold mvE; rw [if_pos ⟨ha, hb⟩, if_neg hnI, Int.toNat_natCast, if_pos hX]
    rw [show mvN n K i j = 0 by unfold mvN; rw [e]; rfl, show mvK n K i j = K by unfold mvK; rw [e]; rfl, e]
    rw [show cat (K i) = [] by rw [hX]; rfl] at L
    clear h ha hb e hX hij
    unfold qa at ci L
    go_enter Tryd.func25, Tryd.ntmps25
    go_wp2_with fail
    refine (CA.out ()).mono ?_
    rintro e w' ⟨rfl, rfl⟩
    go_wp2_with fail
    refine (CB.out ()).mono ?_
    rintro e w' ⟨rfl, rfl⟩
    go_wp2_with fail
    refine (L.out ()).mono ?_
    rintro e w2 ⟨v, rfl, o2, b2⟩
    obtain ⟨a2, c2, rfl⟩ := own_shape o2
    clear o2
    go_wp2
    go_ret2
    exact ⟨rfl, H0.out.below b2, (Fr.of_below b2).mono (Nat.le_refl _) (fun _ _ _ => by simp)⟩
  obtain ⟨lin, lpos⟩ := lst_in (h.al.ok i (by omega)) hX
  have hw := h.al.wf i (by omega) _ lin
  have e0 : mvE n K i j = psE 32 (K j) (prP (K i) (lst (K i))) (lst (K i)) := by unfold mvE; rw [if_pos ⟨ha, hb⟩, if_neg hnI, Int.toNat_natCast, if_neg hX, Int.toNat_natCast]
  have LC : (cat (K i)).length ≤ 32 := by rw [len_cat (h.al.ok i (by omega)).rg]; exact (h.al.ok i (by omega)).le
  have P : Hid (∀ w3 : World, Below w.heap.size w w3 → w3.cell? ⟨s + 2, 0, none⟩ = some (.slice (some ⟨s, 0, none⟩) n n) ∧ w3.cell? ⟨s, i, none⟩ = some (.pointer (some ⟨qa s i, 0, none⟩)) ∧ w3.cell? ⟨s, j, none⟩ = some (.pointer (some ⟨qa s j, 0, none⟩)) ∧ RR w3 s n m K) := fun w3 b3 => ⟨(h.below b3).rb.c0, (h.below b3).rb.cq (by omega), (h.below b3).rb.cq (by omega), h.below b3⟩
  have PR : Hid (∀ w3 : World, RR w3 s n m K → _) := fun w3 h3 => prio_any (lst (K i)) w3 (h3.rb.qs i (by omega))
  rw [decide_eq_true lin] at PR
  have PU : Hid (∀ w3 : World, RR w3 s n m K → _) := fun w3 h3 => ppush_any (prP (K i) (lst (K i))) (lst (K i)) w3 (h3.rb.qs j (by omega))
  have CT : Hid ((cat (K i)).getD ((cat (K i)).length - 1) 0 = lst (K i)) := rfl
  rw [show mvN n K i j = if psE 32 (K j) (prP (K i) (lst (K i))) (lst (K i)) = 0 then lst (K i) else 0 by unfold mvN; rw [e0, Int.toNat_natCast], show mvK n K i j = if psE 32 (K j) (prP (K i) (lst (K i))) (lst (K i)) = 0 then up (up K j (K j ++ [(prP (K i) (lst (K i)), lst (K i))])) i (del (K i) (lst (K i))) else K by unfold mvK; rw [e0, Int.toNat_natCast, Int.toNat_natCast], e0]
  have rg := prP_rg (h.al.ok i (by omega)) (lst (K i))
  obtain ⟨l, hl⟩ : ∃ l, (cat (K i)).length = l + 1 := ⟨(cat (K i)).length - 1, by omega⟩
  have HL : Hid ((cat (K i)).length = l + 1) := hl
  have hl2 : (l : Int) ≤ 31 := by omega
  rcases ps_cases 32 (K j) (prP (K i) (lst (K i))) (lst (K i)) with ⟨e1, e2, e3, e4, e5, e6⟩ | ⟨e1, e2⟩
  · obtain ⟨al, on⟩ := al_move h.al (c := i) (d := j) (by omega) (by omega) hij (p := prP (K i) (lst (K i))) lin (ok_push (h.al.ok j (by omega)) ⟨e4, e5⟩ e3 e6)
    rw [e1, e2] at PU
    rw [e1, if_pos rfl, if_pos rfl]
    have ST : Hid (∀ w3 w4 : World, RR w3 s n m K → PQ w4 (qa s j) 32 (K j ++ [(prP (K i) (lst (K i)), lst (K i))]) → Fr w3.heap.size (zn (qa s j)) w3 w4 → w4.cell? ⟨s + 2, 1, none⟩ = some (.map (some (s + 1))) ∧ ∃ w5, (Instr.mapUpdate 47 (.map (some (s + 1))) (.int .i64 (lst (K i))) (.int .i64 (j : Int))).run Tryd.prog w4 = .ok () w5 ∧ w5.cell? ⟨s + 2, 0, none⟩ = some (.slice (some ⟨s, 0, none⟩) n n) ∧ w5.cell? ⟨s, i, none⟩ = some (.pointer (some ⟨qa s i, 0, none⟩)) ∧ Calls Tryd.prog 48 #[.pointer (some ⟨qa s i, 0, none⟩), .int .i64 (lst (K i))] w5 fun e w6 => e = .returned (.int .i64 0) ∧ RR w6 s n (m + 1) (up (up K j (K j ++ [(prP (K i) (lst (K i)), lst (K i))])) i (del (K i) (lst (K i)))) ∧ Fr w3.heap.size (rz s n) w3 w6) := fun w3 w4 h3 q4 f4 => by
      have rb4 := h3.rb.put (by omega) q4 f4
      have mp4 := RR.mp_zn h3.mp f4
      obtain ⟨w5, r5, m5, g5⟩ := mp_put mp4 (by omega) hw j (by have := h3.rb.n2; omega)
      obtain ⟨f5, f5'⟩ := fr_map (n := n) g5
      have rb5 := rb4.keep f5 rb4.hi (fun k _ _ hk => by simpa using hk)
      refine ⟨rb4.c1, w5, r5, rb5.c0, rb5.cq (by omega), ?_⟩
      have q5 := rb5.qs i (by omega)
      rw [up_other _ hij] at q5
      have := pdrop_any (lst (K i)) w5 q5
      rw [show drE (K i) (lst (K i)) = 0 from if_pos lin] at this
      refine this.mono ?_
      rintro e w6 ⟨rfl, q6, f6⟩
      refine ⟨rfl, ⟨rb5.put (by omega) q6 f6, by rw [on]; exact RR.mp_zn m5 f6, al⟩, ?_⟩
      exact ((fr_rz (by omega) f4).trans (f5'.less f4.size)).trans ((fr_rz (by omega) f6).less (Nat.le_trans f4.size f5'.size))
    generalize prP (K i) (lst (K i)) = pp at *
    obtain ⟨z, hz⟩ : ∃ z, lst (K i) = z := ⟨_, rfl⟩
    rw [hz] at PR PU ST CT
    rw [hz]
    generalize K j ++ [(pp, z)] = X2 at *
    generalize up (up K j X2) i (del (K i) z) = K2 at *
    clear h ha hb hX hij e0 e1 e2 e3 e4 e5 e6 al on lin lpos hw hz rg
    unfold qa at ci L P PR PU ST
    go_enter Tryd.func25, Tryd.ntmps25
    go_wp2_with fail
    refine (CA.out ()).mono ?_
    rintro e w' ⟨rfl, rfl⟩
    go_wp2_with fail
    refine (CB.out ()).mono ?_
    rintro e w' ⟨rfl, rfl⟩
    go_wp2_with fail
    refine (L.out ()).mono ?_
    rintro e w2 ⟨v, rfl, o2, b2⟩
    rw [HL.out] at o2
    obtain ⟨a2, c2, rfl⟩ := own_shape o2
    obtain ⟨g2, rfl, hc⟩ := own_cell (k := l) o2 (by omega)
    have CT2 := CT.out
    rw [HL.out, Nat.add_sub_cancel] at CT2
    rw [CT2] at hc
    obtain ⟨d0, di, dj, h2⟩ := P.out w2 b2
    have P2 : Hid (∀ _ : Unit, _) := fun _ => PR.out w2 h2
    have B2 : Hid (Below w'.heap.size w' w2) := b2
    clear o2 b2 h2 CT2
    go_wp2_with fail
    refine (P2.out ()).mono ?_
    rintro e w3 ⟨rfl, b3⟩
    have B3 : Hid (Below w'.heap.size w' w3) := B2.out.trans (b3.mono B2.out.size)
    obtain ⟨d30, d3i, d3j, h3⟩ := P.out w3 B3.out
    have H3 : Hid (RR w3 s n m K) := h3
    have U3 : Hid (∀ _ : Unit, _) := fun _ => PU.out w3 h3
    clear b3 h3 d0 di dj hc
    go_wp2_with fail
    refine (U3.out ()).mono ?_
    rintro e w4 ⟨rfl, q4, f4⟩
    obtain ⟨c1, w5, r5, d50, d5i, D5⟩ := ST.out w3 w4 H3.out q4 f4
    have D6 : Hid (∀ _ : Unit, _) := fun _ => D5
    clear q4 f4 d30 d3i d3j D5
    go_wp2_with fail
    refine (D6.out ()).mono ?_
    rintro e w6 ⟨rfl, r6, f6⟩
    go_wp2
    go_ret2
    exact ⟨rfl, r6, fr_below B3.out f6 rfl⟩
  · rw [e2] at PU
    rw [if_neg e1, if_neg e1]
    have ST : Hid (∀ w3 w4 : World, RR w3 s n m K → PQ w4 (qa s j) 32 (K j) → Fr w3.heap.size (zn (qa s j)) w3 w4 → RR w4 s n (m + 1) K ∧ Fr w3.heap.size (rz s n) w3 w4) := fun w3 w4 h3 q4 f4 => by
      have rb4 := h3.rb.put (by omega) q4 f4
      rw [up_id] at rb4
      exact ⟨up1 ⟨rb4, RR.mp_zn h3.mp f4, h3.al⟩, fr_rz (by omega) f4⟩
    generalize psE 32 (K j) (prP (K i) (lst (K i))) (lst (K i)) = ee at *
    generalize prP (K i) (lst (K i)) = pp at *
    obtain ⟨z, hz⟩ : ∃ z, lst (K i) = z := ⟨_, rfl⟩
    rw [hz] at PR PU CT
    have e3 : (ee != 0) = true := by simpa using e1
    clear h ha hb hX hij e0 e1 e2 lin lpos hw hz rg
    unfold qa at ci L P PR PU ST
    go_enter Tryd.func25, Tryd.ntmps25
    go_wp2_with fail
    refine (CA.out ()).mono ?_
    rintro e w' ⟨rfl, rfl⟩
    go_wp2_with fail
    refine (CB.out ()).mono ?_
    rintro e w' ⟨rfl, rfl⟩
    go_wp2_with fail
    refine (L.out ()).mono ?_
    rintro e w2 ⟨v, rfl, o2, b2⟩
    rw [HL.out] at o2
    obtain ⟨a2, c2, rfl⟩ := own_shape o2
    obtain ⟨g2, rfl, hc⟩ := own_cell (k := l) o2 (by omega)
    have CT2 := CT.out
    rw [HL.out, Nat.add_sub_cancel] at CT2
    rw [CT2] at hc
    obtain ⟨d0, di, dj, h2⟩ := P.out w2 b2
    have P2 : Hid (∀ _ : Unit, _) := fun _ => PR.out w2 h2
    have B2 : Hid (Below w'.heap.size w' w2) := b2
    clear o2 b2 h2 CT2
    go_wp2_with fail
    refine (P2.out ()).mono ?_
    rintro e w3 ⟨rfl, b3⟩
    have B3 : Hid (Below w'.heap.size w' w3) := B2.out.trans (b3.mono B2.out.size)
    obtain ⟨d30, d3i, d3j, h3⟩ := P.out w3 B3.out
    have H3 : Hid (RR w3 s n m K) := h3
    have U3 : Hid (∀ _ : Unit, _) := fun _ => PU.out w3 h3
    clear b3 h3 d0 di dj hc
    go_wp2_with fail
    refine (U3.out ()).mono ?_
    rintro e w4 ⟨rfl, q4, f4⟩
    have R4 := ST.out w3 w4 H3.out q4 f4
    clear q4 f4 d30 d3i d3j
    go_wp2
    go_ret2
    exact ⟨rfl, R4.1, fr_below B3.out R4.2 rfl⟩
end Go.Proofs.YtpmjojemcpgpiaaDoor
