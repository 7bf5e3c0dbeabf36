/- What cores keep, as lists: plain facts; no program in it. -/
import Derived.Test.YtibajjidigmkhaaOg
import Derived.Test.YtibajjidigmkhaaHw
namespace Go.Proofs.Ytibajjidigmkhaa.Hm
open Om

def ks (K : List (List Int)) (i : Nat) : List Int := K.getD i []
def isc (n : Nat) (c : Int) : Bool := decide (0 ≤ c ∧ c < n)
def kp (K : List (List Int)) (x : Int) : Bool := K.any fun l => decide (x ∈ l)
def hs (m : Nat) (A : List Nat) (K : List (List Int)) (x : Int) : Bool := ou m A x && !kp K x
/-- One object more, as far as the pool has one. -/
def f1 (m : Nat) (s : List Nat × List Int) : List Nat × List Int := if tkE m s.1 = 0 then (tkA m s.1, s.2 ++ [tkN m s.1]) else s
def fk (m : Nat) (s : List Nat × List Int) : Nat → List Nat × List Int
  | 0 => s
  | k + 1 => f1 m (fk m s k)
def al (m : Nat) (A : List Nat) (l : List Int) : List Nat × List Int := if l = [] then fk m (A, l) 2 else (A, l)
def alE (m n : Nat) (A : List Nat) (K : List (List Int)) (c : Int) : Int := if isc n c = true then if (al m A (ks K c.toNat)).2 = [] then 5 else 0 else 3
def alN (m n : Nat) (A : List Nat) (K : List (List Int)) (c : Int) : Int := if isc n c = true then (al m A (ks K c.toNat)).2.getLastD 0 else 0
def alA (m n : Nat) (A : List Nat) (K : List (List Int)) (c : Int) : List Nat := if isc n c = true then (al m A (ks K c.toNat)).1 else A
def alK (m n : Nat) (A : List Nat) (K : List (List Int)) (c : Int) : List (List Int) := if isc n c = true then K.set c.toNat (al m A (ks K c.toNat)).2.dropLast else K
/-- Back to the pool, one behind the other. -/
def gvs (m : Nat) (A : List Nat) (xs : List Int) : List Nat := xs.foldl (gvA m) A
def gs (m : Nat) (A : List Nat) (l : List Int) : List Nat × List Int := if l.length = 4 then (gvs m A (l.take 2), l.drop 2) else (A, l)
def giE (m n : Nat) (A : List Nat) (K : List (List Int)) (c x : Int) : Int := if isc n c = true then if hs m A K x = true then 0 else 4 else 3
def giA (m n : Nat) (A : List Nat) (K : List (List Int)) (c x : Int) : List Nat := if isc n c = true then if hs m A K x = true then (gs m A (ks K c.toNat)).1 else A else A
def giK (m n : Nat) (A : List Nat) (K : List (List Int)) (c x : Int) : List (List Int) := if isc n c = true then if hs m A K x = true then K.set c.toNat ((gs m A (ks K c.toNat)).2 ++ [x]) else K else K
def drN (n : Nat) (K : List (List Int)) (c : Int) : Int := if isc n c = true then ((ks K c.toNat).length : Int) else 0
def drE (n : Nat) (c : Int) : Int := if isc n c = true then 0 else 3
def drA (m n : Nat) (A : List Nat) (K : List (List Int)) (c : Int) : List Nat := if isc n c = true then gvs m A (ks K c.toNat) else A
def drK (n : Nat) (K : List (List Int)) (c : Int) : List (List Int) := if isc n c = true then K.set c.toNat [] else K
/-- Those of the first k objects that are handed out. -/
def ol (m : Nat) (A : List Nat) (K : List (List Int)) (k : Nat) : List Int := ((List.range k).map fun i : Nat => ((i : Int) + 1)).filter (hs m A K)

theorem isc_true {n : Nat} {c : Int} (h : isc n c = true) : 0 ≤ c ∧ c < n := of_decide_eq_true h
theorem isc_false {n : Nat} {c : Int} (h : isc n c = false) : c < 0 ∨ (n : Int) ≤ c := by
  have := of_decide_eq_false h
  omega
theorem kp_no {K : List (List Int)} {x : Int} (h : kp K x = false) (i : Nat) : x ∉ ks K i := by
  intro hm
  unfold ks at hm
  rw [List.getD_eq_getElem?_getD] at hm
  cases e : K[i]? with
  | none => rw [e] at hm; simp at hm
  | some l =>
    rw [e] at hm
    have : kp K x = true := List.any_eq_true.2 ⟨l, List.mem_of_getElem? e, by simpa using hm⟩
    rw [h] at this
    cases this
theorem kp_yes {K : List (List Int)} {x : Int} {i : Nat} (h : x ∈ ks K i) : kp K x = true := by
  cases e : kp K x with
  | true => rfl
  | false => exact absurd h (kp_no e i)
theorem kp_at {K : List (List Int)} {x : Int} (h : kp K x = true) : ∃ i, i < K.length ∧ x ∈ ks K i := by
  obtain ⟨l, hl, hx⟩ := List.any_eq_true.1 h
  obtain ⟨i, hi, e⟩ := List.mem_iff_getElem.1 hl
  refine ⟨i, hi, ?_⟩
  unfold ks
  rw [List.getD_eq_getElem?_getD, List.getElem?_eq_getElem hi, Option.getD_some, e]
  simpa using hx
theorem ks_set (K : List (List Int)) (c i : Nat) (l : List Int) (hc : c < K.length) : ks (K.set c l) i = if i = c then l else ks K i := getD_set' K c i l [] hc

theorem tkE_zero {m : Nat} {A : List Nat} (h : tkE m A = 0) : ∃ p, nx m A = some p := by
  unfold tkE at h
  cases e : nx m A with
  | some p => exact ⟨p, rfl⟩
  | none => rw [e] at h; simp at h

theorem ou_take {m : Nat} {A : List Nat} (h : Pg m A) (e : tkE m A = 0) (x : Int) : ou m (tkA m A) x = (decide (x = tkN m A) || ou m A x) := by
  obtain ⟨p, hp⟩ := tkE_zero e
  obtain ⟨hpm, hx⟩ := nx_some h hp
  have hl := lz_lt _ hx
  have n1 : tkN m A = ((8 * p + lz (A.getD p 0) + 1 : Nat) : Int) := by unfold tkN; rw [hp]; simp; omega
  have a1 : tkA m A = A.set p (sb (A.getD p 0) (lz (A.getD p 0)) true) := by unfold tkA; rw [hp]
  have b := bt_set h (8 * p + lz (A.getD p 0)) (by omega) true
  rw [show (8 * p + lz (A.getD p 0)) / 8 = p by omega, show (8 * p + lz (A.getD p 0)) % 8 = lz (A.getD p 0) by omega, ← a1] at b
  unfold ou
  by_cases r : 1 ≤ x ∧ x ≤ 8 * m
  · rw [decide_eq_true r, Bool.true_and, Bool.true_and, b]
    by_cases q : x = tkN m A
    · rw [if_pos (by omega), decide_eq_true q]
      rfl
    · rw [if_neg (by omega), decide_eq_false q]
      rfl
  · rw [decide_eq_false r]
    have : x ≠ tkN m A := by
      have := once_some h hp
      omega
    rw [decide_eq_false this]
    rfl
theorem ou_give {m : Nat} {A : List Nat} (h : Pg m A) (y x : Int) : ou m (gvA m A y) x = (decide (x ≠ y) && ou m A x) := by
  cases o : ou m A y with
  | false =>
    rw [show gvA m A y = A by unfold gvA; rw [o]; rfl]
    by_cases q : x = y
    · subst q
      rw [o]
      simp
    · rw [decide_eq_true q]
      rfl
  | true =>
    have hy : 1 ≤ y ∧ y ≤ 8 * m := by
      unfold ou at o
      rw [Bool.and_eq_true] at o
      exact of_decide_eq_true o.1
    have b := bt_set h (y - 1).toNat (by omega) false
    rw [show gvA m A y = A.set ((y - 1).toNat / 8) (sb (A.getD ((y - 1).toNat / 8) 0) ((y - 1).toNat % 8) false) by unfold gvA; rw [o]; rfl]
    unfold ou
    by_cases r : 1 ≤ x ∧ x ≤ 8 * m
    · rw [decide_eq_true r, Bool.true_and, Bool.true_and, b]
      by_cases q : x = y
      · subst q
        simp
      · rw [if_neg (by omega), decide_eq_true q]
        rfl
    · rw [decide_eq_false r]
      simp
theorem pg_gvs {m : Nat} : ∀ (xs : List Int) {A : List Nat}, Pg m A → Pg m (gvs m A xs)
  | [], _, h => h
  | x :: t, _, h => pg_gvs t (pg_give h x)
theorem ou_gvs {m : Nat} : ∀ (xs : List Int) {A : List Nat} (_ : Pg m A) (x : Int), ou m (gvs m A xs) x = (decide (x ∉ xs) && ou m A x)
  | [], A, h, x => by simp [gvs]
  | y :: t, A, h, x => by
    show ou m (gvs m (gvA m A y) t) x = _
    rw [ou_gvs t (pg_give h y) x, ou_give h]
    by_cases q : x = y
    · simp [q]
    · by_cases r : x ∈ t <;> simp [q, r]
theorem gvs_snoc (m : Nat) (A : List Nat) (xs : List Int) (y : Int) : gvs m A (xs ++ [y]) = gvA m (gvs m A xs) y := by
  unfold gvs
  rw [List.foldl_append]
  rfl
theorem f1_pg {m : Nat} {s : List Nat × List Int} (h : Pg m s.1) : Pg m (f1 m s).1 := by
  unfold f1
  by_cases e : tkE m s.1 = 0
  · rw [if_pos e]; exact pg_take h
  · rw [if_neg e]; exact h

/-- Each object that is kept is taken in the pool, and kept once. -/
structure Kv (m : Nat) (A : List Nat) (K : List (List Int)) : Prop where
  pg : Pg m A
  kl : ∀ i, (ks K i).length ≤ 4
  nd : ∀ i, (ks K i).Nodup
  ap : ∀ i j x, i ≠ j → x ∈ ks K i → x ∉ ks K j
  ou : ∀ i x, x ∈ ks K i → ou m A x = true

theorem Kv.turn {m : Nat} {A A2 : List Nat} {K : List (List Int)} (h : Kv m A K) {c : Nat} (hc : c < K.length) {l : List Int} (pg : Pg m A2) (hl : l.length ≤ 4) (nd : l.Nodup)
    (ap : ∀ j x, j ≠ c → x ∈ l → x ∉ ks K j) (o1 : ∀ x ∈ l, Om.ou m A2 x = true) (o2 : ∀ j x, j ≠ c → x ∈ ks K j → Om.ou m A2 x = true) : Kv m A2 (K.set c l) := by
  refine ⟨pg, fun i => ?_, fun i => ?_, fun i j x hn hx => ?_, fun i x hx => ?_⟩
  · rw [ks_set K c i l hc]
    by_cases e : i = c
    · rw [if_pos e]; exact hl
    · rw [if_neg e]; exact h.kl i
  · rw [ks_set K c i l hc]
    by_cases e : i = c
    · rw [if_pos e]; exact nd
    · rw [if_neg e]; exact h.nd i
  · rw [ks_set K c i l hc] at hx
    rw [ks_set K c j l hc]
    by_cases e : i = c
    · rw [if_pos e] at hx
      rw [if_neg (by omega)]
      exact ap j x (by omega) hx
    · rw [if_neg e] at hx
      by_cases e2 : j = c
      · rw [if_pos e2]
        exact fun q => ap i x e q hx
      · rw [if_neg e2]
        exact h.ap i j x hn hx
  · rw [ks_set K c i l hc] at hx
    by_cases e : i = c
    · rw [if_pos e] at hx
      exact o1 x hx
    · rw [if_neg e] at hx
      exact o2 i x e hx

/-- What a core keeps behind a fetch. -/
structure Fk (m : Nat) (A : List Nat) (K : List (List Int)) (c : Nat) (s : List Nat × List Int) : Prop where
  pg : Pg m s.1
  nd : s.2.Nodup
  ap : ∀ j x, j ≠ c → x ∈ s.2 → x ∉ ks K j
  o1 : ∀ x ∈ s.2, Om.ou m s.1 x = true
  o2 : ∀ x, Om.ou m A x = true → Om.ou m s.1 x = true

theorem Fk.one {m : Nat} {A : List Nat} {K : List (List Int)} {c : Nat} {s : List Nat × List Int} (hK : Kv m A K) (h : Fk m A K c s) : Fk m A K c (f1 m s) := by
  unfold f1
  by_cases e : tkE m s.1 = 0
  · rw [if_pos e]
    obtain ⟨p, hp⟩ := tkE_zero e
    have o := (once_some h.pg hp).2.2.1
    have hou := ou_take h.pg e
    refine ⟨pg_take h.pg, ?_, fun j x hj hx => ?_, fun x hx => ?_, fun x hx => ?_⟩
    · rw [List.nodup_append]
      refine ⟨h.nd, by simp, fun a ha b hb => ?_⟩
      simp at hb
      subst hb
      intro q
      subst q
      rw [h.o1 _ ha] at o
      cases o
    · rcases List.mem_append.1 hx with q | q
      · exact h.ap j x hj q
      · simp at q
        subst q
        intro r
        rw [h.o2 _ (hK.ou j _ r)] at o
        cases o
    · show Om.ou m (tkA m s.1) x = true
      rw [hou]
      rcases List.mem_append.1 hx with q | q
      · rw [h.o1 x q]; simp
      · simp at q
        rw [decide_eq_true q]; rfl
    · show Om.ou m (tkA m s.1) x = true
      rw [hou, h.o2 x hx]
      simp
  · rw [if_neg e]
    exact h
theorem f1_len {m : Nat} {s : List Nat × List Int} : (f1 m s).2.length ≤ s.2.length + 1 := by
  unfold f1
  by_cases e : tkE m s.1 = 0
  · rw [if_pos e]; simp
  · rw [if_neg e]; omega
theorem Kv.fk0 {m : Nat} {A : List Nat} {K : List (List Int)} (h : Kv m A K) (c : Nat) : Fk m A K c (A, ks K c) :=
  ⟨h.pg, h.nd c, fun j x hj hx => h.ap c j x (fun q => hj q.symm) hx, fun x hx => h.ou c x hx, fun _ hx => hx⟩
theorem Kv.al {m : Nat} {A : List Nat} {K : List (List Int)} (h : Kv m A K) (c : Nat) : Fk m A K c (al m A (ks K c)) ∧ (al m A (ks K c)).2.length ≤ 4 := by
  unfold Hm.al
  have k0 := h.fk0 c
  by_cases e : ks K c = []
  · rw [if_pos e]
    refine ⟨((k0.one h).one h), ?_⟩
    show (f1 m (f1 m (A, ks K c))).2.length ≤ 4
    have h1 := f1_len (m := m) (s := f1 m (A, ks K c))
    have h2 := f1_len (m := m) (s := (A, ks K c))
    rw [e] at h1 h2 ⊢
    simp at h2
    omega
  · rw [if_neg e]
    exact ⟨k0, h.kl c⟩
theorem kv_alloc {m n : Nat} {A : List Nat} {K : List (List Int)} (h : Kv m A K) (hn : K.length = n) (c : Int) : Kv m (alA m n A K c) (alK m n A K c) := by
  unfold alA alK
  by_cases i : isc n c = true
  · rw [if_pos i, if_pos i]
    have := isc_true i
    obtain ⟨k, hl⟩ := h.al c.toNat
    have sub : ∀ x, x ∈ (al m A (ks K c.toNat)).2.dropLast → x ∈ (al m A (ks K c.toNat)).2 := fun x hx => List.dropLast_subset _ hx
    exact h.turn (by omega) k.pg (by simp; omega) (k.nd.sublist (List.dropLast_sublist _)) (fun j x hj hx => k.ap j x hj (sub x hx)) (fun x hx => k.o1 x (sub x hx)) (fun j x _ hx => k.o2 x (h.ou j x hx))
  · rw [if_neg i, if_neg i]
    exact h
theorem kv_give {m n : Nat} {A : List Nat} {K : List (List Int)} (h : Kv m A K) (hn : K.length = n) (c x : Int) : Kv m (giA m n A K c x) (giK m n A K c x) := by
  unfold giA giK
  by_cases i : isc n c = true
  · rw [if_pos i, if_pos i]
    by_cases q : hs m A K x = true
    · rw [if_pos q, if_pos q]
      have := isc_true i
      unfold hs at q
      rw [Bool.and_eq_true] at q
      obtain ⟨q1, q2⟩ := q
      have q3 : kp K x = false := by simpa using q2
      have nk := kp_no q3
      have h4 := h.kl c.toNat
      unfold gs
      by_cases f : (ks K c.toNat).length = 4
      · rw [if_pos f]
        have sub : ∀ y, y ∈ (ks K c.toNat).drop 2 → y ∈ ks K c.toNat := fun y hy => List.mem_of_mem_drop hy
        have tsub : ∀ y, y ∈ (ks K c.toNat).take 2 → y ∈ ks K c.toNat := fun y hy => List.mem_of_mem_take hy
        have dis : ∀ y, y ∈ (ks K c.toNat).drop 2 → y ∉ (ks K c.toNat).take 2 := fun y hy ht => by
          have nd := h.nd c.toNat
          rw [← List.take_append_drop 2 (ks K c.toNat), List.nodup_append] at nd
          exact nd.2.2 y ht y hy rfl
        refine h.turn (by omega) (pg_gvs _ h.pg) (by simp; omega) ?_ (fun j y hj hy => ?_) (fun y hy => ?_) (fun j y hj hy => ?_)
        · rw [List.nodup_append]
          refine ⟨(h.nd c.toNat).sublist (List.drop_sublist _ _), by simp, fun a ha b hb => ?_⟩
          simp at hb
          subst hb
          exact fun e => nk c.toNat (e ▸ sub a ha)
        · rcases List.mem_append.1 hy with r | r
          · exact h.ap c.toNat j y (fun e => hj e.symm) (sub y r)
          · simp at r
            subst r
            exact nk j
        · rw [ou_gvs _ h.pg]
          rcases List.mem_append.1 hy with r | r
          · rw [decide_eq_true (dis y r), h.ou _ y (sub y r)]; rfl
          · simp at r
            subst r
            rw [decide_eq_true (show ¬ y ∈ (ks K c.toNat).take 2 from fun e => nk c.toNat (tsub y e)), q1]; rfl
        · rw [ou_gvs _ h.pg, decide_eq_true (show ¬ y ∈ (ks K c.toNat).take 2 from fun e => h.ap c.toNat j y (fun e => hj e.symm) (tsub y e) hy), h.ou j y hy]; rfl
      · rw [if_neg f]
        refine h.turn (by omega) h.pg (by simp; omega) ?_ (fun j y hj hy => ?_) (fun y hy => ?_) (fun j y hj hy => h.ou j y hy)
        · rw [List.nodup_append]
          refine ⟨h.nd c.toNat, by simp, fun a ha b hb => ?_⟩
          simp at hb
          subst hb
          exact fun e => nk c.toNat (e ▸ ha)
        · rcases List.mem_append.1 hy with r | r
          · exact h.ap c.toNat j y (fun e => hj e.symm) r
          · simp at r
            subst r
            exact nk j
        · rcases List.mem_append.1 hy with r | r
          · exact h.ou _ y r
          · simp at r
            subst r
            exact q1
    · rw [if_neg q, if_neg q]
      exact h
  · rw [if_neg i, if_neg i]
    exact h
theorem kv_drain {m n : Nat} {A : List Nat} {K : List (List Int)} (h : Kv m A K) (hn : K.length = n) (c : Int) : Kv m (drA m n A K c) (drK n K c) := by
  unfold drA drK
  by_cases i : isc n c = true
  · rw [if_pos i, if_pos i]
    have := isc_true i
    refine h.turn (by omega) (pg_gvs _ h.pg) (by simp) List.nodup_nil (fun j y _ hy => by simp at hy) (fun y hy => by simp at hy) (fun j y hj hy => ?_)
    rw [ou_gvs _ h.pg, decide_eq_true (show ¬ y ∈ ks K c.toNat from fun e => h.ap c.toNat j y (fun e => hj e.symm) e hy), h.ou j y hy]; rfl
  · rw [if_neg i, if_neg i]
    exact h
theorem len_alK (m n : Nat) (A : List Nat) (K : List (List Int)) (c : Int) : (alK m n A K c).length = K.length := by
  unfold alK
  split <;> simp
theorem len_giK (m n : Nat) (A : List Nat) (K : List (List Int)) (c x : Int) : (giK m n A K c x).length = K.length := by
  unfold giK
  split
  · split <;> simp
  · rfl
theorem len_drK (n : Nat) (K : List (List Int)) (c : Int) : (drK n K c).length = K.length := by
  unfold drK
  split <;> simp
theorem kv_new (m n : Nat) (h : Pg m (List.replicate 12 0)) : Kv m (List.replicate 12 0) (List.replicate n []) := by
  have e : ∀ i, ks (List.replicate n []) i = [] := fun i => by
    unfold ks
    rw [List.getD_eq_getElem?_getD, List.getElem?_replicate]
    split <;> rfl
  exact ⟨h, fun i => by rw [e]; simp, fun i => by rw [e]; exact List.nodup_nil, fun i j x _ hx => by rw [e] at hx; simp at hx, fun i x hx => by rw [e] at hx; simp at hx⟩
theorem ol_succ (m : Nat) (A : List Nat) (K : List (List Int)) (k : Nat) : ol m A K (k + 1) = if hs m A K ((k : Int) + 1) = true then ol m A K k ++ [(k : Int) + 1] else ol m A K k := by
  unfold ol
  rw [List.range_succ, List.map_append, List.filter_append]
  by_cases e : hs m A K ((k : Int) + 1) = true
  · rw [if_pos e]; simp [e]
  · rw [if_neg e]; simp [e]
theorem ol_len (m : Nat) (A : List Nat) (K : List (List Int)) (k : Nat) : (ol m A K k).length ≤ k := by
  unfold ol
  have := List.length_filter_le (hs m A K) ((List.range k).map fun i : Nat => ((i : Int) + 1))
  simpa using this
/-- There are none beyond the last page. -/
theorem ol_all (m : Nat) (A : List Nat) (K : List (List Int)) (h : m ≤ 12) : ol m A K 96 = ol m A K (8 * m) := by
  have st : ∀ d, ol m A K (8 * m + d) = ol m A K (8 * m) := fun d => by
    induction d with
    | zero => rfl
    | succ d ih =>
      rw [← Nat.add_assoc, ol_succ, if_neg, ih]
      unfold hs ou
      rw [decide_eq_false (by omega)]
      simp
  rw [show 96 = 8 * m + (96 - 8 * m) by omega, st]
end Go.Proofs.Ytibajjidigmkhaa.Hm
