/- Pictures of a kernel as plain data: things as triples of numbers, how many have a key, the last of them; the rules. No program in it. -/
import Derived.Test.YtfdmcbcomknebaaGreatDoorXa
import Derived.Test.YtfdmcbcomknebaaGreatDoorXb
namespace Go.Proofs.YtfdmcbcomknebaaGreatDoor.Aud
open Go.ChangeShapes Go.WideShapes Go.ChangeAt Go.RowKit
open Mm

/-- A thread (its number, its core, its timer), or a thing (its number, its core, whom it wakes). -/
structure Tr where
  a : Int
  b : Int
  c : Int
def tz : Tr := ⟨0, 0, 0⟩
def tr : Lay Tr where
  n := 3
  f := fun x => [.int .i64 x.a, .int .i64 x.b, .int .i64 x.c]
  z := tz
  len := fun _ => rfl
  one := fun x u hu => by
    simp only [List.mem_cons, List.not_mem_nil, or_false] at hu
    rcases hu with rfl | rfl | rfl <;> rfl
  pos := by decide
def Ok1 (x : Tr) : Prop := (Lit.int .i64 x.a).wf = true ∧ (Lit.int .i64 x.b).wf = true ∧ (Lit.int .i64 x.c).wf = true
def Okl (L : List Tr) : Prop := ∀ x ∈ L, Ok1 x
theorem Okl.at {L : List Tr} (h : Okl L) {k : Nat} (hk : k < L.length) : Ok1 (L.getD k tz) := by
  rw [List.getD_eq_getElem?_getD, List.getElem?_eq_getElem hk]
  exact h _ (List.getElem_mem hk)
theorem trow_at {w : World} {a : Option Addr} {n cap : Nat} {Y : List Tr} (h : LRow tr w (.slice a n cap) Y) {k : Nat} (hk : k < Y.length) :
    ∃ b off, a = some ⟨b, off, none⟩ ∧ b < w.heap.size ∧ w.cell? ⟨b, off + k * 3, none⟩ = some (.int .i64 (Y.getD k tz).a) ∧ w.cell? ⟨b, off + k * 3 + 1, none⟩ = some (.int .i64 (Y.getD k tz).b) ∧ w.cell? ⟨b, off + k * 3 + 2, none⟩ = some (.int .i64 (Y.getD k tz).c) := by
  obtain ⟨b, off, e, hb, d⟩ := lrow_cell h hk
  exact ⟨b, off, e, hb, d 0 (by decide), d 1 (by decide), d 2 (by decide)⟩

section
variable {K : Type} [DecidableEq K]
/-- How many have a key; the last of them; how many keys there are. -/
def cn (κ : Tr → K) (L : List Tr) (k : K) : Nat := L.countP fun x => decide (κ x = k)
def la (κ : Tr → K) (L : List Tr) (k : K) : Tr := L.foldl (fun r x => if κ x = k then x else r) tz
def ds (κ : Tr → K) : List Tr → Nat
  | [] => 0
  | x :: L => (if cn κ L (κ x) = 0 then 1 else 0) + ds κ L
theorem cn_snoc (κ : Tr → K) (L : List Tr) (x : Tr) (k : K) : cn κ (L ++ [x]) k = cn κ L k + if κ x = k then 1 else 0 := by
  unfold cn
  rw [List.countP_append]
  congr 1
  by_cases e : κ x = k
  · rw [if_pos e, List.countP_cons_of_pos (by simpa using e)]; rfl
  · rw [if_neg e, List.countP_cons_of_neg (by simpa using e)]; rfl
theorem cn_cons (κ : Tr → K) (L : List Tr) (x : Tr) (k : K) : cn κ (x :: L) k = cn κ L k + if κ x = k then 1 else 0 := by
  unfold cn
  by_cases e : κ x = k
  · rw [if_pos e, List.countP_cons_of_pos (by simpa using e)]
  · rw [if_neg e, List.countP_cons_of_neg (by simpa using e)]; rfl
theorem la_snoc (κ : Tr → K) (L : List Tr) (x : Tr) (k : K) : la κ (L ++ [x]) k = if κ x = k then x else la κ L k := by
  unfold la
  rw [List.foldl_append]
  rfl
theorem cn_le (κ : Tr → K) (L : List Tr) (k : K) : cn κ L k ≤ L.length := List.countP_le_length
theorem ds_le (κ : Tr → K) (L : List Tr) : ds κ L ≤ L.length := by
  induction L with
  | nil => exact Nat.le_refl _
  | cons x r ih => unfold ds; rw [List.length_cons]; split <;> omega
theorem ds_snoc (κ : Tr → K) (L : List Tr) (x : Tr) : ds κ (L ++ [x]) = ds κ L + if cn κ L (κ x) = 0 then 1 else 0 := by
  induction L with
  | nil => rfl
  | cons y r ih =>
    rw [List.cons_append]
    unfold ds
    rw [ih, cn_snoc, cn_cons]
    by_cases e : κ x = κ y
    · rw [if_pos e.symm, if_pos e, e]
      by_cases z : cn κ r (κ y) = 0
      · simp [z, Nat.add_comm]
      · simp [z]
    · have e' : ¬ κ y = κ x := fun q => e q.symm
      rw [if_neg e, if_neg e', Nat.add_zero, Nat.add_zero]
      omega
theorem cn_zero (κ : Tr → K) (L : List Tr) (k : K) : cn κ L k = 0 ↔ ∀ x ∈ L, κ x ≠ k := by
  unfold cn
  rw [List.countP_eq_zero]
  simp
theorem cn_pos (κ : Tr → K) (L : List Tr) (k : K) : 0 < cn κ L k ↔ ∃ x ∈ L, κ x = k := by
  unfold cn
  rw [List.countP_pos_iff]
  simp
theorem la_none (κ : Tr → K) (L : List Tr) (k : K) (h : cn κ L k = 0) : la κ L k = tz := by
  have h := (cn_zero κ L k).1 h
  have aux : ∀ (M : List Tr) (r : Tr), (∀ x ∈ M, κ x ≠ k) → M.foldl (fun r x => if κ x = k then x else r) r = r := by
    intro M
    induction M with
    | nil => intro r _; rfl
    | cons x t ih =>
      intro r q
      rw [List.foldl_cons, if_neg (q x (by simp))]
      exact ih r fun y hy => q y (by simp [hy])
  exact aux L tz h
/-- As many keys as things: each key is there once. -/
theorem ds_all (κ : Tr → K) (L : List Tr) : ds κ L = L.length ↔ ∀ x ∈ L, cn κ L (κ x) = 1 := by
  induction L with
  | nil => simp [ds]
  | cons x r ih =>
    have l := ds_le κ r
    unfold ds
    rw [List.length_cons]
    constructor
    · intro h
      have z : cn κ r (κ x) = 0 := by
        by_cases z : cn κ r (κ x) = 0
        · exact z
        · rw [if_neg z] at h; omega
      rw [if_pos z] at h
      have q := ih.1 (by omega)
      intro y hy
      rw [cn_cons]
      rcases List.mem_cons.1 hy with rfl | hy
      · rw [if_pos rfl, z]
      · rw [if_neg (fun e => (cn_zero κ r (κ x)).1 z y hy e.symm), q y hy]
    · intro h
      have z : cn κ r (κ x) = 0 := by
        have := h x (by simp)
        rw [cn_cons, if_pos rfl] at this
        omega
      rw [if_pos z, ih.2 fun y hy => ?_]
      · omega
      · have := h y (by simp [hy])
        rw [cn_cons, if_neg (fun e => (cn_zero κ r (κ x)).1 z y hy e.symm)] at this
        exact this
/-- Where one thing alone has a key, the last one is that one. -/
theorem la_one (κ : Tr → K) (L : List Tr) (k : K) (h : cn κ L k = 1) {x : Tr} (hx : x ∈ L) (e : κ x = k) : la κ L k = x := by
  obtain ⟨A, B, rfl⟩ := List.append_of_mem hx
  have h2 : cn κ (A ++ x :: B) k = cn κ A k + (cn κ B k + 1) := by
    have := cn_cons κ B x k
    rw [if_pos e] at this
    unfold cn at *
    rw [List.countP_append, this]
  have hB : ∀ y ∈ B, κ y ≠ k := (cn_zero κ B k).1 (by omega)
  unfold la
  rw [List.foldl_append, List.foldl_cons, if_pos e]
  clear h h2 hx
  induction B with
  | nil => rfl
  | cons y r ih =>
    rw [List.foldl_cons, if_neg (hB y (by simp))]
    exact ih fun z hz => hB z (by simp [hz])
end
def K1 (x : Tr) : Int := x.a
def K2 (x : Tr) : Int × Int := (x.a, x.c)

/-- A picture. -/
structure Pic where
  cp : Int
  on : Nat
  ac : Nat
  pw : Nat
  th : List Tr
  qu : List Tr
  ti : List Tr
  ir : List Tr
  wo : List Tr
  ca : List Tr
  ke : List Tr
  bu : Bool
  up : Bool
  cc : Int
  by' : Int
def may (p : Pic) (c : Int) : Bool := tb p.ac c || (p.bu && (!p.up && decide (p.cc = c)))
def rl1 (p : Pic) : Bool := decide (p.ac ≠ 0) && (decide (nt p.ac p.on = 0) && (decide (nt p.on p.pw = 0) && decide (nt p.pw (up p.cp) = 0)))
def rl2a (p : Pic) (t : Tr) : Bool := if t.c = 0 then decide (cn K1 p.qu t.a = 1) && decide ((la K1 p.qu t.a).b = t.b) else decide (cn K1 p.qu t.a = 0)
def rl2b (p : Pic) (x : Tr) : Bool := decide (0 < cn K1 p.th x.a)
def rl2 (p : Pic) : Bool := p.th.all (rl2a p) && p.qu.all (rl2b p)
def rl3a (p : Pic) (t : Tr) : Bool := decide (t.c = 0) || (decide (cn K1 p.ti t.c = 1) && decide ((la K1 p.ti t.c).c = t.a))
def rl3b (p : Pic) (x : Tr) : Bool := decide (x.c ≤ 0) || decide (0 < cn K2 p.th (x.c, x.a))
def rl3 (p : Pic) : Bool := p.th.all (rl3a p) && p.ti.all (rl3b p)
def mays (p : Pic) (x : Tr) : Bool := may p x.b
def mayw (p : Pic) (x : Tr) : Bool := decide (x.b = -1) || may p x.b
def rl4 (p : Pic) : Bool := (p.qu.all (mays p) && (p.ti.all (mays p) && (p.ir.all (mays p) && (p.ca.all (mays p) && p.ke.all (mays p))))) && p.wo.all (mayw p)
def rl5 (p : Pic) : Bool := decide (p.pw = p.on) || (p.bu && (p.up && decide (p.pw = p.on ||| bv p.cc)))
def onc (L : List Tr) : Bool := decide (ds K1 L = L.length)
def rl6 (p : Pic) : Bool := onc p.ti && (onc p.ir && (onc p.wo && (onc p.ca && onc p.ke)))
def rl7 (p : Pic) : Bool := !p.bu || (decide (p.cc ≠ p.by') && (tb p.ac p.by' && (tb (up p.cp) p.cc && (tb p.on p.cc != p.up))))
def rule (p : Pic) (n : Int) : Bool := if n = 1 then rl1 p else if n = 2 then rl2 p else if n = 3 then rl3 p else if n = 4 then rl4 p else if n = 5 then rl5 p else if n = 6 then rl6 p else if n = 7 then rl7 p else false
/-- The first rule from k on that does not hold, of so many that are left. -/
def chk (p : Pic) (k : Int) : Nat → Int
  | 0 => 0
  | f + 1 => if rule p k = true then chk p (k + 1) f else k

/-- As the document says these rules. -/
def c2 (L : List Tr) (i c : Int) : Nat := L.countP fun x => decide (x.a = i ∧ x.b = c)
theorem c2_snoc (L : List Tr) (x : Tr) (i c : Int) : c2 (L ++ [x]) i c = c2 L i c + if x.a = i ∧ x.b = c then 1 else 0 := by
  unfold c2
  rw [List.countP_append]
  congr 1
  by_cases e : x.a = i ∧ x.b = c
  · rw [if_pos e, List.countP_cons_of_pos (by simpa using e)]; rfl
  · rw [if_neg e, List.countP_cons_of_neg (by simpa using e)]; rfl
theorem c2_le (L : List Tr) (i c : Int) : c2 L i c ≤ L.length := List.countP_le_length
theorem c2_one (L : List Tr) (i c : Int) (h : cn K1 L i = 1) : c2 L i c = 1 ↔ (la K1 L i).b = c := by
  obtain ⟨x, hx, e⟩ := (cn_pos K1 L i).1 (by omega)
  have l := la_one K1 L i h hx e
  rw [l]
  have le : c2 L i c ≤ cn K1 L i := by
    unfold c2 cn
    refine List.countP_mono_left fun y _ q => ?_
    simp only [decide_eq_true_eq] at q ⊢
    exact q.1
  constructor
  · intro q
    have : 0 < c2 L i c := by omega
    unfold c2 at this
    obtain ⟨y, hy, ey⟩ := List.countP_pos_iff.1 this
    simp only [decide_eq_true_eq] at ey
    rw [← l, la_one K1 L i h hy ey.1]
    exact ey.2
  · intro q
    have : 0 < c2 L i c := by
      unfold c2
      exact List.countP_pos_iff.2 ⟨x, hx, by simpa using ⟨e, q⟩⟩
    omega
def rd2a (p : Pic) (t : Tr) : Bool := if t.c = 0 then decide (cn K1 p.qu t.a = 1 ∧ c2 p.qu t.a t.b = 1) else decide (cn K1 p.qu t.a = 0)
theorem rd2_eq (p : Pic) (t : Tr) : rd2a p t = rl2a p t := by
  unfold rd2a rl2a
  split
  · by_cases h : cn K1 p.qu t.a = 1
    · have := c2_one p.qu t.a t.b h
      by_cases q : (la K1 p.qu t.a).b = t.b
      · simp [h, q, this.2 q]
      · have hn : ¬ c2 p.qu t.a t.b = 1 := fun e => q (this.1 e)
        simp [h, q, hn]
    · simp [h]
  · rfl
def oth (L : List Tr) (i y : Int) : Bool := L.all fun x => decide (x.a = i → x.c = y)
def rd3a (p : Pic) (t : Tr) : Bool := decide (t.c = 0) || (decide (cn K1 p.ti t.c = 1) && oth p.ti t.c t.a)
theorem rd3a_eq (p : Pic) (t : Tr) : rd3a p t = rl3a p t := by
  unfold rd3a rl3a
  congr 1
  by_cases h : cn K1 p.ti t.c = 1
  · obtain ⟨x, hx, e⟩ := (cn_pos K1 p.ti t.c).1 (by omega)
    have l := la_one K1 p.ti t.c h hx e
    simp only [h, decide_true, Bool.true_and]
    rw [l]
    unfold oth
    apply Bool.eq_iff_iff.2
    rw [List.all_eq_true, decide_eq_true_eq]
    constructor
    · intro q
      have := q x hx
      simp only [decide_eq_true_eq] at this
      exact this e
    · intro q y hy
      simp only [decide_eq_true_eq]
      intro ey
      rw [← la_one K1 p.ti t.c h hy ey, l]
      exact q
  · simp [h]
def onc2 (L : List Tr) : Bool := L.all fun x => decide (cn K1 L x.a = 1)
theorem onc_eq (L : List Tr) : onc2 L = onc L := by
  unfold onc2 onc
  apply Bool.eq_iff_iff.2
  rw [List.all_eq_true, decide_eq_true_eq, ds_all]
  simp only [decide_eq_true_eq]
  exact Iff.rfl
end Go.Proofs.YtfdmcbcomknebaaGreatDoor.Aud
