/- Records as lines: a record's line, and that each line is of one record alone: as the program reads it, and as the document does. Of no program. -/
import Derived.Test.YtnmbacegcbjfaaaDoorWd0
namespace Go.Proofs.YtnmbacegcbjfaaaDoor.Sv
open Go Go.Lib
open Wd

/-- The words of the kinds. -/
def nmr : List (List UInt8) := [[], [114, 101, 116], [114, 117, 110], [102, 105, 114, 101], [104, 97, 110, 100, 108, 101], [119, 111, 114, 107], [99, 97, 108, 108], [104, 111, 116]]
def nrk (k : Nat) : List UInt8 := nmr.getD k []
def krOf (s : List UInt8) : Nat := (nmr.findIdx? (· == s)).getD 0
theorem krOf_nm : ∀ k : Fin 8, krOf (nrk k.val) = k.val := by decide +kernel
theorem krOf_some {s : List UInt8} (h : krOf s ≠ 0) : krOf s < 8 ∧ nrk (krOf s) = s := by
  unfold krOf at h ⊢
  cases hf : nmr.findIdx? (· == s) with
  | none => rw [hf] at h; exact absurd rfl h
  | some k =>
    rw [hf] at h
    obtain ⟨h1, h2, _⟩ := List.findIdx?_eq_some_iff_getElem.1 hf
    simp only [Option.getD_some]
    refine ⟨by simpa [nmr] using h1, ?_⟩
    unfold nrk
    rw [List.getD_eq_getElem?_getD, List.getElem?_eq_getElem h1, Option.getD_some]
    exact beq_iff_eq.1 h2
theorem nr_no : ∀ k : Fin 8, (32 : UInt8) ∉ nrk k.val ∧ (10 : UInt8) ∉ nrk k.val ∧ (nrk k.val).length ≤ 6 ∧ (k.val ≠ 0 → nrk k.val ≠ []) := by decide +kernel

/-- A record. -/
structure R where
  k : Int
  c : Int
  i : Int
  n : Int
  y : Int
  deriving DecidableEq
structure R.wf (r : R) : Prop where
  k : inR r.k
  c : inR r.c
  i : inR r.i
  n : inR r.n
  y : inR r.y
def isR (k : Int) : Prop := 1 ≤ k ∧ k ≤ 7
instance (k : Int) : Decidable (isR k) := inferInstanceAs (Decidable (_ ∧ _))
theorem z_in : inR 0 := by unfold inR; omega

/-- A field of a line. -/
def fw (l : UInt8) (n : Int) : List UInt8 := if n = 0 then [] else 32 :: l :: itoa n
def tl (r : R) : List UInt8 := fw 99 r.c ++ (fw 105 r.i ++ (fw 110 r.n ++ fw 101 r.y))
def rl (r : R) : List UInt8 := if isR r.k then nrk r.k.toNat ++ tl r else []
theorem fw_len (l : UInt8) (n : Int) (h : inR n) : (fw l n).length ≤ 23 := by
  unfold fw
  split
  · simp
  · have := itoa_length_le n h.1 h.2
    simp only [List.length_cons]
    omega
theorem nrk_len (k : Nat) : (nrk k).length ≤ 6 := by
  by_cases h : k < 8
  · exact (nr_no ⟨k, h⟩).2.2.1
  · unfold nrk
    rw [List.getD_eq_getElem?_getD, List.getElem?_eq_none (by simp [nmr]; omega)]
    simp
theorem tl_len (r : R) (h : r.wf) : (tl r).length ≤ 92 := by
  have h1 := fw_len 99 r.c h.c
  have h2 := fw_len 105 r.i h.i
  have h3 := fw_len 110 r.n h.n
  have h4 := fw_len 101 r.y h.y
  unfold tl
  simp only [List.length_append]
  omega
theorem rl_len (r : R) (h : r.wf) : (rl r).length ≤ 98 := by
  unfold rl
  split
  · have h1 := nrk_len r.k.toNat
    have h2 := tl_len r h
    simp only [List.length_append]
    omega
  · simp
theorem rl_no {r : R} (h : ¬ isR r.k) : rl r = [] := if_neg h
theorem rl_yes {r : R} (h : isR r.k) : rl r = nrk r.k.toNat ++ tl r := if_pos h
theorem nrk_pos {k : Int} (h : isR k) : k.toNat < 8 ∧ k.toNat ≠ 0 := by unfold isR at h; omega
theorem rl_ne {r : R} (h : isR r.k) : rl r ≠ [] := by
  rw [rl_yes h]
  intro e
  have h1 := nrk_pos h
  exact (nr_no ⟨_, h1.1⟩).2.2.2 h1.2 (List.append_eq_nil_iff.1 e).1

/-- One field of a record. -/
def stR (r : R) (l : UInt8) (v : Int) : R := if l = 99 then { r with c := v } else if l = 105 then { r with i := v } else if l = 110 then { r with n := v } else { r with y := v }
def isF (l : UInt8) : Prop := l = 99 ∨ l = 105 ∨ l = 110 ∨ l = 101
instance (l : UInt8) : Decidable (isF l) := inferInstanceAs (Decidable (_ ∨ _))
theorem stR_wf {r : R} (h : r.wf) (l : UInt8) {v : Int} (hv : inR v) : (stR r l v).wf := by
  unfold stR
  split
  · exact ⟨h.k, hv, h.i, h.n, h.y⟩
  · split
    · exact ⟨h.k, h.c, hv, h.n, h.y⟩
    · split
      · exact ⟨h.k, h.c, h.i, hv, h.y⟩
      · exact ⟨h.k, h.c, h.i, h.n, hv⟩
theorem stR_k (r : R) (l : UInt8) (v : Int) : (stR r l v).k = r.k := by
  unfold stR
  split
  · rfl
  · split
    · rfl
    · split <;> rfl

/-! As the program reads it. -/
def pI (d : List UInt8) : Option Int := match parseIntB 64 d with
  | .ok v => some v
  | _ => none
def putR (r : R) : List UInt8 → Option R
  | [] => none
  | l :: d => if isF l then (pI d).map (stR r l) else none
def rdf : R → List (List UInt8) → Option R
  | r, [] => some r
  | r, w :: ws => (putR r w).bind fun r' => rdf r' ws
def rd (s : List UInt8) : Option R := match parts 32 s with
  | [] => none
  | w :: ws => if krOf w = 0 then none else rdf ⟨(krOf w : Nat), 0, 0, 0, 0⟩ ws
def bkp (s : List UInt8) : Option R := (rd s).bind fun r => if rl r = s then some r else none

theorem pI_in {d : List UInt8} {v : Int} (h : pI d = some v) : inR v := by
  unfold pI at h
  cases hp : parseIntB 64 d with
  | ok u =>
    rw [hp] at h
    have := readNum_in d
    unfold readNum at this
    rw [hp] at this
    rw [← Option.some.inj h]
    exact this
  | «syntax» => rw [hp] at h; cases h
  | range => rw [hp] at h; cases h
theorem pI_itoa {v : Int} (h : inR v) : pI (itoa v) = some v := by
  unfold pI
  rw [parse_itoa v h]
theorem putR_wf {r r' : R} {w : List UInt8} (h : r.wf) (e : putR r w = some r') : r'.wf ∧ r'.k = r.k := by
  cases w with
  | nil => cases e
  | cons l d =>
    rw [putR] at e
    by_cases hl : isF l
    · rw [if_pos hl] at e
      cases hp : pI d with
      | none => rw [hp] at e; cases e
      | some v =>
        rw [hp] at e
        have := Option.some.inj e
        rw [← this]
        exact ⟨stR_wf h l (pI_in hp), stR_k r l v⟩
    · rw [if_neg hl] at e
      cases e
theorem rdf_wf : ∀ (ws : List (List UInt8)) (r r' : R), r.wf → rdf r ws = some r' → r'.wf ∧ r'.k = r.k
  | [], r, r', h, e => by
    have := Option.some.inj e
    rw [← this]
    exact ⟨h, rfl⟩
  | w :: ws, r, r', h, e => by
    unfold rdf at e
    cases hp : putR r w with
    | none => rw [hp] at e; cases e
    | some q =>
      rw [hp] at e
      obtain ⟨h1, h2⟩ := putR_wf h hp
      obtain ⟨h3, h4⟩ := rdf_wf ws q r' h1 e
      exact ⟨h3, h4.trans h2⟩
theorem rdf_app : ∀ (a b : List (List UInt8)) (r : R), rdf r (a ++ b) = (rdf r a).bind fun r' => rdf r' b
  | [], b, r => rfl
  | w :: a, b, r => by
    rw [List.cons_append, rdf, rdf]
    cases hp : putR r w with
    | none => rfl
    | some q => exact rdf_app a b q
theorem rd_wf {s : List UInt8} {r : R} (h : rd s = some r) : r.wf ∧ isR r.k := by
  unfold rd at h
  cases hp : parts 32 s with
  | nil => rw [hp] at h; cases h
  | cons w ws =>
    rw [hp] at h
    simp only at h
    split at h
    · cases h
    · rename_i h0
      have h8 := (krOf_some h0).1
      obtain ⟨h1, h2⟩ := rdf_wf ws _ r ⟨by unfold inR; simp only; omega, z_in, z_in, z_in, z_in⟩ h
      refine ⟨h1, ?_⟩
      rw [h2]
      unfold isR
      simp only
      omega

/-- The words of the fields that are not 0. -/
def fv (l : UInt8) (n : Int) : List (List UInt8) := if n = 0 then [] else [l :: itoa n]
def fvs (r : R) : List (List UInt8) := fv 99 r.c ++ (fv 105 r.i ++ (fv 110 r.n ++ fv 101 r.y))
theorem jt_app (a b : List (List UInt8)) : joinTail [32] (a ++ b) = joinTail [32] a ++ joinTail [32] b := by
  induction a with
  | nil => rfl
  | cons x a ih => simp [joinTail]
theorem jt_fv (l : UInt8) (n : Int) : joinTail [32] (fv l n) = fw l n := by
  unfold fv fw
  split
  · rfl
  · simp [joinTail]
theorem jt_fvs (r : R) : joinTail [32] (fvs r) = tl r := by
  unfold fvs tl
  rw [jt_app, jt_app, jt_app, jt_fv, jt_fv, jt_fv, jt_fv]
theorem itoa_no32 (n : Int) : (32 : UInt8) ∉ itoa n := by
  intro m
  rcases itoa_mem n 32 m with e | e
  · simp at e
  · simp at e
theorem fv_no (l : UInt8) (hl : isF l) (n : Int) : ∀ w ∈ fv l n, (32 : UInt8) ∉ w := by
  intro w hw
  unfold fv at hw
  split at hw
  · simp at hw
  · rw [List.mem_singleton.1 hw]
    intro m
    rcases List.mem_cons.1 m with e | e
    · rcases hl with rfl | rfl | rfl | rfl <;> simp at e
    · exact itoa_no32 n e
theorem fvs_no (r : R) : ∀ w ∈ fvs r, (32 : UInt8) ∉ w := by
  intro w hw
  unfold fvs at hw
  rcases List.mem_append.1 hw with h | h
  · exact fv_no _ (Or.inl rfl) _ w h
  · rcases List.mem_append.1 h with h | h
    · exact fv_no _ (Or.inr (Or.inl rfl)) _ w h
    · rcases List.mem_append.1 h with h | h
      · exact fv_no _ (Or.inr (Or.inr (Or.inl rfl))) _ w h
      · exact fv_no _ (Or.inr (Or.inr (Or.inr rfl))) _ w h
theorem rl_parts {r : R} (h : isR r.k) : parts 32 (rl r) = nrk r.k.toNat :: fvs r := by
  have e : rl r = join (nrk r.k.toNat :: fvs r) [32] := by rw [rl_yes h, join_cons, jt_fvs]
  rw [e]
  refine parts_join 32 _ (by simp) ?_
  intro w hw
  rcases List.mem_cons.1 hw with rfl | hw
  · exact (nr_no ⟨_, (nrk_pos h).1⟩).1
  · exact fvs_no r w hw
theorem rdf_fv (r : R) (l : UInt8) (hl : isF l) (n : Int) (hn : inR n) : rdf r (fv l n) = some (if n = 0 then r else stR r l n) := by
  unfold fv
  split
  · rfl
  · simp only [rdf, putR]
    rw [if_pos hl, pI_itoa hn]
    rfl
theorem rdf_fvs {r : R} (h : r.wf) : rdf ⟨r.k, 0, 0, 0, 0⟩ (fvs r) = some r := by
  unfold fvs
  rw [rdf_app, rdf_fv _ _ (Or.inl rfl) _ h.c, Option.bind_some, rdf_app, rdf_fv _ _ (Or.inr (Or.inl rfl)) _ h.i, Option.bind_some, rdf_app, rdf_fv _ _ (Or.inr (Or.inr (Or.inl rfl))) _ h.n, Option.bind_some, rdf_fv _ _ (Or.inr (Or.inr (Or.inr rfl))) _ h.y]
  obtain ⟨k, c, i, n, y⟩ := r
  simp only
  by_cases hc : c = 0 <;> by_cases hi : i = 0 <;> by_cases hn : n = 0 <;> by_cases hy : y = 0 <;> simp [hc, hi, hn, hy, stR]
theorem rd_rl {r : R} (h : r.wf) (hk : isR r.k) : rd (rl r) = some r := by
  unfold rd
  rw [rl_parts hk]
  simp only
  have h1 := nrk_pos hk
  have h2 := krOf_nm ⟨_, h1.1⟩
  simp only at h2
  rw [h2, if_neg h1.2]
  have e : ((r.k.toNat : Nat) : Int) = r.k := by unfold isR at hk; omega
  rw [e]
  exact rdf_fvs h
theorem bkp_iff (s : List UInt8) (r : R) : bkp s = some r ↔ r.wf ∧ isR r.k ∧ rl r = s := by
  unfold bkp
  constructor
  · intro h
    cases hr : rd s with
    | none => rw [hr] at h; cases h
    | some q =>
      rw [hr] at h
      simp only [Option.bind_some] at h
      split at h
      · rename_i hq
        have := Option.some.inj h
        subst this
        obtain ⟨h1, h2⟩ := rd_wf hr
        exact ⟨h1, h2, hq⟩
      · cases h
  · rintro ⟨h1, h2, rfl⟩
    rw [rd_rl h1 h2, Option.bind_some, if_pos rfl]

/-! As the document reads it. -/
def wsp (s : List UInt8) : List UInt8 × List UInt8 := (s.takeWhile (· ≠ 32), (s.dropWhile (· ≠ 32)).drop 1)
theorem wsp_cut (w r : List UInt8) (h : (32 : UInt8) ∉ w) : wsp (w ++ 32 :: r) = (w, r) := by
  unfold wsp
  have h1 : ∀ x ∈ w, (decide (x ≠ 32)) = true := fun x hx => by simp; rintro rfl; exact h hx
  rw [List.takeWhile_append_of_pos h1, List.dropWhile_append_of_pos h1]
  simp
theorem wsp_plain (w : List UInt8) (h : (32 : UInt8) ∉ w) : wsp w = (w, []) := by
  unfold wsp
  have h1 : ∀ x ∈ w, (decide (x ≠ 32)) = true := fun x hx => by simp; rintro rfl; exact h hx
  have e1 : w.takeWhile (fun x => decide (x ≠ 32)) = w := by
    have := List.takeWhile_append_of_pos (l₂ := []) h1
    simpa using this
  have e2 : w.dropWhile (fun x => decide (x ≠ 32)) = [] := by
    have := List.dropWhile_append_of_pos (l₂ := []) h1
    simpa using this
  rw [e1, e2]
  rfl
def putD (r : R) : List UInt8 → Option R
  | [] => none
  | l :: d => (numOf d).bind fun v => if isF l then some (stR r l v) else none
def rdd : Nat → List UInt8 → R → Option R
  | 0, _, r => some r
  | n + 1, s, r => if s = [] then some r else (putD r (wsp s).1).bind fun r' => rdd n (wsp s).2 r'
theorem rdd_nil (n : Nat) (r : R) : rdd n [] r = some r := by
  cases n <;> rfl
def bkd (s : List UInt8) : Option R := if 200 < s.length then none else (rdd 5 (wsp s).2 ⟨(krOf (wsp s).1 : Nat), 0, 0, 0, 0⟩).bind fun r => if r.k ≠ 0 ∧ rl r = s then some r else none
theorem putD_wf {r r' : R} {w : List UInt8} (h : r.wf) (e : putD r w = some r') : r'.wf ∧ r'.k = r.k := by
  cases w with
  | nil => cases e
  | cons l d =>
    rw [putD] at e
    cases hp : numOf d with
    | none => rw [hp] at e; cases e
    | some v =>
      rw [hp] at e
      simp only [Option.bind_some] at e
      split at e
      · have := Option.some.inj e
        rw [← this]
        exact ⟨stR_wf h l ((numOf_iff _ _).1 hp).1, stR_k r l v⟩
      · cases e
theorem rdd_wf : ∀ (n : Nat) (s : List UInt8) (r r' : R), r.wf → rdd n s r = some r' → r'.wf ∧ r'.k = r.k
  | 0, s, r, r', h, e => by
    have := Option.some.inj e
    rw [← this]
    exact ⟨h, rfl⟩
  | n + 1, s, r, r', h, e => by
    unfold rdd at e
    split at e
    · have := Option.some.inj e
      rw [← this]
      exact ⟨h, rfl⟩
    · cases hp : putD r (wsp s).1 with
      | none => rw [hp] at e; cases e
      | some q =>
        rw [hp] at e
        obtain ⟨h1, h2⟩ := putD_wf h hp
        obtain ⟨h3, h4⟩ := rdd_wf n _ q r' h1 e
        exact ⟨h3, h4.trans h2⟩
theorem krOf_lt (s : List UInt8) : krOf s < 8 := by
  by_cases h : krOf s = 0
  · omega
  · exact (krOf_some h).1
/-- What stands behind a word: each of these words. -/
def un (ws : List (List UInt8)) : List UInt8 := (joinTail [32] ws).drop 1
theorem un_one (w : List UInt8) (h : (32 : UInt8) ∉ w) : wsp (un [w]) = (w, un []) := by
  have : un [w] = w := by simp [un, joinTail]
  rw [this, wsp_plain w h]
  rfl
theorem un_cons (w v : List UInt8) (ws : List (List UInt8)) (h : (32 : UInt8) ∉ w) : wsp (un (w :: v :: ws)) = (w, un (v :: ws)) := by
  have e1 : un (w :: v :: ws) = w ++ 32 :: un (v :: ws) := by simp [un, joinTail]
  rw [e1, wsp_cut _ _ h]
theorem un_wsp (w : List UInt8) (ws : List (List UInt8)) (h : (32 : UInt8) ∉ w) : wsp (un (w :: ws)) = (w, un ws) := by
  cases ws with
  | nil => exact un_one w h
  | cons v ws => exact un_cons w v ws h
/-- A word of a field. -/
structure FW (w : List UInt8) (l : UInt8) (v : Int) : Prop where
  is : w = l :: itoa v
  fl : isF l
  inr : inR v
theorem un_ne {w : List UInt8} {l : UInt8} {v : Int} (h : FW w l v) (ws : List (List UInt8)) : un (w :: ws) ≠ [] := by
  rw [h.is]
  simp [un, joinTail]
theorem FW.no {w : List UInt8} {l : UInt8} {v : Int} (h : FW w l v) : (32 : UInt8) ∉ w := by
  rw [h.is]
  intro m
  rcases List.mem_cons.1 m with e | e
  · rcases h.fl with rfl | rfl | rfl | rfl <;> simp at e
  · exact itoa_no32 v e
theorem rdd_word {w : List UInt8} {l : UInt8} {v : Int} (h : FW w l v) (ws : List (List UInt8)) (n : Nat) (r : R) : rdd (n + 1) (un (w :: ws)) r = rdd n (un ws) (stR r l v) := by
  rw [rdd, if_neg (un_ne h ws), un_wsp w ws h.no]
  simp only
  rw [h.is, putD, (numOf_iff _ _).2 ⟨h.inr, rfl⟩]
  simp [h.fl]
theorem rdd_rdf : ∀ (ws : List (List UInt8)) (n : Nat) (r : R), (∀ w ∈ ws, ∃ l v, FW w l v) → ws.length ≤ n → rdd n (un ws) r = rdf r ws
  | [], n, r, _, _ => rdd_nil n r
  | w :: ws, 0, r, _, h => by simp at h
  | w :: ws, n + 1, r, hw, h => by
    obtain ⟨l, v, f⟩ := hw w (by simp)
    have e : putR r w = some (stR r l v) := by rw [f.is, putR, if_pos f.fl, pI_itoa f.inr]; rfl
    rw [rdd_word f, rdd_rdf ws n _ (fun x hx => hw x (by simp [hx])) (by simpa using h), rdf, e]
    rfl
theorem fv_fw (l : UInt8) (hl : isF l) (v : Int) (hv : inR v) : ∀ w ∈ fv l v, ∃ l v, FW w l v := by
  intro w hw
  unfold fv at hw
  split at hw
  · simp at hw
  · rw [List.mem_singleton.1 hw]
    exact ⟨l, v, rfl, hl, hv⟩
theorem fv_len (l : UInt8) (v : Int) : (fv l v).length ≤ 1 := by
  unfold fv
  split <;> simp
theorem rdd_fvs {r : R} (h : r.wf) : rdd 5 (un (fvs r)) ⟨r.k, 0, 0, 0, 0⟩ = some r := by
  rw [rdd_rdf, rdf_fvs h]
  · intro w hw
    unfold fvs at hw
    rcases List.mem_append.1 hw with q | q
    · exact fv_fw _ (Or.inl rfl) _ h.c w q
    · rcases List.mem_append.1 q with q | q
      · exact fv_fw _ (Or.inr (Or.inl rfl)) _ h.i w q
      · rcases List.mem_append.1 q with q | q
        · exact fv_fw _ (Or.inr (Or.inr (Or.inl rfl))) _ h.n w q
        · exact fv_fw _ (Or.inr (Or.inr (Or.inr rfl))) _ h.y w q
  · have h1 := fv_len 99 r.c
    have h2 := fv_len 105 r.i
    have h3 := fv_len 110 r.n
    have h4 := fv_len 101 r.y
    unfold fvs
    simp only [List.length_append]
    omega
theorem wsp_rl {r : R} (h : isR r.k) : wsp (rl r) = (nrk r.k.toNat, un (fvs r)) := by
  rw [rl_yes h, ← jt_fvs]
  have hn := (nr_no ⟨_, (nrk_pos h).1⟩).1
  simp only at hn
  cases hf : fvs r with
  | nil =>
    have : joinTail [32] ([] : List (List UInt8)) = [] := rfl
    rw [this, List.append_nil, wsp_plain _ hn]
    rfl
  | cons w ws =>
    have e : joinTail [32] (w :: ws) = 32 :: un (w :: ws) := by simp [un, joinTail]
    rw [e, wsp_cut _ _ hn]
theorem bkd_iff (s : List UInt8) (r : R) : bkd s = some r ↔ r.wf ∧ isR r.k ∧ rl r = s := by
  unfold bkd
  constructor
  · intro h
    split at h
    · cases h
    · cases hr : rdd 5 (wsp s).2 ⟨(krOf (wsp s).1 : Nat), 0, 0, 0, 0⟩ with
      | none => rw [hr] at h; cases h
      | some q =>
        rw [hr] at h
        simp only [Option.bind_some] at h
        split at h
        · rename_i hq
          have := Option.some.inj h
          subst this
          have h8 := krOf_lt (wsp s).1
          obtain ⟨h1, h2⟩ := rdd_wf _ _ _ _ ⟨by unfold inR; simp only; omega, z_in, z_in, z_in, z_in⟩ hr
          simp only at h2
          refine ⟨h1, ?_, hq.2⟩
          have := hq.1
          unfold isR
          omega
        · cases h
  · rintro ⟨h1, h2, rfl⟩
    have hl := rl_len r h1
    rw [if_neg (by omega), wsp_rl h2]
    simp only
    have h3 := nrk_pos h2
    have h4 := krOf_nm ⟨_, h3.1⟩
    simp only at h4
    have e : ((r.k.toNat : Nat) : Int) = r.k := by unfold isR at h2; omega
    rw [h4, e, rdd_fvs h1, Option.bind_some, if_pos ⟨by unfold isR at h2; omega, rfl⟩]
/-- The two read alike. -/
theorem bk_eq (s : List UInt8) : bkd s = bkp s := by
  apply Option.ext
  intro r
  rw [bkd_iff, bkp_iff]
theorem bkp_rl {r : R} (h : r.wf) (hk : isR r.k) : bkp (rl r) = some r := (bkp_iff _ _).2 ⟨h, hk, rfl⟩
theorem bkp_nil : bkp [] = none := by
  cases h : bkp [] with
  | none => rfl
  | some r =>
    exfalso
    obtain ⟨_, h2, h3⟩ := (bkp_iff _ _).1 h
    exact rl_ne h2 h3
end Go.Proofs.YtnmbacegcbjfaaaDoor.Sv
