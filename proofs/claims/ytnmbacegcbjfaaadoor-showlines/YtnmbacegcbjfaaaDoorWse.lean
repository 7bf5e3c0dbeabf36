/- The document's words as numbers. -/
import Derived.Test.YtnmbacegcbjfaaaDoorWsd
import Derived.WalkKit
import Derived.ProofKit
import Derived.OpenShut
import Derived.BigQuiet
import Derived.WalkSmall
import Derived.WalkSpells
namespace Go.Proofs.YtnmbacegcbjfaaaDoor
open Go.ChangeShapes Go.WideShapes Go.ChangeAt Go.RowKit
open Wd Mm
set_option linter.unusedVariables false
set_option linter.unusedSimpArgs false
set_option maxRecDepth 100000

/-- What digits are worth. -/
def dval (l : List UInt8) : Nat := l.foldl (fun a c => a * 10 + (c.toNat - 48)) 0
theorem dval_snoc (l : List UInt8) (c : UInt8) : dval (l ++ [c]) = dval l * 10 + (c.toNat - 48) := by simp [dval]
theorem dval_digits : ∀ (n u : Nat), u ≤ n → dval (Lib.decDigits u) = u := by
  intro n
  have hd : ∀ d : Nat, d < 10 → (UInt8.ofNat (48 + d)).toNat = 48 + d := fun d hd => by simp [UInt8.toNat_ofNat']; omega
  induction n with
  | zero =>
    intro u h
    have : u = 0 := by omega
    subst this
    rw [Lib.decDigits_one (by omega)]
    rfl
  | succ n ih =>
    intro u h
    by_cases hs : u < 10
    · rw [Lib.decDigits_one hs]
      have := hd u hs
      simp only [dval, List.foldl_cons, List.foldl_nil, this]
      omega
    · rw [Lib.decDigits, dif_neg hs, dval_snoc, ih (u / 10) (by omega), hd _ (Nat.mod_lt _ (by omega))]
      omega
def isD (c : UInt8) : Prop := 48 ≤ c.toNat ∧ c.toNat ≤ 57
theorem dval_lt : ∀ (l : List UInt8), (∀ c ∈ l, isD c) → dval l < 10 ^ l.length := by
  intro l
  suffices ∀ (l : List UInt8) (a : Nat) (k : Nat), (∀ c ∈ l, isD c) → a < 10 ^ k → l.foldl (fun a c => a * 10 + (c.toNat - 48)) a < 10 ^ (k + l.length) from by
    intro h
    have := this l 0 0 h (by simp)
    simpa [dval] using this
  intro l
  induction l with
  | nil => intro a k _ h; simpa using h
  | cons c l ih =>
    intro a k hc ha
    have h1 := hc c (by simp)
    unfold isD at h1
    have := ih (a * 10 + (c.toNat - 48)) (k + 1) (fun x hx => hc x (by simp [hx])) (by rw [Nat.pow_succ]; omega)
    rw [List.foldl_cons, List.length_cons]
    rw [show k + (l.length + 1) = k + 1 + l.length by omega]
    exact this
theorem digits_le19 (u : Nat) (h : u ≤ 9223372036854775808) : (Lib.decDigits u).length ≤ 19 := by
  rw [Lib.decDigits_length]
  by_cases hq : Lib.nDigits u ≤ 19
  · exact hq
  · exfalso
    have h19 : Lib.decDigits u ≠ [] := digits_ne u
    have hn : 10 ^ (Lib.nDigits u - 1) ≤ u ∨ u = 0 := by
      by_cases hu : u = 0
      · exact Or.inr hu
      · refine Or.inl ?_
        suffices ∀ n u : Nat, u ≤ n → u ≠ 0 → 10 ^ (Lib.nDigits u - 1) ≤ u from this u u (Nat.le_refl _) hu
        intro n
        induction n with
        | zero => intro u h h0; omega
        | succ n ih =>
          intro u h h0
          by_cases hs : u < 10
          · rw [Lib.nDigits_small hs]; simp; omega
          · rw [Lib.nDigits_big hs]
            have := ih (u / 10) (by omega) (by omega)
            have hp := Lib.nDigits_pos (u / 10)
            rw [show Lib.nDigits (u / 10) + 1 - 1 = (Lib.nDigits (u / 10) - 1) + 1 by omega, Nat.pow_succ]
            omega
    rcases hn with hn | hn
    · have : 10 ^ 19 ≤ 10 ^ (Lib.nDigits u - 1) := Nat.pow_le_pow_right (by omega) (by omega)
      omega
    · subst hn
      rw [Lib.nDigits_small (by omega)] at hq
      omega
/-- How a number's word lies: whether there is a sign, and digits. -/
structure NW (s : List UInt8) (f : Nat) (ds : List UInt8) : Prop where
  eq : (f = 1 ∧ s = 45 :: ds) ∨ (f = 0 ∧ s = ds ∧ (∀ c r, s = c :: r → c ≠ 45))
theorem nw_is (s : List UInt8) : ∃ f ds, NW s f ds := by
  cases s with
  | nil => exact ⟨0, [], ⟨Or.inr ⟨rfl, rfl, fun c r h => by cases h⟩⟩⟩
  | cons c r =>
    by_cases h : c = 45
    · exact ⟨1, r, ⟨Or.inl ⟨rfl, by rw [h]⟩⟩⟩
    · exact ⟨0, c :: r, ⟨Or.inr ⟨rfl, rfl, fun c' r' e => by injection e with e1 e2; rw [← e1]; exact h⟩⟩⟩
theorem NW.num {s ds : List UInt8} {f : Nat} (h : NW s f ds) {m : Int} (hm : numOf s = some m) : (∀ c ∈ ds, isD c) ∧ 1 ≤ ds.length ∧ ds.length ≤ 19 ∧ dval ds = m.natAbs ∧ (f = 1 ↔ m < 0) ∧ inR m := by
  obtain ⟨hr, he⟩ := num_eq hm
  have hd : ∀ u : Nat, u ≤ 9223372036854775808 → (∀ c ∈ Lib.decDigits u, isD c) ∧ 1 ≤ (Lib.decDigits u).length ∧ (Lib.decDigits u).length ≤ 19 ∧ dval (Lib.decDigits u) = u := fun u hu =>
    ⟨fun c hc => digits_mem _ u (Nat.le_refl _) c hc, List.length_pos_iff.2 (digits_ne u), digits_le19 u hu, dval_digits _ u (Nat.le_refl _)⟩
  unfold inR at hr
  by_cases hn : m < 0
  · rw [Lib.itoa, if_pos hn] at he
    rcases h.eq with ⟨e1, e2⟩ | ⟨e1, e2, e3⟩
    · rw [e2] at he
      injection he with h1 h2
      subst h2
      obtain ⟨a, b, c, d⟩ := hd m.natAbs (by omega)
      exact ⟨a, b, c, d, ⟨fun _ => hn, fun _ => e1⟩, hr⟩
    · exact absurd rfl (e3 45 _ he.symm)
  · rw [Lib.itoa, if_neg hn] at he
    obtain ⟨a, b, c, d⟩ := hd m.toNat (by omega)
    rcases h.eq with ⟨e1, e2⟩ | ⟨e1, e2, e3⟩
    · exfalso
      rw [e2] at he
      have := a 45 (by rw [he]; simp)
      unfold isD at this
      simp at this
    · rw [e2] at he
      subst he
      exact ⟨a, b, c, by omega, ⟨fun h => by omega, fun h => by omega⟩, hr⟩
/-- What a word answers. -/
def NA (s : List UInt8) (n : Int) (b : Bool) : Prop := (numOf s = some n ∧ b = true) ∨ (numOf s = none ∧ b = false)
def NAP (s : List UInt8) (r : Ending) : Prop := ∃ n b, r = .returned (.tuple #[.int .i64 n, .bool b]) ∧ NA s n b
theorem nap_mk {s : List UInt8} {n : Int} {b : Bool} (h : NA s n b) : NAP s (.returned (.tuple #[.int .i64 n, .bool b])) := ⟨n, b, rfl, h⟩
theorem index_run (s : List UInt8) (i : Nat) (h : i < s.length) (W : World) : (Instr.index 9 (.string (sb s)) (.int .i64 (i : Int))).run Tryd.prog W = .ok (.int .u8 (s[i].toNat : Nat)) W := by
  rw [run_index_string W 9 _ .i64 _ Tryd.underlying9]
  have hs : (sb s).size = s.length := sb_size s
  rw [dif_pos ⟨by omega, by omega⟩]
  have he : (sb s)[((i : Int)).toNat]'(by omega) = s[i] := by simp [sb, ByteArray.getElem_eq_getElem_data]
  rw [he]
set_option maxHeartbeats 4000000 in
theorem number_any (s : List UInt8) (hl : s.length ≤ 300) (w : World) :
    Calls Tryd.prog 27 #[.string (sb s)] w fun r w' => NAP s r ∧ w' = w := by
  obtain ⟨f, ds, hW⟩ := nw_is s
  have NN : Hid (∀ _ : Unit, numOf s = none → NA s 0 false) := fun _ h => Or.inr ⟨h, rfl⟩
  have CN : Hid (∀ (n : Int), inR n → ∀ w, _) := fun n hn w => rnum_any n hn w
  have hf : f = 0 ∨ f = 1 := by rcases hW.eq with h | h <;> omega
  have hlen : s.length = f + ds.length := by
    rcases hW.eq with ⟨a, b⟩ | ⟨a, b, _⟩
    · rw [a, b]; simp; omega
    · rw [a, b]; simp
  have hidx : ∀ k (h : k < ds.length), s[f + k]? = some ds[k] := fun k h => by
    rcases hW.eq with ⟨a, b⟩ | ⟨a, b, _⟩
    · rw [a, b, show 1 + k = k + 1 by omega, List.getElem?_cons_succ, List.getElem?_eq_getElem h]
    · rw [a, b, Nat.zero_add, List.getElem?_eq_getElem h]
  -- what stands against a number
  have BAD : Hid (ds.length = 0 ∨ 19 < ds.length ∨ (∃ c ∈ ds, ¬ isD c) → numOf s = none) := fun h => by
    cases hm : numOf s with
    | none => rfl
    | some m =>
      obtain ⟨a, b, c, _⟩ := hW.num hm
      rcases h with h | h | ⟨x, hx, hn⟩
      · omega
      · omega
      · exact absurd (a x hx) hn
  have END : Hid (∀ n, inR n → (∀ m, (∀ c ∈ ds, isD c) → dval ds = m.natAbs → (f = 1 ↔ m < 0) → inR m → n = m) → NA s n (Lib.itoa n == s)) := fun n hn h => by
    by_cases he : Lib.itoa n = s
    · exact Or.inl ⟨(numOf_iff s n).2 ⟨hn, he⟩, by rw [beq_iff_eq]; exact he⟩
    · refine Or.inr ⟨?_, by rw [beq_eq_false_iff_ne]; exact he⟩
      cases hm : numOf s with
      | none => rfl
      | some m =>
        exfalso
        obtain ⟨a, b, c, d, e, g⟩ := hW.num hm
        have := h m a d e g
        exact he (by rw [this]; exact (num_eq hm).2)
  have HI : Hid (∀ k (h : k < ds.length) W, (Instr.index 9 (.string (sb s)) (.int .i64 ((f + k : Nat) : Int))).run Tryd.prog W = .ok (.int .u8 (ds[k].toNat : Nat)) W) := fun k h W => by
    have hk : f + k < s.length := by omega
    have e := hidx k h
    rw [List.getElem?_eq_getElem hk] at e
    have := index_run s (f + k) hk W
    rw [Option.some.inj e] at this
    exact this
  have I0 : (s = [] ∧ f = 0) ∨ (0 < s.length ∧ f = 1 ∧ ∀ W, (Instr.index 9 (.string (sb s)) (.int .i64 0)).run Tryd.prog W = .ok (.int .u8 45) W) ∨ (0 < s.length ∧ f = 0 ∧ ∃ c : Nat, ((c : Int) == 45) = false ∧ ∀ W, (Instr.index 9 (.string (sb s)) (.int .i64 0)).run Tryd.prog W = .ok (.int .u8 c) W) := by
    rcases hW.eq with ⟨a, b⟩ | ⟨a, b, c⟩
    · refine Or.inr (Or.inl ⟨by rw [b]; simp, a, fun W => ?_⟩)
      subst b
      exact index_run (45 :: ds) 0 (by simp) W
    · cases hs : s with
      | nil => exact Or.inl ⟨rfl, a⟩
      | cons x r =>
        refine Or.inr (Or.inr ⟨by simp, a, x.toNat, ?_, fun W => ?_⟩)
        · rw [beq_eq_false_iff_ne]
          intro e
          apply c x r hs
          apply UInt8.toNat_inj.1
          show x.toNat = 45
          omega
        · exact index_run (x :: r) 0 (by simp) W
  have HL : Hid (s.length = f + ds.length) := hlen
  have DV : Hid (∀ k, k < ds.length → ds.take (k + 1) = ds.take k ++ [ds.getD k 0]) := fun k h => by
    rw [take_next ds k h, List.getD_eq_getElem?_getD, List.getElem?_eq_getElem h]
    rfl
  have HI2 : Hid (∀ k, k < ds.length → ∀ W, (Instr.index 9 (.string (sb s)) (.int .i64 ((f + k : Nat) : Int))).run Tryd.prog W = .ok (.int .u8 ((ds.getD k 0).toNat : Nat)) W) := fun k h W => by
    rw [HI.out k h W, List.getD_eq_getElem?_getD, List.getElem?_eq_getElem h]
    rfl
  have HM : Hid (∀ k, k < ds.length → ds.getD k 0 ∈ ds) := fun k h => by
    rw [List.getD_eq_getElem?_getD, List.getElem?_eq_getElem h]
    exact List.getElem_mem h
  have TL : Hid (ds.take ds.length = ds) := List.take_length
  clear hW hidx hlen HI
  have hl2 : (s.length : Int) ≤ 300 := by omega
  by_cases hB : ds.length = 0 ∨ 19 < ds.length
  · have NA0 : Hid (NA s 0 false) := NN.out () (BAD.out (by rcases hB with h | h; exact Or.inl h; exact Or.inr (Or.inl h)))
    have hL := HL.out
    clear BAD END HI2 DV HM TL HL NN CN hl
    rcases I0 with ⟨rfl, rfl⟩ | ⟨h0, rfl, hi⟩ | ⟨h0, rfl, c, hc, hi⟩
    · clear hf hB hL
      go_enter Tryd.func27, Tryd.ntmps27
      go_wp2
      go_ret2
      exact ⟨nap_mk NA0.out, rfl⟩
    · have p0 : (0 : Int) < (s.length : Int) := by omega
      rcases hB with hB | hB
      · have q : ((s.length : Int) == 1) = true := by rw [beq_iff_eq]; omega
        clear hf hL hB h0
        go_enter Tryd.func27, Tryd.ntmps27
        go_wp2
        go_ret2
        exact ⟨nap_mk NA0.out, rfl⟩
      · have q : ((s.length : Int) == 1) = false := by rw [beq_eq_false_iff_ne]; omega
        have q2 : (19 : Int) < (s.length : Int) - 1 := by omega
        clear hf hL hB h0
        go_enter Tryd.func27, Tryd.ntmps27
        go_wp2
        go_ret2
        exact ⟨nap_mk NA0.out, rfl⟩
    · have p0 : (0 : Int) < (s.length : Int) := by omega
      have q : ((s.length : Int) == 0) = false := by rw [beq_eq_false_iff_ne]; omega
      have q2 : (19 : Int) < (s.length : Int) := by omega
      clear hf hL hB h0
      go_enter Tryd.func27, Tryd.ntmps27
      go_wp2
      go_ret2
      exact ⟨nap_mk NA0.out, rfl⟩
  · have hB1 : 1 ≤ ds.length := by omega
    have hB2 : ds.length ≤ 19 := by omega
    have HB2 : Hid (1 ≤ ds.length ∧ ds.length ≤ 19) := ⟨hB1, hB2⟩
    have hL := HL.out
    have P0 : (0 : Int) < (s.length : Int) ∧ ((f = 1 ∧ ((s.length : Int) == 1) = false ∧ ¬ (19 : Int) < (s.length : Int) - 1 ∧ ∀ W, (Instr.index 9 (.string (sb s)) (.int .i64 0)).run Tryd.prog W = .ok (.int .u8 45) W) ∨ (f = 0 ∧ ((s.length : Int) == 0) = false ∧ ¬ (19 : Int) < (s.length : Int) ∧ ∃ c : Nat, ((c : Int) == 45) = false ∧ ∀ W, (Instr.index 9 (.string (sb s)) (.int .i64 0)).run Tryd.prog W = .ok (.int .u8 c) W)) := by
      rcases I0 with ⟨rfl, rfl⟩ | ⟨h0, rfl, hi⟩ | ⟨h0, rfl, c, hc, hi⟩
      · simp at hL; omega
      · exact ⟨by omega, Or.inl ⟨rfl, by rw [beq_eq_false_iff_ne]; omega, by omega, hi⟩⟩
      · exact ⟨by omega, Or.inr ⟨rfl, by rw [beq_eq_false_iff_ne]; omega, by omega, c, hc, hi⟩⟩
    obtain ⟨p0, P1⟩ := P0
    have BD : Hid (∀ k, k < ds.length → ¬ isD (ds.getD k 0) → NA s 0 false) := fun k h hd => NN.out () (BAD.out (Or.inr (Or.inr ⟨_, HM.out k h, hd⟩)))
    clear I0 hB hB1 hB2 hL hl BAD NN hf
    rcases P1 with ⟨rfl, q1, q2, hi⟩ | ⟨rfl, q1, q2, c, hc, hi⟩
    · have q3 : decide ((19 : Int) < (s.length : Int) - 1) = false := decide_eq_false q2
      have EN : Hid (∀ n, inR n → (∀ m : Int, dval ds = m.natAbs → m < 0 → inR m → n = m) → NA s n (Lib.itoa n == s)) := fun n hn h => END.out n hn fun m a b c d => h m b (c.1 rfl) d
      clear END
      go_enter Tryd.func27, Tryd.ntmps27
      go_wp2
      go_loop [4, 6] (fun a i => ∃ k u j : Nat, (j : Int) ≤ s.length ∧ a = .int .u64 u ∧ i = .int .i64 j ∧ Hid (j = 1 + k) ∧ Hid (u = dval (ds.take k)) ∧ Hid (∀ c ∈ ds.take k, isD c)) (fun _ i => s.length - (intOf i).toNat)
      case atStart => exact ⟨0, 0, 1, by have := HL.out; have := HB2.out; omega, rfl, rfl, rfl, rfl, fun c hc => by simp at hc⟩
      case round =>
        obtain ⟨k, u, j, hj, rfl, rfl, hjk, hu, hd⟩ := hrel
        by_cases h : (j : Int) < s.length
        · have hkd : k < ds.length := by have := HL.out; have := hjk.out; omega
          have hx := HI2.out k hkd
          rw [show ((1 + k : Nat) : Int) = (j : Int) by rw [← hjk.out]] at hx
          have hdv := DV.out k hkd
          have hbd := BD.out k hkd
          have hjj : Hid (j + 1 = 1 + (k + 1)) := by show _ = _; rw [hjk.out]; omega
          have hul : u < 10 ^ 18 := by
            have a := dval_lt _ hd.out
            rw [← hu.out, List.length_take, Nat.min_eq_left (by omega)] at a
            exact Nat.lt_of_lt_of_le a (Nat.pow_le_pow_right (by omega) (by have := HB2.out; omega))
          generalize ds.getD k 0 = c at *
          by_cases hc : isD c
          · have hu2 : Hid (u * 10 + (c.toNat - 48) = dval (ds.take (k + 1))) := by show _ = _; rw [hdv, dval_snoc, hu.out]
            have hd2 : Hid (∀ x ∈ ds.take (k + 1), isD x) := fun x hx => by
              rw [hdv] at hx
              rcases List.mem_append.1 hx with h | h
              · exact hd.out x h
              · rw [List.mem_singleton.1 h]; exact hc
            unfold isD at hc
            obtain ⟨d, hdd⟩ : ∃ d, c.toNat - 48 = d := ⟨_, rfl⟩
            obtain ⟨x, hxx⟩ : ∃ x : Nat, c.toNat = x := ⟨_, rfl⟩
            obtain ⟨m, hm⟩ : ∃ m, u * 10 = m := ⟨_, rfl⟩
            obtain ⟨v, hv⟩ : ∃ v, m + d = v := ⟨_, rfl⟩
            rw [hdd, hm, hv] at hu2
            rw [hxx] at hx hc hdd
            have t1 : ¬ (x : Int) < 48 := by omega
            have t2 : ¬ (57 : Int) < (x : Int) := by omega
            have t3 : decide ((x : Int) < 48) = false := decide_eq_false t1
            have t4 : decide ((57 : Int) < (x : Int)) = false := decide_eq_false t2
            have x1 : IntKind.u8.wrap ((x : Int) - 48) = (d : Int) := by simp [IntKind.wrap, IntKind.bits, IntKind.signed]; omega
            have x2 : IntKind.u64.wrap (d : Int) = (d : Int) := by rw [IntKind.wrap_u64]; omega
            have x3 : IntKind.u64.wrap ((u : Int) * 10) = (m : Int) := by rw [IntKind.wrap_u64]; omega
            have x4 : IntKind.u64.wrap ((m : Int) + (d : Int)) = (v : Int) := by rw [IntKind.wrap_u64]; omega
            clear hxx hdd hm hv hc hu hd hjk hdv hbd hul hkd t1 t2
            go_wp2
            go_round
            case rel => exact ⟨k + 1, v, j + 1, by omega, rfl, by go_num, hjj, hu2, hd2⟩
            case measure => simp [intOf]; omega
          · have NA0 : Hid (NA s 0 false) := hbd hc
            unfold isD at hc
            obtain ⟨x, hxx⟩ : ∃ x : Nat, c.toNat = x := ⟨_, rfl⟩
            rw [hxx] at hx hc
            clear hxx hu hd hjk hdv hbd hul hkd hjj EN
            by_cases t1 : (x : Int) < 48
            · clear hc
              go_wp2
              go_ret2
              exact ⟨nap_mk NA0.out, rfl⟩
            · have t2 : (57 : Int) < (x : Int) := by omega
              have t3 : decide ((x : Int) < 48) = false := decide_eq_false t1
              clear hc
              go_wp2
              go_ret2
              exact ⟨nap_mk NA0.out, rfl⟩
        · have hk : k = ds.length := by have := HL.out; have := hjk.out; omega
          have hu2 := hu.out
          have hd2 := hd.out
          rw [hk, TL.out] at hu2 hd2
          have hul : u < 10 ^ 19 := by
            have a := dval_lt _ hd2
            rw [← hu2] at a
            exact Nat.lt_of_lt_of_le a (Nat.pow_le_pow_right (by omega) HB2.out.2)
          obtain ⟨a0, ha0⟩ : ∃ a0, IntKind.i64.wrap (u : Int) = a0 := ⟨_, rfl⟩
          obtain ⟨b0, hb0⟩ : ∃ b0, IntKind.u64.wrap (-(u : Int)) = b0 := ⟨_, rfl⟩
          obtain ⟨n0, hn0⟩ : ∃ n0, IntKind.i64.wrap b0 = n0 := ⟨_, rfl⟩
          have hb1 : IntKind.u64.wrap (0 - (u : Int)) = b0 := by rw [← hb0]; congr 1; omega
          have nr : inR n0 := by rw [← hn0, IntKind.wrap_i64]; unfold inR; omega
          have na : Hid (NA s n0 (Lib.itoa n0 == s)) := EN.out n0 nr fun m hm h0 hr => by
            rw [← hu2] at hm
            unfold inR at hr
            rw [← hn0, ← hb0, IntKind.wrap_i64, IntKind.wrap_u64]
            omega
          have C1 : Hid (∀ w, _) := fun w => CN.out n0 nr w
          clear hk hu2 hd2 hul hu hd hjk nr EN CN
          go_wp2_with fail
          refine (C1.out _).mono ?_
          rintro e w1 ⟨rfl, rfl⟩
          go_wp2
          go_ret2
          exact ⟨nap_mk na.out, rfl⟩
    · have q3 : decide ((19 : Int) < (s.length : Int)) = false := decide_eq_false q2
      have EN : Hid (∀ n, inR n → (∀ m : Int, dval ds = m.natAbs → ¬ m < 0 → inR m → n = m) → NA s n (Lib.itoa n == s)) := fun n hn h => END.out n hn fun m a b c d => h m b (fun q => by have := c.2 q; omega) d
      clear END
      go_enter Tryd.func27, Tryd.ntmps27
      go_wp2
      go_loop [4, 6] (fun a i => ∃ k u j : Nat, (j : Int) ≤ s.length ∧ a = .int .u64 u ∧ i = .int .i64 j ∧ Hid (j = 0 + k) ∧ Hid (u = dval (ds.take k)) ∧ Hid (∀ c ∈ ds.take k, isD c)) (fun _ i => s.length - (intOf i).toNat)
      case atStart => exact ⟨0, 0, 0, by have := HL.out; have := HB2.out; omega, rfl, rfl, rfl, rfl, fun c hc => by simp at hc⟩
      case round =>
        obtain ⟨k, u, j, hj, rfl, rfl, hjk, hu, hd⟩ := hrel
        by_cases h : (j : Int) < s.length
        · have hkd : k < ds.length := by have := HL.out; have := hjk.out; omega
          have hx := HI2.out k hkd
          rw [show ((0 + k : Nat) : Int) = (j : Int) by rw [← hjk.out]] at hx
          have hdv := DV.out k hkd
          have hbd := BD.out k hkd
          have hjj : Hid (j + 1 = 0 + (k + 1)) := by show _ = _; rw [hjk.out]; omega
          have hul : u < 10 ^ 18 := by
            have a := dval_lt _ hd.out
            rw [← hu.out, List.length_take, Nat.min_eq_left (by omega)] at a
            exact Nat.lt_of_lt_of_le a (Nat.pow_le_pow_right (by omega) (by have := HB2.out; omega))
          generalize ds.getD k 0 = c at *
          by_cases hc : isD c
          · have hu2 : Hid (u * 10 + (c.toNat - 48) = dval (ds.take (k + 1))) := by show _ = _; rw [hdv, dval_snoc, hu.out]
            have hd2 : Hid (∀ x ∈ ds.take (k + 1), isD x) := fun x hx => by
              rw [hdv] at hx
              rcases List.mem_append.1 hx with h | h
              · exact hd.out x h
              · rw [List.mem_singleton.1 h]; exact hc
            unfold isD at hc
            obtain ⟨d, hdd⟩ : ∃ d, c.toNat - 48 = d := ⟨_, rfl⟩
            obtain ⟨x, hxx⟩ : ∃ x : Nat, c.toNat = x := ⟨_, rfl⟩
            obtain ⟨m, hm⟩ : ∃ m, u * 10 = m := ⟨_, rfl⟩
            obtain ⟨v, hv⟩ : ∃ v, m + d = v := ⟨_, rfl⟩
            rw [hdd, hm, hv] at hu2
            rw [hxx] at hx hc hdd
            have t1 : ¬ (x : Int) < 48 := by omega
            have t2 : ¬ (57 : Int) < (x : Int) := by omega
            have t3 : decide ((x : Int) < 48) = false := decide_eq_false t1
            have t4 : decide ((57 : Int) < (x : Int)) = false := decide_eq_false t2
            have x1 : IntKind.u8.wrap ((x : Int) - 48) = (d : Int) := by simp [IntKind.wrap, IntKind.bits, IntKind.signed]; omega
            have x2 : IntKind.u64.wrap (d : Int) = (d : Int) := by rw [IntKind.wrap_u64]; omega
            have x3 : IntKind.u64.wrap ((u : Int) * 10) = (m : Int) := by rw [IntKind.wrap_u64]; omega
            have x4 : IntKind.u64.wrap ((m : Int) + (d : Int)) = (v : Int) := by rw [IntKind.wrap_u64]; omega
            clear hxx hdd hm hv hc hu hd hjk hdv hbd hul hkd t1 t2
            go_wp2
            go_round
            case rel => exact ⟨k + 1, v, j + 1, by omega, rfl, by go_num, hjj, hu2, hd2⟩
            case measure => simp [intOf]; omega
          · have NA0 : Hid (NA s 0 false) := hbd hc
            unfold isD at hc
            obtain ⟨x, hxx⟩ : ∃ x : Nat, c.toNat = x := ⟨_, rfl⟩
            rw [hxx] at hx hc
            clear hxx hu hd hjk hdv hbd hul hkd hjj EN
            by_cases t1 : (x : Int) < 48
            · clear hc
              go_wp2
              go_ret2
              exact ⟨nap_mk NA0.out, rfl⟩
            · have t2 : (57 : Int) < (x : Int) := by omega
              have t3 : decide ((x : Int) < 48) = false := decide_eq_false t1
              clear hc
              go_wp2
              go_ret2
              exact ⟨nap_mk NA0.out, rfl⟩
        · have hk : k = ds.length := by have := HL.out; have := hjk.out; omega
          have hu2 := hu.out
          have hd2 := hd.out
          rw [hk, TL.out] at hu2 hd2
          have hul : u < 10 ^ 19 := by
            have a := dval_lt _ hd2
            rw [← hu2] at a
            exact Nat.lt_of_lt_of_le a (Nat.pow_le_pow_right (by omega) HB2.out.2)
          obtain ⟨n0, hn0⟩ : ∃ n0, IntKind.i64.wrap (u : Int) = n0 := ⟨_, rfl⟩
          have nr : inR n0 := by rw [← hn0, IntKind.wrap_i64]; unfold inR; omega
          have na : Hid (NA s n0 (Lib.itoa n0 == s)) := EN.out n0 nr fun m hm h0 hr => by
            rw [← hu2] at hm
            unfold inR at hr
            rw [← hn0, IntKind.wrap_i64]
            omega
          have C1 : Hid (∀ w, _) := fun w => CN.out n0 nr w
          clear hk hu2 hd2 hul hu hd hjk nr EN CN
          go_wp2_with fail
          refine (C1.out _).mono ?_
          rintro e w1 ⟨rfl, rfl⟩
          go_wp2
          go_ret2
          exact ⟨nap_mk na.out, rfl⟩
end Go.Proofs.YtnmbacegcbjfaaaDoor
