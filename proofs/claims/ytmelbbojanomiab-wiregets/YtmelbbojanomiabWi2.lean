/- What the program's number, getNumber and getHead answer, for all bytes. -/
import Derived.Test.YtmelbbojanomiabRows
import Derived.Test.YtmelbbojanomiabWi1
import Derived.WalkKit
import Derived.ProofKit
import Derived.OpenShut
import Derived.BigQuiet
namespace Go.Proofs.Ytmelbbojanomiab
open Go.ChangeShapes Go.WideShapes Go.ChangeAt Go.RowKit
open Wi0

theorem fold_take (x : Nat) (r : List Nat) (k y : Nat) (h : r[k]? = some y) : vl (x :: r.take (k + 1)) = vl (x :: r.take k) * 256 + y := by
  have hk : k < r.length := by
    rcases Nat.lt_or_ge k r.length with q | q
    · exact q
    · rw [List.getElem?_eq_none q] at h; cases h
  have e : r[k] = y := by rw [List.getElem?_eq_getElem hk] at h; exact Option.some.inj h
  rw [List.take_succ_eq_append_getElem hk, e]
  exact vl_snoc (x :: r.take k) y (by simp)
theorem fold_range (x : Nat) (r : List Nat) (k : Nat) (hk : k ≤ 6) (hl : k ≤ r.length) (hb : ∀ y ∈ x :: r, y < 256) : -36028797018963968 ≤ vl (x :: r.take k) ∧ vl (x :: r.take k) < 36028797018963968 := by
  have hlen : (x :: r.take k).length = k + 1 := by simp; omega
  obtain ⟨a, b, _⟩ := vl_range (x :: r.take k) k hlen (fun y hy => by
    rcases List.mem_cons.1 hy with rfl | hy
    · exact hb _ (by simp)
    · exact hb y (List.mem_cons_of_mem _ (List.mem_of_mem_take hy)))
  rw [hg_hf _ (by omega) (by omega)] at a b
  have : k = 0 ∨ k = 1 ∨ k = 2 ∨ k = 3 ∨ k = 4 ∨ k = 5 ∨ k = 6 := by omega
  rcases this with rfl | rfl | rfl | rfl | rfl | rfl | rfl <;> simp only [hf] at a b <;> omega

set_option maxRecDepth 100000 in
set_option maxHeartbeats 1000000 in
theorem number_any (w : World) (a : Option Addr) (n cap : Nat) (xs : List Nat) (h : CRow w a n cap xs) (h1 : 1 ≤ n) (h8 : n ≤ 8) :
    Calls Try.prog 21 #[.slice a n cap] w fun e w' => e = .returned (.int .i64 (vl xs)) ∧ w' = w := by
  obtain ⟨x, r, rfl⟩ : ∃ x r, xs = x :: r := by
    cases xs with
    | nil => have := h.nn; simp at this; omega
    | cons x r => exact ⟨x, r, rfl⟩
  have hl : n = r.length + 1 := by simpa using h.nn
  obtain ⟨b, off, rfl, _, c0⟩ := h.cell (k := 0) (x := x) rfl
  have hb := h.lt
  have hx := hb x (by simp)
  have SL : (Instr.slice 22 (.slice (some ⟨b, off, none⟩) n cap) (some (.int .i64 1)) none none).run Try.prog w = .ok (.slice (if cap = 1 then some (⟨b, off, none⟩ : Addr) else (some (⟨b, off, none⟩ : Addr)).map (·.add (1 * 1))) (n - 1) (cap - 1)) w := sl_from w (some ⟨b, off, none⟩) n cap 1 (by omega)
  have D := crow_from (k := 1) h (by omega)
  rw [show (x :: r).drop 1 = r from rfl] at D
  obtain ⟨a2, ha2⟩ : ∃ a2, (if cap = 1 then some (⟨b, off, none⟩ : Addr) else (some (⟨b, off, none⟩ : Addr)).map (·.add (1 * 1))) = a2 := ⟨_, rfl⟩
  rw [ha2] at SL D
  have HD : Hid (CRow w a2 (n - 1) (cap - 1) r) := D
  have HB : Hid (∀ y ∈ x :: r, y < 256) := hb
  have HL : Hid (n = r.length + 1 ∧ n ≤ 8) := ⟨hl, h8⟩
  have c0 : w.cell? ⟨b, off, none⟩ = some (.int .u8 (x : Nat)) := c0
  have w8 := sb_wrap x hx
  have s0 : Hid (sb x = vl (x :: r.take 0)) := by show sb x = vl (x :: r.take 0); rfl
  have w6 : IntKind.i64.wrap (sb x) = sb x := by rw [IntKind.wrap_i64]; unfold sb; split <;> omega
  obtain ⟨l, hl2⟩ : ∃ l, n - 1 = l := ⟨_, rfl⟩
  rw [hl2] at SL HD
  have HV : Hid (vl (x :: r) = vl (x :: r.take l)) := by show vl (x :: r) = vl (x :: r.take l); rw [List.take_of_length_le (by omega)]
  obtain ⟨V, hV⟩ : ∃ V, vl (x :: r) = V := ⟨_, rfl⟩
  rw [hV] at HV ⊢
  have HL2 : Hid (n - 1 = l) := hl2
  have n0 : (0 : Int) < n := by omega
  have l7 : (l : Int) ≤ 7 := by omega
  generalize sb x = y0 at *
  clear h D ha2 hb hx hl hl2 hV h1 h8
  go_enter Try.func21, Try.ntmps21
  go_wp2
  go_loop [3, 14] (fun v i => ∃ k : Nat, (k : Int) ≤ l ∧ v = .int .i64 (vl (x :: r.take k)) ∧ i = .int .i64 k) (fun _ i => l - (intOf i).toNat)
  case atStart => exact ⟨0, by omega, congrArg _ s0.out, rfl⟩
  case round =>
    obtain ⟨k, hk, rfl, rfl⟩ := hrel
    by_cases q : (k : Int) < l
    · obtain ⟨y, hy⟩ := get_some (xs := r) (k := k) (by have := HL.out; have := HL2.out; omega)
      obtain ⟨b2, off2, e2, _, cy⟩ := HD.out.cell hy
      subst e2
      have hyl := HB.out y (List.mem_cons_of_mem _ (List.mem_of_getElem? hy))
      have NX : Hid (vl (x :: r.take (k + 1)) = vl (x :: r.take k) * 256 + y) := fold_take x r k y hy
      obtain ⟨r1, r2⟩ := fold_range x r k (by omega) (by have := HL.out; have := HL2.out; omega) HB.out
      generalize vl (x :: r.take k) = v at *
      have o1 := or_low v y r1 r2 hyl
      have o2 : wrap64 (v * 256) = v * 256 := by simp only [wrap64]; omega
      have o3 : IntKind.i64.wrap (v * 256) = v * 256 := by rw [IntKind.wrap_i64]; omega
      have o4 : wrap64 (y : Int) = y := by simp only [wrap64]; omega
      rw [← NX.out] at o1
      obtain ⟨z, hz⟩ : ∃ z, vl (x :: r.take (k + 1)) = z := ⟨_, rfl⟩
      have HZ : Hid (vl (x :: r.take (k + 1)) = z) := hz
      rw [hz] at o1
      clear hy hyl r1 r2 NX hz s0
      go_wp2
      go_round
      case rel => exact ⟨k + 1, by omega, congrArg _ HZ.out.symm, by go_num⟩
      case measure => simp [intOf]; omega
    · obtain rfl : k = l := by omega
      go_wp2
      go_ret
      exact ⟨congrArg (fun z => Ending.returned (.int .i64 z)) HV.out.symm, rfl⟩

def gnV : Except Int (Int × Nat) → Value
  | .ok (n, k) => .tuple #[.int .i64 n, .int .i64 (k : Nat), .int .i64 0]
  | .error e => .tuple #[.int .i64 0, .int .i64 0, .int .i64 e]

set_option maxRecDepth 100000 in
set_option maxHeartbeats 1000000 in
theorem getnumber_any (w : World) (a : Option Addr) (n cap : Nat) (xs : List Nat) (h : CRow w a n cap xs) (hn : (n : Int) ≤ 100000) :
    Calls Try.prog 17 #[.slice a n cap] w fun e w' => e = .returned (gnV (gn xs)) ∧ w' = w := by
  have nn := h.nn
  cases xs with
  | nil =>
    obtain rfl : n = 0 := by simpa using nn
    rw [show gnV (gn []) = .tuple #[.int .i64 0, .int .i64 0, .int .i64 14] from rfl]
    clear h nn
    go_enter Try.func17, Try.ntmps17
    go_wp2
    go_ret3
    exact ⟨rfl, rfl⟩
  | cons x r =>
    have hl : n = r.length + 1 := by simpa using nn
    obtain ⟨b, off, rfl, _, c0⟩ := h.cell (k := 0) (x := x) rfl
    have c0 : w.cell? ⟨b, off, none⟩ = some (.int .u8 (x : Nat)) := c0
    have hx := h.lt x (by simp)
    have n0 : (0 : Int) < n := by omega
    have n1 : ¬ (n : Int) < 1 := by omega
    have u0 : IntKind.i64.wrap (x : Int) = x := by rw [IntKind.wrap_i64]; omega
    have u1 : wrap64 (x : Int) = x := by simp only [wrap64]; omega
    have cp := h.cp
    by_cases k1 : x < 1 ∨ 8 < x
    · have e : gn (x :: r) = .error 13 := by simp only [gn]; rw [if_pos k1]
      rw [e, show gnV (.error 13) = .tuple #[.int .i64 0, .int .i64 0, .int .i64 13] from rfl]
      clear nn hl h hx e cp
      rcases k1 with k1 | k1
      · have k2 : (x : Int) < 1 := by omega
        clear k1
        go_enter Try.func17, Try.ntmps17
        go_wp2
        go_ret3
        exact ⟨rfl, rfl⟩
      · have k2 : (8 : Int) < x := by omega
        have k3 : ¬ (x : Int) < 1 := by omega
        clear k1
        go_enter Try.func17, Try.ntmps17
        go_wp2
        go_ret3
        exact ⟨rfl, rfl⟩
    · have k2 : ¬ (x : Int) < 1 := by omega
      have k3 : ¬ (8 : Int) < x := by omega
      have u2 : wrap64 (1 + (x : Int)) = 1 + (x : Int) := by simp only [wrap64]; omega
      by_cases sh : r.length < x
      · have e : gn (x :: r) = .error 14 := by simp only [gn]; rw [if_neg k1, if_pos sh]
        rw [e, show gnV (.error 14) = .tuple #[.int .i64 0, .int .i64 0, .int .i64 14] from rfl]
        have q : (n : Int) < 1 + (x : Int) := by omega
        clear nn hl h hx e sh k1 cp
        go_enter Try.func17, Try.ntmps17
        go_wp2
        go_ret3
        exact ⟨rfl, rfl⟩
      · have q : ¬ (n : Int) < 1 + (x : Int) := by omega
        have SL : (Instr.slice 22 (.slice (some ⟨b, off, none⟩) n cap) (some (.int .i64 1)) (some (.int .i64 (1 + (x : Int)))) none).run Try.prog w = .ok (.slice (if cap = 1 then some (⟨b, off, none⟩ : Addr) else (some (⟨b, off, none⟩ : Addr)).map (·.add (1 * 1))) x (cap - 1)) w := sl_part w (some ⟨b, off, none⟩) n cap x (by omega)
        have D := crow_part (k := x) h (by omega) (by omega)
        rw [show (x :: r).drop 1 = r from rfl] at D
        obtain ⟨a2, ha2⟩ : ∃ a2, (if cap = 1 then some (⟨b, off, none⟩ : Addr) else (some (⟨b, off, none⟩ : Addr)).map (·.add (1 * 1))) = a2 := ⟨_, rfl⟩
        rw [ha2] at SL D
        have hlt : (r.take x).length = x := by rw [List.length_take]; omega
        have I : I6 (vl (r.take x)) := by
          obtain ⟨j, rfl⟩ : ∃ j, x = j + 1 := ⟨x - 1, by omega⟩
          obtain ⟨p1, p2, _⟩ := vl_range (r.take (j + 1)) j hlt D.lt
          rw [hg_hf _ (by omega) (by omega)] at p1 p2
          have : hf (j + 1) ≤ 9223372036854775808 := by
            have : j = 0 ∨ j = 1 ∨ j = 2 ∨ j = 3 ∨ j = 4 ∨ j = 5 ∨ j = 6 ∨ j = 7 := by omega
            rcases this with rfl | rfl | rfl | rfl | rfl | rfl | rfl | rfl <;> simp [hf]
          exact ⟨by omega, by omega⟩
        have N : Hid (∀ _ : Unit, _) := fun _ => number_any w a2 x (cap - 1) (r.take x) D (by omega) (by omega)
        have W : Hid (∀ _ : Unit, _) := fun _ => width_any (vl (r.take x)) w I
        have gq : gn (x :: r) = if vl (r.take x) = 0 ∨ wd (vl (r.take x)) ≠ x then .error 13 else .ok (vl (r.take x), x + 1) := by simp only [gn]; rw [if_neg k1, if_neg sh]
        rw [gq]
        generalize vl (r.take x) = v at *
        by_cases v0 : v = 0
        · rw [if_pos (Or.inl v0), show gnV (.error 13) = .tuple #[.int .i64 0, .int .i64 0, .int .i64 13] from rfl]
          subst v0
          clear nn hl h hx sh k1 cp D ha2 hlt I gq W
          go_enter Try.func17, Try.ntmps17
          go_wp2_with fail
          refine (N.out ()).mono ?_
          rintro e w' ⟨rfl, rfl⟩
          go_wp2
          go_ret3
          exact ⟨rfl, rfl⟩
        · have v1 : (v == 0) = false := beq_eq_false_iff_ne.2 v0
          by_cases wx : wd v = x
          · rw [if_neg (by simp [v0, wx]), show gnV (.ok (v, x + 1)) = .tuple #[.int .i64 v, .int .i64 ((x + 1 : Nat) : Int), .int .i64 0] from rfl]
            rw [wx] at W
            have u3 : (((x + 1 : Nat)) : Int) = 1 + (x : Int) := by omega
            rw [u3]
            clear nn hl h hx sh k1 cp D ha2 hlt I gq wx v0 u3
            go_enter Try.func17, Try.ntmps17
            go_wp2_with fail
            refine (N.out ()).mono ?_
            rintro e w' ⟨rfl, rfl⟩
            go_wp2_with fail
            refine (W.out ()).mono ?_
            rintro e w' ⟨rfl, rfl⟩
            go_wp2
            go_ret3
            exact ⟨rfl, rfl⟩
          · rw [if_pos (Or.inr wx), show gnV (.error 13) = .tuple #[.int .i64 0, .int .i64 0, .int .i64 13] from rfl]
            have w1 : ((wd v : Int) == (x : Int)) = false := by rw [beq_eq_false_iff_ne]; omega
            generalize wd v = y at *
            clear nn hl h hx sh k1 cp D ha2 hlt I gq wx v0
            go_enter Try.func17, Try.ntmps17
            go_wp2_with fail
            refine (N.out ()).mono ?_
            rintro e w' ⟨rfl, rfl⟩
            go_wp2_with fail
            refine (W.out ()).mono ?_
            rintro e w' ⟨rfl, rfl⟩
            go_wp2
            go_ret3
            exact ⟨rfl, rfl⟩

/-- What the first two bytes say. -/
def hdV : List Nat → Value
  | [] => .tuple #[.int .i64 0, .int .i64 0, .int .i64 14]
  | [k] => if okk k then .tuple #[.int .i64 0, .int .i64 0, .int .i64 14] else .tuple #[.int .i64 0, .int .i64 0, .int .i64 13]
  | k :: wh :: _ => if okk k then if 15 < wh then .tuple #[.int .i64 0, .int .i64 0, .int .i64 13] else .tuple #[.int .i64 (k : Nat), .int .i64 (wh : Nat), .int .i64 0] else .tuple #[.int .i64 0, .int .i64 0, .int .i64 13]

set_option maxRecDepth 100000 in
set_option maxHeartbeats 1000000 in
theorem gethead_any (w : World) (a : Option Addr) (n cap : Nat) (xs : List Nat) (h : CRow w a n cap xs) (hn : (n : Int) ≤ 100000) :
    Calls Try.prog 15 #[.slice a n cap] w fun e w' => e = .returned (hdV xs) ∧ Sm w' w := by
  have nn := h.nn
  rcases xs with _ | ⟨x, _ | ⟨y, r⟩⟩
  · skip
    obtain rfl : n = 0 := by simpa using nn
    rw [show hdV [] = .tuple #[.int .i64 0, .int .i64 0, .int .i64 14] from rfl]
    clear h nn hn
    go_enter Try.func15, Try.ntmps15
    go_wp2
    go_ret3
    exact ⟨rfl, rfl, rfl, rfl, rfl⟩
  · skip
    obtain rfl : n = 1 := by simpa using nn
    obtain ⟨b, off, rfl, _, c0⟩ := h.cell (k := 0) (x := x) rfl
    have c0 : w.cell? ⟨b, off, none⟩ = some (.int .u8 (x : Nat)) := c0
    have hx := h.lt x (by simp)
    have u0 : IntKind.i64.wrap (x : Int) = x := by rw [IntKind.wrap_i64]; omega
    have u1 : wrap64 (x : Int) = x := by simp only [wrap64]; omega
    have C : Hid (∀ w, _) := fun w => iskind_any (x : Int) w
    rw [show hdV [x] = if okk x then .tuple #[.int .i64 0, .int .i64 0, .int .i64 14] else .tuple #[.int .i64 0, .int .i64 0, .int .i64 13] from rfl]
    cases hk : okk (x : Int) with
    | false =>
      rw [hk] at C
      rw [if_neg (by simp)]
      clear nn hn h hx hk
      go_enter Try.func15, Try.ntmps15
      go_wp2_with fail
      refine (C.out _).mono ?_
      rintro e w' ⟨rfl, rfl⟩
      go_wp2
      go_ret3
      exact ⟨rfl, rfl, rfl, rfl, rfl⟩
    | true =>
      rw [hk] at C
      rw [if_pos rfl]
      clear nn hn h hk
      (try clear hw)
      (try clear hl)
      (try clear hx)
      (try clear hy)
      go_enter Try.func15, Try.ntmps15
      go_wp2_with fail
      refine (C.out _).mono ?_
      rintro e w' ⟨rfl, rfl⟩
      go_wp2
      go_ret3
      exact ⟨rfl, rfl, rfl, rfl, rfl⟩
  · skip
    have hl : n = r.length + 2 := by simpa using nn
    obtain ⟨b, off, rfl, _, c0⟩ := h.cell (k := 0) (x := x) rfl
    obtain ⟨b', off', e1, _, c1⟩ := h.cell (k := 1) (x := y) rfl
    simp only [Option.some.injEq, Addr.mk.injEq, and_true] at e1
    obtain ⟨rfl, rfl⟩ := e1
    have c0 : w.cell? ⟨b, off, none⟩ = some (.int .u8 (x : Nat)) := c0
    have hx := h.lt x (by simp)
    have hy := h.lt y (by simp)
    have u0 : IntKind.i64.wrap (x : Int) = x := by rw [IntKind.wrap_i64]; omega
    have u1 : wrap64 (x : Int) = x := by simp only [wrap64]; omega
    have v0 : IntKind.i64.wrap (y : Int) = y := by rw [IntKind.wrap_i64]; omega
    have v1 : wrap64 (y : Int) = y := by simp only [wrap64]; omega
    have n0 : (0 : Int) < n := by omega
    have n1 : ¬ (n : Int) < 1 := by omega
    have n2 : ¬ (n : Int) < 2 := by omega
    have n3 : (1 : Int) < n := by omega
    have C : Hid (∀ w, _) := fun w => iskind_any (x : Int) w
    rw [show hdV (x :: y :: r) = if okk x then if 15 < y then .tuple #[.int .i64 0, .int .i64 0, .int .i64 13] else .tuple #[.int .i64 (x : Nat), .int .i64 (y : Nat), .int .i64 0] else .tuple #[.int .i64 0, .int .i64 0, .int .i64 13] from rfl]
    cases hk : okk (x : Int) with
    | false =>
      rw [hk] at C
      rw [if_neg (by simp)]
      clear nn hn h hk
      (try clear hw)
      (try clear hl)
      (try clear hx)
      (try clear hy)
      go_enter Try.func15, Try.ntmps15
      go_wp2_with fail
      refine (C.out _).mono ?_
      rintro e w' ⟨rfl, rfl⟩
      go_wp2
      go_ret3
      exact ⟨rfl, rfl, rfl, rfl, rfl⟩
    | true =>
      rw [hk] at C
      rw [if_pos rfl]
      by_cases hw : 15 < y
      · rw [if_pos hw]
        have hw2 : (15 : Int) < y := (Int.ofNat_lt (n := 15) (m := y)).2 hw
        clear nn hn h hk
        (try clear hw)
        (try clear hl)
        (try clear hx)
        (try clear hy)
        go_enter Try.func15, Try.ntmps15
        go_wp2_with fail
        refine (C.out _).mono ?_
        rintro e w' ⟨rfl, rfl⟩
        go_wp2
        go_ret3
        exact ⟨rfl, rfl, rfl, rfl, rfl⟩
      · rw [if_neg hw]
        have hw2 : ¬ (15 : Int) < y := fun c => hw ((Int.ofNat_lt (n := 15) (m := y)).1 c)
        clear nn hn h hk
        (try clear hw)
        (try clear hl)
        (try clear hx)
        (try clear hy)
        go_enter Try.func15, Try.ntmps15
        go_wp2_with fail
        refine (C.out _).mono ?_
        rintro e w' ⟨rfl, rfl⟩
        go_wp2
        go_quiet (fail)
        go_wp2
        go_ret3
        exact ⟨rfl, rfl, rfl, rfl, rfl⟩
end Go.Proofs.Ytmelbbojanomiab
