/- What idle's Table, Right, Choose, Predict and Cost answer and leave, for every list of ways and all numbers. -/
import Derived.Test.YtjfmokfjnjbheaaRows
import Derived.Test.YtjfmokfjnjbheaaIl
import Derived.WalkKit
import Derived.ProofKit
import Derived.OpenShut
import Derived.BigQuiet
import Derived.Deep.RegionHeld3
namespace Go.Proofs.Ytjfmokfjnjbheaa
open Go.ChangeShapes Go.WideShapes Go.ChangeAt Go.RowKit

theorem itable_any (w : World) :
    Calls Try.prog 31 #[] w fun e w' => ∃ v, e = .returned v ∧ LRow wy w' v wt ∧ Below w.heap.size w w' := by
  have R : Hid (LRow wy (w.alloc (.cells (wy.all wt).toArray 64)) (.slice (some ⟨w.heap.size, 0, none⟩) 4 4) wt) := lrow_new w wt _ 4 4 rfl
  have B : Hid (∀ o, Below w.heap.size w (w.alloc o)) := fun o => (Below.refl _ _).alloc (Nat.le_refl _) o
  go_enter Try.func31, Try.ntmps31
  go_wp2
  go_ret
  exact ⟨_, rfl, R.out, B.out _⟩

set_option maxHeartbeats 400000 in
theorem ifollows_any (a s : Wy) (w : World) :
    Calls Try.prog 35 #[.agg #[.int .i64 a.ex, .int .i64 a.le, .int .i64 a.pw], .agg #[.int .i64 s.ex, .int .i64 s.le, .int .i64 s.pw]] w fun e w' => Says (Fol a s) e ∧ Below w.heap.size w w' := by
  have B : Hid (∀ o, Below w.heap.size w (w.alloc o)) := fun o => (Below.refl _ _).alloc (Nat.le_refl _) o
  have B2 : Hid (∀ o p, Below w.heap.size w ((w.alloc o).alloc p)) := fun o p => (B.out o).alloc (by simp) p
  have D : Hid (Fol a s ↔ a.ex ≤ s.ex ∧ a.le ≤ s.le ∧ s.pw ≤ a.pw ∧ 0 ≤ s.pw) := Iff.rfl
  obtain ⟨a0, a1, a2⟩ := a
  obtain ⟨s0, s1, s2⟩ := s
  dsimp only at D ⊢
  by_cases h1 : a0 ≤ s0
  · by_cases h2 : a1 ≤ s1
    · by_cases h3 : s2 ≤ a2
      · by_cases h4 : 0 ≤ s2
        · go_enter Try.func35, Try.ntmps35
          go_wp2
          go_ret
          exact ⟨Says.yes ⟨h1, h2, h3, h4⟩, B2.out _ _⟩
        · have N : Hid (¬ Fol ⟨a0, a1, a2⟩ ⟨s0, s1, s2⟩) := fun q => h4 q.2.2.2
          go_enter Try.func35, Try.ntmps35
          go_wp2
          go_ret
          exact ⟨Says.no N.out, B2.out _ _⟩
      · have N : Hid (¬ Fol ⟨a0, a1, a2⟩ ⟨s0, s1, s2⟩) := fun q => h3 q.2.2.1
        go_enter Try.func35, Try.ntmps35
        go_wp2
        go_ret
        exact ⟨Says.no N.out, B2.out _ _⟩
    · have N : Hid (¬ Fol ⟨a0, a1, a2⟩ ⟨s0, s1, s2⟩) := fun q => h2 q.2.1
      go_enter Try.func35, Try.ntmps35
      go_wp2
      go_ret
      exact ⟨Says.no N.out, B2.out _ _⟩
  · have N : Hid (¬ Fol ⟨a0, a1, a2⟩ ⟨s0, s1, s2⟩) := fun q => h1 q.1
    go_enter Try.func35, Try.ntmps35
    go_wp2
    go_ret
    exact ⟨Says.no N.out, B2.out _ _⟩

set_option maxHeartbeats 1000000 in
theorem iright_any (Y : List Wy) (v : Value) (w : World) (h : LRow wy w v Y) :
    Calls Try.prog 11 #[v] w fun e w' => Says (Rgt Y) e ∧ Below w.heap.size w w' := by
  obtain ⟨a, cap, rfl⟩ := h.shape
  have BR : Hid (Below w.heap.size w w) := Below.refl _ _
  have HR : Hid (LRow wy w (.slice a Y.length cap) Y) := h
  obtain ⟨l, hl⟩ : ∃ l, Y.length = l := ⟨_, rfl⟩
  have HN : Hid (Y.length = l) := hl
  rw [hl] at HR ⊢
  clear h hl
  by_cases h1 : (l : Int) < 1
  · have N : Hid (¬ Rgt Y) := fun q => by have := q.1; have := HN.out; omega
    go_enter Try.func11, Try.ntmps11
    go_wp2
    go_ret
    exact ⟨Says.no N.out, BR.out⟩
  by_cases h2 : (8 : Int) < l
  · have N : Hid (¬ Rgt Y) := fun q => by have := q.2.1; have := HN.out; omega
    go_enter Try.func11, Try.ntmps11
    go_wp2
    go_ret
    exact ⟨Says.no N.out, BR.out⟩
  obtain ⟨b, off, rfl, hbl, c0, c1, c2⟩ := wrow_cell HR.out (k := 0) (by have := HN.out; omega)
  rw [Nat.zero_mul, Nat.add_zero] at c0 c1 c2
  have HB : Hid (b < w.heap.size) := hbl
  have B : Hid (∀ o, Below w.heap.size w (w.alloc o)) := fun o => (Below.refl _ _).alloc (Nat.le_refl _) o
  have l0 : (0 : Int) < l := by omega
  have D : Hid (∀ x y z : Int, Y.getD 0 wz = ⟨x, y, z⟩ → (Rgt Y ↔ x = 0 ∧ y = 0 ∧ 0 ≤ z ∧ ∀ k, 1 ≤ k → k < l → Fol (Y.getD (k - 1) wz) (Y.getD k wz))) := fun x y z e => by
    unfold Rgt
    rw [e, HN.out]
    constructor
    · intro q; exact q.2.2
    · intro q; exact ⟨by omega, by omega, q⟩
  obtain ⟨x, y, z, e0⟩ : ∃ x y z, Y.getD 0 wz = ⟨x, y, z⟩ := ⟨_, _, _, rfl⟩
  rw [e0] at c0 c1 c2
  have D2 : Hid _ := D.out x y z e0
  clear e0 D hbl
  dsimp only at c0 c1 c2
  by_cases h3 : x ≠ 0
  · have N : Hid (¬ Rgt Y) := fun q => h3 (D2.out.1 q).1
    have h3' : (x != 0) = true := by simpa using h3
    go_enter Try.func11, Try.ntmps11
    go_wp2
    go_ret
    exact ⟨Says.no N.out, B.out _⟩
  obtain rfl : x = 0 := Decidable.not_not.1 h3
  clear h3
  by_cases h4 : y ≠ 0
  · have N : Hid (¬ Rgt Y) := fun q => h4 (D2.out.1 q).2.1
    have h4' : (y != 0) = true := by simpa using h4
    go_enter Try.func11, Try.ntmps11
    go_wp2
    go_ret
    exact ⟨Says.no N.out, B.out _⟩
  obtain rfl : y = 0 := Decidable.not_not.1 h4
  clear h4
  by_cases h5 : z < 0
  · have N : Hid (¬ Rgt Y) := fun q => by have := (D2.out.1 q).2.2.1; omega
    go_enter Try.func11, Try.ntmps11
    go_wp2
    go_ret
    exact ⟨Says.no N.out, B.out _⟩
  have ZP : Hid (0 ≤ z) := by show 0 ≤ z; omega
  go_enter Try.func11, Try.ntmps11
  go_wp2
  go_loopw [4] (fun i wr => ∃ k : Nat, (1 : Int) ≤ k ∧ (k : Int) ≤ l ∧ (∀ j, 1 ≤ j → j < k → Fol (Y.getD (j - 1) wz) (Y.getD j wz)) ∧ Below w.heap.size w wr ∧ i = .int .i64 k) (fun i _ => l - (intOf i).toNat)
  case atStart => exact ⟨1, by omega, by omega, fun j h1 h2 => by omega, B.out _, rfl⟩
  case round =>
    obtain ⟨k, hk1, hk, hf, hb, rfl⟩ := hrel
    have HF : Hid _ := hf
    have BW : Hid (Below w.heap.size w wr) := hb
    clear hf hb c0 c1 c2
    by_cases e : (k : Int) < l
    · obtain ⟨p, hp⟩ : ∃ p : Nat, k = p + 1 := ⟨k - 1, by omega⟩
      subst hp
      have d := wrow_at (HR.out.below BW.out) (k := p) (by have := HN.out; omega)
      have d' := wrow_at (HR.out.below BW.out) (k := p + 1) (by have := HN.out; omega)
      have KC : Hid (∀ w2, Below w.heap.size w w2 → (w2.cell? ⟨b, off + p * 3, none⟩ = some (.int .i64 (Y.getD p wz).ex) ∧ w2.cell? ⟨b, off + p * 3 + 1, none⟩ = some (.int .i64 (Y.getD p wz).le) ∧ w2.cell? ⟨b, off + p * 3 + 2, none⟩ = some (.int .i64 (Y.getD p wz).pw)) ∧ (w2.cell? ⟨b, off + (p + 1) * 3, none⟩ = some (.int .i64 (Y.getD (p + 1) wz).ex) ∧ w2.cell? ⟨b, off + (p + 1) * 3 + 1, none⟩ = some (.int .i64 (Y.getD (p + 1) wz).le) ∧ w2.cell? ⟨b, off + (p + 1) * 3 + 2, none⟩ = some (.int .i64 (Y.getD (p + 1) wz).pw))) := fun w2 b2 => ⟨wrow_at (HR.out.below b2) (k := p) (by have := HN.out; omega), wrow_at (HR.out.below b2) (k := p + 1) (by have := HN.out; omega)⟩
      have SZ : Hid (w.heap.size ≤ wr.heap.size) := BW.out.size
      have CF : Hid (∀ w, _) := fun w => ifollows_any (Y.getD p wz) (Y.getD (p + 1) wz) w
      have HF2 : Hid (∀ t : Prop, Fol (Y.getD p wz) (Y.getD (p + 1) wz) → ∀ j, 1 ≤ j → j < p + 2 → Fol (Y.getD (j - 1) wz) (Y.getD j wz)) := fun _ q j j1 j2 => by
        by_cases ej : j = p + 1
        · subst ej; exact q
        · exact HF.out j j1 (by omega)
      have HF3 : Hid (¬ Fol (Y.getD p wz) (Y.getD (p + 1) wz) → ¬ Rgt Y) := fun q r => q (by
        have := r.2.2.2.2.2 (p + 1) (by omega) (by have := HN.out; omega)
        exact this)
      generalize Y.getD p wz = A at *
      generalize Y.getD (p + 1) wz = B' at *
      obtain ⟨a0, a1, a2⟩ := A
      obtain ⟨s0, s1, s2⟩ := B'
      dsimp only at d d' CF KC
      obtain ⟨d0, d1, d2⟩ := d
      obtain ⟨t0, t1, t2⟩ := d'
      have hpi : ((p + 1 : Nat) : Int) - 1 = (p : Int) := by omega
      have hpl : (p : Int) < l := by omega
      obtain ⟨K, hK⟩ : ∃ K : Nat, p + 1 = K := ⟨_, rfl⟩
      have HKK : Hid (p + 1 = K) := hK
      rw [hK] at t0 t1 t2 hpi e hk1 hk KC ⊢
      have hpw : IntKind.i64.wrap ((K : Int) - 1) = (p : Int) := by rw [hpi, IntKind.wrap_i64]; omega
      have hp0 : (0 : Int) ≤ p := by omega
      clear hK HF hpi
      go_wp2_with fail
      go_region_held3 (fun w' => w'.cell? ⟨b, off + p * 3, none⟩ = some (.int .i64 a0) ∧ w'.cell? ⟨b, off + p * 3 + 1, none⟩ = some (.int .i64 a1) ∧ w'.cell? ⟨b, off + p * 3 + 2, none⟩ = some (.int .i64 a2) ∧ w'.cell? ⟨b, off + K * 3, none⟩ = some (.int .i64 s0) ∧ w'.cell? ⟨b, off + K * 3 + 1, none⟩ = some (.int .i64 s1) ∧ w'.cell? ⟨b, off + K * 3 + 2, none⟩ = some (.int .i64 s2)) (go_keep)
        (first | (go_at_call 35; refine (CF.out _).mono ?_; rintro e w' ⟨⟨q, rfl, hq⟩, bq⟩; have bz : Below w.heap.size w w' := BW.out.trans ⟨bq.os, bq.tape, bq.output, bq.size, fun k hk => bq.block k (Nat.lt_of_lt_of_le hk SZ.out)⟩; have BZ : Hid (Below w.heap.size w w') := bz; have HQ : Hid _ := hq; obtain ⟨⟨d0, d1, d2⟩, t0, t1, t2⟩ := KC.out _ bz; clear bz bq hq))
      cases q
      · have N : Hid (¬ Rgt Y) := HF3.out (fun q => by have := HQ.out.2 q; cases this)
        go_wp2
        go_ret
        exact ⟨Says.no N.out, BZ.out⟩
      · have G : Hid _ := HF2.out True (HQ.out.1 rfl)
        go_wp2
        go_roundw
        case rel => exact ⟨K + 1, by omega, by omega, (by have := HKK.out; subst this; exact G.out), BZ.out, by go_num⟩
        case measure => simp [intOf]; omega
    · have e2 : k = l := by omega
      subst e2
      have YES : Hid (Rgt Y) := D2.out.2 ⟨trivial, trivial, ZP.out, HF.out⟩
      go_wp2
      go_ret
      exact ⟨Says.yes YES.out, BW.out⟩

set_option maxHeartbeats 1000000 in
theorem ichoose_any (Y : List Wy) (v : Value) (r m : Int) (w : World) (h : LRow wy w v Y) (hl0 : (Y.length : Int) ≤ 5864062014805) :
    Calls Try.prog 13 #[v, .int .i64 r, .int .i64 m] w fun e w' => (∃ c : Nat, e = .returned (.int .i64 (c : Int)) ∧ Cho Y r m Y.length c) ∧ w' = w := by
  obtain ⟨a, cap, rfl⟩ := h.shape
  have HR : Hid (LRow wy w (.slice a Y.length cap) Y) := h
  obtain ⟨l, hl⟩ : ∃ l, Y.length = l := ⟨_, rfl⟩
  have HN : Hid (Y.length = l) := hl
  rw [hl] at HR hl0 ⊢
  clear h hl
  by_cases h0 : l = 0
  · subst h0
    have C0 : Hid (Cho Y r m 0 0) := cho_none Y r m
    go_enter Try.func13, Try.ntmps13
    go_wp2
    go_loopw [7] (fun i wr => i = .int .i64 (-1) ∧ wr = w) (fun i _ => 0)
    case atStart => exact ⟨rfl, rfl⟩
    case round =>
      obtain ⟨rfl, rfl⟩ := hrel
      go_wp2
      go_ret
      exact ⟨⟨0, rfl, C0.out⟩, rfl⟩
  · obtain ⟨n, rfl⟩ : ∃ n, l = n + 1 := ⟨l - 1, by omega⟩
    have hn : ((n + 1 : Nat) : Int) - 1 = (n : Int) := by omega
    have hn0 : (n : Int) ≤ 5864062014804 := by omega
    obtain ⟨l, hl⟩ : ∃ l : Nat, n + 1 = l := ⟨_, rfl⟩
    have HL : Hid (n + 1 = l) := hl
    rw [hl] at HR HN hl0 hn ⊢
    clear h0 hl
    go_enter Try.func13, Try.ntmps13
    go_wp2
    go_loopw [7] (fun i wr => ∃ k : Nat, (k : Int) ≤ n ∧ (∀ j, k < j → j < l → ¬ Okw Y r m j) ∧ wr = w ∧ i = .int .i64 k) (fun i _ => (intOf i).toNat)
    case atStart => exact ⟨n, by omega, fun j h1 h2 => by have := HL.out; omega, rfl, rfl⟩
    case round =>
      obtain ⟨k, hk, hf, rfl, rfl⟩ := hrel
      have HF : Hid _ := hf
      clear hf
      by_cases e : (0 : Int) < k
      · obtain ⟨b, off, rfl, -, c0, c1, -⟩ := wrow_cell HR.out (k := k) (by have := HN.out; have := HL.out; omega)
        have OK : Hid (Okw Y r m k ↔ (Y.getD k wz).ex ≤ m ∧ (Y.getD k wz).le ≤ r) := Iff.rfl
        generalize (Y.getD k wz).ex = x at *
        generalize (Y.getD k wz).le = y at *
        have kl : (k : Int) < l := by have := HL.out; omega
        obtain ⟨p, hp⟩ : ∃ p : Nat, k = p + 1 := ⟨k - 1, by omega⟩
        have hpi : (k : Int) - 1 = (p : Int) := by omega
        have HP : Hid (k = p + 1) := hp
        clear hp
        by_cases h1 : x ≤ m
        · by_cases h2 : y ≤ r
          · have C0 : Hid (Cho Y r m l k) := Or.inr ⟨by omega, by omega, OK.out.2 ⟨h1, h2⟩, HF.out⟩
            go_wp2
            go_ret
            exact ⟨⟨k, rfl, C0.out⟩, rfl⟩
          · have G : Hid (∀ j, p < j → j < l → ¬ Okw Y r m j) := fun j j1 j2 => by
              by_cases ej : j = k
              · subst ej; exact fun q => h2 (OK.out.1 q).2
              · exact HF.out j (by have := HP.out; omega) j2
            have hpn : (p : Int) ≤ n := by omega
            go_wp2
            go_roundw
            case rel => exact ⟨p, by omega, G.out, trivial, by go_num⟩
            case measure => simp [intOf]; omega
        · have G : Hid (∀ j, p < j → j < l → ¬ Okw Y r m j) := fun j j1 j2 => by
            by_cases ej : j = k
            · subst ej; exact fun q => h1 (OK.out.1 q).1
            · exact HF.out j (by have := HP.out; omega) j2
          have hpn : (p : Int) ≤ n := by omega
          go_wp2
          go_roundw
          case rel => exact ⟨p, by omega, G.out, trivial, by go_num⟩
          case measure => simp [intOf]; omega
      · obtain rfl : k = 0 := by omega
        have C0 : Hid (Cho Y r m l 0) := Or.inl ⟨rfl, fun j h1 h2 => HF.out j (by omega) h2⟩
        go_wp2
        go_ret
        exact ⟨⟨0, rfl, C0.out⟩, rfl⟩

theorem icounts_any (n : Int) (w : World) :
    Calls Try.prog 36 #[.int .i64 n] w fun e w' => e = .returned (.bool (decide (0 ≤ n ∧ n ≤ 2147483648))) ∧ w' = w := by
  by_cases h1 : 0 ≤ n
  · by_cases h2 : n ≤ 2147483648
    · rw [decide_eq_true ⟨h1, h2⟩]
      go_enter Try.func36, Try.ntmps36
      go_wp2
      go_ret
      exact ⟨rfl, rfl⟩
    · rw [decide_eq_false (fun q => h2 q.2)]
      go_enter Try.func36, Try.ntmps36
      go_wp2
      go_ret
      exact ⟨rfl, rfl⟩
  · rw [decide_eq_false (fun q => h1 q.1)]
    go_enter Try.func36, Try.ntmps36
    go_wp2
    go_ret
    exact ⟨rfl, rfl⟩

theorem ipredict_any (a b : Int) (k : Bool) (w : World) (hb : b ≤ 9223372036854775807) :
    Calls Try.prog 17 #[.int .i64 a, .int .i64 b, .bool k] w fun e w' => e = .returned (.int .i64 (prd a b k)) ∧ w' = w := by
  cases k
  · rw [show prd a b false = 1073741824 from if_pos rfl]
    go_enter Try.func17, Try.ntmps17
    go_wp2
    go_ret
    exact ⟨rfl, rfl⟩
  by_cases h1 : a < 0
  · rw [show prd a b true = 0 by rw [prd, if_neg (by simp), if_pos (Or.inl h1)]]
    go_enter Try.func17, Try.ntmps17
    go_wp2
    go_ret
    exact ⟨rfl, rfl⟩
  by_cases h2 : b ≤ a
  · rw [show prd a b true = 0 by rw [prd, if_neg (by simp), if_pos (Or.inr h2)]]
    go_enter Try.func17, Try.ntmps17
    go_wp2
    go_ret
    exact ⟨rfl, rfl⟩
  have e : prd a b true = if 1073741824 < b - a then 1073741824 else b - a := by rw [prd, if_neg (by simp), if_neg (by omega)]
  by_cases h3 : 1073741824 < b - a
  · rw [e, if_pos h3]
    clear e
    go_enter Try.func17, Try.ntmps17
    go_wp2
    go_ret
    exact ⟨rfl, rfl⟩
  · rw [e, if_neg h3]
    clear e
    go_enter Try.func17, Try.ntmps17
    go_wp2
    go_ret
    exact ⟨rfl, rfl⟩

set_option maxHeartbeats 1000000 in
theorem icost_any (Y : List Wy) (v : Value) (i t : Int) (w : World) (h : LRow wy w v Y) :
    Calls Try.prog 15 #[v, .int .i64 i, .int .i64 t] w fun e w' => e = .returned (.int .i64 (cst Y i t)) ∧ w' = w := by
  obtain ⟨a, cap, rfl⟩ := h.shape
  have C1 : Hid (∀ n w, _) := fun n w => icounts_any n w
  have HR : Hid (LRow wy w (.slice a Y.length cap) Y) := h
  have E : Hid (cst Y i t = if i < 0 ∨ (Y.length : Int) ≤ i ∨ t < 0 ∨ 2147483648 < t ∨ (Y.getD i.toNat wz).pw < 0 ∨ 2147483648 < (Y.getD i.toNat wz).pw then 0 else (Y.getD i.toNat wz).pw * t) := rfl
  obtain ⟨l, hl⟩ : ∃ l, Y.length = l := ⟨_, rfl⟩
  have HN : Hid (Y.length = l) := hl
  rw [hl] at HR E ⊢
  generalize cst Y i t = c at *
  clear h hl
  by_cases h1 : i < 0
  · obtain rfl : c = 0 := E.out.trans (if_pos (Or.inl h1))
    go_enter Try.func15, Try.ntmps15
    go_wp2
    go_ret
    exact ⟨rfl, rfl⟩
  by_cases h2 : (l : Int) ≤ i
  · obtain rfl : c = 0 := E.out.trans (if_pos (Or.inr (Or.inl h2)))
    go_enter Try.func15, Try.ntmps15
    go_wp2
    go_ret
    exact ⟨rfl, rfl⟩
  by_cases h3 : ¬ (0 ≤ t ∧ t ≤ 2147483648)
  · obtain rfl : c = 0 := E.out.trans (if_pos (by omega))
    have C2 : Hid (∀ w, _) := fun w => C1.out t w
    rw [decide_eq_false h3] at C2
    clear h3
    go_enter Try.func15, Try.ntmps15
    go_wp2_with fail
    refine (C2.out _).mono ?_
    rintro e w' ⟨rfl, rfl⟩
    go_wp2
    go_ret
    exact ⟨rfl, rfl⟩
  have h3 : 0 ≤ t ∧ t ≤ 2147483648 := Decidable.not_not.1 h3
  have C2 : Hid (∀ w, _) := fun w => C1.out t w
  rw [decide_eq_true h3] at C2
  obtain ⟨k, rfl⟩ := Int.eq_ofNat_of_zero_le (show 0 ≤ i by omega)
  obtain ⟨b, off, rfl, -, -, -, c2⟩ := wrow_cell HR.out (k := k) (by have := HN.out; omega)
  rw [Int.toNat_natCast] at E
  have C3 : Hid (∀ w, _) := fun w => C1.out (Y.getD k wz).pw w
  generalize (Y.getD k wz).pw = p at *
  have kl : (k : Int) < l := by omega
  clear h1 h2
  by_cases h4 : ¬ (0 ≤ p ∧ p ≤ 2147483648)
  · obtain rfl : c = 0 := E.out.trans (if_pos (by omega))
    rw [decide_eq_false h4] at C3
    clear h4
    go_enter Try.func15, Try.ntmps15
    go_wp2_with fail
    refine (C2.out _).mono ?_
    rintro e w' ⟨rfl, rfl⟩
    go_wp2_with fail
    refine (C3.out _).mono ?_
    rintro e w' ⟨rfl, rfl⟩
    go_wp2
    go_ret
    exact ⟨rfl, rfl⟩
  have h4 : 0 ≤ p ∧ p ≤ 2147483648 := Decidable.not_not.1 h4
  rw [decide_eq_true h4] at C3
  obtain rfl : c = p * t := E.out.trans (if_neg (by omega))
  have mw := mul_wrap h4.1 h4.2 h3.1 h3.2
  have mf := mul_fits h4.1 h4.2 h3.1 h3.2
  clear h3 h4 E
  go_enter Try.func15, Try.ntmps15
  go_wp2_with fail
  refine (C2.out _).mono ?_
  rintro e w' ⟨rfl, rfl⟩
  go_wp2_with fail
  refine (C3.out _).mono ?_
  rintro e w' ⟨rfl, rfl⟩
  go_wp2
  go_ret
  exact ⟨rfl, rfl⟩
end Go.Proofs.Ytjfmokfjnjbheaa
