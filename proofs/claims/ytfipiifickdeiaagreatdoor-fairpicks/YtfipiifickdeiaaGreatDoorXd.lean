/- The texts Il Ii of one layer, laid together. -/
import Derived.Test.YtfipiifickdeiaaGreatDoorRows
import Derived.Test.YtfipiifickdeiaaGreatDoorXa
import Derived.WalkKit
import Derived.ProofKit
import Derived.OpenShut
import Derived.BigQuiet
import Derived.Deep.RegionHeld3
namespace Go.Proofs.YtfipiifickdeiaaGreatDoor.Idl
open Go.ChangeShapes Go.WideShapes Go.ChangeAt Go.RowKit
structure Wy where
  ex : Int
  le : Int
  pw : Int
def wz : Wy := ⟨0, 0, 0⟩
def wy : Lay Wy where
  n := 3
  f := fun x => [.int .i64 x.ex, .int .i64 x.le, .int .i64 x.pw]
  z := wz
  len := fun _ => rfl
  one := fun x u hu => by
    simp only [List.mem_cons, List.not_mem_nil, or_false] at hu
    rcases hu with rfl | rfl | rfl <;> rfl
  pos := by decide
/-- The three cells of the k-th. -/
theorem wrow_cell {w : World} {a : Option Addr} {n cap : Nat} {Y : List Wy} (h : LRow wy w (.slice a n cap) Y) {k : Nat} (hk : k < Y.length) :
    ∃ b off, a = some ⟨b, off, none⟩ ∧ b < w.heap.size ∧ w.cell? ⟨b, off + k * 3, none⟩ = some (.int .i64 (Y.getD k wz).ex) ∧ w.cell? ⟨b, off + k * 3 + 1, none⟩ = some (.int .i64 (Y.getD k wz).le) ∧ w.cell? ⟨b, off + k * 3 + 2, none⟩ = some (.int .i64 (Y.getD k wz).pw) := by
  obtain ⟨b, off, e, hb, d⟩ := lrow_cell h hk
  exact ⟨b, off, e, hb, d 0 (by decide), d 1 (by decide), d 2 (by decide)⟩
/-- A call answers whether something is so. -/
def Says (P : Prop) (e : Ending) : Prop := ∃ b, e = .returned (.bool b) ∧ (b = true ↔ P)
theorem Says.no {P : Prop} (h : ¬ P) : Says P (.returned (.bool false)) := ⟨false, rfl, by simp [h]⟩
/-- A way for so long a rest that wakes within the limit. -/
def Okw (Y : List Wy) (r l : Int) (j : Nat) : Prop := (Y.getD j wz).ex ≤ l ∧ (Y.getD j wz).le ≤ r
/-- Of the first n ways the one that is chosen. -/
def Cho (Y : List Wy) (r l : Int) (n c : Nat) : Prop := (c = 0 ∧ ∀ j, 1 ≤ j → j < n → ¬ Okw Y r l j) ∨ (1 ≤ c ∧ c < n ∧ Okw Y r l c ∧ ∀ j, c < j → j < n → ¬ Okw Y r l j)
theorem Cho.one {Y : List Wy} {r l : Int} {n c d : Nat} (h : Cho Y r l n c) (k : Cho Y r l n d) : c = d := by
  rcases h with ⟨rfl, h⟩ | ⟨h1, h2, h3, h4⟩ <;> rcases k with ⟨rfl, k⟩ | ⟨k1, k2, k3, k4⟩
  · rfl
  · exact absurd k3 (h d k1 k2)
  · exact absurd h3 (k c h1 h2)
  · rcases Nat.lt_trichotomy c d with e | e | e
    · exact absurd k3 (h4 d e k2)
    · exact e
    · exact absurd h3 (k4 c e h2)
theorem cho_none (Y : List Wy) (r l : Int) : Cho Y r l 0 0 := Or.inl ⟨rfl, fun j _ h => by omega⟩
/-- How many ticks a core will rest. -/
def prd (now due : Int) (known : Bool) : Int := if known = false then 1073741824 else if now < 0 ∨ due ≤ now then 0 else if 1073741824 < due - now then 1073741824 else due - now
/-- The ways that there are. -/
def wt : List Wy := [⟨0, 0, 100⟩, ⟨2, 10, 60⟩, ⟨10, 50, 25⟩, ⟨50, 400, 5⟩]
end Go.Proofs.YtfipiifickdeiaaGreatDoor.Idl
namespace Go.Proofs.YtfipiifickdeiaaGreatDoor.Idl
open Go.ChangeShapes Go.WideShapes Go.ChangeAt Go.RowKit
theorem itable_any (w : World) :
    Calls Tryz.prog 116 #[] w fun e w' => ∃ v, e = .returned v ∧ LRow wy w' v wt ∧ Below w.heap.size w w' := by
  have R : Hid (LRow wy (w.alloc (.cells (wy.all wt).toArray 277)) (.slice (some ⟨w.heap.size, 0, none⟩) 4 4) wt) := lrow_new w wt _ 4 4 rfl
  have B : Hid (∀ o, Below w.heap.size w (w.alloc o)) := fun o => (Below.refl _ _).alloc (Nat.le_refl _) o
  go_enter Tryz.func116, Tryz.ntmps116
  go_wp2
  go_ret
  exact ⟨_, rfl, R.out, B.out _⟩
set_option maxHeartbeats 1000000 in
theorem ichoose_any (Y : List Wy) (v : Value) (r m : Int) (w : World) (h : LRow wy w v Y) (hl0 : (Y.length : Int) ≤ 5864062014805) :
    Calls Tryz.prog 115 #[v, .int .i64 r, .int .i64 m] w fun e w' => (∃ c : Nat, e = .returned (.int .i64 (c : Int)) ∧ Cho Y r m Y.length c) ∧ w' = w := by
  obtain ⟨a, cap, rfl⟩ := h.shape
  have HR : Hid (LRow wy w (.slice a Y.length cap) Y) := h
  obtain ⟨l, hl⟩ : ∃ l, Y.length = l := ⟨_, rfl⟩
  have HN : Hid (Y.length = l) := hl
  rw [hl] at HR hl0 ⊢
  clear h hl
  by_cases h0 : l = 0
  · subst h0
    have C0 : Hid (Cho Y r m 0 0) := cho_none Y r m
    go_enter Tryz.func115, Tryz.ntmps115
    go_wp2
    go_loopw [7] (fun i wr => i = .int .i64 (-1) ∧ wr = w) (fun i _ => 0)
    case atStart => exact ⟨rfl, rfl⟩
    case round =>
      obtain ⟨rfl, rfl⟩ := hrel
      go_wp2
      go_ret
      exact ⟨⟨0, rfl, C0.out⟩, rfl⟩
  · obtain ⟨n, rfl⟩ : ∃ n, l = n + 1 := ⟨l - 1, by omega⟩
    have hn : ((n + 1 : Nat) : Int) - 1 = (n : Int) := by omega
    have hn0 : (n : Int) ≤ 5864062014804 := by omega
    obtain ⟨l, hl⟩ : ∃ l : Nat, n + 1 = l := ⟨_, rfl⟩
    have HL : Hid (n + 1 = l) := hl
    rw [hl] at HR HN hl0 hn ⊢
    clear h0 hl
    go_enter Tryz.func115, Tryz.ntmps115
    go_wp2
    go_loopw [7] (fun i wr => ∃ k : Nat, (k : Int) ≤ n ∧ (∀ j, k < j → j < l → ¬ Okw Y r m j) ∧ wr = w ∧ i = .int .i64 k) (fun i _ => (intOf i).toNat)
    case atStart => exact ⟨n, by omega, fun j h1 h2 => by have := HL.out; omega, rfl, rfl⟩
    case round =>
      obtain ⟨k, hk, hf, rfl, rfl⟩ := hrel
      have HF : Hid _ := hf
      clear hf
      by_cases e : (0 : Int) < k
      · obtain ⟨b, off, rfl, -, c0, c1, -⟩ := wrow_cell HR.out (k := k) (by have := HN.out; have := HL.out; omega)
        have OK : Hid (Okw Y r m k ↔ (Y.getD k wz).ex ≤ m ∧ (Y.getD k wz).le ≤ r) := Iff.rfl
        generalize (Y.getD k wz).ex = x at *
        generalize (Y.getD k wz).le = y at *
        have kl : (k : Int) < l := by have := HL.out; omega
        obtain ⟨p, hp⟩ : ∃ p : Nat, k = p + 1 := ⟨k - 1, by omega⟩
        have hpi : (k : Int) - 1 = (p : Int) := by omega
        have HP : Hid (k = p + 1) := hp
        clear hp
        by_cases h1 : x ≤ m
        · by_cases h2 : y ≤ r
          · have C0 : Hid (Cho Y r m l k) := Or.inr ⟨by omega, by omega, OK.out.2 ⟨h1, h2⟩, HF.out⟩
            go_wp2
            go_ret
            exact ⟨⟨k, rfl, C0.out⟩, rfl⟩
          · have G : Hid (∀ j, p < j → j < l → ¬ Okw Y r m j) := fun j j1 j2 => by
              by_cases ej : j = k
              · subst ej; exact fun q => h2 (OK.out.1 q).2
              · exact HF.out j (by have := HP.out; omega) j2
            have hpn : (p : Int) ≤ n := by omega
            go_wp2
            go_roundw
            case rel => exact ⟨p, by omega, G.out, trivial, by go_num⟩
            case measure => simp [intOf]; omega
        · have G : Hid (∀ j, p < j → j < l → ¬ Okw Y r m j) := fun j j1 j2 => by
            by_cases ej : j = k
            · subst ej; exact fun q => h1 (OK.out.1 q).1
            · exact HF.out j (by have := HP.out; omega) j2
          have hpn : (p : Int) ≤ n := by omega
          go_wp2
          go_roundw
          case rel => exact ⟨p, by omega, G.out, trivial, by go_num⟩
          case measure => simp [intOf]; omega
      · obtain rfl : k = 0 := by omega
        have C0 : Hid (Cho Y r m l 0) := Or.inl ⟨rfl, fun j h1 h2 => HF.out j (by omega) h2⟩
        go_wp2
        go_ret
        exact ⟨⟨0, rfl, C0.out⟩, rfl⟩
theorem ipredict_any (a b : Int) (k : Bool) (w : World) (hb : b ≤ 9223372036854775807) :
    Calls Tryz.prog 113 #[.int .i64 a, .int .i64 b, .bool k] w fun e w' => e = .returned (.int .i64 (prd a b k)) ∧ w' = w := by
  cases k
  · rw [show prd a b false = 1073741824 from if_pos rfl]
    go_enter Tryz.func113, Tryz.ntmps113
    go_wp2
    go_ret
    exact ⟨rfl, rfl⟩
  by_cases h1 : a < 0
  · rw [show prd a b true = 0 by rw [prd, if_neg (by simp), if_pos (Or.inl h1)]]
    go_enter Tryz.func113, Tryz.ntmps113
    go_wp2
    go_ret
    exact ⟨rfl, rfl⟩
  by_cases h2 : b ≤ a
  · rw [show prd a b true = 0 by rw [prd, if_neg (by simp), if_pos (Or.inr h2)]]
    go_enter Tryz.func113, Tryz.ntmps113
    go_wp2
    go_ret
    exact ⟨rfl, rfl⟩
  have e : prd a b true = if 1073741824 < b - a then 1073741824 else b - a := by rw [prd, if_neg (by simp), if_neg (by omega)]
  by_cases h3 : 1073741824 < b - a
  · rw [e, if_pos h3]
    clear e
    go_enter Tryz.func113, Tryz.ntmps113
    go_wp2
    go_ret
    exact ⟨rfl, rfl⟩
  · rw [e, if_neg h3]
    clear e
    go_enter Tryz.func113, Tryz.ntmps113
    go_wp2
    go_ret
    exact ⟨rfl, rfl⟩
end Go.Proofs.YtfipiifickdeiaaGreatDoor.Idl
