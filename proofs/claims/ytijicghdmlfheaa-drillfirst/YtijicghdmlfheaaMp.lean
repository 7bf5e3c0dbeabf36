/- Plain facts on how many bits of a word are 1, by sums of neighbours, and on its lowest bit, by a multiplication; no program in it. -/
import Derived.Test.YtijicghdmlfheaaMm
namespace Go.Proofs.Ytijicghdmlfheaa.Mm
set_option linter.unusedVariables false

/-- n bytes, all alike. -/
def rep : Nat → Nat → Nat
  | 0, _ => 0
  | n + 1, c => c + 256 * rep n c

/-- A function of a byte, at each of n bytes. -/
def mapF (g : Nat → Nat) : Nat → Nat → Nat
  | 0, _ => 0
  | n + 1, x => g (x % 256) + 256 * mapF g n (x / 256)

theorem land_step (a b c d : Nat) (ha : a < 256) (hc : c < 256) : (a + 256 * b) &&& (c + 256 * d) = (a &&& c) + 256 * (b &&& d) := by
  have hl : a &&& c < 2 ^ 8 := Nat.and_lt_two_pow a hc
  apply Nat.eq_of_testBit_eq
  intro i
  have e1 := Nat.testBit_two_pow_mul_add b (show a < 2 ^ 8 from ha) i
  have e2 := Nat.testBit_two_pow_mul_add d (show c < 2 ^ 8 from hc) i
  have e3 := Nat.testBit_two_pow_mul_add (b &&& d) hl i
  rw [Nat.add_comm a, Nat.add_comm c, Nat.add_comm (a &&& c), Nat.testBit_and]
  rw [show (256 : Nat) = 2 ^ 8 from rfl, e1, e2, e3]
  split <;> simp [Nat.testBit_and]

def g1 (b : Nat) : Nat := (b / 2 &&& 85) + (b &&& 85)
def g2 (b : Nat) : Nat := (b / 4 &&& 51) + (b &&& 51)

theorem g1_cut : ∀ b : Fin 256, ∀ t : Fin 2, (b.val / 2 + 128 * t.val) &&& 85 = b.val / 2 &&& 85 := by decide +kernel
theorem g2_cut : ∀ b : Fin 256, ∀ t : Fin 4, (b.val / 4 + 64 * t.val) &&& 51 = b.val / 4 &&& 51 := by decide +kernel
theorem g1_lt : ∀ b : Fin 256, g1 b.val < 256 := by decide +kernel
theorem g12 : ∀ b : Fin 256, g2 (g1 b.val) % 16 ≤ 4 ∧ g2 (g1 b.val) / 16 ≤ 4 ∧ g2 (g1 b.val) / 16 + g2 (g1 b.val) % 16 = Lib.popAux 8 b.val := by decide +kernel
theorem and15 : ∀ b : Fin 256, b.val &&& 15 = b.val % 16 := by decide +kernel

theorem step1 : ∀ (n x : Nat), x < 256 ^ n → (x / 2 &&& rep n 85) + (x &&& rep n 85) = mapF g1 n x
  | 0, x, _ => by simp [rep, mapF]
  | n + 1, x, h => by
    rw [Nat.pow_succ] at h
    have ih := step1 n (x / 256) (by omega)
    have e1 : x / 2 = (x % 256 / 2 + 128 * (x / 256 % 2)) + 256 * (x / 256 / 2) := by omega
    have e2 : x = x % 256 + 256 * (x / 256) := by omega
    have l1 := land_step (x % 256 / 2 + 128 * (x / 256 % 2)) (x / 256 / 2) 85 (rep n 85) (by omega) (by omega)
    have l2 := land_step (x % 256) (x / 256) 85 (rep n 85) (by omega) (by omega)
    have c := g1_cut ⟨x % 256, by omega⟩ ⟨x / 256 % 2, by omega⟩
    simp only at c
    rw [← e1, c] at l1
    rw [← e2] at l2
    simp only [rep, mapF]
    rw [l1, l2, ← ih, g1]
    omega

theorem step2 : ∀ (n x : Nat), x < 256 ^ n → (x / 4 &&& rep n 51) + (x &&& rep n 51) = mapF g2 n x
  | 0, x, _ => by simp [rep, mapF]
  | n + 1, x, h => by
    rw [Nat.pow_succ] at h
    have ih := step2 n (x / 256) (by omega)
    have e1 : x / 4 = (x % 256 / 4 + 64 * (x / 256 % 4)) + 256 * (x / 256 / 4) := by omega
    have e2 : x = x % 256 + 256 * (x / 256) := by omega
    have l1 := land_step (x % 256 / 4 + 64 * (x / 256 % 4)) (x / 256 / 4) 51 (rep n 51) (by omega) (by omega)
    have l2 := land_step (x % 256) (x / 256) 51 (rep n 51) (by omega) (by omega)
    have c := g2_cut ⟨x % 256, by omega⟩ ⟨x / 256 % 4, by omega⟩
    simp only at c
    rw [← e1, c] at l1
    rw [← e2] at l2
    simp only [rep, mapF]
    rw [l1, l2, ← ih, g2]
    omega

theorem mapF_lt (g : Nat → Nat) (hg : ∀ b, b < 256 → g b < 256) : ∀ (n x : Nat), mapF g n x < 256 ^ n
  | 0, x => by simp [mapF]
  | n + 1, x => by
    have := mapF_lt g hg n (x / 256)
    have := hg (x % 256) (by omega)
    rw [mapF, Nat.pow_succ]
    omega

theorem mapF_comp (g h : Nat → Nat) (hg : ∀ b, b < 256 → g b < 256) : ∀ (n x : Nat), mapF h n (mapF g n x) = mapF (fun b => h (g b)) n x
  | 0, x => by simp [mapF]
  | n + 1, x => by
    have b := hg (x % 256) (by omega)
    simp only [mapF]
    rw [show (g (x % 256) + 256 * mapF g n (x / 256)) % 256 = g (x % 256) by omega, show (g (x % 256) + 256 * mapF g n (x / 256)) / 256 = mapF g n (x / 256) by omega, mapF_comp g h hg n (x / 256)]

theorem low16 (n x : Nat) : mapF (fun b => g2 (g1 b)) n x % 16 ≤ 4 := by
  cases n with
  | zero => simp [mapF]
  | succ n =>
    have := (g12 ⟨x % 256, by omega⟩).1
    simp only at this
    simp only [mapF]
    omega

theorem step3 : ∀ (n x : Nat), (mapF (fun b => g2 (g1 b)) n x / 16 + mapF (fun b => g2 (g1 b)) n x) &&& rep n 15 = mapF (Lib.popAux 8) n x
  | 0, x => by simp [rep, mapF]
  | n + 1, x => by
    have ih := step3 n (x / 256)
    have lo := low16 n (x / 256)
    obtain ⟨a, b, c⟩ := g12 ⟨x % 256, by omega⟩
    simp only at a b c
    simp only [rep, mapF]
    generalize g2 (g1 (x % 256)) = h at *
    generalize mapF (fun b => g2 (g1 b)) n (x / 256) = Z at *
    have e : (h + 256 * Z) / 16 + (h + 256 * Z) = (h / 16 + h + 16 * (Z % 16)) + 256 * (Z / 16 + Z) := by omega
    rw [e, land_step _ _ _ _ (by omega) (by omega), ih]
    have f := and15 ⟨h / 16 + h + 16 * (Z % 16), by omega⟩
    simp only at f
    rw [f, ← c]
    omega

theorem pop_lt : ∀ b : Fin 256, Lib.popAux 8 b.val ≤ 8 := by decide +kernel

theorem popAux_add : ∀ (j k x : Nat), Lib.popAux (j + k) x = Lib.popAux j (x % 2 ^ j) + Lib.popAux k (x / 2 ^ j)
  | 0, k, x => by simp [Lib.popAux]
  | j + 1, k, x => by
    have e1 : x % 2 ^ (j + 1) % 2 = x % 2 := by rw [Nat.pow_succ, Nat.mul_comm, Nat.mod_mul_right_mod]
    have e2 : x % 2 ^ (j + 1) / 2 = x / 2 % 2 ^ j := by rw [Nat.pow_succ, Nat.mul_comm, Nat.mod_mul_right_div_self]
    have e3 : x / 2 ^ (j + 1) = x / 2 / 2 ^ j := by rw [Nat.pow_succ, Nat.mul_comm, Nat.div_div_eq_div_mul]
    rw [show j + 1 + k = j + k + 1 by omega, Lib.popAux, popAux_add j k (x / 2), Lib.popAux, e1, e2, e3]
    omega

theorem pop_byte (k x : Nat) : Lib.popAux (8 + k) x = Lib.popAux 8 (x % 256) + Lib.popAux k (x / 256) := popAux_add 8 k x

theorem pop_last (y : Nat) : Lib.popAux 8 y = Lib.popAux 8 (y % 256) := by
  have h : Lib.popAux 8 y = Lib.popAux 8 (y % 256) + Lib.popAux 0 (y / 256) := pop_byte 0 y
  rw [show Lib.popAux 0 (y / 256) = 0 from rfl, Nat.add_zero] at h
  exact h

theorem pop_bytes (x : Nat) : Lib.popAux 64 x = Lib.popAux 8 (x % 256) + (Lib.popAux 8 (x / 256 % 256) + (Lib.popAux 8 (x / 256 / 256 % 256) + (Lib.popAux 8 (x / 256 / 256 / 256 % 256) + (Lib.popAux 8 (x / 256 / 256 / 256 / 256 % 256) + (Lib.popAux 8 (x / 256 / 256 / 256 / 256 / 256 % 256) + (Lib.popAux 8 (x / 256 / 256 / 256 / 256 / 256 / 256 % 256) + Lib.popAux 8 (x / 256 / 256 / 256 / 256 / 256 / 256 / 256 % 256))))))) := by
  rw [show (64 : Nat) = 8 + 56 from rfl, pop_byte, show (56 : Nat) = 8 + 48 from rfl, pop_byte, show (48 : Nat) = 8 + 40 from rfl, pop_byte, show (40 : Nat) = 8 + 32 from rfl, pop_byte, show (32 : Nat) = 8 + 24 from rfl, pop_byte, show (24 : Nat) = 8 + 16 from rfl, pop_byte, show (16 : Nat) = 8 + 8 from rfl, pop_byte, ← pop_last (x / 256 / 256 / 256 / 256 / 256 / 256 / 256)]

theorem hi4 (A B : Nat) (h : A < 4294967296) : (A + 4294967296 * B) / 4294967296 = B := by omega
theorem low7 (S T : Nat) (h : S ≤ 64) (g : T < 36028797018963968) : S + 256 * T < 9223372036854775808 ∧ (S + 256 * T) % 128 = S := by omega

theorem cut8 (c0 c1 c2 c3 c4 c5 c6 c7 : Nat) : c0 + 256 * (c1 + 256 * (c2 + 256 * (c3 + 256 * (c4 + 256 * (c5 + 256 * (c6 + 256 * c7)))))) = (c0 + 256 * (c1 + 256 * (c2 + 256 * c3))) + 4294967296 * (c4 + 256 * (c5 + 256 * (c6 + 256 * c7))) := by omega
theorem lt4 (c0 c1 c2 c3 : Nat) (h0 : c0 ≤ 32) (h1 : c1 ≤ 32) (h2 : c2 ≤ 32) (h3 : c3 ≤ 32) : c0 + 256 * (c1 + 256 * (c2 + 256 * c3)) < 4294967296 := by omega
theorem join8 (c0 c4 X Y B : Nat) : c0 + 256 * X + 4294967296 * B + (c4 + 256 * Y) = (c0 + c4) + 256 * (X + Y + 16777216 * B) := by omega
theorem lt3 (c1 c2 c3 : Nat) (h1 : c1 ≤ 32) (h2 : c2 ≤ 32) (h3 : c3 ≤ 32) : c1 + 256 * (c2 + 256 * c3) ≤ 2105376 := by omega
theorem ltT (X Y B : Nat) (hX : X ≤ 2105376) (hY : Y ≤ 2105376) (hB : B < 4294967296) (hB' : B ≤ 538976288) : X + Y + 16777216 * B < 36028797018963968 := by omega
theorem le4 (c0 c1 c2 c3 : Nat) (h0 : c0 ≤ 32) (h1 : c1 ≤ 32) (h2 : c2 ≤ 32) (h3 : c3 ≤ 32) : c0 + 256 * (c1 + 256 * (c2 + 256 * c3)) ≤ 538976288 := by omega

theorem tail8 (c0 c1 c2 c3 c4 c5 c6 c7 s5 s6 : Nat) (h0 : c0 ≤ 32) (h1 : c1 ≤ 32) (h2 : c2 ≤ 32) (h3 : c3 ≤ 32) (h4 : c4 ≤ 32) (h5 : c5 ≤ 32) (h6 : c6 ≤ 32) (h7 : c7 ≤ 32)
    (e5 : s5 = c0 + 256 * (c1 + 256 * (c2 + 256 * (c3 + 256 * (c4 + 256 * (c5 + 256 * (c6 + 256 * c7))))))) (e6 : s6 = s5 + s5 / 4294967296) : s6 < 9223372036854775808 ∧ s6 % 128 = c0 + c4 := by
  rw [cut8] at e5
  have lA := lt4 c0 c1 c2 c3 h0 h1 h2 h3
  have lB := lt4 c4 c5 c6 c7 h4 h5 h6 h7
  have lB' := le4 c4 c5 c6 c7 h4 h5 h6 h7
  have d := hi4 _ (c4 + 256 * (c5 + 256 * (c6 + 256 * c7))) lA
  rw [e5, d] at e6
  have x := lt3 c1 c2 c3 h1 h2 h3
  have y := lt3 c5 c6 c7 h5 h6 h7
  clear d e5
  rw [e6]
  generalize c1 + 256 * (c2 + 256 * c3) = X at *
  generalize c5 + 256 * (c6 + 256 * c7) = Y at *
  rw [join8 c0 c4 X Y]
  exact low7 _ _ (by omega) (ltT X Y _ x y lB lB')

theorem sum4 (p0 p1 p2 p3 p4 p5 p6 p7 s3 s4 : Nat) (h0 : p0 ≤ 8) (h1 : p1 ≤ 8) (h2 : p2 ≤ 8) (h3 : p3 ≤ 8) (h4 : p4 ≤ 8) (h5 : p5 ≤ 8) (h6 : p6 ≤ 8) (h7 : p7 ≤ 8)
    (e3 : s3 = p0 + 256 * (p1 + 256 * (p2 + 256 * (p3 + 256 * (p4 + 256 * (p5 + 256 * (p6 + 256 * (p7 + 256 * 0)))))))) (e4 : s4 = s3 + s3 / 256) :
    s4 = (p0 + p1) + 256 * ((p1 + p2) + 256 * ((p2 + p3) + 256 * ((p3 + p4) + 256 * ((p4 + p5) + 256 * ((p5 + p6) + 256 * ((p6 + p7) + 256 * p7)))))) := by omega

theorem sum5 (p0 p1 p2 p3 p4 p5 p6 p7 s4 s5 : Nat) (h0 : p0 ≤ 16) (h1 : p1 ≤ 16) (h2 : p2 ≤ 16) (h3 : p3 ≤ 16) (h4 : p4 ≤ 16) (h5 : p5 ≤ 16) (h6 : p6 ≤ 16) (h7 : p7 ≤ 16)
    (e4 : s4 = p0 + 256 * (p1 + 256 * (p2 + 256 * (p3 + 256 * (p4 + 256 * (p5 + 256 * (p6 + 256 * p7))))))) (e5 : s5 = s4 + s4 / 65536) :
    s5 = (p0 + p2) + 256 * ((p1 + p3) + 256 * ((p2 + p4) + 256 * ((p3 + p5) + 256 * ((p4 + p6) + 256 * ((p5 + p7) + 256 * (p6 + 256 * p7)))))) := by omega

theorem sum8 (p0 p1 p2 p3 p4 p5 p6 p7 s3 s4 s5 s6 : Nat) (h0 : p0 ≤ 8) (h1 : p1 ≤ 8) (h2 : p2 ≤ 8) (h3 : p3 ≤ 8) (h4 : p4 ≤ 8) (h5 : p5 ≤ 8) (h6 : p6 ≤ 8) (h7 : p7 ≤ 8)
    (e3 : s3 = p0 + 256 * (p1 + 256 * (p2 + 256 * (p3 + 256 * (p4 + 256 * (p5 + 256 * (p6 + 256 * (p7 + 256 * 0)))))))) (e4 : s4 = s3 + s3 / 256) (e5 : s5 = s4 + s4 / 65536) (e6 : s6 = s5 + s5 / 4294967296) :
    s6 < 9223372036854775808 ∧ s6 % 128 = p0 + (p1 + (p2 + (p3 + (p4 + (p5 + (p6 + p7)))))) := by
  have f4 := sum4 p0 p1 p2 p3 p4 p5 p6 p7 s3 s4 h0 h1 h2 h3 h4 h5 h6 h7 e3 e4
  clear e3 e4
  have f5 := sum5 (p0 + p1) (p1 + p2) (p2 + p3) (p3 + p4) (p4 + p5) (p5 + p6) (p6 + p7) p7 s4 s5 (by omega) (by omega) (by omega) (by omega) (by omega) (by omega) (by omega) (by omega) f4 e5
  clear f4 e5
  have f6 := tail8 _ _ _ _ _ _ _ _ s5 s6 (by omega) (by omega) (by omega) (by omega) (by omega) (by omega) (by omega) (by omega) f5 e6
  clear f5 e6
  refine ⟨f6.1, f6.2.trans ?_⟩
  clear f6
  omega

theorem mapF_le (g : Nat → Nat) (c : Nat) (hg : ∀ b, b < 256 → g b ≤ c) : ∀ (n x : Nat), mapF g n x ≤ rep n c
  | 0, x => by simp [mapF]
  | n + 1, x => by
    have := mapF_le g c hg n (x / 256)
    have := hg (x % 256) (by omega)
    rw [mapF, rep]
    omega

theorem g12_le (b : Nat) (h : b < 256) : g2 (g1 b) ≤ 68 := by
  have := g12 ⟨b, h⟩
  simp only at this
  omega

/-- How many bits of a word are 1, by sums of neighbours: no sum of it wraps. -/
theorem pop_word (x s1 s2 s3 s4 s5 s6 : Nat) (hx : x < 18446744073709551616)
    (e1 : s1 = (x / 2 &&& 6148914691236517205) + (x &&& 6148914691236517205)) (e2 : s2 = (s1 / 4 &&& 3689348814741910323) + (s1 &&& 3689348814741910323))
    (e3 : s3 = (s2 / 16 + s2) &&& 1085102592571150095) (e4 : s4 = s3 + s3 / 256) (e5 : s5 = s4 + s4 / 65536) (e6 : s6 = s5 + s5 / 4294967296) :
    s1 < 18446744073709551616 ∧ s2 ≤ 4919131752989213764 ∧ s3 ≤ 1085102592571150095 ∧ s6 < 9223372036854775808 ∧ s6 % 128 = Lib.popAux 64 x := by
  have hg1 : ∀ b, b < 256 → g1 b < 256 := fun b h => g1_lt ⟨b, h⟩
  have f1 : s1 = mapF g1 8 x := by rw [e1]; exact step1 8 x hx
  have l1 : s1 < 18446744073709551616 := by rw [f1]; exact mapF_lt g1 hg1 8 x
  have f2 : s2 = mapF (fun b => g2 (g1 b)) 8 x := by
    have := step2 8 s1 l1
    rw [e2, ← mapF_comp g1 g2 hg1 8 x, ← f1]
    exact this
  have l2 : s2 ≤ 4919131752989213764 := by rw [f2]; exact mapF_le _ 68 g12_le 8 x
  have f3 : s3 = mapF (Lib.popAux 8) 8 x := by rw [e3, f2]; exact step3 8 x
  have l3 : s3 ≤ 1085102592571150095 := by rw [e3]; exact Nat.and_le_right
  have p := fun y : Nat => pop_lt ⟨y % 256, by omega⟩
  simp only at p
  have f := sum8 _ _ _ _ _ _ _ _ s3 s4 s5 s6 (p x) (p (x / 256)) (p (x / 256 / 256)) (p (x / 256 / 256 / 256)) (p (x / 256 / 256 / 256 / 256)) (p (x / 256 / 256 / 256 / 256 / 256)) (p (x / 256 / 256 / 256 / 256 / 256 / 256)) (p (x / 256 / 256 / 256 / 256 / 256 / 256 / 256)) f3 e4 e5 e6
  exact ⟨l1, l2, l3, f.1, f.2.trans (pop_bytes x).symm⟩

/-- A number that is not 0 is a power of 2 times an odd number. -/
theorem odd_spec : ∀ (f x : Nat), 0 < x → x < 2 ^ f → ∃ q, x = 2 ^ Lib.ntzAux f x * (2 * q + 1) ∧ Lib.ntzAux f x < f
  | 0, x, h0, h => by simp at h; omega
  | f + 1, x, h0, h => by
    rw [Nat.pow_succ] at h
    simp only [Lib.ntzAux]
    split
    · exact ⟨x / 2, by simp; omega, by omega⟩
    · obtain ⟨q, e, l⟩ := odd_spec f (x / 2) (by omega) (by omega)
      refine ⟨q, ?_, by omega⟩
      rw [Nat.add_comm 1, Nat.pow_succ, Nat.mul_right_comm, ← e]
      omega

/-- A word and its opposite have the lowest bit in common, and no other one. -/
theorem low_bit (x k q : Nat) (hk : k < 64) (e : x = 2 ^ k * (2 * q + 1)) (hx : x < 18446744073709551616) : x &&& (18446744073709551616 - x) = 2 ^ k := by
  obtain ⟨n, hn⟩ : ∃ n, 63 - k = n := ⟨_, rfl⟩
  have p : 18446744073709551616 = 2 ^ k * (2 * 2 ^ n) := by
    rw [← Nat.pow_succ', ← Nat.pow_add, show k + (n + 1) = 64 by omega]
  have pk : 0 < 2 ^ k := Nat.two_pow_pos k
  have hq : q < 2 ^ n := by
    rw [e, p] at hx
    have := Nat.lt_of_mul_lt_mul_left hx
    omega
  obtain ⟨r, hr⟩ : ∃ r, 2 ^ n - (q + 1) = r := ⟨_, rfl⟩
  have d : 18446744073709551616 - x = 2 ^ k * (2 * r + 1) := by
    rw [e, p, ← Nat.mul_sub]
    congr 1
    omega
  have z : q &&& r = 0 := by
    apply Nat.eq_of_testBit_eq
    intro i
    rw [Nat.testBit_and, ← hr, Nat.testBit_two_pow_sub_succ hq, Nat.zero_testBit]
    cases q.testBit i <;> simp
  have o : (2 * q + 1) &&& (2 * r + 1) = 1 := by
    have a : ((2 * q + 1) &&& (2 * r + 1)) / 2 = 0 := by
      rw [Nat.and_div_two, show (2 * q + 1) / 2 = q by omega, show (2 * r + 1) / 2 = r by omega, z]
    have b : ((2 * q + 1) &&& (2 * r + 1)) % 2 = 1 := Nat.and_mod_two_eq_one.2 ⟨by omega, by omega⟩
    omega
  rw [d]
  conv => lhs; rw [e]
  apply Nat.eq_of_testBit_eq
  intro i
  rw [Nat.testBit_and, Nat.mul_comm (2 ^ k), Nat.mul_comm (2 ^ k), Nat.testBit_mul_two_pow, Nat.testBit_mul_two_pow, Nat.testBit_two_pow]
  by_cases h : k ≤ i
  · have := congrArg (fun y => y.testBit (i - k)) o
    simp only [Nat.testBit_and] at this
    simp only [h, decide_true, Bool.true_and, this]
    rw [show (1 : Nat) = 2 ^ 0 from rfl, Nat.testBit_two_pow]
    congr 1
    apply propext
    omega
  · have : ¬ k = i := by omega
    simp [h, this]

/-- The table by which a word's lowest bit is found. -/
def tab : List Nat := [0, 1, 56, 2, 57, 49, 28, 3, 61, 58, 42, 50, 38, 29, 17, 4, 62, 47, 59, 36, 45, 43, 51, 22, 53, 39, 33, 30, 24, 18, 12, 5, 63, 55, 48, 27, 60, 41, 37, 16, 46, 35, 44, 21, 52, 32, 23, 11, 54, 26, 40, 15, 34, 20, 31, 10, 25, 14, 19, 9, 13, 8, 7, 6]

theorem tab_at : ∀ k : Fin 64, tab.getD (2 ^ k.val * 285870213051353865 % 18446744073709551616 / 288230376151711744) 0 = k.val := by decide +kernel

theorem lenAux_spec : ∀ (f x : Nat), x < 2 ^ f → x < 2 ^ Lib.bitLenAux f x ∧ (x ≠ 0 → 2 ^ Lib.bitLenAux f x ≤ 2 * x)
  | 0, x, h => by
    have : x = 0 := by simpa using h
    subst this
    simp [Lib.bitLenAux]
  | f + 1, x, h => by
    rw [Nat.pow_succ] at h
    have ih := lenAux_spec f (x / 2) (by omega)
    simp only [Lib.bitLenAux]
    split
    · rename_i hx
      subst hx
      simp
    · rename_i hx
      rw [Nat.add_comm, Nat.pow_succ]
      refine ⟨by omega, fun _ => ?_⟩
      by_cases h2 : x / 2 = 0
      · have : Lib.bitLenAux f (x / 2) = 0 := by rw [h2]; cases f <;> simp [Lib.bitLenAux]
        rw [this]; omega
      · have := ih.2 h2
        omega

theorem len_spec (x : Nat) (h0 : 0 < x) (hx : x < 18446744073709551616) : 1 ≤ Lib.bitLen x ∧ 2 ^ (Lib.bitLen x - 1) ≤ x ∧ x < 2 ^ Lib.bitLen x := by
  have a := lenAux_spec 64 x hx
  change x < 2 ^ Lib.bitLen x ∧ (x ≠ 0 → 2 ^ Lib.bitLen x ≤ 2 * x) at a
  have b := a.2 (by omega)
  have c := a.1
  rcases h : Lib.bitLen x with _ | L
  · rw [h] at c; simp at c; omega
  · rw [h] at b c
    refine ⟨by omega, ?_, c⟩
    rw [Nat.pow_succ] at b
    rw [Nat.add_sub_cancel]
    omega

end Go.Proofs.Ytijicghdmlfheaa.Mm
