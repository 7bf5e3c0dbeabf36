/- A run of the program and the document's, side by side: what each call of law 21 leaves of them. -/
import Derived.Test.YtaaikbehdfkhlaaRc
import Derived.Test.YtaaikbehdfkhlaaRb
namespace Go.Proofs.Ytaaikbehdfkhlaa
open Go.ChangeShapes Go.WideShapes Go.ChangeAt Go.RowKit
open Rm

/-- The program's run at block s (d', bk'), the document's at blocks r, l (d, bk). -/
structure GP (w wr : World) (s r l n d : Nat) (bk : Bool) (d' : Nat) (bk' : Bool) : Prop where
  q : RN wr s n d' bk'
  p : RD wr r l n d bk
  hr : s ≤ r
  hl : s ≤ l
  bel : Below s w wr

section
variable {w wr w1 : World} {s r l n d d' : Nat} {bk bk' : Bool}
theorem GP.hi (t : GP w wr s r l n d bk d' bk') : s < wr.heap.size := t.q.sb.lt
theorem GP.sr (t : GP w wr s r l n d bk d' bk') : s ≠ r := t.q.sb.ne t.p.sb (by decide)
theorem GP.sl (t : GP w wr s r l n d bk d' bk') : s ≠ l := t.q.sb.ne t.p.sl (by decide)
theorem GP.sm (t : GP w wr s r l n d bk d' bk') (e : Sm w1 wr) : GP w w1 s r l n d bk d' bk' := ⟨t.q.heap e.1, t.p.heap e.1, t.hr, t.hl, e.below t.bel⟩
theorem GP.half {d2 : Nat} {bk2 : Bool} (t : GP w wr s r l n d bk d' bk') (q : RN w1 s n d2 bk2) (f : Fr wr.heap.size [s] wr w1) : GP w w1 s r l n d bk d2 bk2 := by
  have h1 := t.sr
  have h2 := t.sl
  have h3 := t.hi
  exact ⟨q, t.p.keep f t.p.sb.lt (by simp; omega) t.p.sl.lt (by simp; omega), t.hr, t.hl, fr_own t.bel f (by omega) (by simp)⟩
theorem GP.full {d2 : Nat} {bk2 : Bool} (t : GP w wr s r l n d bk d' bk') (p : RD w1 r l n d2 bk2) (f : Fr wr.heap.size [r, l] wr w1) : GP w w1 s r l n d2 bk2 d' bk' := by
  have h1 := t.sr
  have h2 := t.sl
  have h3 := t.hi
  have h4 := t.hr
  have h5 := t.hl
  exact ⟨t.q.keep f h3 (by simp; omega), p, t.hr, t.hl, fr_own t.bel f (by omega) (by simp; omega)⟩
theorem gp_at (t : GP w wr s r l n d bk d' bk') : Calls Try.prog 16 #[.pointer (some ⟨s, 0, none⟩)] wr fun e w' => e = .returned (.tuple #[.int .i64 ((atK n d' bk' : Nat) : Int), .bool bk', .bool (ov n d' bk')]) ∧ GP w w' s r l n d bk d' bk' :=
  (gat_any wr t.q).mono fun _ _ ⟨r1, r2⟩ => ⟨r1, t.sm r2⟩
theorem gp_why (t : GP w wr s r l n d bk d' bk') : Calls Try.prog 18 #[.pointer (some ⟨s, 0, none⟩)] wr fun e w' => e = .returned (.int .i64 (whE n d' bk')) ∧ GP w w' s r l n d bk d' bk' :=
  (gwhy_any wr t.q).mono fun _ _ ⟨r1, r2⟩ => ⟨r1, t.sm r2⟩
theorem gp_many (t : GP w wr s r l n d bk d' bk') : Calls Try.prog 20 #[.pointer (some ⟨s, 0, none⟩)] wr fun e w' => e = .returned (.int .i64 (d' : Int)) ∧ GP w w' s r l n d bk d' bk' :=
  (gmany_any wr t.q).mono fun _ _ ⟨r1, r2⟩ => by rw [r2]; exact ⟨r1, t⟩
theorem gp_done (t : GP w wr s r l n d bk d' bk') : Calls Try.prog 12 #[.pointer (some ⟨s, 0, none⟩)] wr fun e w' => e = .returned (.int .i64 (dnE n d' bk')) ∧ GP w w' s r l n d bk (dnD n d' bk') bk' :=
  (gdone_any wr t.q).mono fun _ _ ⟨r1, r2, r3⟩ => ⟨r1, t.half r2 r3⟩
theorem gp_fail (t : GP w wr s r l n d bk d' bk') : Calls Try.prog 14 #[.pointer (some ⟨s, 0, none⟩)] wr fun e w' => e = .returned (.int .i64 (flE n d' bk')) ∧ GP w w' s r l n d bk d' (flB n d' bk') :=
  (gfail_any wr t.q).mono fun _ _ ⟨r1, r2, r3⟩ => ⟨r1, t.half r2 r3⟩
theorem gp_rat (t : GP w wr s r l n d bk d' bk') : Calls Try.prog 17 #[.pointer (some ⟨r, 0, none⟩)] wr fun e w' => e = .returned (.tuple #[.int .i64 ((atK n d bk : Nat) : Int), .bool bk, .bool (ov n d bk)]) ∧ GP w w' s r l n d bk d' bk' :=
  (dat_any wr t.p).mono fun _ _ ⟨r1, r2⟩ => by rw [r2]; exact ⟨r1, t⟩
theorem gp_rwhy (t : GP w wr s r l n d bk d' bk') : Calls Try.prog 19 #[.pointer (some ⟨r, 0, none⟩)] wr fun e w' => e = .returned (.int .i64 (whE n d bk)) ∧ GP w w' s r l n d bk d' bk' :=
  (dwhy_any wr t.p).mono fun _ _ ⟨r1, r2⟩ => by rw [r2]; exact ⟨r1, t⟩
theorem gp_rmany (t : GP w wr s r l n d bk d' bk') : Calls Try.prog 21 #[.pointer (some ⟨r, 0, none⟩)] wr fun e w' => e = .returned (.int .i64 (d : Int)) ∧ GP w w' s r l n d bk d' bk' :=
  (dmany_any wr t.p).mono fun _ _ ⟨r1, r2⟩ => by rw [r2]; exact ⟨r1, t⟩
theorem gp_rdone (t : GP w wr s r l n d bk d' bk') : Calls Try.prog 13 #[.pointer (some ⟨r, 0, none⟩)] wr fun e w' => e = .returned (.int .i64 (dnE n d bk)) ∧ GP w w' s r l n (dnD n d bk) bk d' bk' :=
  (ddone_any wr t.p).mono fun _ _ ⟨r1, r2, r3⟩ => ⟨r1, t.full r2 r3⟩
theorem gp_rfail (t : GP w wr s r l n d bk d' bk') : Calls Try.prog 15 #[.pointer (some ⟨r, 0, none⟩)] wr fun e w' => e = .returned (.int .i64 (flE n d bk)) ∧ GP w w' s r l n d (flB n d bk) d' bk' :=
  (dfail_any wr t.p).mono fun _ _ ⟨r1, r2, r3⟩ => ⟨r1, t.full r2 r3⟩
end
end Go.Proofs.Ytaaikbehdfkhlaa
