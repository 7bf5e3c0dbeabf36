/- Contracts of the program's layers, as far as this claim needs them. -/
import Derived.Test.YtmkboahjkhkefaaGreatDoorQKn
import Derived.Test.YtmkboahjkhkefaaGreatDoorRows
import Derived.WalkKit
import Derived.ProofKit
import Derived.OpenShut
import Derived.BigQuiet
import Derived.Deep.RegionHeld3
set_option linter.unusedVariables false
set_option linter.unusedSimpArgs false
namespace Go.Proofs.YtmkboahjkhkefaaGreatDoor.Krn
open Go.ChangeShapes Go.WideShapes Go.ChangeAt Go.RowKit
open Mm
section
variable {B : Nat} {w0 : World} {A : List (Nat × List Value × TypeId)} {a : KA} {m m' : Nat} {S S' : KS} {w w' : World}
theorem KX.smb {u : World} (h : KX B w0 A a m S w) (f : Below u.heap.size u w') (s : Sm u w) : KX B w0 A a m S w' := (h.sm s).below f
set_option maxRecDepth 100000 in
set_option maxHeartbeats 1000000 in
theorem k_ready (h : KX B w0 A a m S w) (c : Int) :
    Calls Tryz.prog 123 #[.pointer (some ⟨a.k, 0, none⟩), .int .i64 (c)] w fun e w' => e = .returned (.tuple #[.int .i64 ((rdyI S c).getD 0), .bool (rdyI S c).isSome]) ∧ KX B w0 A a m S w' := by
  unfold rdyI
  have c7 := h.c7
  have CL : Hid (∀ _ : Unit, _) := fun _ => rt_on h c
  have LN : ((onL S c).length : Int) ≤ 16 := by have := KK_le (Nm.on S.r c) 16; unfold onL; omega
  obtain ⟨f, hf⟩ : ∃ f : Int → Bool, Hid (∀ k, f k = Bm.rdB S.i k) := ⟨_, fun _ => rfl⟩
  rw [show (fun k => Bm.rdB S.i k) = f from (funext hf.out).symm]
  generalize onL S c = L at *
  obtain ⟨R, hR⟩ : ∃ R : Option Int, Hid (R = L.find? f) := ⟨_, rfl⟩
  rw [← show R = L.find? f from hR.out]
  go_enter Tryz.func123, Tryz.ntmps123
  go_wp2_with fail
  refine (CL.out ()).mono ?_
  rintro e w1 ⟨v, Z, rfl, h1, rw1⟩
  obtain ⟨p, cap, rfl⟩ := rw1.shape
  go_wp2
  go_loopw [16] (fun i wr => ∃ k : Nat, (k : Int) ≤ L.length ∧ i = .int .i64 (k : Int) ∧ KX B w0 (Z ++ A) a m S wr ∧ Hid (∀ j, j < k → f (L.getD j 0) = false)) (fun i _ => L.length - (intOf i).toNat)
  case atStart => exact ⟨0, by omega, rfl, h1, fun j hj => by omega⟩
  case round =>
    obtain ⟨k, hk, rfl, hr, no⟩ := hrel
    by_cases ck : (k : Int) < L.length
    · obtain ⟨b, rfl, cc⟩ := rw1.cell hr (i := k) (by omega)
      have c6 := hr.c6
      have G : Hid (∀ _ : Unit, _) := fun _ => iq_ready hr (L.getD k 0)
      rw [← hf.out (L.getD k 0)] at G
      have NX : Hid (f (L.getD k 0) = false → ∀ j, j < k + 1 → f (L.getD j 0) = false) := fun q j hj => by
        by_cases e : j = k
        · rw [e]; exact q
        · exact no.out j (by omega)
      have HT : Hid (f (L.getD k 0) = true → R = some (L.getD k 0)) := fun q => by
        rw [hR.out, find_hit L f k (by omega) no.out q]
      generalize L.getD k 0 = id at *
      generalize f id = fb at *
      cases fb
      · have NX2 : Hid _ := NX.out (by simp)
        clear NX HT
        go_wp2_with fail
        refine (G.out ()).mono ?_
        rintro e w2 ⟨rfl, h2⟩
        go_wp2
        go_roundw
        case rel => exact ⟨k + 1, by omega, by go_num, h2, NX2.out⟩
        case measure => simp [intOf]; omega
      · have HT2 := HT.out (by simp)
        clear HT NX
        subst HT2
        go_wp2_with fail
        refine (G.out ()).mono ?_
        rintro e w2 ⟨rfl, h2⟩
        go_wp2
        go_ret2
        exact ⟨rfl, h2.sub fun y hy => List.mem_append_right _ hy⟩
    · have e1 : k = L.length := by omega
      have R0 : R = none := by rw [hR.out, find_miss L f (fun j hj => no.out j (by omega))]
      clear hR
      subst R0
      subst e1
      go_wp2
      go_ret2
      exact ⟨rfl, hr.sub fun y hy => List.mem_append_right _ hy⟩
end
end Go.Proofs.YtmkboahjkhkefaaGreatDoor.Krn
