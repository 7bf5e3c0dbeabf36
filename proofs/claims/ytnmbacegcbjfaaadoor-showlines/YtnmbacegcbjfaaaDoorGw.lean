/- Records as lines: what is there when a call begins. -/
import Derived.Test.YtnmbacegcbjfaaaDoorRows
import Derived.Test.YtnmbacegcbjfaaaDoorShelf
import Derived.Test.YtnmbacegcbjfaaaDoorWsb
import Derived.Test.YtnmbacegcbjfaaaDoorSv0
namespace Go.Proofs.YtnmbacegcbjfaaaDoor
open Go.ChangeShapes Go.WideShapes Go.ChangeAt Go.RowKit
open Wd
set_option linter.unusedVariables false
set_option linter.unusedSimpArgs false
set_option maxRecDepth 100000

/-- What is there when a call begins. -/
structure GW (w : World) : Prop where
  tab : Lib.TabIs Tryd.prog w "internal/strconv.uint64pow10" .u64 Lib.pow10Tab
  nr : ∀ k, k < 8 → w.cell? ⟨0, k, none⟩ = some (.string (sb (Sv.nrk k)))
  es : ∃ te pe, w.cell? ⟨5, 0, none⟩ = some (.iface te pe)
  er : ∃ te pe, w.cell? ⟨6, 0, none⟩ = some (.iface te pe)
  mx : ∃ m, w.cell? ⟨2, 0, none⟩ = some (.int .i64 m)
  sz : 7 ≤ w.heap.size

theorem gTab : Tryd.prog.globalNamed "internal/strconv.uint64pow10" = some 1 := by kernel_rfl

theorem GW.fr {B : Nat} {S : List Nat} {w w' : World} (h : GW w) (f : Fr B S w w') (hB : 7 ≤ B) (hS : ∀ k ∈ S, 7 ≤ k) : GW w' := by
  have hn : ∀ k, k < 7 → k ∉ S := fun k hk m => by have := hS k m; omega
  have c : ∀ k i, k < 7 → w'.cell? ⟨k, i, none⟩ = w.cell? ⟨k, i, none⟩ := fun k i hk => f.cell (p := ⟨k, i, none⟩) (by show k < B; omega) (hn k hk)
  refine ⟨?_, fun k hk => (c _ _ (by omega)).trans (h.nr k hk), ?_, ?_, ?_, Nat.le_trans h.sz f.size⟩
  · have ht := h.tab
    unfold Lib.TabIs World.var? at ht ⊢
    rw [gTab] at ht ⊢
    simp only [Option.bind_some] at ht ⊢
    rw [f.block 1 (by omega) (hn _ (by omega))]
    exact ht
  · obtain ⟨a, b, e⟩ := h.es; exact ⟨a, b, (c _ 0 (by omega)).trans e⟩
  · obtain ⟨a, b, e⟩ := h.er; exact ⟨a, b, (c _ 0 (by omega)).trans e⟩
  · obtain ⟨a, e⟩ := h.mx; exact ⟨a, (c _ 0 (by omega)).trans e⟩
theorem GW.below {w w' : World} (h : GW w) (b : Below w.heap.size w w') : GW w' := h.fr (Fr.of_below b) h.sz (by simp)
theorem GW.sm {w w' : World} (h : GW w) (b : Sm w' w) : GW w' := h.below (b.below (Below.refl _ _))
end Go.Proofs.YtnmbacegcbjfaaaDoor
