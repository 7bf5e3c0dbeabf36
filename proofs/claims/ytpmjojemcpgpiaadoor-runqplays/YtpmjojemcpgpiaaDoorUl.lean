/- What runq's List answers, for all queues of cores. -/
import Derived.Test.YtpmjojemcpgpiaaDoorUa
import Derived.WalkKit
import Derived.ProofKit
import Derived.OpenShut
import Derived.BigQuiet
namespace Go.Proofs.YtpmjojemcpgpiaaDoor
open Go.ChangeShapes Go.WideShapes Go.ChangeAt Go.RowKit
open Fm Qm

set_option maxRecDepth 100000 in
set_option maxHeartbeats 1000000 in
theorem rqlist_any {w : World} {s n m : Nat} {K : Ks} (c : Int) (h : RR w s n m K) :
    Calls Tryd.prog 15 #[.pointer (some ⟨s + 2, 0, none⟩), .int .i64 c] w fun e w' => ∃ v, e = .returned v ∧ w'.ownsRow w.heap.size 3 1 v (liL n K c).length ((liL n K c).map (Value.int .i64)) ∧ Below w.heap.size w w' := by
  by_cases hc : isC n c
  · rw [show liL n K c = cat (K c.toNat) from if_pos hc]
    obtain ⟨k, rfl⟩ : ∃ k : Nat, c = (k : Int) := ⟨c.toNat, by unfold isC at hc; omega⟩
    have hk : (k : Int) < n := hc.2
    rw [Int.toNat_natCast]
    have C : Hid (∀ _ : Unit, _) := fun _ => isc_yes k hk h.rb
    have D : Hid (∀ _ : Unit, _) := fun _ => plist_any w (h.rb.qs k (by omega))
    have c0 := h.rb.c0
    have cq := h.rb.cq (c := k) (by omega)
    clear h hc
    go_enter Tryd.func15, Tryd.ntmps15
    go_wp2_with fail
    refine (C.out ()).mono ?_
    rintro e w' ⟨rfl, rfl⟩
    go_wp2_with fail
    refine (D.out ()).mono ?_
    rintro e w2 ⟨v, rfl, o2, b2⟩
    go_wp2
    go_ret
    exact ⟨v, rfl, o2, b2⟩
  · rw [show liL n K c = [] from if_neg hc]
    have C : Hid (∀ _ : Unit, _) := fun _ => isc_no c hc h.rb
    clear h hc
    go_enter Tryd.func15, Tryd.ntmps15
    go_wp2_with fail
    refine (C.out ()).mono ?_
    rintro e w' ⟨rfl, rfl⟩
    go_wp2
    go_ret
    exact ⟨.slice none 0 0, rfl, World.ownsRow_nil _ _ _ _, Below.refl _ _⟩
end Go.Proofs.YtpmjojemcpgpiaaDoor
