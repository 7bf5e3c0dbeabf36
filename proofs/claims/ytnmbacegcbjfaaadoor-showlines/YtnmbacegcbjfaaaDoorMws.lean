/- What the listed variables, as the program's text lays them, give the proofs of records as lines; and that a start with them exists. -/
import Derived.Test.YtnmbacegcbjfaaaDoorRows
import Derived.Test.YtnmbacegcbjfaaaDoorGw
import Derived.ProofKit
import Derived.Lay
import Derived.LaidMore
import Derived.OpenShut
import Derived.Stop.Joined
import Derived.Lib.LaidU8
import Derived.Shelf.Vars
import Derived.Handed
namespace Go.Proofs.YtnmbacegcbjfaaaDoor
open Go.ChangeShapes Go.WideShapes Go.ChangeAt Go.RowKit
open Wd Sv

theorem own : ownKnob Tryd.prog.godebug = none := by kernel_rfl
theorem laidOut : laidOutB Tryd.prog = true := by kernel_rfl

def laidTab : List (String × DataW Unit) := [("math/bits.deBruijn32tab", Rows.laid_math_bits_deBruijn32tab), ("math/bits.deBruijn64tab", Rows.laid_math_bits_deBruijn64tab), ("internal/strconv.uint64pow10", Rows.laid_internal_strconv_uint64pow10), ("strconv.ErrRange", Rows.laid_strconv_ErrRange), ("strconv.ErrSyntax", Rows.laid_strconv_ErrSyntax), ("davit/show.names", Rows.laid_davit_show_names)]

set_option maxRecDepth 100000 in
theorem laid_met (os : Os) (args : Array Value) : laidMetH Tryd.prog laidTab ((World.laidAll Tryd.prog os laidTab).forCall (fun _ _ => 0) ⟨#[], args, []⟩).memory := by
  rw [MakeChecks.laidMetH_plain _ _ _ (by kernel_rfl)]
  exact laidMet_laidAll _ (by kernel_rfl) (by kernel_rfl)

theorem names_data : (Rows.laid_davit_show_names : DataW Unit) = .agg ((List.range 8).map fun k => .lit (.string (nrk k))) := by kernel_rfl
theorem pow_data : (Rows.laid_internal_strconv_uint64pow10 : DataW Unit) = .agg (Lib.pow10Tab.map fun z => .lit (.int .u64 z)) := by kernel_rfl

section
variable {H : Type} {enc : TypeId × Value → H} {P : Program} {w : World} {base : Nat} {sp : Nat → Bool}
theorem iface_of {fuel : Nat} {t : TypeId} {m} {cs : List Value} {n : String} {d : DataW H} {p : List MemPlace} (ht : P.underlying t = some (.interface m))
    (h : DataW.trod enc P w base sp false fuel t cs = some (.iface n d, p)) : ∃ u v, cs = [.iface u v] := by
  cases fuel with
  | zero => simp [DataW.trod] at h
  | succ k =>
    unfold DataW.trod at h
    rw [ht] at h
    split at h <;> simp_all
end

theorem pow_is {W : World} (h : laidMet Tryd.prog laidTab W) : Lib.TabIs Tryd.prog W "internal/strconv.uint64pow10" .u64 Lib.pow10Tab := by
  obtain ⟨g, t, cs, f, p, hg, ht, hv, hd⟩ := Lib.laidMet.reads h (n := "internal/strconv.uint64pow10") (d := Rows.laid_internal_strconv_uint64pow10) (by simp [laidTab])
  obtain rfl := Option.some.inj ((show Tryd.prog.globalNamed "internal/strconv.uint64pow10" = some 1 by kernel_rfl).symm.trans hg)
  obtain rfl := Option.some.inj ((show (Tryd.prog.globals[1]?).map (·.type) = some 92 by kernel_rfl).symm.trans ht)
  unfold Lib.TabIs
  rw [pow_data] at hd
  rw [hv, ← Lib.cells_of_tab (zs := Lib.pow10Tab) Tryd.underlying92 Tryd.underlying23 (by kernel_rfl) (by kernel_rfl) hd]

theorem err_is {W : World} (h : laidMet Tryd.prog laidTab W) {n : String} {g : Nat} {s : String} {d d0 : DataW Unit} (hm : (n, d0) ∈ laidTab) (e : d0 = .iface s d) (hn : Tryd.prog.globalNamed n = some g)
    (hy : (Tryd.prog.globals[g]?).map (·.type) = some 66) : ∃ te pe, W.cell? ⟨g, 0, none⟩ = some (.iface te pe) := by
  subst e
  obtain ⟨g', t, cs, f, p, hg, ht, hv, hd⟩ := Lib.laidMet.reads h hm
  obtain rfl := Option.some.inj (hn.symm.trans hg)
  obtain rfl := Option.some.inj (hy.symm.trans ht)
  obtain ⟨u, v, hc⟩ := iface_of Tryd.underlying66 hd
  have := World.var?_cell hg hv 0
  refine ⟨u, v, this.trans ?_⟩
  have h0 : cs.toList[0]? = some (.iface u v) := by rw [hc]; rfl
  simpa using h0

theorem nr_is {W : World} (h : laidMet Tryd.prog laidTab W) (k : Nat) (hk : k < 8) :
    W.cell? ⟨0, k, none⟩ = some (.string (sb (nrk k))) := by
  obtain ⟨g, t, cs, f, p, hg, ht, hv, hd⟩ := Lib.laidMet.reads h (n := "davit/show.names") (d := Rows.laid_davit_show_names) (by simp [laidTab])
  obtain rfl := Option.some.inj ((show Tryd.prog.globalNamed "davit/show.names" = some 0 by kernel_rfl).symm.trans hg)
  obtain rfl := Option.some.inj ((show (Tryd.prog.globals[0]?).map (·.type) = some 39 by kernel_rfl).symm.trans ht)
  rw [names_data] at hd
  obtain ⟨xs, m, _, ex, _, hl, hel⟩ := DataW.trod_array Tryd.underlying39 hd
  have c2 : Tryd.prog.cellsOf 9 = 1 := by kernel_rfl
  have hE := hel k hk
  rw [c2, List.getElem?_eq_getElem (by omega)] at hE
  have e3 : (xs.map (·.1)) = (List.range 8).map fun k => (DataW.lit (.string (nrk k)) : DataW Unit) := (DataW.agg.inj (Prod.mk.inj ex).1).symm
  have e4 : xs[k].1 = DataW.lit (.string (nrk k)) := by
    have e5 : (xs.map (·.1))[k]? = ((List.range 8).map fun k => (DataW.lit (.string (nrk k)) : DataW Unit))[k]? := by rw [e3]
    rw [List.getElem?_map, List.getElem?_map, List.getElem?_eq_getElem (by omega : k < xs.length), List.getElem?_eq_getElem (by simpa using hk)] at e5
    simpa using e5
  obtain ⟨s0, c0, d0, _⟩ := DataW.trod_string Tryd.underlying9 hE
  rw [d0] at e4
  simp only [DataW.lit.injEq, Lit.string.injEq] at e4
  have z0 : s0 = sb (nrk k) := by rw [sb_eta s0, e4]
  have := World.var?_cell hg hv k
  refine this.trans ?_
  have h7 := congrArg (fun l : List Value => l[0]?) c0
  simp at h7
  rw [← z0]
  simpa using h7

theorem max_is {W : World} (h : W.ShapedOpen Tryd.prog) : ∃ m, W.cell? ⟨2, 0, none⟩ = some (.int .i64 m) :=
  cell_of_shapedOpen_int (zero := #[.int .i64 0]) (t := 3) h (by decide +kernel) (by kernel_rfl) rfl (by kernel_rfl) (by kernel_rfl) Tryd.underlying3

theorem of_laid {W : World} (h : laidMetH Tryd.prog laidTab W) (hs : W.ShapedOpen Tryd.prog) : GW W := by
  rw [MakeChecks.laidMetH_plain _ _ _ (by kernel_rfl)] at h
  have e6 := err_is h (n := "strconv.ErrRange") (g := 6) (d0 := Rows.laid_strconv_ErrRange) (by simp [laidTab]) rfl (by kernel_rfl) (by kernel_rfl)
  refine ⟨pow_is h, fun k hk => nr_is h k hk, err_is h (n := "strconv.ErrSyntax") (d0 := Rows.laid_strconv_ErrSyntax) (by simp [laidTab]) rfl (by kernel_rfl) (by kernel_rfl), e6, max_is hs, ?_⟩
  obtain ⟨te, pe, e⟩ := e6
  exact World.block_lt_of_cell? W _ e

/-- The frame with the world's shape handed on. -/
theorem handed_shaped {H : Type} {enc : TypeId × Value → H} {a : Assume} {C : Checked} {os : Os} {f : FuncId} {fn : Func} {s : ChangeSpec} {conds : List PathCond} {apart fresh handsOn again : Bool} {X : World → Array Value → Prop}
    (hX : ∀ (w w' : World) (args : Array Value), w.heap = w'.heap → X w args → X w' args)
    (own : ownKnob C.prog.godebug = none) (started : os.Started) (noInit : C.prog.inits.idxOf? f = none) (hfn : C.prog.funcs[f]? = some fn)
    (witness : ∃ (w : World) (tape : Tape) (i : Input), w.os = os ∧ (w.forCall tape i).Shaped C.prog ∧ i.vars = [] ∧ Input.okWide C.prog (w.forCall tape i) .any w.heap.size f i ∧
      ((s.pre enc C.prog fn conds apart (w.forCall tape i).memory i.args ∧ X (w.forCall tape i).memory i.args) ∧ sizedMet enc C.prog fn (OpenSpec.ofChange s) apart (w.forCall tape i).memory i.args) ∧ a.holds C.prog (lone (Frame.enter C.prog f i.args .normal) [] (w.forCall tape i)))
    (contract : ∀ (W : World) (base : Nat) (args : Array Value) (ds gs : List (DataW H)) (before : List MemPlace),
      (∀ (j : Nat) t v, fn.params[j]? = some t → args[j]? = some v → Value.okWide C.prog W .any base t v) →
      DataW.Whole enc C.prog fn.params.toList s.vars apart W args.toList ds gs before →
      X W args → W.ShapedOpen C.prog →
      Calls C.prog f args W fun e W' => ∃ v, e = .returned v ∧ s.post enc C.prog fn apart fresh handsOn again W args v W') :
    ReturnsInHanded a C os f .any (fun w args => (s.pre enc C.prog fn conds apart w args ∧ X w args) ∧ sizedMet enc C.prog fn (OpenSpec.ofChange s) apart w args) (s.post enc C.prog fn apart fresh handsOn again) := by
  refine returnsInHanded_of_calls own started noInit witness ?_
  intro w tape i _ hsh _ hok hpre hholds
  obtain ⟨_, _, _, fn', hfn', _, _, _, _, hval⟩ := hok
  have e : fn' = fn := Option.some.inj (hfn'.symm.trans hfn)
  subst e
  obtain ⟨⟨⟨ds, gs, before, hw, hc⟩, hx⟩, hz⟩ := hpre
  have hw' := DataW.Whole.of_heap (w' := w.forCall tape i) (by rfl) hw
  refine (contract (w.forCall tape i) w.heap.size i.args ds gs before hval hw' (hX _ _ _ (by rfl) hx) hsh).mono fun e W' ⟨v, he, hp⟩ => ?_
  subst he
  exact ChangeSpec.post_blind hp
end Go.Proofs.YtnmbacegcbjfaaaDoor
