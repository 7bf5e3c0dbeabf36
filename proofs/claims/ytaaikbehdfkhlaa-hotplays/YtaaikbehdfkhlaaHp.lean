/- Requests that a core comes, or goes: plain facts. No program in it. -/
import Derived.Test.YtaaikbehdfkhlaaRm
namespace Go.Proofs.Ytaaikbehdfkhlaa.Hp
open Rm

/-- A request: its kind, its core, by whose steps; how many of its stages are done, whether it goes back, whether the next one was told. -/
structure Rq where
  up : Bool
  cpu : Int
  co : Int
  d : Nat
  bk : Bool
  told : Bool

def nn (up : Bool) : Nat := if up then 4 else 10
def isC (c : Int) : Bool := decide (0 ≤ c) && decide (c < 64)
def plE (k : Int) : Int := if 0 ≤ k ∧ k < 10 then 0 else 3
def plP (P : Int → Bool) (k : Int) : Int → Bool := if 0 ≤ k ∧ k < 10 then fun j => decide (j = k) || P j else P
def beE (R : Option Rq) (c y : Int) : Int := match R with
  | some _ => 7
  | none => if isC c && isC y then (if c = y then 2 else 0) else 3
def beR (R : Option Rq) (up : Bool) (c y : Int) : Option Rq := if beE R c y = 0 then some ⟨up, c, y, 0, false, false⟩ else R
def ups : Option Rq → Bool | some r => r.up | none => false
def cps : Option Rq → Int | some r => r.cpu | none => 0
def cos : Option Rq → Int | some r => r.co | none => 0
def rov : Option Rq → Bool | some r => ov (nn r.up) r.d r.bk | none => false
/-- The stage that is next fails. -/
def fls (P : Int → Bool) (r : Rq) : Bool := !ov (nn r.up) r.d r.bk && !r.bk && P r.d && !r.told
def nxE : Option Rq → Int | some r => (if ov (nn r.up) r.d r.bk then 6 else 0) | none => 12
def nxK : Option Rq → Nat | some r => atK (nn r.up) r.d r.bk | none => 0
def nxU : Option Rq → Bool | some r => !ov (nn r.up) r.d r.bk && r.bk | none => false
def nxF (P : Int → Bool) : Option Rq → Bool | some r => fls P r | none => false
def nxr (P : Int → Bool) (r : Rq) : Rq := if ov (nn r.up) r.d r.bk || r.bk then r else ⟨r.up, r.cpu, r.co, r.d, fls P r, true⟩
def nxR (P : Int → Bool) : Option Rq → Option Rq | some r => some (nxr P r) | none => none
def nxP (P : Int → Bool) : Option Rq → Int → Bool | some r => (if fls P r then fun j => !decide (j = (r.d : Int)) && P j else P) | none => P
def doE : Option Rq → Int | some r => dnE (nn r.up) r.d r.bk | none => 12
def doR : Option Rq → Option Rq | some r => some ⟨r.up, r.cpu, r.co, dnD (nn r.up) r.d r.bk, r.bk, false⟩ | none => none
def enE : Option Rq → Int | some r => (if ov (nn r.up) r.d r.bk then 0 else 6) | none => 12
def enW : Option Rq → Int | some r => (if ov (nn r.up) r.d r.bk then (if r.bk then 11 else 0) else 0) | none => 0
def enR : Option Rq → Option Rq | some r => (if ov (nn r.up) r.d r.bk then none else some r) | none => none

/-- What is kept of whether the next stage was told: it matters where it goes forward. -/
def Tel (r : Rq) (t : Bool) : Prop := r.bk = false → r.d < nn r.up → t = r.told

theorem nn_le (up : Bool) : 1 ≤ nn up ∧ nn up ≤ 10 := by cases up <;> decide
theorem plE_no {k : Int} (h : k < 0 ∨ 10 ≤ k) : plE k = 3 := if_neg (by omega)
theorem plE_yes {k : Int} (h : 0 ≤ k) (h2 : k < 10) : plE k = 0 := if_pos ⟨h, h2⟩
theorem plP_no {P : Int → Bool} {k : Int} (h : k < 0 ∨ 10 ≤ k) : plP P k = P := if_neg (by omega)
theorem plP_yes {P : Int → Bool} {k : Int} (h : 0 ≤ k) (h2 : k < 10) : plP P k = fun j => decide (j = k) || P j := if_pos ⟨h, h2⟩
end Go.Proofs.Ytaaikbehdfkhlaa.Hp
