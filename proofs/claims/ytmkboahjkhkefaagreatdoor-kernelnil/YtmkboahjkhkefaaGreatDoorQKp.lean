/- Contracts of the program's layers, as far as this claim needs them. -/
import Derived.Test.YtmkboahjkhkefaaGreatDoorQXt
import Derived.Test.YtmkboahjkhkefaaGreatDoorQXr
import Derived.Test.YtmkboahjkhkefaaGreatDoorQXw
import Derived.Test.YtmkboahjkhkefaaGreatDoorQXi
import Derived.Test.YtmkboahjkhkefaaGreatDoorQXn
import Derived.Test.YtmkboahjkhkefaaGreatDoorQXc
import Derived.Test.YtmkboahjkhkefaaGreatDoorQXo
import Derived.Test.YtmkboahjkhkefaaGreatDoorQXp
import Derived.Test.YtmkboahjkhkefaaGreatDoorQXg
import Derived.Test.YtmkboahjkhkefaaGreatDoorQXk
import Derived.Test.YtmkboahjkhkefaaGreatDoorQXh
import Derived.Test.YtmkboahjkhkefaaGreatDoorQXe
import Derived.Test.YtmkboahjkhkefaaGreatDoorQXy
set_option linter.unusedVariables false
set_option linter.unusedSimpArgs false
namespace Go.Proofs.YtmkboahjkhkefaaGreatDoor.Krn
open Mm
structure Ev where
  kind : Int
  cpu : Int
  id : Int
  mask : Nat
  n : Int
structure Rec where
  kind : Int
  cpu : Int
  id : Int
  n : Int
  why : Int
structure KS where
  on : Nat
  ac : Nat
  O : Nat → Bool
  X : Nat → Tm.Th
  q : Rqu.Ks
  now : Int
  t : Zm.Ks
  i : Nat → Bm.Iq
  r : Nat → Int
  wk : List (List Int)
  cl : List (List Int)
  oa : List Nat
  ok : List (List Int)
  ct : List Int
  R : Option Hp.Rq
  P : Int → Bool
  gs : Int
  gl : List Int
  sl : Nat
  sh : Nat
  z : List (Bool × Bool)
def lv (a b : Int) : Int := if a < 0 ∨ 1152921504606846976 < a ∨ b < 0 ∨ 1073741824 < b then 0 else if 1152921504606846976 < a + b then 0 else a + b
def le (a b : Int) : Int := if a < 0 ∨ 1152921504606846976 < a ∨ b < 0 ∨ 1073741824 < b then 2 else if 1152921504606846976 < a + b then 16 else 0
def isC (n : Nat) (c : Int) : Bool := decide (0 ≤ c) && decide (c < (n : Int))
def geT (S : KS) (id : Int) : Tm.Th := Tm.gtX S.O S.X id
def geE (S : KS) (id : Int) : Int := if Sl.hs 32 S.O id = true then 0 else 4
def zc (S : KS) (c : Int) : Bool × Bool := S.z.getD c.toNat (false, false)
variable (n : Nat)
def putOn (S : KS) (id p c : Int) (f : Bool) : Int × KS :=
  if Tm.plE n S.O id c = 0 then (Rqu.puE n S.q c p id, { S with X := Tm.plX n S.O S.X id c f, q := Rqu.puK n S.q c p id }) else (Tm.plE n S.O id c, S)
def put (S : KS) (id near : Int) : Int × KS :=
  if geE S id = 0 then putOn n S id (geT S id).prio (Aff.cN (geT S id).mask S.ac near) (Aff.cF (geT S id).mask S.ac) else (geE S id, S)
def spS (S : KS) (p : Int) (m : Nat) : KS := { S with O := Tm.spO n S.O p m, X := Tm.spX n S.O S.X p m }
def spawn (S : KS) (p : Int) (m : Nat) : Int × Int × KS :=
  if Tm.spE n S.O p m = 0 then
    (Tm.spN n S.O p m, (put n (spS n S p m) (Tm.spN n S.O p m) ((Tm.spN n S.O p m).tmod n)).1, (put n (spS n S p m) (Tm.spN n S.O p m) ((Tm.spN n S.O p m).tmod n)).2)
  else (0, Tm.spE n S.O p m, S)
def tqS (S : KS) (id : Int) : KS := { S with q := Rqu.rtK n S.q id }
def move (S : KS) (id near : Int) : Int × KS := if Rqu.rbE n S.q id = 0 then put n (tqS n S id) id near else (Rqu.rbE n S.q id, S)
def item (S : KS) (id : Int) : Aff.It := ⟨id, (geT S id).mask, (geT S id).cpu, (geT S id).forced⟩
def mend (S : KS) (id : Int) : Int × KS :=
  if geE S id = 0 then (if (geT S id).sleeps = true then (0, S) else if Aff.wrg S.ac (item S id) = true then move n S id (geT S id).cpu else (0, S)) else (geE S id, S)
def tcS (S : KS) (x : Int) : KS := { S with t := Zm.caK n S.t x }
def exS (S : KS) (id : Int) : KS := { S with O := Sl.gO 32 S.O id, X := Tm.exX S.O S.X id }
def exit (S : KS) (id : Int) (t : Tm.Th) : Int × KS := (Sl.gE 32 S.O id, exS (if t.sleeps = true then tcS n S t.timer else tqS n S id) id)
def yield (S : KS) (id : Int) (t : Tm.Th) : Int × KS := if t.sleeps = true then (6, S) else (Rqu.rbE n S.q id, { S with q := Rqu.rbK n S.q id })
def arm (S : KS) (c d : Int) : Int × Int × KS :=
  if le S.now d = 0 then (Tim.arN n S.t c (lv S.now d), Tim.arE n S.t c (lv S.now d), { S with t := Tim.arL n S.t c (lv S.now d) }) else (0, le S.now d, S)
def slC (S : KS) (c : Int) : Int := if tb S.ac c = true then c else ((hd (ls S.ac) : Nat) : Int)
def slS (S : KS) (id x : Int) : KS := { S with q := Rqu.rtK n S.q id, X := Tm.slX S.O S.X id x }
def sleep (S : KS) (id : Int) (t : Tm.Th) (d : Int) : Int × Int × KS :=
  if t.sleeps = true then (0, 6, S) else if (arm n S (slC S t.cpu) d).2.1 = 0 then ((arm n S (slC S t.cpu) d).1, Tm.slE (arm n S (slC S t.cpu) d).2.2.O (arm n S (slC S t.cpu) d).2.2.X id, slS n (arm n S (slC S t.cpu) d).2.2 id (arm n S (slC S t.cpu) d).1) else (0, (arm n S (slC S t.cpu) d).2.1, (arm n S (slC S t.cpu) d).2.2)
def awS (S : KS) (id : Int) : KS := { S with X := Tm.wkX S.O S.X id }
def awake (S : KS) (id : Int) (t : Tm.Th) : Int × KS := if Tm.wkE S.O S.X id = 0 then put n (awS S id) id t.cpu else (Tm.wkE S.O S.X id, S)
def rouse (S : KS) (id : Int) (t : Tm.Th) : Int × KS := if t.sleeps = true then awake n (tcS n S t.timer) id t else (6, S)
def amS (S : KS) (id : Int) (m : Nat) : KS := { S with X := Tm.amX n S.O S.X id m }
def aim (S : KS) (id : Int) (m : Nat) : Int × KS := if Tm.amE n S.O id m = 0 then mend n (amS n S id m) id else (Tm.amE n S.O id m, S)
def fromC (S : KS) : Int := Rqb.bsN (Rqu.loN n S.q) Rqb.btG (Rqb.bc S.ac n)
def toC (S : KS) : Int := Rqb.bsN (Rqu.loN n S.q) Rqb.btL (Rqb.bc S.ac n)
def balI (S : KS) : Option Int := (Rqu.liL n S.q (fromC n S)).reverse.find? fun id => tb (geT S id).mask (toC n S)
def balT (S : KS) (c : Int) : Option Int → Int × Int × KS
  | some id => (id, (putOn n (tqS n S id) id (geT S id).prio c false).1, (putOn n (tqS n S id) id (geT S id).prio c false).2)
  | none => (0, 0, S)
def balance (S : KS) : Int × Int × KS :=
  if Rqb.bsE (Rqb.bc S.ac n) = 0 then (if Rqu.loN n S.q (fromC n S) - Rqu.loN n S.q (toC n S) < 2 then (0, 0, S) else balT n S (toC n S) (balI n S))
  else (0, Rqb.bsE (Rqb.bc S.ac n), S)
def own (S : KS) (x : Int) : Int := ((Sl.li 32 S.O).find? fun id => (geT S id).sleeps && (geT S id).timer == x).getD 0
def cancel (S : KS) (id : Int) : Int × KS := if own S id = 0 then (Zm.caE n S.t id, tcS n S id) else (6, S)
def seC (S : KS) (k near : Int) : Int := Aff.cN (Bm.gtX S.i k).bs S.ac near
def send (S : KS) (k near : Int) : Int × KS :=
  if Bm.atE k = 0 then (Nm.stE n k (seC S k near), { S with r := Nm.stp (Nm.stE n k (seC S k near)) S.r k (seC S k near) }) else (Bm.atE k, S)
def rqS (S : KS) (k : Int) (m : Nat) : KS := { S with i := Bm.stp (Bm.rqE n S.i k m) S.i k (Bm.nw m) }
def request (S : KS) (k : Int) (m : Nat) : Int × KS := if Bm.rqE n S.i k m = 0 then send n (rqS n S k m) k (k.tmod n) else (Bm.rqE n S.i k m, S)
def free (S : KS) (k : Int) : Int × KS :=
  if Bm.waE S.i k = 0 then (Nm.ofE S.r k, { S with i := Bm.stp (Bm.waE S.i k) S.i k Bm.zi, r := Nm.stp (Nm.ofE S.r k) S.r k (-1) }) else (Bm.waE S.i k, S)
def itemI (S : KS) (k : Int) : Aff.It := ⟨k, (Bm.gtX S.i k).bs, Nm.ofN S.r k, !tb (Bm.gtX S.i k).bs (Nm.ofN S.r k)⟩
def mendIrq (S : KS) (k : Int) : Int × KS :=
  if Bm.atE k = 0 then (if Aff.wrg S.ac (itemI S k) = true then send n S k (Nm.ofN S.r k) else (0, S)) else (Bm.atE k, S)
def aiS (S : KS) (k : Int) (m : Nat) : KS := { S with i := Bm.stp (Bm.amE n S.i k m) S.i k { S.i k.toNat with bs := m } }
def aimIrq (S : KS) (k : Int) (m : Nat) : Int × KS := if Bm.amE n S.i k m = 0 then mendIrq n (aiS n S k m) k else (Bm.amE n S.i k m, S)
def hush (S : KS) (k : Int) (b : Bool) : Int × KS := (Bm.hsE S.i k b, { S with i := Bm.stp (Bm.hsE S.i k b) S.i k { S.i k.toNat with ms := b } })
def raise (S : KS) (k : Int) : Int × KS := (Bm.waE S.i k, { S with i := Bm.stp (Bm.waE S.i k) S.i k { S.i k.toNat with pd := true } })
def flush (S : KS) (id : Int) : Int × Int := if id < 1 ∨ 32 < id then (0, 2) else if Cm.haB S.wk id = true then (1, 0) else (0, 0)
/- Requests. -/
def byC (S : KS) (c : Int) : Int := ((hd (ls (nt S.ac (bv c))) : Nat) : Int)
def beS (S : KS) (up : Bool) (c : Int) : KS := { S with R := Hp.beR S.R up c (byC S c), gs := Em.waS S.gs }
def begin_ (S : KS) (up : Bool) (c : Int) : Int × KS :=
  if isC n c = false then (3, S) else if S.R.isSome = true then (7, S) else if up = true ∧ tb S.on c = true then (8, S) else if up = false ∧ tb S.on c = false then (9, S)
  else if up = false ∧ (ls S.on).length = 1 then (10, S) else if Hp.beE S.R c (byC S c) = 0 then (Em.waE S.gs, beS S up c) else (Hp.beE S.R c (byC S c), S)
def plan (S : KS) (k : Int) : Int × KS := if k < 0 ∨ 10 ≤ k then (3, S) else (Hp.plE k, { S with P := Hp.plP S.P k })
def shift (S : KS) (c : Int) : Bool × KS := match Rqu.liL n S.q c with
  | [] => (true, S)
  | id :: _ => (false, (move n S id c).2)
def pwz (z : List (Bool × Bool)) (c : Int) (on : Bool) : List (Bool × Bool) := if Cor.Co.isk z.length c = true then (if (z.getD c.toNat (false, false)).1 = on then z else z.set c.toNat (on, false)) else z
def onL (S : KS) (c : Int) : List Int := KK (Nm.on S.r c) 16
def sendAll (S : KS) (c : Int) (l : List Int) : KS := l.foldl (fun S k => (send n S k c).2) S
def reroute (S : KS) (c b : Int) : Bool × KS :=
  if Ek.onB S.sl S.sh = true then (if Ek.rdB S.sl S.sh = true then (true, { sendAll n S c (onL S c) with sl := 0, sh := 0 }) else (false, S))
  else (false, { S with sl := Ek.beL S.sl S.sh (nt (wl S.ac [c]) (bv b)) })
def takeS (S : KS) : KS := { S with gs := Em.tkS S.gs S.gl }
def drain (S : KS) (c : Int) : KS := { S with oa := Hm.drA 12 n S.oa S.ok c, ok := Hm.drK n S.ok c }
def leave (S : KS) (st c b : Int) : Bool × KS :=
  if st = 0 then (Em.tkE S.gs S.gl == 0, takeS S)
  else if st = 1 then (true, { S with ac := nt S.ac (bv c) })
  else if st = 2 then shift n S c
  else if st = 3 then (!(Tim.moE n S.t c b == 0), { S with t := Tim.moK n S.t c b })
  else if st = 4 then (!(Cm.unE n S.wk c == 0), { S with wk := Cm.unK n S.wk c })
  else if st = 5 then (!(Cm.moE S.cl c b == 0), { S with cl := Cm.moK S.cl c b })
  else if st = 6 then reroute n S c b
  else if st = 7 then (true, drain n S c)
  else if st = 8 then (true, { S with ct := Pm.fdL S.ct c b })
  else if st = 9 then (true, { S with on := nt S.on (bv c), z := pwz S.z c false })
  else (true, S)
def ungo (S : KS) (st c : Int) : KS := if st = 1 then { S with ac := wl S.ac [c] } else S
def mendAll (S : KS) (l : List Int) : KS := l.foldl (fun S id => (mend n S id).2) S
def mendIrqs (S : KS) (l : List Int) : KS := l.foldl (fun S k => (mendIrq n S k).2) S
def wtL (S : KS) : List Int := KK (fun k => (S.i k).wt) 16
def homT (S : KS) : KS := mendAll n S (Sl.li 32 S.O)
def home (S : KS) : KS := mendIrqs n (homT n S) (wtL (homT n S))
def comS (S : KS) (c : Int) : KS := { S with on := wl S.on [c], ac := wl S.ac [c] }
def come (S : KS) (st c : Int) : Bool × KS :=
  if st = 0 then (Em.tkE S.gs S.gl == 0, takeS S)
  else if st = 1 then (true, { S with z := pwz S.z c true })
  else if st = 2 then (true, drain n S c)
  else if st = 3 then (true, home n (comS S c))
  else (true, S)
def uncome (S : KS) (st c : Int) : KS := if st = 1 then { S with z := pwz S.z c false } else S
def doSt (S : KS) (k : Int) (u : Bool) : Bool × KS :=
  if u = true then (true, if Hp.ups S.R = true then uncome S k (Hp.cps S.R) else ungo S k (Hp.cps S.R))
  else if Hp.ups S.R = true then come n S k (Hp.cps S.R) else leave n S k (Hp.cps S.R) (Hp.cos S.R)
def nxS (S : KS) : KS := { S with R := Hp.nxR S.P S.R, P := Hp.nxP S.P S.R }
def dnS (S : KS) : KS := { S with R := Hp.doR S.R }
def actS (S : KS) : KS :=
  if Hp.nxE S.R = 0 ∧ Hp.nxF S.P S.R = false then (if (doSt n (nxS S) (Hp.nxK S.R : Nat) (Hp.nxU S.R)).1 = true then dnS (doSt n (nxS S) (Hp.nxK S.R : Nat) (Hp.nxU S.R)).2 else (doSt n (nxS S) (Hp.nxK S.R : Nat) (Hp.nxU S.R)).2) else nxS S
def act (S : KS) : List Rec × KS :=
  if Hp.rov (actS n S).R = true then ([⟨7, Hp.cps (actS n S).R, 0, 0, Hp.enW (actS n S).R⟩], { actS n S with R := Hp.enR (actS n S).R, gs := 0 }) else ([], actS n S)
/- Steps. -/
def rdyI (S : KS) (c : Int) : Option Int := (onL S c).find? fun k => Bm.rdB S.i k
def flags (S : KS) (c : Int) : Cor.Co.Fl where
  stop := tb S.sl c
  held := tb S.sh c
  hot := S.R.isSome && Hp.cos S.R == c
  act := tb S.ac c
  call := decide (0 < (Cm.clL S.cl c).length)
  irq := (rdyI S c).isSome
  timer := Tim.txR n S.now S.t c
  work := decide (0 < (Cm.wlL n S.wk c).length) || decide (0 < (Cm.wlL n S.wk (-1)).length)
  thr := decide (0 < Rqu.loN n S.q c)
def what (S : KS) (c : Int) : Int := Cor.Co.next (zc S c).1 (zc S c).2 (flags n S c)
def wakeS (S : KS) (c : Int) : KS := if (zc S c).2 = true then { S with z := S.z.set c.toNat ((zc S c).1, false) } else S
def restS (S : KS) (c : Int) : KS := if (zc S c).1 = true ∧ (zc S c).2 = false then { S with z := S.z.set c.toNat (true, true) } else S
def ackS (S : KS) (c : Int) : KS := { S with sl := Ek.acL S.sl c, sh := Ek.acH S.sl S.sh c }
def fiS (S : KS) (c : Int) : KS := { S with t := Tim.fxK n S.now S.t c }
def fiW (S : KS) (c : Int) : Int := own (fiS n S c) (Tim.fxN n S.now S.t c)
def fire (S : KS) (c : Int) : Int × Int × KS :=
  (Tim.fxN n S.now S.t c, fiW n S c, if geE (fiS n S c) (fiW n S c) = 0 then (awake n (fiS n S c) (fiW n S c) (geT (fiS n S c) (fiW n S c))).2 else fiS n S c)
def adS (S : KS) (c : Int) : KS := { S with ct := Pm.adL S.ct c 1 }
def thing (S : KS) (wh c : Int) : Rec × KS :=
  if wh = 4 then (⟨6, c, Cm.ckN S.cl c, 0, 0⟩, { adS S c with cl := Cm.ckK S.cl c })
  else if wh = 5 then (⟨4, c, (rdyI S c).getD 0, 0, 0⟩, { adS S c with i := Bm.stp (Bm.clE S.i ((rdyI S c).getD 0)) S.i ((rdyI S c).getD 0) { S.i ((rdyI S c).getD 0).toNat with pd := false } })
  else if wh = 6 then (⟨3, c, (fire n (adS S c) c).1, (fire n (adS S c) c).2.1, 0⟩, (fire n (adS S c) c).2.2)
  else if wh = 7 then (⟨5, c, Cm.taN n S.wk c, 0, 0⟩, { adS S c with wk := Cm.taK n S.wk c })
  else if wh = 8 then (⟨2, c, Rqu.pkN n S.q c, 0, 0⟩, { adS S c with q := Rqu.pkK n S.q c })
  else (⟨0, c, 0, 0, 0⟩, adS S c)
def step (S : KS) (c : Int) : List Rec × KS :=
  if what n S c = 0 then ([], S) else if what n S c = 1 then ([], wakeS S c) else if what n S c = 2 then ([], ackS S c) else if what n S c = 9 then ([], restS S c)
  else if what n S c = 3 then act n S else ([(thing n S (what n S c) c).1], (thing n S (what n S c) c).2)
/- Answers. -/
def no (r : Int × KS) : Int × Int × KS := (0, r.1, r.2)
def onT (S : KS) (id : Int) (f : Tm.Th → Int × Int × KS) : Int × Int × KS := if geE S id = 0 then f (geT S id) else (0, geE S id, S)
def onK (S : KS) (c : Int) (f : Int × Int × KS) : Int × Int × KS := if isC n c = false then (0, 3, S) else if tb S.ac c = false then (0, 9, S) else f
def tick (S : KS) (d : Int) : Int × KS := if le S.now d = 0 then (0, { S with now := lv S.now d }) else (le S.now d, S)
def queue (S : KS) (c : Int) : Int × Int × KS := (Cm.quN n S.wk c, Cm.quE n S.wk c, { S with wk := Cm.quK n S.wk c })
def call (S : KS) (c : Int) : Int × Int × KS := (Cm.seN S.cl c, Cm.seE S.cl c, { S with cl := Cm.seK S.cl c })
def alloc (S : KS) (c : Int) : Int × Int × KS := (Hm.alN 12 n S.oa S.ok c, Hm.alE 12 n S.oa S.ok c, { S with oa := Hm.alA 12 n S.oa S.ok c, ok := Hm.alK 12 n S.oa S.ok c })
def give (S : KS) (c x : Int) : Int × KS := (Hm.giE 12 n S.oa S.ok c x, { S with oa := Hm.giA 12 n S.oa S.ok c x, ok := Hm.giK 12 n S.oa S.ok c x })
def enter (S : KS) (c : Int) : Int × KS := (Em.enE S.gs S.gl c, { S with gl := Em.enL S.gs S.gl c })
def left (S : KS) (c : Int) : Int × KS := (Em.leE S.gl c, { S with gl := Em.leL S.gl c })
def limE (d : Int) : Int := if d < 0 ∨ 1073741824 < d then 2 else 0
def spdE (a b : Int) : Int := if 1 ≤ a ∧ a ≤ b ∧ b ≤ 100000 then 0 else 2
def ofCores (S : KS) (e : Ev) : Int × Int × KS :=
  if e.kind = 1 then (0, 3, S)
  else if e.kind = 23 ∨ e.kind = 24 then no (begin_ n S (e.kind == 23) e.cpu)
  else if e.kind = 25 then no (plan S e.n)
  else if e.kind = 26 then onK n S e.cpu (no (enter S e.cpu))
  else if e.kind = 27 then no (left S e.cpu)
  else if e.kind = 28 then (0, limE e.n, S)
  else if e.kind = 29 then (0, spdE e.id e.n, S)
  else (0, 2, S)
def ofStores (S : KS) (e : Ev) : Int × Int × KS :=
  if e.kind = 18 then (if e.cpu = -1 then queue n S (-1) else onK n S e.cpu (queue n S e.cpu))
  else if e.kind = 19 then ((flush S e.id).1, (flush S e.id).2, S)
  else if e.kind = 20 then onK n S e.cpu (call S e.cpu)
  else if e.kind = 21 then onK n S e.cpu (alloc n S e.cpu)
  else if e.kind = 22 then onK n S e.cpu (no (give n S e.cpu e.id))
  else ofCores n S e
def ofDevices (S : KS) (e : Ev) : Int × Int × KS :=
  if e.kind = 2 then no (tick S e.n)
  else if e.kind = 10 then onK n S e.cpu (arm n S e.cpu e.n)
  else if e.kind = 11 then no (cancel n S e.id)
  else if e.kind = 12 then no (request n S e.id e.mask)
  else if e.kind = 13 then no (free S e.id)
  else if e.kind = 14 then no (aimIrq n S e.id e.mask)
  else if e.kind = 15 then no (hush S e.id true)
  else if e.kind = 16 then no (hush S e.id false)
  else if e.kind = 17 then no (raise S e.id)
  else ofStores n S e
def ofThreads (S : KS) (e : Ev) : Int × Int × KS :=
  if e.kind = 3 then spawn n S e.id e.mask
  else if e.kind = 4 then onT S e.id fun t => no (exit n S e.id t)
  else if e.kind = 5 then onT S e.id fun t => no (yield n S e.id t)
  else if e.kind = 6 then onT S e.id fun t => sleep n S e.id t e.n
  else if e.kind = 7 then onT S e.id fun t => no (rouse n S e.id t)
  else if e.kind = 8 then no (aim n S e.id e.mask)
  else if e.kind = 9 then onT S e.id fun t => (t.cpu, 0, S)
  else if e.kind = 30 then balance n S
  else ofDevices n S e
def ret (a b : Int) : Rec := ⟨1, 0, if b = 0 then a else 0, 0, b⟩
def kdo (S : KS) (e : Ev) : List Rec × KS :=
  if e.kind = 1 ∧ isC n e.cpu = true then step n S e.cpu else ([ret (ofThreads n S e).1 (ofThreads n S e).2.1], (ofThreads n S e).2.2)
def new : KS where
  on := up n
  ac := up n
  O := fun _ => false
  X := fun _ => Tm.zt
  q := fun _ => []
  now := 0
  t := fun _ => []
  i := fun _ => Bm.zi
  r := fun _ => -1
  wk := List.replicate (n + 1) []
  cl := List.replicate n []
  oa := List.replicate 12 0
  ok := List.replicate n []
  ct := List.replicate n 0
  R := none
  P := fun _ => false
  gs := 0
  gl := List.replicate n 0
  sl := 0
  sh := 0
  z := List.replicate n (true, false)
end Go.Proofs.YtmkboahjkhkefaaGreatDoor.Krn
