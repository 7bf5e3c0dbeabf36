/- The texts Kp Kw Kx Ky Kz of one layer, laid together. -/
import Derived.Test.YtfipiifickdeiaaGreatDoorRows
import Derived.Test.YtfipiifickdeiaaGreatDoorXt
import Derived.Test.YtfipiifickdeiaaGreatDoorXr
import Derived.Test.YtfipiifickdeiaaGreatDoorXw
import Derived.Test.YtfipiifickdeiaaGreatDoorXi
import Derived.Test.YtfipiifickdeiaaGreatDoorXn
import Derived.Test.YtfipiifickdeiaaGreatDoorXc
import Derived.Test.YtfipiifickdeiaaGreatDoorXo
import Derived.Test.YtfipiifickdeiaaGreatDoorXp
import Derived.Test.YtfipiifickdeiaaGreatDoorXg
import Derived.Test.YtfipiifickdeiaaGreatDoorXk
import Derived.Test.YtfipiifickdeiaaGreatDoorXh
import Derived.Test.YtfipiifickdeiaaGreatDoorXe
import Derived.Test.YtfipiifickdeiaaGreatDoorXy
import Derived.Test.YtfipiifickdeiaaGreatDoorXm
import Derived.Test.YtfipiifickdeiaaGreatDoorXv
import Derived.Test.YtfipiifickdeiaaGreatDoorXd
import Derived.WalkKit
import Derived.ProofKit
import Derived.OpenShut
import Derived.BigQuiet
import Derived.Deep.RegionHeld3
namespace Go.Proofs.YtfipiifickdeiaaGreatDoor.Krn
open Mm
/-- An event; a record. -/
structure Ev where
  kind : Int
  cpu : Int
  id : Int
  mask : Nat
  n : Int
structure Rec where
  kind : Int
  cpu : Int
  id : Int
  n : Int
  why : Int
/-- A kernel's parts: which cores are online, active; threads; queues; the tick, timers; interrupts, routes; works, calls; pool, kept objects; counts; the request, what is planned; the gate; the stop; of each core whether it has power, and rests. -/
structure KS where
  on : Nat
  ac : Nat
  O : Nat → Bool
  X : Nat → Tm.Th
  q : Rqu.Ks
  now : Int
  t : Zm.Ks
  i : Nat → Bm.Iq
  r : Nat → Int
  wk : List (List Int)
  cl : List (List Int)
  oa : List Nat
  ok : List (List Int)
  ct : List Int
  R : Option Hp.Rq
  P : Int → Bool
  gs : Int
  gl : List Int
  sl : Nat
  sh : Nat
  z : List (Bool × Bool)
def lv (a b : Int) : Int := if a < 0 ∨ 1152921504606846976 < a ∨ b < 0 ∨ 1073741824 < b then 0 else if 1152921504606846976 < a + b then 0 else a + b
def le (a b : Int) : Int := if a < 0 ∨ 1152921504606846976 < a ∨ b < 0 ∨ 1073741824 < b then 2 else if 1152921504606846976 < a + b then 16 else 0
def isC (n : Nat) (c : Int) : Bool := decide (0 ≤ c) && decide (c < (n : Int))
def geT (S : KS) (id : Int) : Tm.Th := Tm.gtX S.O S.X id
def geE (S : KS) (id : Int) : Int := if Sl.hs 32 S.O id = true then 0 else 4
def zc (S : KS) (c : Int) : Bool × Bool := S.z.getD c.toNat (false, false)
variable (n : Nat)
def putOn (S : KS) (id p c : Int) (f : Bool) : Int × KS :=
  if Tm.plE n S.O id c = 0 then (Rqu.puE n S.q c p id, { S with X := Tm.plX n S.O S.X id c f, q := Rqu.puK n S.q c p id }) else (Tm.plE n S.O id c, S)
def put (S : KS) (id near : Int) : Int × KS :=
  if geE S id = 0 then putOn n S id (geT S id).prio (Aff.cN (geT S id).mask S.ac near) (Aff.cF (geT S id).mask S.ac) else (geE S id, S)
def spS (S : KS) (p : Int) (m : Nat) : KS := { S with O := Tm.spO n S.O p m, X := Tm.spX n S.O S.X p m }
def spawn (S : KS) (p : Int) (m : Nat) : Int × Int × KS :=
  if Tm.spE n S.O p m = 0 then
    (Tm.spN n S.O p m, (put n (spS n S p m) (Tm.spN n S.O p m) ((Tm.spN n S.O p m).tmod n)).1, (put n (spS n S p m) (Tm.spN n S.O p m) ((Tm.spN n S.O p m).tmod n)).2)
  else (0, Tm.spE n S.O p m, S)
def tqS (S : KS) (id : Int) : KS := { S with q := Rqu.rtK n S.q id }
def move (S : KS) (id near : Int) : Int × KS := if Rqu.rbE n S.q id = 0 then put n (tqS n S id) id near else (Rqu.rbE n S.q id, S)
def item (S : KS) (id : Int) : Aff.It := ⟨id, (geT S id).mask, (geT S id).cpu, (geT S id).forced⟩
def mend (S : KS) (id : Int) : Int × KS :=
  if geE S id = 0 then (if (geT S id).sleeps = true then (0, S) else if Aff.wrg S.ac (item S id) = true then move n S id (geT S id).cpu else (0, S)) else (geE S id, S)
def tcS (S : KS) (x : Int) : KS := { S with t := Zm.caK n S.t x }
def exS (S : KS) (id : Int) : KS := { S with O := Sl.gO 32 S.O id, X := Tm.exX S.O S.X id }
def exit (S : KS) (id : Int) (t : Tm.Th) : Int × KS := (Sl.gE 32 S.O id, exS (if t.sleeps = true then tcS n S t.timer else tqS n S id) id)
def yield (S : KS) (id : Int) (t : Tm.Th) : Int × KS := if t.sleeps = true then (6, S) else (Rqu.rbE n S.q id, { S with q := Rqu.rbK n S.q id })
def arm (S : KS) (c d : Int) : Int × Int × KS :=
  if le S.now d = 0 then (Tim.arN n S.t c (lv S.now d), Tim.arE n S.t c (lv S.now d), { S with t := Tim.arL n S.t c (lv S.now d) }) else (0, le S.now d, S)
def slC (S : KS) (c : Int) : Int := if tb S.ac c = true then c else ((hd (ls S.ac) : Nat) : Int)
def slS (S : KS) (id x : Int) : KS := { S with q := Rqu.rtK n S.q id, X := Tm.slX S.O S.X id x }
def sleep (S : KS) (id : Int) (t : Tm.Th) (d : Int) : Int × Int × KS :=
  if t.sleeps = true then (0, 6, S) else if (arm n S (slC S t.cpu) d).2.1 = 0 then ((arm n S (slC S t.cpu) d).1, Tm.slE (arm n S (slC S t.cpu) d).2.2.O (arm n S (slC S t.cpu) d).2.2.X id, slS n (arm n S (slC S t.cpu) d).2.2 id (arm n S (slC S t.cpu) d).1) else (0, (arm n S (slC S t.cpu) d).2.1, (arm n S (slC S t.cpu) d).2.2)
def awS (S : KS) (id : Int) : KS := { S with X := Tm.wkX S.O S.X id }
def awake (S : KS) (id : Int) (t : Tm.Th) : Int × KS := if Tm.wkE S.O S.X id = 0 then put n (awS S id) id t.cpu else (Tm.wkE S.O S.X id, S)
def rouse (S : KS) (id : Int) (t : Tm.Th) : Int × KS := if t.sleeps = true then awake n (tcS n S t.timer) id t else (6, S)
def amS (S : KS) (id : Int) (m : Nat) : KS := { S with X := Tm.amX n S.O S.X id m }
def aim (S : KS) (id : Int) (m : Nat) : Int × KS := if Tm.amE n S.O id m = 0 then mend n (amS n S id m) id else (Tm.amE n S.O id m, S)
def fromC (S : KS) : Int := Rqb.bsN (Rqu.loN n S.q) Rqb.btG (Rqb.bc S.ac n)
def toC (S : KS) : Int := Rqb.bsN (Rqu.loN n S.q) Rqb.btL (Rqb.bc S.ac n)
def balI (S : KS) : Option Int := (Rqu.liL n S.q (fromC n S)).reverse.find? fun id => tb (geT S id).mask (toC n S)
def balT (S : KS) (c : Int) : Option Int → Int × Int × KS
  | some id => (id, (putOn n (tqS n S id) id (geT S id).prio c false).1, (putOn n (tqS n S id) id (geT S id).prio c false).2)
  | none => (0, 0, S)
def balance (S : KS) : Int × Int × KS :=
  if Rqb.bsE (Rqb.bc S.ac n) = 0 then (if Rqu.loN n S.q (fromC n S) - Rqu.loN n S.q (toC n S) < 2 then (0, 0, S) else balT n S (toC n S) (balI n S))
  else (0, Rqb.bsE (Rqb.bc S.ac n), S)
def own (S : KS) (x : Int) : Int := ((Sl.li 32 S.O).find? fun id => (geT S id).sleeps && (geT S id).timer == x).getD 0
def cancel (S : KS) (id : Int) : Int × KS := if own S id = 0 then (Zm.caE n S.t id, tcS n S id) else (6, S)
def seC (S : KS) (k near : Int) : Int := Aff.cN (Bm.gtX S.i k).bs S.ac near
def send (S : KS) (k near : Int) : Int × KS :=
  if Bm.atE k = 0 then (Nm.stE n k (seC S k near), { S with r := Nm.stp (Nm.stE n k (seC S k near)) S.r k (seC S k near) }) else (Bm.atE k, S)
def rqS (S : KS) (k : Int) (m : Nat) : KS := { S with i := Bm.stp (Bm.rqE n S.i k m) S.i k (Bm.nw m) }
def request (S : KS) (k : Int) (m : Nat) : Int × KS := if Bm.rqE n S.i k m = 0 then send n (rqS n S k m) k (k.tmod n) else (Bm.rqE n S.i k m, S)
def free (S : KS) (k : Int) : Int × KS :=
  if Bm.waE S.i k = 0 then (Nm.ofE S.r k, { S with i := Bm.stp (Bm.waE S.i k) S.i k Bm.zi, r := Nm.stp (Nm.ofE S.r k) S.r k (-1) }) else (Bm.waE S.i k, S)
def itemI (S : KS) (k : Int) : Aff.It := ⟨k, (Bm.gtX S.i k).bs, Nm.ofN S.r k, !tb (Bm.gtX S.i k).bs (Nm.ofN S.r k)⟩
def mendIrq (S : KS) (k : Int) : Int × KS :=
  if Bm.atE k = 0 then (if Aff.wrg S.ac (itemI S k) = true then send n S k (Nm.ofN S.r k) else (0, S)) else (Bm.atE k, S)
def aiS (S : KS) (k : Int) (m : Nat) : KS := { S with i := Bm.stp (Bm.amE n S.i k m) S.i k { S.i k.toNat with bs := m } }
def aimIrq (S : KS) (k : Int) (m : Nat) : Int × KS := if Bm.amE n S.i k m = 0 then mendIrq n (aiS n S k m) k else (Bm.amE n S.i k m, S)
def hush (S : KS) (k : Int) (b : Bool) : Int × KS := (Bm.hsE S.i k b, { S with i := Bm.stp (Bm.hsE S.i k b) S.i k { S.i k.toNat with ms := b } })
def raise (S : KS) (k : Int) : Int × KS := (Bm.waE S.i k, { S with i := Bm.stp (Bm.waE S.i k) S.i k { S.i k.toNat with pd := true } })
def flush (S : KS) (id : Int) : Int × Int := if id < 1 ∨ 32 < id then (0, 2) else if Cm.haB S.wk id = true then (1, 0) else (0, 0)
/- Requests. -/
def byC (S : KS) (c : Int) : Int := ((hd (ls (nt S.ac (bv c))) : Nat) : Int)
def beS (S : KS) (up : Bool) (c : Int) : KS := { S with R := Hp.beR S.R up c (byC S c), gs := Em.waS S.gs }
def begin_ (S : KS) (up : Bool) (c : Int) : Int × KS :=
  if isC n c = false then (3, S) else if S.R.isSome = true then (7, S) else if up = true ∧ tb S.on c = true then (8, S) else if up = false ∧ tb S.on c = false then (9, S)
  else if up = false ∧ (ls S.on).length = 1 then (10, S) else if Hp.beE S.R c (byC S c) = 0 then (Em.waE S.gs, beS S up c) else (Hp.beE S.R c (byC S c), S)
def plan (S : KS) (k : Int) : Int × KS := if k < 0 ∨ 10 ≤ k then (3, S) else (Hp.plE k, { S with P := Hp.plP S.P k })
def shift (S : KS) (c : Int) : Bool × KS := match Rqu.liL n S.q c with
  | [] => (true, S)
  | id :: _ => (false, (move n S id c).2)
def pwz (z : List (Bool × Bool)) (c : Int) (on : Bool) : List (Bool × Bool) := if Cor.Co.isk z.length c = true then (if (z.getD c.toNat (false, false)).1 = on then z else z.set c.toNat (on, false)) else z
def onL (S : KS) (c : Int) : List Int := KK (Nm.on S.r c) 16
def sendAll (S : KS) (c : Int) (l : List Int) : KS := l.foldl (fun S k => (send n S k c).2) S
def reroute (S : KS) (c b : Int) : Bool × KS :=
  if Ek.onB S.sl S.sh = true then (if Ek.rdB S.sl S.sh = true then (true, { sendAll n S c (onL S c) with sl := 0, sh := 0 }) else (false, S))
  else (false, { S with sl := Ek.beL S.sl S.sh (nt (wl S.ac [c]) (bv b)) })
def takeS (S : KS) : KS := { S with gs := Em.tkS S.gs S.gl }
def drain (S : KS) (c : Int) : KS := { S with oa := Hm.drA 12 n S.oa S.ok c, ok := Hm.drK n S.ok c }
def leave (S : KS) (st c b : Int) : Bool × KS :=
  if st = 0 then (Em.tkE S.gs S.gl == 0, takeS S)
  else if st = 1 then (true, { S with ac := nt S.ac (bv c) })
  else if st = 2 then shift n S c
  else if st = 3 then (!(Tim.moE n S.t c b == 0), { S with t := Tim.moK n S.t c b })
  else if st = 4 then (!(Cm.unE n S.wk c == 0), { S with wk := Cm.unK n S.wk c })
  else if st = 5 then (!(Cm.moE S.cl c b == 0), { S with cl := Cm.moK S.cl c b })
  else if st = 6 then reroute n S c b
  else if st = 7 then (true, drain n S c)
  else if st = 8 then (true, { S with ct := Pm.fdL S.ct c b })
  else if st = 9 then (true, { S with on := nt S.on (bv c), z := pwz S.z c false })
  else (true, S)
def ungo (S : KS) (st c : Int) : KS := if st = 1 then { S with ac := wl S.ac [c] } else S
def mendAll (S : KS) (l : List Int) : KS := l.foldl (fun S id => (mend n S id).2) S
def mendIrqs (S : KS) (l : List Int) : KS := l.foldl (fun S k => (mendIrq n S k).2) S
def wtL (S : KS) : List Int := KK (fun k => (S.i k).wt) 16
def homT (S : KS) : KS := mendAll n S (Sl.li 32 S.O)
def home (S : KS) : KS := mendIrqs n (homT n S) (wtL (homT n S))
def comS (S : KS) (c : Int) : KS := { S with on := wl S.on [c], ac := wl S.ac [c] }
def come (S : KS) (st c : Int) : Bool × KS :=
  if st = 0 then (Em.tkE S.gs S.gl == 0, takeS S)
  else if st = 1 then (true, { S with z := pwz S.z c true })
  else if st = 2 then (true, drain n S c)
  else if st = 3 then (true, home n (comS S c))
  else (true, S)
def uncome (S : KS) (st c : Int) : KS := if st = 1 then { S with z := pwz S.z c false } else S
def doSt (S : KS) (k : Int) (u : Bool) : Bool × KS :=
  if u = true then (true, if Hp.ups S.R = true then uncome S k (Hp.cps S.R) else ungo S k (Hp.cps S.R))
  else if Hp.ups S.R = true then come n S k (Hp.cps S.R) else leave n S k (Hp.cps S.R) (Hp.cos S.R)
def nxS (S : KS) : KS := { S with R := Hp.nxR S.P S.R, P := Hp.nxP S.P S.R }
def dnS (S : KS) : KS := { S with R := Hp.doR S.R }
def actS (S : KS) : KS :=
  if Hp.nxE S.R = 0 ∧ Hp.nxF S.P S.R = false then (if (doSt n (nxS S) (Hp.nxK S.R : Nat) (Hp.nxU S.R)).1 = true then dnS (doSt n (nxS S) (Hp.nxK S.R : Nat) (Hp.nxU S.R)).2 else (doSt n (nxS S) (Hp.nxK S.R : Nat) (Hp.nxU S.R)).2) else nxS S
def act (S : KS) : List Rec × KS :=
  if Hp.rov (actS n S).R = true then ([⟨7, Hp.cps (actS n S).R, 0, 0, Hp.enW (actS n S).R⟩], { actS n S with R := Hp.enR (actS n S).R, gs := 0 }) else ([], actS n S)
/- Steps. -/
def rdyI (S : KS) (c : Int) : Option Int := (onL S c).find? fun k => Bm.rdB S.i k
def flags (S : KS) (c : Int) : Cor.Co.Fl where
  stop := tb S.sl c
  held := tb S.sh c
  hot := S.R.isSome && Hp.cos S.R == c
  act := tb S.ac c
  call := decide (0 < (Cm.clL S.cl c).length)
  irq := (rdyI S c).isSome
  timer := Tim.txR n S.now S.t c
  work := decide (0 < (Cm.wlL n S.wk c).length) || decide (0 < (Cm.wlL n S.wk (-1)).length)
  thr := decide (0 < Rqu.loN n S.q c)
def what (S : KS) (c : Int) : Int := Cor.Co.next (zc S c).1 (zc S c).2 (flags n S c)
def wakeS (S : KS) (c : Int) : KS := if (zc S c).2 = true then { S with z := S.z.set c.toNat ((zc S c).1, false) } else S
def restS (S : KS) (c : Int) : KS := if (zc S c).1 = true ∧ (zc S c).2 = false then { S with z := S.z.set c.toNat (true, true) } else S
def ackS (S : KS) (c : Int) : KS := { S with sl := Ek.acL S.sl c, sh := Ek.acH S.sl S.sh c }
def fiS (S : KS) (c : Int) : KS := { S with t := Tim.fxK n S.now S.t c }
def fiW (S : KS) (c : Int) : Int := own (fiS n S c) (Tim.fxN n S.now S.t c)
def fire (S : KS) (c : Int) : Int × Int × KS :=
  (Tim.fxN n S.now S.t c, fiW n S c, if geE (fiS n S c) (fiW n S c) = 0 then (awake n (fiS n S c) (fiW n S c) (geT (fiS n S c) (fiW n S c))).2 else fiS n S c)
def adS (S : KS) (c : Int) : KS := { S with ct := Pm.adL S.ct c 1 }
def thing (S : KS) (wh c : Int) : Rec × KS :=
  if wh = 4 then (⟨6, c, Cm.ckN S.cl c, 0, 0⟩, { adS S c with cl := Cm.ckK S.cl c })
  else if wh = 5 then (⟨4, c, (rdyI S c).getD 0, 0, 0⟩, { adS S c with i := Bm.stp (Bm.clE S.i ((rdyI S c).getD 0)) S.i ((rdyI S c).getD 0) { S.i ((rdyI S c).getD 0).toNat with pd := false } })
  else if wh = 6 then (⟨3, c, (fire n (adS S c) c).1, (fire n (adS S c) c).2.1, 0⟩, (fire n (adS S c) c).2.2)
  else if wh = 7 then (⟨5, c, Cm.taN n S.wk c, 0, 0⟩, { adS S c with wk := Cm.taK n S.wk c })
  else if wh = 8 then (⟨2, c, Rqu.pkN n S.q c, 0, 0⟩, { adS S c with q := Rqu.pkK n S.q c })
  else (⟨0, c, 0, 0, 0⟩, adS S c)
def step (S : KS) (c : Int) : List Rec × KS :=
  if what n S c = 0 then ([], S) else if what n S c = 1 then ([], wakeS S c) else if what n S c = 2 then ([], ackS S c) else if what n S c = 9 then ([], restS S c)
  else if what n S c = 3 then act n S else ([(thing n S (what n S c) c).1], (thing n S (what n S c) c).2)
/- Answers. -/
def no (r : Int × KS) : Int × Int × KS := (0, r.1, r.2)
def onT (S : KS) (id : Int) (f : Tm.Th → Int × Int × KS) : Int × Int × KS := if geE S id = 0 then f (geT S id) else (0, geE S id, S)
def onK (S : KS) (c : Int) (f : Int × Int × KS) : Int × Int × KS := if isC n c = false then (0, 3, S) else if tb S.ac c = false then (0, 9, S) else f
def tick (S : KS) (d : Int) : Int × KS := if le S.now d = 0 then (0, { S with now := lv S.now d }) else (le S.now d, S)
def queue (S : KS) (c : Int) : Int × Int × KS := (Cm.quN n S.wk c, Cm.quE n S.wk c, { S with wk := Cm.quK n S.wk c })
def call (S : KS) (c : Int) : Int × Int × KS := (Cm.seN S.cl c, Cm.seE S.cl c, { S with cl := Cm.seK S.cl c })
def alloc (S : KS) (c : Int) : Int × Int × KS := (Hm.alN 12 n S.oa S.ok c, Hm.alE 12 n S.oa S.ok c, { S with oa := Hm.alA 12 n S.oa S.ok c, ok := Hm.alK 12 n S.oa S.ok c })
def give (S : KS) (c x : Int) : Int × KS := (Hm.giE 12 n S.oa S.ok c x, { S with oa := Hm.giA 12 n S.oa S.ok c x, ok := Hm.giK 12 n S.oa S.ok c x })
def enter (S : KS) (c : Int) : Int × KS := (Em.enE S.gs S.gl c, { S with gl := Em.enL S.gs S.gl c })
def left (S : KS) (c : Int) : Int × KS := (Em.leE S.gl c, { S with gl := Em.leL S.gl c })
def limE (d : Int) : Int := if d < 0 ∨ 1073741824 < d then 2 else 0
def spdE (a b : Int) : Int := if 1 ≤ a ∧ a ≤ b ∧ b ≤ 100000 then 0 else 2
def ofCores (S : KS) (e : Ev) : Int × Int × KS :=
  if e.kind = 1 then (0, 3, S)
  else if e.kind = 23 ∨ e.kind = 24 then no (begin_ n S (e.kind == 23) e.cpu)
  else if e.kind = 25 then no (plan S e.n)
  else if e.kind = 26 then onK n S e.cpu (no (enter S e.cpu))
  else if e.kind = 27 then no (left S e.cpu)
  else if e.kind = 28 then (0, limE e.n, S)
  else if e.kind = 29 then (0, spdE e.id e.n, S)
  else (0, 2, S)
def ofStores (S : KS) (e : Ev) : Int × Int × KS :=
  if e.kind = 18 then (if e.cpu = -1 then queue n S (-1) else onK n S e.cpu (queue n S e.cpu))
  else if e.kind = 19 then ((flush S e.id).1, (flush S e.id).2, S)
  else if e.kind = 20 then onK n S e.cpu (call S e.cpu)
  else if e.kind = 21 then onK n S e.cpu (alloc n S e.cpu)
  else if e.kind = 22 then onK n S e.cpu (no (give n S e.cpu e.id))
  else ofCores n S e
def ofDevices (S : KS) (e : Ev) : Int × Int × KS :=
  if e.kind = 2 then no (tick S e.n)
  else if e.kind = 10 then onK n S e.cpu (arm n S e.cpu e.n)
  else if e.kind = 11 then no (cancel n S e.id)
  else if e.kind = 12 then no (request n S e.id e.mask)
  else if e.kind = 13 then no (free S e.id)
  else if e.kind = 14 then no (aimIrq n S e.id e.mask)
  else if e.kind = 15 then no (hush S e.id true)
  else if e.kind = 16 then no (hush S e.id false)
  else if e.kind = 17 then no (raise S e.id)
  else ofStores n S e
def ofThreads (S : KS) (e : Ev) : Int × Int × KS :=
  if e.kind = 3 then spawn n S e.id e.mask
  else if e.kind = 4 then onT S e.id fun t => no (exit n S e.id t)
  else if e.kind = 5 then onT S e.id fun t => no (yield n S e.id t)
  else if e.kind = 6 then onT S e.id fun t => sleep n S e.id t e.n
  else if e.kind = 7 then onT S e.id fun t => no (rouse n S e.id t)
  else if e.kind = 8 then no (aim n S e.id e.mask)
  else if e.kind = 9 then onT S e.id fun t => (t.cpu, 0, S)
  else if e.kind = 30 then balance n S
  else ofDevices n S e
def ret (a b : Int) : Rec := ⟨1, 0, if b = 0 then a else 0, 0, b⟩
def kdo (S : KS) (e : Ev) : List Rec × KS :=
  if e.kind = 1 ∧ isC n e.cpu = true then step n S e.cpu else ([ret (ofThreads n S e).1 (ofThreads n S e).2.1], (ofThreads n S e).2.2)
/-- A new kernel. -/
def new : KS where
  on := up n
  ac := up n
  O := fun _ => false
  X := fun _ => Tm.zt
  q := fun _ => []
  now := 0
  t := fun _ => []
  i := fun _ => Bm.zi
  r := fun _ => -1
  wk := List.replicate (n + 1) []
  cl := List.replicate n []
  oa := List.replicate 12 0
  ok := List.replicate n []
  ct := List.replicate n 0
  R := none
  P := fun _ => false
  gs := 0
  gl := List.replicate n 0
  sl := 0
  sh := 0
  z := List.replicate n (true, false)
end Go.Proofs.YtfipiifickdeiaaGreatDoor.Krn
namespace Go.Proofs.YtfipiifickdeiaaGreatDoor.Krn
open Go.ChangeShapes Go.WideShapes Go.ChangeAt Go.RowKit
open Mm
/-- How many cores; where each part lies. -/
structure KA where
  n : Nat
  k : Nat
  th : Nat
  rq : Nat
  tm : Nat
  iq : Nat
  rt : Nat
  wk : Nat
  cl : Nat
  ob : Nat
  ct : Nat
  dk : Nat
  gt : Nat
  st : Nat
  co : Nat
  mt : Nat
  gv : Nat
  gc : Nat
  gs : Nat → Nat
def kc (a : KA) (S : KS) (lim : Int) : List Value :=
  [.int .u64 (S.on : Int), .int .u64 (S.ac : Int), .int .i64 lim, .pointer (some ⟨a.th + 2, 0, none⟩), .pointer (some ⟨a.rq + 2, 0, none⟩), .pointer (some ⟨a.tm, 0, none⟩), .pointer (some ⟨a.iq, 0, none⟩), .pointer (some ⟨a.rt, 0, none⟩), .pointer (some ⟨a.wk + 6, 0, none⟩), .pointer (some ⟨a.cl + 3, 0, none⟩), .pointer (some ⟨a.ob, 0, none⟩), .pointer (some ⟨a.ct, 0, none⟩), .pointer (some ⟨a.dk, 0, none⟩), .pointer (some ⟨a.gt, 0, none⟩), .pointer (some ⟨a.st, 0, none⟩), .pointer (some ⟨a.co, 0, none⟩), .pointer (some ⟨a.mt, 0, none⟩), .slice (some ⟨a.gv, 0, none⟩) a.n a.gc]
/-- What threads are like: words of 64 bits, cores that there are, timers' numbers. -/
def OkX (n : Nat) (X : Nat → Tm.Th) : Prop := ∀ i, (X i).mask < 18446744073709551616 ∧ 0 ≤ (X i).cpu ∧ (X i).cpu < n ∧ 0 ≤ (X i).timer ∧ (X i).timer ≤ 48
def OkI (X : Nat → Bm.Iq) : Prop := ∀ i, (X i).bs < 18446744073709551616
def Part (a : KA) (S : KS) (m : Nat) (i : Nat) (w : World) (F : List Nat) : Prop := match i with
  | 0 => (∃ lim, Blk w a.k (kc a S lim) 66) ∧ (S.on < 18446744073709551616 ∧ S.ac < 18446744073709551616) ∧ F = [a.k]
  | 1 => Thr.TT w a.th a.n S.O S.X ∧ OkX a.n S.X ∧ F = [a.th, a.th + 1, a.th + 2]
  | 2 => Rqu.RR w a.rq a.n m S.q ∧ F = Rqu.rz a.rq a.n
  | 3 => Tim.TX w a.tm a.n S.now S.t F
  | 4 => Irq.IT w a.iq a.n S.i ∧ OkI S.i ∧ F = [a.iq]
  | 5 => Rou.RT w a.rt a.n S.r ∧ F = [a.rt]
  | 6 => Wrk.GX w a.wk a.n S.wk ∧ F = Wrk.gz a.wk a.n
  | 7 => Wrk.CX w a.cl S.cl ∧ S.cl.length = a.n ∧ F = Wrk.cz a.cl a.n
  | 8 => ∃ pb lb V, Sta.SH w a.ob pb lb a.n 12 S.oa V S.ok ∧ Hm.Kv 12 S.oa S.ok ∧ F = a.ob :: lb :: pb :: Sta.bl V
  | 9 => ∃ g, Spl.SL w a.ct g S.ct ∧ S.ct.length = a.n ∧ F = [a.ct, g]
  | 10 => Hot.PD w a.dk F S.R S.P m
  | 11 => ∃ g, Gat.GT w a.gt g S.gs S.gl ∧ S.gl.length = a.n ∧ F = [a.gt, g]
  | 12 => Stp.ST w a.st S.sl S.sh ∧ F = [a.st]
  | 13 => ∃ g Y, Cor.CT w a.co g Y ∧ Y.map (fun x => (x.p, x.i)) = S.z ∧ S.z.length = a.n ∧ F = [a.co, g]
  | 14 => ∃ g M, Met.PM w a.mt g a.n M ∧ Met.Mt.OkF a.n M ((m : Int) * 2147483648) ∧ F = [a.mt, g]
  | 15 => ∃ (V : List Value), Blk w a.gv ((List.range a.n).map (fun c => .pointer (some ⟨a.gs c, 0, none⟩)) ++ V) 98 ∧ (∀ c, c < a.n → ∃ lo hi q p, Frq.PG w (a.gs c) lo hi q p ∧ Frq.Lim lo hi) ∧ F = a.gv :: (List.range a.n).map a.gs
  | _ => F = []
theorem Part.keep {a : KA} {S : KS} {m i : Nat} {w w' : World} {F Z : List Nat} (h : Part a S m i w F) (f : Fr w.heap.size Z w w') (hz : ∀ g ∈ F, g ∉ Z) (lt : ∀ g ∈ F, g < w.heap.size) : Part a S m i w' F := by
  match i, h with
  | 0, ⟨⟨l, b⟩, c, e⟩ => subst e; exact ⟨⟨l, b.keep f b.lt (hz _ (by simp))⟩, c, rfl⟩
  | 1, ⟨t, o, e⟩ =>
    subst e
    exact ⟨t.keep f t.hi (fun k h1 h2 => hz k (by simp; omega)), o, rfl⟩
  | 2, ⟨t, e⟩ =>
    subst e
    exact ⟨⟨t.rb.keep f t.rb.hi (fun k h1 h2 _ => hz k ((Rqu.mem_rz _ _ _).2 ⟨h1, h2⟩)), t.mp.keep f t.mp.lt (hz _ ((Rqu.mem_rz _ _ _).2 (by omega))), t.al⟩, rfl⟩
  | 3, t => exact Tim.TX.keep t f (Nat.le_refl _) hz
  | 4, ⟨t, o, e⟩ => subst e; exact ⟨t.keep f t.lt (hz _ (by simp)), o, rfl⟩
  | 5, ⟨t, e⟩ => subst e; exact ⟨t.keep f t.lt (hz _ (by simp)), rfl⟩
  | 6, ⟨t, e⟩ => subst e; exact ⟨t.keep f (Nat.le_refl _) (fun k h1 h2 => hz k (by unfold Wrk.gz; rw [List.mem_range'_1]; omega)), rfl⟩
  | 7, ⟨t, l, e⟩ => subst e; exact ⟨t.keep f (Nat.le_refl _) (fun k h1 h2 => hz k (by unfold Wrk.cz; rw [List.mem_range'_1]; rw [l] at h2; omega)), l, rfl⟩
  | 8, ⟨pb, lb, V, t, k, e⟩ => subst e; exact ⟨pb, lb, V, t.keep f (Nat.le_refl _) (hz _ (by simp)) (hz _ (by simp)) (hz _ (by simp)) (fun g hg => hz g (by simp [hg])), k, rfl⟩
  | 9, ⟨g, t, l, e⟩ => subst e; exact ⟨g, t.keep f ⟨t.sb.lt, t.sg.lt⟩ ⟨hz _ (by simp), hz _ (by simp)⟩, l, rfl⟩
  | 10, t => exact Hot.PD.keep t f (fun k hk => ⟨lt k hk, hz k hk⟩)
  | 11, ⟨g, t, l, e⟩ => subst e; exact ⟨g, t.keep f ⟨t.sb.lt, t.sg.lt⟩ ⟨hz _ (by simp), hz _ (by simp)⟩, l, rfl⟩
  | 12, ⟨t, e⟩ => subst e; exact ⟨t.keep f t.sb.lt (hz _ (by simp)), rfl⟩
  | 13, ⟨g, Y, t, y, l, e⟩ => subst e; exact ⟨g, Y, t.keep f t.sb.lt t.gb.lt (hz _ (by simp)) (hz _ (by simp)), y, l, rfl⟩
  | 14, ⟨g, M, t, o, e⟩ => subst e; exact ⟨g, M, Met.MT.keep t f (Met.MT.slt t) (Met.MT.glt t) (hz _ (by simp)) (hz _ (by simp)), o, rfl⟩
  | 15, ⟨V, b, t, e⟩ =>
    subst e
    refine ⟨V, b.keep f b.lt (hz _ (by simp)), fun c hc => ?_, rfl⟩
    obtain ⟨lo, hi, q, p, g, li⟩ := t c hc
    exact ⟨lo, hi, q, p, g.keep f g.sb.lt (hz _ (by simp; exact Or.inr ⟨c, hc, rfl⟩)), li⟩
  | _ + 16, h => exact h
/-- Which part is told by what: all but part i are as they were. -/
def Eqx (i : Nat) (S S' : KS) : Prop :=
  (i = 0 ∨ (S'.on = S.on ∧ S'.ac = S.ac)) ∧ (i = 1 ∨ (S'.O = S.O ∧ S'.X = S.X)) ∧ (i = 2 ∨ S'.q = S.q) ∧ (i = 3 ∨ (S'.now = S.now ∧ S'.t = S.t)) ∧ (i = 4 ∨ S'.i = S.i) ∧ (i = 5 ∨ S'.r = S.r) ∧ (i = 6 ∨ S'.wk = S.wk) ∧ (i = 7 ∨ S'.cl = S.cl) ∧ (i = 8 ∨ (S'.oa = S.oa ∧ S'.ok = S.ok)) ∧ (i = 9 ∨ S'.ct = S.ct) ∧ (i = 10 ∨ (S'.R = S.R ∧ S'.P = S.P)) ∧ (i = 11 ∨ (S'.gs = S.gs ∧ S'.gl = S.gl)) ∧ (i = 12 ∨ (S'.sl = S.sl ∧ S'.sh = S.sh)) ∧ (i = 13 ∨ S'.z = S.z)
theorem Eqx.refl (i : Nat) (S : KS) : Eqx i S S := by simp [Eqx]
theorem Part.other {a : KA} {S S' : KS} {m m' i j : Nat} {w : World} {F : List Nat} (e : Eqx i S S') (hm : m ≤ m') (hn : j ≠ i) (h : Part a S m j w F) : Part a S' m' j w F := by
  obtain ⟨e0, e1, e2, e3, e4, e5, e6, e7, e8, e9, e10, e11, e12, e13⟩ := e
  match j, h with
  | 0, h => obtain ⟨x, y⟩ := e0.resolve_left (fun q => hn q.symm); simp only [Part] at h ⊢; unfold kc at h ⊢; rw [x, y]; exact h
  | 1, h => obtain ⟨x, y⟩ := e1.resolve_left (fun q => hn q.symm); simp only [Part] at h ⊢; rw [x, y]; exact h
  | 2, h =>
    have x := e2.resolve_left (fun q => hn q.symm)
    simp only [Part] at h ⊢
    rw [x]
    exact ⟨⟨h.1.rb, by obtain ⟨D, o, k⟩ := h.1.mp; exact ⟨D, o.mono hm, k⟩, h.1.al⟩, h.2⟩
  | 3, h => obtain ⟨x, y⟩ := e3.resolve_left (fun q => hn q.symm); simp only [Part] at h ⊢; rw [x, y]; exact h
  | 4, h => have x := e4.resolve_left (fun q => hn q.symm); simp only [Part] at h ⊢; rw [x]; exact h
  | 5, h => have x := e5.resolve_left (fun q => hn q.symm); simp only [Part] at h ⊢; rw [x]; exact h
  | 6, h => have x := e6.resolve_left (fun q => hn q.symm); simp only [Part] at h ⊢; rw [x]; exact h
  | 7, h => have x := e7.resolve_left (fun q => hn q.symm); simp only [Part] at h ⊢; rw [x]; exact h
  | 8, h => obtain ⟨x, y⟩ := e8.resolve_left (fun q => hn q.symm); simp only [Part] at h ⊢; rw [x, y]; exact h
  | 9, h => have x := e9.resolve_left (fun q => hn q.symm); simp only [Part] at h ⊢; rw [x]; exact h
  | 10, h => obtain ⟨x, y⟩ := e10.resolve_left (fun q => hn q.symm); simp only [Part] at h ⊢; rw [x, y]; exact h.up hm
  | 11, h => obtain ⟨x, y⟩ := e11.resolve_left (fun q => hn q.symm); simp only [Part] at h ⊢; rw [x, y]; exact h
  | 12, h => obtain ⟨x, y⟩ := e12.resolve_left (fun q => hn q.symm); simp only [Part] at h ⊢; rw [x, y]; exact h
  | 13, h => have x := e13.resolve_left (fun q => hn q.symm); simp only [Part] at h ⊢; rw [x]; exact h
  | 14, h =>
    obtain ⟨g, M, t, o, e⟩ := h
    exact ⟨g, M, t, fun k hk => ⟨(o k hk).e0, (o k hk).e1, (o k hk).w0, (o k hk).r0, Int.le_trans (o k hk).tb (by omega)⟩, e⟩
  | 15, h => exact h
  | _ + 16, h => exact h
structure KW (w : World) (a : KA) (S : KS) (m : Nat) (F : Nat → List Nat) : Prop where
  p : ∀ i, i < 16 → Part a S m i w (F i)
  dis : ∀ i j, i < 16 → j < 16 → i ≠ j → ∀ g ∈ F i, g ∉ F j
  lt : ∀ i, i < 16 → ∀ g ∈ F i, g < w.heap.size
/-- A kernel, all of it from block B on; below B all is as in w0; and blocks beside it, that no part has. -/
structure KX (B : Nat) (w0 : World) (A : List (Nat × List Value × TypeId)) (a : KA) (m : Nat) (S : KS) (w : World) : Prop where
  ex : ∃ F, KW w a S m F ∧ (∀ i, i < 16 → ∀ g ∈ F i, B ≤ g) ∧ ∀ x ∈ A, ∀ i, i < 16 → x.1 ∉ F i
  bx : ∀ x ∈ A, Blk w x.1 x.2.1 x.2.2
  bel : Below B w0 w
  sz : B ≤ w.heap.size
  b1 : 1 ≤ B
  tab : Tab w
  n1 : 1 ≤ a.n
  n2 : a.n ≤ 64
section
variable {B : Nat} {w0 : World} {A : List (Nat × List Value × TypeId)} {a : KA} {m m' : Nat} {S S' : KS} {w w' : World}
theorem tab_keep {Z : List Nat} (h : Tab w) (hs : 1 ≤ w.heap.size) (f : Fr w.heap.size Z w w') (hz : 0 ∉ Z) : Tab w' := fun i hi => by
  rw [f.cell (p := ⟨0, i, none⟩) hs hz]
  exact h i hi
def upF (F : Nat → List Nat) (i : Nat) (G : List Nat) : Nat → List Nat := fun j => if j = i then G else F j
theorem upF_same {F : Nat → List Nat} {i : Nat} {G : List Nat} : upF F i G i = G := if_pos rfl
theorem upF_other {F : Nat → List Nat} {i j : Nat} {G : List Nat} (h : ¬ j = i) : upF F i G j = F j := if_neg h
/-- One part has turned. -/
theorem KX.turn (h : KX B w0 A a m S w) {F : Nat → List Nat} (K : KW w a S m F) (hB : ∀ i, i < 16 → ∀ g ∈ F i, B ≤ g) (hA : ∀ x ∈ A, ∀ i, i < 16 → x.1 ∉ F i) (i : Nat) (hi : i < 16) {G : List Nat} (p : Part a S' m' i w' G) (f : Fr w.heap.size (F i) w w') (sub : ∀ g ∈ G, g ∈ F i ∨ w.heap.size ≤ g) (lt : ∀ g ∈ G, g < w'.heap.size) (e : Eqx i S S') (hm : m ≤ m') : KX B w0 A a m' S' w' := by
  have hs := h.sz
  have h1 := h.b1
  refine ⟨⟨upF F i G, ⟨fun j hj => ?_, fun j k hj hk hn g hg => ?_, fun j hj g hg => ?_⟩, fun j hj g hg => ?_, fun x hx j hj => ?_⟩, fun x hx => ?_, ?_, Nat.le_trans hs f.size, h1, ?_, h.n1, h.n2⟩
  · by_cases q : j = i
    · subst q; rw [upF_same]; exact p
    · rw [upF_other q]; exact Part.other e hm q ((K.p j hj).keep f (K.dis j i hj hi q) (K.lt j hj))
  · by_cases q : j = i
    · subst q
      rw [upF_same] at hg
      have q2 : ¬ k = j := fun e => hn e.symm
      rw [upF_other q2]
      rcases sub g hg with s | s
      · exact K.dis j k hj hk hn g s
      · exact fun e => by have := K.lt k hk g e; omega
    · rw [upF_other q] at hg
      by_cases q2 : k = i
      · subst q2
        rw [upF_same]
        intro e2
        rcases sub g e2 with s | s
        · exact K.dis j k hj hk hn g hg s
        · have := K.lt j hj g hg; omega
      · rw [upF_other q2]
        exact K.dis j k hj hk hn g hg
  · by_cases q : j = i
    · subst q; rw [upF_same] at hg; exact lt g hg
    · rw [upF_other q] at hg; exact Nat.lt_of_lt_of_le (K.lt j hj g hg) f.size
  · by_cases q : j = i
    · subst q
      rw [upF_same] at hg
      rcases sub g hg with s | s
      · exact hB j hj g s
      · omega
    · rw [upF_other q] at hg; exact hB j hj g hg
  · by_cases q : j = i
    · subst q
      rw [upF_same]
      intro e2
      rcases sub _ e2 with s | s
      · exact hA x hx j hj s
      · have := (h.bx x hx).lt; omega
    · rw [upF_other q]; exact hA x hx j hj
  · exact (h.bx x hx).keep f (h.bx x hx).lt (hA x hx i hi)
  · exact h.bel.trans ((f.less hs).below fun k hk => hB i hi k hk)
  · exact tab_keep h.tab (by omega) f (fun e => by have := hB i hi 0 e; omega)
/-- Nothing that was there has turned. -/
theorem KX.below (h : KX B w0 A a m S w) (f : Below w.heap.size w w') : KX B w0 A a m S w' := by
  obtain ⟨F, K, hB, hA⟩ := h.ex
  have g := Fr.of_below f
  have hs := h.sz
  have h1 := h.b1
  exact ⟨⟨F, ⟨fun i hi => (K.p i hi).keep g (by simp) (K.lt i hi), K.dis, fun i hi k hk => Nat.lt_of_lt_of_le (K.lt i hi k hk) f.size⟩, hB, hA⟩, fun x hx => (h.bx x hx).keep g (h.bx x hx).lt (by simp), h.bel.trans ((g.less hs).below (by simp)), Nat.le_trans hs f.size, h1, tab_keep h.tab (by omega) g (by simp), h.n1, h.n2⟩
theorem KX.sm (h : KX B w0 A a m S w) (e : Sm w' w) : KX B w0 A a m S w' := h.below (e.below (Below.refl _ _))
theorem KX.drew (h : KX B w0 A a m S w) : KX B w0 A a m S w.drew := h.below ⟨rfl, rfl, rfl, Nat.le_refl _, fun _ _ => rfl⟩
theorem KX.heap (h : KX B w0 A a m S w) (e : Sm w' w) : KX B w0 A a m S w' := h.sm e
theorem KX.more (h : KX B w0 A a m S w) (hm : m ≤ m') : KX B w0 A a m' S w := by
  obtain ⟨F, K, hB, hA⟩ := h.ex
  refine ⟨⟨F, ⟨fun i hi => ?_, K.dis, K.lt⟩, hB, hA⟩, h.bx, h.bel, h.sz, h.b1, h.tab, h.n1, h.n2⟩
  exact Part.other (i := 99) (Eqx.refl _ _) hm (by omega) (K.p i hi)
/-- A block that is none of the kernel's is told besides, or no more. -/
theorem KX.box (h : KX B w0 A a m S w) {b : Nat} {cs : List Value} {t : TypeId} (k : Blk w' b cs t) (f : Below w.heap.size w w') (hb : w.heap.size ≤ b) : KX B w0 ((b, cs, t) :: A) a m S w' := by
  obtain ⟨F, K, hB, hA⟩ := h.ex
  obtain ⟨_, bx, bel, sz, b1, tab, n1, n2⟩ := h.below f
  have g := Fr.of_below f
  refine ⟨⟨F, ⟨fun i hi => (K.p i hi).keep g (by simp) (K.lt i hi), K.dis, fun i hi k hk => Nat.lt_of_lt_of_le (K.lt i hi k hk) f.size⟩, hB, fun x hx i hi => ?_⟩, fun x hx => ?_, bel, sz, b1, tab, n1, n2⟩
  · rcases List.mem_cons.1 hx with rfl | hx
    · exact fun e => by have := K.lt i hi _ e; simp only at this; omega
    · exact hA x hx i hi
  · rcases List.mem_cons.1 hx with rfl | hx
    · exact k
    · exact bx x hx
theorem KX.sub {A2 : List (Nat × List Value × TypeId)} (h : KX B w0 A a m S w) (k : ∀ x ∈ A2, x ∈ A) : KX B w0 A2 a m S w := by
  obtain ⟨F, K, hB, hA⟩ := h.ex
  exact ⟨⟨F, K, hB, fun x hx => hA x (k x hx)⟩, fun x hx => h.bx x (k x hx), h.bel, h.sz, h.b1, h.tab, h.n1, h.n2⟩
theorem KX.drop {x : Nat × List Value × TypeId} (h : KX B w0 (x :: A) a m S w) : KX B w0 A a m S w := h.sub fun _ hx => List.mem_cons_of_mem _ hx
theorem KX.blk {x : Nat × List Value × TypeId} (h : KX B w0 (x :: A) a m S w) : Blk w x.1 x.2.1 x.2.2 := h.bx x (by simp)
theorem KX.kb (h : KX B w0 A a m S w) : (∃ lim, Blk w a.k (kc a S lim) 66) ∧ S.on < 18446744073709551616 ∧ S.ac < 18446744073709551616 := by
  obtain ⟨F, K, _⟩ := h.ex
  obtain ⟨b, c, _⟩ := K.p 0 (by omega)
  exact ⟨b, c⟩
end
end Go.Proofs.YtfipiifickdeiaaGreatDoor.Krn
namespace Go.Proofs.YtfipiifickdeiaaGreatDoor.Krn
open Go.ChangeShapes Go.WideShapes Go.ChangeAt Go.RowKit
open Mm
theorem _root_.Go.Proofs.YtfipiifickdeiaaGreatDoor.Fr.wide {B : Nat} {Z Z' : List Nat} {w w' : World} (f : Fr B Z w w') (h : ∀ k ∈ Z, k ∈ Z') : Fr B Z' w w' := f.mono (Nat.le_refl _) fun k _ hk hm => hk (h k hm)
def wf (id : Int) : Prop := (Lit.int .i64 id).wf = true
theorem wf_of {id : Int} (h1 : -9223372036854775808 ≤ id) (h2 : id ≤ 9223372036854775807) : wf id := by
  simp [wf, Lit.wf, IntKind.min, IntKind.max, IntKind.signed, IntKind.bits]
  omega
/-- A list of whole numbers in a block beside the kernel. -/
def Rw (X : List (Nat × List Value × TypeId)) (v : Value) (L : List Int) : Prop :=
  (X = [] ∧ L = [] ∧ v = .slice none 0 0) ∨ ∃ b cap cur, X = [(b, cur, 3)] ∧ v = .slice (some ⟨b, 0, none⟩) L.length cap ∧ ∀ i, i < L.length → cur[i]? = some (.int .i64 (L.getD i 0))
theorem Rw.shape {X : List (Nat × List Value × TypeId)} {v : Value} {L : List Int} (h : Rw X v L) : ∃ p cap, v = .slice p L.length cap := by
  rcases h with ⟨_, rfl, rfl⟩ | ⟨b, cap, cur, _, rfl, _⟩
  · exact ⟨none, 0, rfl⟩
  · exact ⟨_, cap, rfl⟩
section
variable {B : Nat} {w0 : World} {A : List (Nat × List Value × TypeId)} {a : KA} {m m' : Nat} {S S' : KS} {w w' : World}
theorem Rw.cell {X : List (Nat × List Value × TypeId)} {p : Option Addr} {n cap : Nat} {L : List Int} (h : Rw X (.slice p n cap) L) (k : KX B w0 (X ++ A) a m S w) {i : Nat} (hi : i < L.length) : ∃ b, p = some ⟨b, 0, none⟩ ∧ w.cell? ⟨b, i, none⟩ = some (.int .i64 (L.getD i 0)) := by
  rcases h with ⟨_, rfl, _⟩ | ⟨b, c, cur, rfl, e, q⟩
  · simp at hi
  · simp only [Value.slice.injEq] at e
    refine ⟨b, e.1, ?_⟩
    rw [(k.bx (b, cur, 3) (by simp)).cell i]
    exact q i hi
theorem KX.row (h : KX B w0 A a m S w) {v : Value} {L : List Int} (o : w'.ownsRow w.heap.size 3 1 v L.length (L.map (Value.int .i64))) (f : Below w.heap.size w w') : ∃ X, KX B w0 (X ++ A) a m S w' ∧ Rw X v L := by
  rcases o.2 with ⟨rfl, e⟩ | ⟨b, cap, cur, rfl, hb, hh, hn, hc, hz, ht⟩
  · exact ⟨[], h.below f, Or.inl ⟨rfl, List.eq_nil_of_length_eq_zero e, rfl⟩⟩
  · refine ⟨[(b, cur.toList, 3)], h.box (show Blk w' b cur.toList 3 from ?_) f hb, Or.inr ⟨b, cap, cur.toList, rfl, rfl, fun i hi => ?_⟩⟩
    · rw [Blk, hh]
    · have := o.cellAt i (by omega)
      rw [getD_map_int L i hi] at this
      rw [← this]
      simp [World.cell?, hh]
/-- A part whose blocks stay the same has turned. -/
theorem KX.turn0 (h : KX B w0 A a m S w) {F : Nat → List Nat} (K : KW w a S m F) (hB : ∀ i, i < 16 → ∀ g ∈ F i, B ≤ g) (hA : ∀ x ∈ A, ∀ i, i < 16 → x.1 ∉ F i) (i : Nat) (hi : i < 16) (p : Part a S' m' i w' (F i)) {Z : List Nat} (f : Fr w.heap.size Z w w') (hZ : ∀ k ∈ Z, k ∈ F i) (e : Eqx i S S') (hm : m ≤ m') : KX B w0 A a m' S' w' :=
  h.turn K hB hA i hi p (f.wide hZ) (fun _ hg => Or.inl hg) (fun g hg => Nat.lt_of_lt_of_le (K.lt i hi g hg) f.size) e hm
theorem th_list (h : KX B w0 A a m S w) :
    Calls Tryz.prog 246 #[.pointer (some ⟨a.th + 2, 0, none⟩)] w fun e w' => ∃ v X, e = .returned v ∧ KX B w0 (X ++ A) a m S w' ∧ Rw X v (Sl.li 32 S.O) := by
  obtain ⟨F, K, hB, hA⟩ := h.ex
  obtain ⟨t, o, e0⟩ := K.p 1 (by omega)
  refine (Thr.thlist_any w t h.tab (Nat.lt_of_lt_of_le h.b1 h.sz)).mono ?_
  rintro e w' ⟨v, rfl, q⟩
  obtain ⟨X, k, r⟩ := h.row q.own q.bel
  exact ⟨v, X, rfl, k, r⟩
theorem rq_load (h : KX B w0 A a m S w) (c : Int) :
    Calls Tryz.prog 108 #[.pointer (some ⟨a.rq + 2, 0, none⟩), .int .i64 (c)] w fun e w' => e = .returned (.int .i64 (Rqu.loN a.n S.q c)) ∧ KX B w0 A a m S w' := by
  obtain ⟨F, K, hB, hA⟩ := h.ex
  obtain ⟨t, e0⟩ := K.p 2 (by omega)
  refine (Rqu.load_any c t).mono ?_
  rintro e w' ⟨rfl, rfl⟩
  exact ⟨rfl, h⟩
theorem rq_list (h : KX B w0 A a m S w) (c : Int) :
    Calls Tryz.prog 147 #[.pointer (some ⟨a.rq + 2, 0, none⟩), .int .i64 (c)] w fun e w' => ∃ v X, e = .returned v ∧ KX B w0 (X ++ A) a m S w' ∧ Rw X v (Rqu.liL a.n S.q c) := by
  obtain ⟨F, K, hB, hA⟩ := h.ex
  obtain ⟨t, e0⟩ := K.p 2 (by omega)
  refine (Rqu.rqlist_any c t).mono ?_
  rintro e w' ⟨v, rfl, q, f⟩
  obtain ⟨X, k, r⟩ := h.row q f
  exact ⟨v, X, rfl, k, r⟩
theorem tm_next (h : KX B w0 A a m S w) (c : Int) :
    Calls Tryz.prog 112 #[.pointer (some ⟨a.tm, 0, none⟩), .int .i64 (c)] w fun e w' => e = .returned (.tuple #[.int .i64 (Tim.txN a.n S.t c), .int .i64 (Tim.txE a.n S.t c)]) ∧ KX B w0 A a m S w' := by
  obtain ⟨F, K, hB, hA⟩ := h.ex
  have t := K.p 3 (by omega)
  simp only [Part] at t
  refine (Tim.tnext_any c t).mono ?_
  rintro e w' ⟨rfl, rfl⟩
  exact ⟨rfl, h⟩
theorem tm_ready (h : KX B w0 A a m S w) (c : Int) :
    Calls Tryz.prog 64 #[.pointer (some ⟨a.tm, 0, none⟩), .int .i64 (c)] w fun e w' => e = .returned (.bool (Tim.txR a.n S.now S.t c)) ∧ KX B w0 A a m S w' := by
  obtain ⟨F, K, hB, hA⟩ := h.ex
  have t := K.p 3 (by omega)
  simp only [Part] at t
  refine (Tim.tready_any c t).mono ?_
  rintro e w' ⟨rfl, rfl⟩
  exact ⟨rfl, h⟩
theorem iq_ready (h : KX B w0 A a m S w) (k : Int) :
    Calls Tryz.prog 57 #[.pointer (some ⟨a.iq, 0, none⟩), .int .i64 (k)] w fun e w' => e = .returned (.bool (Bm.rdB S.i k)) ∧ KX B w0 A a m S w' := by
  obtain ⟨F, K, hB, hA⟩ := h.ex
  obtain ⟨t, o, e0⟩ := K.p 4 (by omega)
  refine (Irq.iqready_any k w t).mono ?_
  rintro e w' ⟨rfl, q⟩
  exact ⟨rfl, h.below q⟩
theorem iq_list (h : KX B w0 A a m S w) :
    Calls Tryz.prog 295 #[.pointer (some ⟨a.iq, 0, none⟩)] w fun e w' => ∃ v X, e = .returned v ∧ KX B w0 (X ++ A) a m S w' ∧ Rw X v (wtL S) := by
  obtain ⟨F, K, hB, hA⟩ := h.ex
  obtain ⟨t, o, e0⟩ := K.p 4 (by omega)
  refine (Irq.iqlist_any w t).mono ?_
  rintro e w' ⟨v, rfl, q⟩
  obtain ⟨X, k, r⟩ := h.row q.own q.bel
  exact ⟨v, X, rfl, k, r⟩
theorem rt_on (h : KX B w0 A a m S w) (c : Int) :
    Calls Tryz.prog 169 #[.pointer (some ⟨a.rt, 0, none⟩), .int .i64 (c)] w fun e w' => ∃ v X, e = .returned v ∧ KX B w0 (X ++ A) a m S w' ∧ Rw X v (onL S c) := by
  obtain ⟨F, K, hB, hA⟩ := h.ex
  obtain ⟨t, e0⟩ := K.p 5 (by omega)
  refine (Rou.rton_any c w t).mono ?_
  rintro e w' ⟨v, rfl, q⟩
  obtain ⟨X, k, r⟩ := h.row q.own q.bel
  exact ⟨v, X, rfl, k, r⟩
theorem wk_queue (h : KX B w0 A a m S w) (c : Int) :
    Calls Tryz.prog 223 #[.pointer (some ⟨a.wk + 6, 0, none⟩), .int .i64 (c)] w fun e w' => e = .returned (.tuple #[.int .i64 (Cm.quN a.n S.wk c), .int .i64 (Cm.quE a.n S.wk c)]) ∧ KX B w0 A a (m) ((queue a.n S c).2.2) w' := by
  obtain ⟨F, K, hB, hA⟩ := h.ex
  obtain ⟨t, e0⟩ := K.p 6 (by omega)
  refine (Wrk.queue_any c t h.tab).mono ?_
  rintro e w' ⟨rfl, t2, f⟩
  refine ⟨rfl, h.turn0 K hB hA 6 (by omega) ?_ f ?_ (by simp [Eqx, queue]) (by omega)⟩
  · exact ⟨t2, e0⟩
  · intro k hk; rw [e0]; simpa using hk
theorem wk_take (h : KX B w0 A a m S w) (c : Int) :
    Calls Tryz.prog 128 #[.pointer (some ⟨a.wk + 6, 0, none⟩), .int .i64 (c)] w fun e w' => e = .returned (.tuple #[.int .i64 (Cm.taN a.n S.wk c), .int .i64 (Cm.taE a.n S.wk c)]) ∧ KX B w0 A a (m) ({ S with wk := Cm.taK a.n S.wk c }) w' := by
  obtain ⟨F, K, hB, hA⟩ := h.ex
  obtain ⟨t, e0⟩ := K.p 6 (by omega)
  refine (Wrk.gtake_any c t).mono ?_
  rintro e w' ⟨rfl, t2, f⟩
  refine ⟨rfl, h.turn0 K hB hA 6 (by omega) ?_ f ?_ (by simp [Eqx]) (by omega)⟩
  · exact ⟨t2, e0⟩
  · intro k hk; rw [e0]; simpa using hk
theorem wk_load (h : KX B w0 A a m S w) (c : Int) :
    Calls Tryz.prog 62 #[.pointer (some ⟨a.wk + 6, 0, none⟩), .int .i64 (c)] w fun e w' => e = .returned (.int .i64 (((Cm.wlL a.n S.wk c).length : Int))) ∧ KX B w0 A a m S w' := by
  obtain ⟨F, K, hB, hA⟩ := h.ex
  obtain ⟨t, e0⟩ := K.p 6 (by omega)
  refine (Wrk.gload_any c t).mono ?_
  rintro e w' ⟨rfl, rfl⟩
  exact ⟨rfl, h⟩
theorem cl_load (h : KX B w0 A a m S w) (c : Int) :
    Calls Tryz.prog 60 #[.pointer (some ⟨a.cl + 3, 0, none⟩), .int .i64 (c)] w fun e w' => e = .returned (.int .i64 (((Cm.clL S.cl c).length : Int))) ∧ KX B w0 A a m S w' := by
  obtain ⟨F, K, hB, hA⟩ := h.ex
  obtain ⟨t, l0, e0⟩ := K.p 7 (by omega)
  refine (Wrk.cload_any c t).mono ?_
  rintro e w' ⟨rfl, rfl⟩
  exact ⟨rfl, h⟩
theorem KX.stash (h : KX B w0 A a m S w) {F : Nat → List Nat} (K : KW w a S m F) (hB : ∀ i, i < 16 → ∀ g ∈ F i, B ≤ g) (hA : ∀ x ∈ A, ∀ i, i < 16 → x.1 ∉ F i) {pb lb : Nat} {V : List Value} (e0 : F 8 = a.ob :: lb :: pb :: Sta.bl V) {A2 : List Nat} {K2 : List (List Int)} (kv : Hm.Kv 12 A2 K2) (s : Sta.SC w w' a.ob pb lb a.n 12 V A2 K2) : KX B w0 A a m { S with oa := A2, ok := K2 } w' := by
  obtain ⟨V', q, sub⟩ := s.ex
  have l1 := K.lt 8 (by omega)
  have fs := s.fr.size
  refine h.turn K hB hA 8 (by omega) (G := a.ob :: lb :: pb :: Sta.bl V') ⟨pb, lb, V', q, kv, rfl⟩ (s.fr.wide fun k hk => ?_) (fun g hg => ?_) (fun g hg => ?_) (by simp [Eqx]) (by omega)
  · rw [e0]
    simp only [List.mem_cons] at hk ⊢
    exact Or.inr hk
  · rw [e0]
    simp only [List.mem_cons] at hg ⊢
    rcases hg with e | e | e | e
    · exact Or.inl (Or.inl e)
    · exact Or.inl (Or.inr (Or.inl e))
    · exact Or.inl (Or.inr (Or.inr (Or.inl e)))
    · rcases sub g e with e | e
      · exact Or.inl (Or.inr (Or.inr (Or.inr e)))
      · exact Or.inr e
  · simp only [List.mem_cons] at hg
    have l2 : ∀ k, k ∈ F 8 → k < w'.heap.size := fun k hk => Nat.lt_of_lt_of_le (l1 k hk) fs
    rw [e0] at l2
    rcases hg with e | e | e | e
    · exact l2 g (by simp [e])
    · exact l2 g (by simp [e])
    · exact l2 g (by simp [e])
    · exact Sta.St.bl_lt q.st e
theorem adL_len (L : List Int) (c x : Int) : (Pm.adL L c x).length = L.length := by unfold Pm.adL; split <;> simp
theorem ct_add (h : KX B w0 A a m S w) (c : Int) :
    Calls Tryz.prog 124 #[.pointer (some ⟨a.ct, 0, none⟩), .int .i64 (c), .int .i64 (1)] w fun e w' => e = .returned (.int .i64 (Pm.adE S.ct c 1)) ∧ KX B w0 A a (m) (adS S c) w' := by
  obtain ⟨F, K, hB, hA⟩ := h.ex
  obtain ⟨g, t, l0, e0⟩ := K.p 9 (by omega)
  refine (Spl.add_any c 1 w t ⟨by decide, by decide⟩).mono ?_
  rintro e w' ⟨rfl, t2, f⟩
  refine ⟨rfl, h.turn0 K hB hA 9 (by omega) ?_ f ?_ (by simp [Eqx, adS]) (by omega)⟩
  · exact ⟨g, t2, (adL_len _ _ _).trans l0, e0⟩
  · intro k hk; rw [e0]; simp only [List.mem_cons, List.not_mem_nil, or_false] at hk ⊢; simp [hk]
theorem dk_busy (h : KX B w0 A a m S w) :
    Calls Tryz.prog 33 #[.pointer (some ⟨a.dk, 0, none⟩)] w fun e w' => e = .returned (.bool S.R.isSome) ∧ KX B w0 A a m S w' := by
  obtain ⟨F, K, hB, hA⟩ := h.ex
  have t := K.p 10 (by omega)
  simp only [Part] at t
  refine (Hot.hbusy_any w t).mono ?_
  rintro e w' ⟨rfl, q⟩
  exact ⟨rfl, h.below q⟩
theorem dk_up (h : KX B w0 A a m S w) :
    Calls Tryz.prog 175 #[.pointer (some ⟨a.dk, 0, none⟩)] w fun e w' => e = .returned (.bool (Hp.ups S.R)) ∧ KX B w0 A a m S w' := by
  obtain ⟨F, K, hB, hA⟩ := h.ex
  have t := K.p 10 (by omega)
  simp only [Part] at t
  refine (Hot.hup_any w t).mono ?_
  rintro e w' ⟨rfl, q⟩
  exact ⟨rfl, h.below q⟩
theorem dk_cpu (h : KX B w0 A a m S w) :
    Calls Tryz.prog 121 #[.pointer (some ⟨a.dk, 0, none⟩)] w fun e w' => e = .returned (.int .i64 (Hp.cps S.R)) ∧ KX B w0 A a m S w' := by
  obtain ⟨F, K, hB, hA⟩ := h.ex
  have t := K.p 10 (by omega)
  simp only [Part] at t
  refine (Hot.hcpu_any w t).mono ?_
  rintro e w' ⟨rfl, q⟩
  exact ⟨rfl, h.below q⟩
theorem dk_by (h : KX B w0 A a m S w) :
    Calls Tryz.prog 106 #[.pointer (some ⟨a.dk, 0, none⟩)] w fun e w' => e = .returned (.int .i64 (Hp.cos S.R)) ∧ KX B w0 A a m S w' := by
  obtain ⟨F, K, hB, hA⟩ := h.ex
  have t := K.p 10 (by omega)
  simp only [Part] at t
  refine (Hot.hby_any w t).mono ?_
  rintro e w' ⟨rfl, q⟩
  exact ⟨rfl, h.below q⟩
theorem st_must (h : KX B w0 A a m S w) (c : Int) :
    Calls Tryz.prog 104 #[.pointer (some ⟨a.st, 0, none⟩), .int .i64 (c)] w fun e w' => e = .returned (.bool (tb S.sl c)) ∧ KX B w0 A a m S w' := by
  obtain ⟨F, K, hB, hA⟩ := h.ex
  obtain ⟨t, e0⟩ := K.p 12 (by omega)
  refine (Stp.tmust_any c w t).mono ?_
  rintro e w' ⟨rfl, q⟩
  exact ⟨rfl, h.sm q⟩
theorem st_held (h : KX B w0 A a m S w) (c : Int) :
    Calls Tryz.prog 105 #[.pointer (some ⟨a.st, 0, none⟩), .int .i64 (c)] w fun e w' => e = .returned (.bool (tb S.sh c)) ∧ KX B w0 A a m S w' := by
  obtain ⟨F, K, hB, hA⟩ := h.ex
  obtain ⟨t, e0⟩ := K.p 12 (by omega)
  refine (Stp.theld_any c w t).mono ?_
  rintro e w' ⟨rfl, q⟩
  exact ⟨rfl, h.sm q⟩
end
end Go.Proofs.YtfipiifickdeiaaGreatDoor.Krn
namespace Go.Proofs.YtfipiifickdeiaaGreatDoor.Krn
open Go.ChangeShapes Go.WideShapes Go.ChangeAt Go.RowKit
open Mm
def pi (x : Cor.Co.Kc) : Bool × Bool := (x.p, x.i)
theorem pi_get (Y : List Cor.Co.Kc) (k : Nat) : (Y.map pi).getD k (false, false) = pi (Y.getD k Cor.Co.kz) := by
  simp only [List.getD, List.getElem?_map]
  cases Y[k]? <;> rfl
theorem pi_set (Y : List Cor.Co.Kc) (k : Nat) (x : Cor.Co.Kc) : (Y.set k x).map pi = (Y.map pi).set k (pi x) := by rw [List.map_set]
theorem pi_same (Y : List Cor.Co.Kc) {k : Nat} (hk : k < Y.length) {x : Cor.Co.Kc} (e : pi x = pi (Y.getD k Cor.Co.kz)) : (Y.set k x).map pi = Y.map pi := by
  rw [pi_set, e]
  apply List.ext_getElem?
  intro j
  rw [List.getElem?_set]
  split
  · rename_i q
    subst q
    simp [hk, List.getD]
  · rfl
theorem gt_is {Y : List Cor.Co.Kc} {c : Int} (h : Cor.Co.isk Y.length c = true) : Cor.Co.gt Y c = Y.getD c.toNat Cor.Co.kz := by unfold Cor.Co.gt; rw [if_pos h]
section
variable {B : Nat} {w0 : World} {A : List (Nat × List Value × TypeId)} {a : KA} {m m' : Nat} {S S' : KS} {w w' : World}
theorem co_get (h : KX B w0 A a m S w) (c : Int) (hc : isC a.n c = true) :
    Calls Tryz.prog 65 #[.pointer (some ⟨a.co, 0, none⟩), .int .i64 c] w fun e w' => ∃ x : Cor.Co.Kc, e = .returned (.tuple #[.agg #[.bool x.p, .bool x.i, .int .i64 x.way, .int .i64 x.since, .int .i64 x.steps, .int .i64 x.busy], .int .i64 0]) ∧ pi x = zc S c ∧ KX B w0 A a m S w' := by
  obtain ⟨F, K, hB, hA⟩ := h.ex
  obtain ⟨g, Y, t, y0, l0, e0⟩ := K.p 13 (by omega)
  have ly : Y.length = a.n := by rw [← l0, ← y0, List.length_map]
  have k1 : Cor.Co.isk Y.length c = true := by rw [ly]; exact hc
  refine (Cor.cget_any w c t).mono ?_
  rintro e w' ⟨rfl, q⟩
  refine ⟨Cor.Co.gt Y c, ?_, ?_, h.below q⟩
  · unfold Cor.Co.inE
    rw [if_pos k1]
    rfl
  · rw [gt_is k1]
    unfold zc
    rw [← y0]
    exact (pi_get Y _).symm
theorem co_count (h : KX B w0 A a m S w) (c : Int) (b : Bool) (hc : isC a.n c = true) :
    Calls Tryz.prog 68 #[.pointer (some ⟨a.co, 0, none⟩), .int .i64 c, .bool b] w fun e w' => (∃ x, e = .returned (.int .i64 x)) ∧ KX B w0 A a m S w' := by
  obtain ⟨F, K, hB, hA⟩ := h.ex
  obtain ⟨g, Y, t, y0, l0, e0⟩ := K.p 13 (by omega)
  have ly : Y.length = a.n := by rw [← l0, ← y0, List.length_map]
  have k1 : Cor.Co.isk Y.length c = true := by rw [ly]; exact hc
  have kl : c.toNat < Y.length := by
    obtain ⟨k, rfl, hk⟩ := Cor.Co.isk_yes k1
    simpa using hk
  refine (Cor.ccount_any w c b t).mono ?_
  rintro e w' ⟨rfl, t2, f⟩
  refine ⟨⟨_, rfl⟩, h.turn0 K hB hA 13 (by omega) ⟨g, _, t2, ?_, l0, e0⟩ f (by rw [e0]; simp) (Eqx.refl _ _) (by omega)⟩
  rw [← y0]
  show (Cor.Co.ctY Y c b).map pi = Y.map pi
  unfold Cor.Co.ctY
  rw [if_pos k1, gt_is k1]
  exact pi_same Y kl rfl
/- The meter. -/
/- Governors. -/
end
/- The kernel's own block. -/
section
variable {B : Nat} {w0 : World} {A : List (Nat × List Value × TypeId)} {a : KA} {m m' : Nat} {S S' : KS} {w w' : World}
theorem KX.own (h : KX B w0 A a m S w) : w.cell? ⟨a.k, 0, none⟩ = some (.int .u64 (S.on : Int)) ∧ w.cell? ⟨a.k, 1, none⟩ = some (.int .u64 (S.ac : Int)) := by
  obtain ⟨⟨l, b⟩, _⟩ := h.kb
  exact ⟨b.cell 0, b.cell 1⟩
theorem KX.c0 (h : KX B w0 A a m S w) : w.cell? ⟨a.k, 0, none⟩ = some (.int .u64 (S.on : Int)) := h.own.1
theorem KX.c1 (h : KX B w0 A a m S w) : w.cell? ⟨a.k, 1, none⟩ = some (.int .u64 (S.ac : Int)) := h.own.2
theorem KX.c2 (h : KX B w0 A a m S w) : ∃ l, w.cell? ⟨a.k, 2, none⟩ = some (.int .i64 l) := by obtain ⟨⟨l, b⟩, _⟩ := h.kb; exact ⟨l, b.cell 2⟩
theorem KX.c3 (h : KX B w0 A a m S w) : w.cell? ⟨a.k, 3, none⟩ = some (.pointer (some ⟨a.th + 2, 0, none⟩)) := by obtain ⟨⟨l, b⟩, _⟩ := h.kb; exact b.cell 3
theorem KX.c4 (h : KX B w0 A a m S w) : w.cell? ⟨a.k, 4, none⟩ = some (.pointer (some ⟨a.rq + 2, 0, none⟩)) := by obtain ⟨⟨l, b⟩, _⟩ := h.kb; exact b.cell 4
theorem KX.c5 (h : KX B w0 A a m S w) : w.cell? ⟨a.k, 5, none⟩ = some (.pointer (some ⟨a.tm, 0, none⟩)) := by obtain ⟨⟨l, b⟩, _⟩ := h.kb; exact b.cell 5
theorem KX.c6 (h : KX B w0 A a m S w) : w.cell? ⟨a.k, 6, none⟩ = some (.pointer (some ⟨a.iq, 0, none⟩)) := by obtain ⟨⟨l, b⟩, _⟩ := h.kb; exact b.cell 6
theorem KX.c7 (h : KX B w0 A a m S w) : w.cell? ⟨a.k, 7, none⟩ = some (.pointer (some ⟨a.rt, 0, none⟩)) := by obtain ⟨⟨l, b⟩, _⟩ := h.kb; exact b.cell 7
theorem KX.c8 (h : KX B w0 A a m S w) : w.cell? ⟨a.k, 8, none⟩ = some (.pointer (some ⟨a.wk + 6, 0, none⟩)) := by obtain ⟨⟨l, b⟩, _⟩ := h.kb; exact b.cell 8
theorem KX.c9 (h : KX B w0 A a m S w) : w.cell? ⟨a.k, 9, none⟩ = some (.pointer (some ⟨a.cl + 3, 0, none⟩)) := by obtain ⟨⟨l, b⟩, _⟩ := h.kb; exact b.cell 9
theorem KX.c11 (h : KX B w0 A a m S w) : w.cell? ⟨a.k, 11, none⟩ = some (.pointer (some ⟨a.ct, 0, none⟩)) := by obtain ⟨⟨l, b⟩, _⟩ := h.kb; exact b.cell 11
theorem KX.c12 (h : KX B w0 A a m S w) : w.cell? ⟨a.k, 12, none⟩ = some (.pointer (some ⟨a.dk, 0, none⟩)) := by obtain ⟨⟨l, b⟩, _⟩ := h.kb; exact b.cell 12
theorem KX.c13 (h : KX B w0 A a m S w) : w.cell? ⟨a.k, 13, none⟩ = some (.pointer (some ⟨a.gt, 0, none⟩)) := by obtain ⟨⟨l, b⟩, _⟩ := h.kb; exact b.cell 13
theorem KX.c14 (h : KX B w0 A a m S w) : w.cell? ⟨a.k, 14, none⟩ = some (.pointer (some ⟨a.st, 0, none⟩)) := by obtain ⟨⟨l, b⟩, _⟩ := h.kb; exact b.cell 14
theorem KX.c15 (h : KX B w0 A a m S w) : w.cell? ⟨a.k, 15, none⟩ = some (.pointer (some ⟨a.co, 0, none⟩)) := by obtain ⟨⟨l, b⟩, _⟩ := h.kb; exact b.cell 15
theorem KX.c17 (h : KX B w0 A a m S w) : w.cell? ⟨a.k, 17, none⟩ = some (.slice (some ⟨a.gv, 0, none⟩) a.n a.gc) := by obtain ⟨⟨l, b⟩, _⟩ := h.kb; exact b.cell 17
theorem KX.fz (h : KX B w0 A a m S w) (i : Nat) : w.frozen? ⟨a.k, i, none⟩ = false := by obtain ⟨⟨l, b⟩, _⟩ := h.kb; exact b.free i
theorem KX.isT (h : KX B w0 A a m S w) : 0 ≤ S.now ∧ S.now ≤ 1152921504606846976 := by
  obtain ⟨F, K, _⟩ := h.ex
  have t := K.p 3 (by omega)
  simp only [Part] at t
  obtain ⟨sb, sg, tb, mb, SS, G, W, O, b, _⟩ := t
  obtain ⟨mp, V, q, _⟩ := b.ws 0 h.n1
  exact q.now
end
/- A tick that is later. -/
end Go.Proofs.YtfipiifickdeiaaGreatDoor.Krn
namespace Go.Proofs.YtfipiifickdeiaaGreatDoor.Krn
open Go.ChangeShapes Go.WideShapes Go.ChangeAt Go.RowKit
open Mm
section
variable {B : Nat} {w0 : World} {A : List (Nat × List Value × TypeId)} {a : KA} {m m' : Nat} {S S' : KS} {w w' : World}
theorem KX.alloc (h : KX B w0 A a m S w) (o : Obj) : KX B w0 A a m S (w.alloc o) := h.below (((Fr.refl w.heap.size [] w).alloc (Nat.le_refl _) o).below (by simp))
theorem KX.new (h : KX B w0 A a m S w) (cs : List Value) (t : TypeId) : KX B w0 ((w.heap.size, cs, t) :: A) a m S (w.alloc (.cells cs.toArray t)) := h.box (Blk.new w cs t) (((Fr.refl w.heap.size [] w).alloc (Nat.le_refl _) _).below (by simp)) (Nat.le_refl _)
set_option maxRecDepth 100000 in
theorem k_all  (a : KA) (w : World) :
    Calls Tryz.prog 54 #[.pointer (some ⟨a.k, 0, none⟩)] w fun e w' => e = .returned (.pointer (some ⟨a.k, 0, none⟩)) ∧ w' = w := by
  go_enter Tryz.func54, Tryz.ntmps54
  go_wp2
  go_ret
  exact ⟨rfl, rfl⟩
set_option maxRecDepth 100000 in
theorem k_Timers (h : KX B w0 A a m S w) :
    Calls Tryz.prog 63 #[.pointer (some ⟨a.k, 0, none⟩)] w fun e w' => e = .returned (.pointer (some ⟨a.tm, 0, none⟩)) ∧ w' = w := by
  have c5 := h.c5
  have C : Hid (∀ _ : Unit, _) := fun _ => k_all a w
  clear h
  go_enter Tryz.func63, Tryz.ntmps63
  go_wp2_with fail
  refine (C.out ()).mono ?_
  rintro e w1 ⟨rfl, rfl⟩
  go_wp2
  go_ret
  exact ⟨rfl, rfl⟩
set_option maxRecDepth 100000 in
theorem k_Works (h : KX B w0 A a m S w) :
    Calls Tryz.prog 61 #[.pointer (some ⟨a.k, 0, none⟩)] w fun e w' => e = .returned (.pointer (some ⟨a.wk + 6, 0, none⟩)) ∧ w' = w := by
  have c8 := h.c8
  have C : Hid (∀ _ : Unit, _) := fun _ => k_all a w
  clear h
  go_enter Tryz.func61, Tryz.ntmps61
  go_wp2_with fail
  refine (C.out ()).mono ?_
  rintro e w1 ⟨rfl, rfl⟩
  go_wp2
  go_ret
  exact ⟨rfl, rfl⟩
set_option maxRecDepth 100000 in
theorem k_Calls (h : KX B w0 A a m S w) :
    Calls Tryz.prog 59 #[.pointer (some ⟨a.k, 0, none⟩)] w fun e w' => e = .returned (.pointer (some ⟨a.cl + 3, 0, none⟩)) ∧ w' = w := by
  have c9 := h.c9
  have C : Hid (∀ _ : Unit, _) := fun _ => k_all a w
  clear h
  go_enter Tryz.func59, Tryz.ntmps59
  go_wp2_with fail
  refine (C.out ()).mono ?_
  rintro e w1 ⟨rfl, rfl⟩
  go_wp2
  go_ret
  exact ⟨rfl, rfl⟩
set_option maxRecDepth 100000 in
theorem k_Desk (h : KX B w0 A a m S w) :
    Calls Tryz.prog 32 #[.pointer (some ⟨a.k, 0, none⟩)] w fun e w' => e = .returned (.pointer (some ⟨a.dk, 0, none⟩)) ∧ w' = w := by
  have c12 := h.c12
  have C : Hid (∀ _ : Unit, _) := fun _ => k_all a w
  clear h
  go_enter Tryz.func32, Tryz.ntmps32
  go_wp2_with fail
  refine (C.out ()).mono ?_
  rintro e w1 ⟨rfl, rfl⟩
  go_wp2
  go_ret
  exact ⟨rfl, rfl⟩
set_option maxRecDepth 100000 in
theorem k_Cpus (h : KX B w0 A a m S w) :
    Calls Tryz.prog 58 #[.pointer (some ⟨a.k, 0, none⟩)] w fun e w' => e = .returned (.int .i64 (a.n : Int)) ∧ w' = w := by
  have c17 := h.c17
  have C : Hid (∀ _ : Unit, _) := fun _ => k_all a w
  clear h
  go_enter Tryz.func58, Tryz.ntmps58
  go_wp2_with fail
  refine (C.out ()).mono ?_
  rintro e w1 ⟨rfl, rfl⟩
  go_wp2
  go_ret
  exact ⟨rfl, rfl⟩
set_option maxRecDepth 100000 in
theorem k_isCore (h : KX B w0 A a m S w) (c : Int) :
    Calls Tryz.prog 36 #[.pointer (some ⟨a.k, 0, none⟩), .int .i64 (c)] w fun e w' => e = .returned (.bool (isC a.n c)) ∧ w' = w := by
  have c17 := h.c17
  clear h
  unfold isC
  by_cases c1 : c < 0
  · have e1 : (decide (0 ≤ c) && decide (c < (a.n : Int))) = false := by simp; omega
    rw [e1]
    go_enter Tryz.func36, Tryz.ntmps36
    go_wp2
    go_ret
    exact ⟨rfl, rfl⟩
  · by_cases c2 : c < (a.n : Int)
    · have e1 : (decide (0 ≤ c) && decide (c < (a.n : Int))) = true := by simp; omega
      rw [e1]
      have c3 : 0 ≤ c := by omega
      go_enter Tryz.func36, Tryz.ntmps36
      go_wp2
      go_ret
      exact ⟨rfl, rfl⟩
    · have e1 : (decide (0 ≤ c) && decide (c < (a.n : Int))) = false := by simp; omega
      rw [e1]
      have c3 : 0 ≤ c := by omega
      have c4 : (a.n : Int) ≤ c := by omega
      have c5 : decide (c < (a.n : Int)) = false := decide_eq_false c2
      go_enter Tryz.func36, Tryz.ntmps36
      go_wp2
      go_ret
      exact ⟨rfl, rfl⟩
end
end Go.Proofs.YtfipiifickdeiaaGreatDoor.Krn
