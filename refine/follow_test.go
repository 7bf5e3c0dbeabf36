package refine

import (
	"testing"

	"davit/api"
	"davit/kernel"
)

// script is events each of which changes what is there: none of their records can be left out.
func script() []api.Ev {
	return []api.Ev{
		{Kind: api.EvSpawn, Id: 3, Mask: 3}, {Kind: api.EvArm}, {Kind: api.EvQueue}, {Kind: api.EvCall}, {Kind: api.EvAlloc},
		{Kind: api.EvRequest, Id: 2, Mask: 1}, {Kind: api.EvRaise, Id: 2}, {Kind: api.EvStep}, {Kind: api.EvStep}, {Kind: api.EvStep}, {Kind: api.EvStep}, {Kind: api.EvHold}, {Kind: api.EvTick, N: 3}, {Kind: api.EvSleep, Id: 1, N: 9},
	}
}

// faults are ways in which a kernel's records may be wrong.
func faults() []func(l []api.Rec) []api.Rec {
	return []func(l []api.Rec) []api.Rec{
		func(l []api.Rec) []api.Rec { return nil },
		func(l []api.Rec) []api.Rec { return append(l, l...) },
		func(l []api.Rec) []api.Rec { return []api.Rec{{Kind: l[0].Kind + 1, Cpu: l[0].Cpu, Id: l[0].Id}} },
		func(l []api.Rec) []api.Rec { return []api.Rec{{Kind: l[0].Kind, Cpu: l[0].Cpu + 1, Id: l[0].Id}} },
		func(l []api.Rec) []api.Rec { return []api.Rec{{Kind: l[0].Kind, Cpu: l[0].Cpu, Id: l[0].Id + 50}} },
		func(l []api.Rec) []api.Rec {
			return []api.Rec{{Kind: l[0].Kind, Cpu: l[0].Cpu, Id: l[0].Id, N: l[0].N + 7}}
		},
		func(l []api.Rec) []api.Rec { return []api.Rec{{Kind: api.RecRet, Why: api.ErrOwner}} },
	}
}

// P30.2: the number of the first event at which it may not be so.
func TestFirstWrongRecord(t *testing.T) {
	l := script()
	for _, fault := range faults() {
		for first := range l {
			k, _ := kernel.New(2)
			at := -1
			do := func(e api.Ev) []api.Rec {
				at++
				got := k.Do(e)
				if at >= first {
					return fault(got)
				}
				return got
			}
			n, why := follow(k, do, l)
			if n != first || why != api.ErrState {
				t.Errorf("a wrong record at %d: %d, %d", first, n, why)
			}
		}
	}
}

// P30.2: the number of the first event behind which Of the kernel is not the model's state.
func TestFirstWrongState(t *testing.T) {
	l := script()
	for n, change := range []func(k *kernel.Kernel){
		func(k *kernel.Kernel) { k.Threads().Spawn(1, 1) }, func(k *kernel.Kernel) { k.Timers().Arm(1, 5) }, func(k *kernel.Kernel) { k.Timers().Go(k.Now() + 1) },
		func(k *kernel.Kernel) { k.Irqs().Request(9, 1) }, func(k *kernel.Kernel) { k.Works().Queue(1) }, func(k *kernel.Kernel) { k.Works().Queue(-1) }, func(k *kernel.Kernel) { k.Calls().Send(1) },
		func(k *kernel.Kernel) { k.Objects().Alloc(1) }, func(k *kernel.Kernel) { k.Desk().Begin(false, 1, 0) }, func(k *kernel.Kernel) { k.Desk().Begin(true, 1, 0) }, func(k *kernel.Kernel) { k.Gate().Enter(1) },
	} {
		for first := range l {
			k, _ := kernel.New(2)
			at := -1
			do := func(e api.Ev) []api.Rec {
				at++
				got := k.Do(e)
				if at == first {
					change(k)
				}
				return got
			}
			if told, why := follow(k, do, l); told != first || why != api.ErrState {
				t.Errorf("change %d behind %d: %d, %d", n, first, told, why)
			}
		}
	}
	k, _ := kernel.New(2)
	if n, why := follow(k, k.Do, l); n != len(l) || why != api.OK {
		t.Error("follow", n, why)
	}
}
