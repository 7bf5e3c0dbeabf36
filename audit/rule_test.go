package audit_test

import (
	"math"
	"reflect"
	"testing"

	"davit/api"
	"davit/audit"
	"davit/mask"
)

// going is a picture of four cores, of which 3 is away, and 2 goes: all rules hold of it.
func going() audit.Picture {
	return audit.Picture{
		Cpus:    4,
		Online:  0b0111,
		Active:  0b0011,
		Power:   0b0111,
		Threads: []audit.Thread{{1, 0, 0}, {2, 1, 0}, {3, 2, 0}, {4, 2, 6}, {7, 3, 2}, {32, 0, 48}},
		Queued:  []audit.Place{{1, 0, 0}, {2, 1, 0}, {3, 2, 0}},
		Timers:  []audit.Place{{6, 0, 4}, {1, 1, 0}, {2, 2, 7}, {48, 2, 32}, {5, 2, 0}},
		Irqs:    []audit.Place{{0, 0, 0}, {9, 2, 0}, {15, 1, 0}},
		Works:   []audit.Place{{1, -1, 0}, {32, -1, 0}, {4, 0, 0}, {2, 2, 0}},
		Calls:   []audit.Place{{2, 0, 0}, {1, 2, 0}},
		Kept:    []audit.Place{{96, 0, 0}, {5, 2, 0}},
		Busy:    true,
		Cpu:     2,
	}
}

// coming is one in which 2 comes, and has power.
func coming() audit.Picture {
	p := going()
	p.Online, p.Up, p.By = 0b0011, true, 1
	p.Threads[2].Cpu = 0
	for _, l := range lists(&p) {
		for at := range *l {
			if (*l)[at].Cpu == 2 {
				(*l)[at].Cpu = 0
			}
		}
	}
	return p
}

// calm is one without a request: the cores 0 and 1 are there.
func calm() audit.Picture {
	p := coming()
	p.Power, p.Busy, p.Up, p.Cpu, p.By = 0b0011, false, false, 0, 0
	return p
}

// change is a change of a picture, and the rules that do not hold any more.
type change struct {
	name   string
	do     func(p *audit.Picture)
	broken []int
}

// try says what is told of a picture behind each change of it.
func try(t *testing.T, made func() audit.Picture, l ...change) {
	t.Helper()
	judged(t, made())
	for _, c := range l {
		t.Run(c.name, func(t *testing.T) {
			p := made()
			c.do(&p)
			judged(t, p, c.broken...)
			for n := 1; n <= audit.Rules; n++ {
				if audit.Rule(p, n) != plainRule(p, n) {
					t.Errorf("the plain rule %d is another one", n)
				}
			}
		})
	}
}

func broken(n ...int) []int {
	return n
}

// P35.2: no other number is a rule.
func TestNoRules(t *testing.T) {
	for _, p := range []audit.Picture{going(), coming(), calm(), {}} {
		for _, n := range []int{math.MinInt, -1 << 32, -7, -1, 0, 8, 9, 14, 64, 1<<32 + 1, math.MaxInt} {
			if audit.Rule(p, n) {
				t.Errorf("Rule %d holds", n)
			}
		}
	}
	if audit.Rules != 7 {
		t.Error("Rules", audit.Rules)
	}
}

// P35.2, 1: active in online in power in all cores.
func TestCores(t *testing.T) {
	bare := func() audit.Picture { return audit.Picture{Cpus: 4, Online: 7, Active: 3, Power: 7} }
	try(t, bare,
		change{"all alike", func(p *audit.Picture) { p.Online, p.Active, p.Power = 15, 15, 15 }, nil},
		change{"one alone", func(p *audit.Picture) { p.Cpus, p.Online, p.Active, p.Power = 1, 1, 1, 1 }, nil},
		change{"the last alone", func(p *audit.Picture) { p.Online, p.Active, p.Power = 8, 8, 8 }, nil},
		change{"none active", func(p *audit.Picture) { p.Active = 0 }, broken(1)},
		change{"none at all", func(p *audit.Picture) { p.Online, p.Active, p.Power = 0, 0, 0 }, broken(1)},
		change{"active, not online", func(p *audit.Picture) { p.Active = 8 }, broken(1)},
		change{"one more active", func(p *audit.Picture) { p.Active = 11 }, broken(1)},
		change{"online without power", func(p *audit.Picture) { p.Online = 15 }, broken(1, 5)},
		change{"a core without power", func(p *audit.Picture) { p.Power = 6 }, broken(1, 5)},
		change{"power that no core has", func(p *audit.Picture) { p.Online, p.Power = 23, 23 }, broken(1)},
		change{"too few cores", func(p *audit.Picture) { p.Cpus = 2 }, broken(1)},
		change{"just as many cores", func(p *audit.Picture) { p.Cpus = 3 }, nil},
		change{"no cores", func(p *audit.Picture) { p.Cpus = 0 }, broken(1)},
		change{"cores below none", func(p *audit.Picture) { p.Cpus = -1 }, broken(1)},
		change{"by far", func(p *audit.Picture) { p.Cpus = math.MinInt }, broken(1)},
		change{"no cores, and none told", func(p *audit.Picture) { *p = audit.Picture{Cpus: -5} }, broken(1)},
		change{"all cores", func(p *audit.Picture) {
			p.Cpus, p.Online, p.Active, p.Power = 64, math.MaxUint64, 1<<63, math.MaxUint64
		}, nil},
		change{"one too few", func(p *audit.Picture) {
			p.Cpus, p.Online, p.Active, p.Power = 63, math.MaxUint64, 1<<63, math.MaxUint64
		}, broken(1)},
		change{"more cores than there can be", func(p *audit.Picture) {
			p.Cpus, p.Online, p.Active, p.Power = 65, math.MaxUint64, 1<<63, math.MaxUint64
		}, nil},
		change{"by far more", func(p *audit.Picture) {
			p.Cpus, p.Online, p.Active, p.Power = math.MaxInt, math.MaxUint64, math.MaxUint64, math.MaxUint64
		}, nil},
		change{"many cores, of which few are there", func(p *audit.Picture) { p.Cpus = 1 << 40 }, nil},
	)
}

// P35.2, 2: who is awake is queued once, on its core.
func TestQueued(t *testing.T) {
	l := []change{
		{"in another order", func(p *audit.Picture) { p.Queued[0], p.Queued[2] = p.Queued[2], p.Queued[0] }, nil},
		{"threads in another order", func(p *audit.Picture) { p.Threads[0], p.Threads[3] = p.Threads[3], p.Threads[0] }, nil},
		{"whom a queued one wakes", func(p *audit.Picture) { p.Queued[0].Who = 9 }, nil},
		{"not queued", func(p *audit.Picture) { p.Queued = p.Queued[1:] }, broken(2)},
		{"the last one not queued", func(p *audit.Picture) { p.Queued = p.Queued[:2] }, broken(2)},
		{"none queued", func(p *audit.Picture) { p.Queued = nil }, broken(2)},
		{"twice", func(p *audit.Picture) { p.Queued = append(p.Queued, p.Queued[0]) }, broken(2)},
		{"twice, on two cores", func(p *audit.Picture) { p.Queued = append(p.Queued, audit.Place{Id: 1, Cpu: 1}) }, broken(2)},
		{"twice, the wrong core ahead", func(p *audit.Picture) { p.Queued = append([]audit.Place{{Id: 1, Cpu: 1}}, p.Queued...) }, broken(2)},
		{"another thread instead", func(p *audit.Picture) { p.Queued[0].Id = 2 }, broken(2)},
		{"on another core", func(p *audit.Picture) { p.Queued[0].Cpu = 1 }, broken(2)},
		{"a thread that is on another core", func(p *audit.Picture) { p.Threads[1].Cpu = 0 }, broken(2)},
		{"no thread", func(p *audit.Picture) { p.Queued = append(p.Queued, audit.Place{Id: 9, Cpu: 0}) }, broken(2)},
		{"no thread, ahead of all", func(p *audit.Picture) { p.Queued = append([]audit.Place{{Id: 0, Cpu: 0}}, p.Queued...) }, broken(2)},
		{"below all threads", func(p *audit.Picture) { p.Queued = append(p.Queued, audit.Place{Id: -1, Cpu: 0}) }, broken(2)},
		{"a sleeper", func(p *audit.Picture) { p.Queued = append(p.Queued, audit.Place{Id: 32, Cpu: 0}) }, broken(2)},
		{"a sleeper twice", func(p *audit.Picture) {
			p.Queued = append(p.Queued, audit.Place{Id: 32, Cpu: 0}, audit.Place{Id: 32, Cpu: 1})
		}, broken(2)},
		{"a sleeper instead", func(p *audit.Picture) { p.Queued[0].Id = 32 }, broken(2)},
		{"a thread is gone", func(p *audit.Picture) { p.Threads = p.Threads[1:] }, broken(2)},
		{"a thread more", func(p *audit.Picture) { p.Threads = append(p.Threads, audit.Thread{Id: 8}) }, broken(2)},
		{"a thread more, that sleeps", func(p *audit.Picture) {
			p.Threads, p.Timers = append(p.Threads, audit.Thread{Id: 8, Cpu: 9, Timer: 9}), append(p.Timers, audit.Place{Id: 9, Who: 8})
		}, nil},
		{"a sleeper's core is any", func(p *audit.Picture) { p.Threads[5].Cpu = -7 }, nil},
		{"none of each", func(p *audit.Picture) { p.Threads, p.Queued, p.Timers = nil, nil, nil }, nil},
		{"no threads, and queued", func(p *audit.Picture) { p.Threads, p.Timers = nil, nil }, broken(2)},
		{"numbers at the ends", func(p *audit.Picture) {
			p.Threads = append(p.Threads, audit.Thread{Id: math.MinInt}, audit.Thread{Id: math.MaxInt, Cpu: 1})
			p.Queued = append(p.Queued, audit.Place{Id: math.MaxInt, Cpu: 1}, audit.Place{Id: math.MinInt})
		}, nil},
		{"a thread told twice", func(p *audit.Picture) { p.Threads = append(p.Threads, p.Threads[0]) }, nil},
		{"a thread told twice, on two cores", func(p *audit.Picture) { p.Threads = append(p.Threads, audit.Thread{Id: 1, Cpu: 1}) }, broken(2)},
		{"told awake and asleep", func(p *audit.Picture) {
			p.Threads, p.Timers = append(p.Threads, audit.Thread{Id: 1, Timer: 9}), append(p.Timers, audit.Place{Id: 9, Who: 1})
		}, broken(2)},
	}
	for _, made := range []func() audit.Picture{going, coming, calm} {
		try(t, made, l...)
	}
}

// P35.2, 3: who sleeps has one timer, that wakes it.
func TestSleepers(t *testing.T) {
	l := []change{
		{"in another order", func(p *audit.Picture) { p.Timers[0], p.Timers[4] = p.Timers[4], p.Timers[0] }, nil},
		{"a timer more", func(p *audit.Picture) { p.Timers = append(p.Timers, audit.Place{Id: 9}) }, nil},
		{"one that wakes less than nobody", func(p *audit.Picture) { p.Timers = append(p.Timers, audit.Place{Id: 9, Who: -1}) }, nil},
		{"by far", func(p *audit.Picture) { p.Timers = append(p.Timers, audit.Place{Id: 9, Who: math.MinInt}) }, nil},
		{"no timer of a sleeper", func(p *audit.Picture) { p.Timers = p.Timers[1:] }, broken(3)},
		{"no timers", func(p *audit.Picture) { p.Timers = nil }, broken(3)},
		{"another number", func(p *audit.Picture) { p.Timers[0].Id = 7 }, broken(3)},
		{"it wakes nobody", func(p *audit.Picture) { p.Timers[0].Who = 0 }, broken(3)},
		{"it wakes another sleeper", func(p *audit.Picture) { p.Timers[0].Who = 7 }, broken(3)},
		{"two that wake each other's", func(p *audit.Picture) { p.Timers[0].Who, p.Timers[2].Who = 7, 4 }, broken(3)},
		{"it wakes one that is awake", func(p *audit.Picture) { p.Timers[0].Who = 1 }, broken(3)},
		{"it wakes no thread", func(p *audit.Picture) { p.Timers[0].Who = 9 }, broken(3)},
		{"another one wakes one that is awake", func(p *audit.Picture) { p.Timers[1].Who = 1 }, broken(3)},
		{"another one wakes no thread", func(p *audit.Picture) { p.Timers[1].Who = 9 }, broken(3)},
		{"another one wakes a sleeper, too", func(p *audit.Picture) { p.Timers[1].Who = 4 }, broken(3)},
		{"the last one wakes a sleeper, too", func(p *audit.Picture) { p.Timers = append(p.Timers, audit.Place{Id: 47, Who: 4}) }, broken(3)},
		{"two of that number", func(p *audit.Picture) { p.Timers = append(p.Timers, p.Timers[0]) }, broken(3, 6)},
		{"two of that number, one of which wakes nobody", func(p *audit.Picture) { p.Timers = append(p.Timers, audit.Place{Id: 6}) }, broken(3, 6)},
		{"nobody's ahead of the right one", func(p *audit.Picture) { p.Timers = append([]audit.Place{{Id: 6}}, p.Timers...) }, broken(3, 6)},
		{"two of a number that wake nobody", func(p *audit.Picture) { p.Timers = append(p.Timers, audit.Place{Id: 5, Cpu: 0}) }, broken(6)},
		{"a sleeper by another timer", func(p *audit.Picture) { p.Threads[3].Timer = 1 }, broken(3)},
		{"two by one timer", func(p *audit.Picture) { p.Threads[3].Timer = 2 }, broken(3)},
		{"by one that there is not", func(p *audit.Picture) { p.Threads[3].Timer = 47 }, broken(3)},
		{"by one below 0", func(p *audit.Picture) { p.Threads[3].Timer = -6 }, broken(3)},
		{"by one below 0, which there is", func(p *audit.Picture) { p.Threads[3].Timer, p.Timers[0].Id = -6, -6 }, nil},
		{"another number, of both", func(p *audit.Picture) { p.Threads[3].Timer, p.Timers[0].Id = 40, 40 }, nil},
		{"a sleeper is gone", func(p *audit.Picture) { p.Threads = p.Threads[:5] }, broken(3)},
		{"a sleeper is awake", func(p *audit.Picture) {
			p.Threads[3].Timer, p.Queued = 0, append(p.Queued, audit.Place{Id: 4, Cpu: p.Threads[3].Cpu})
		}, nil},
		{"none of each", func(p *audit.Picture) { p.Threads, p.Queued, p.Timers = nil, nil, nil }, nil},
		{"a thread told twice", func(p *audit.Picture) { p.Threads = append(p.Threads, p.Threads[3]) }, nil},
	}
	// A sleeper that is awake must be queued where it may be.
	for n, made := range []func() audit.Picture{going, coming, calm} {
		for at := range l {
			switch l[at].name {
			case "a sleeper is awake":
				l[at].broken = [][]int{broken(3), broken(3, 4), broken(3, 4)}[n]
			}
		}
		try(t, made, l...)
	}
}

// P35.2, 4: a place of each list, at cores of each kind.
func TestPlaces(t *testing.T) {
	for at, name := range []string{"Queued", "Timers", "Irqs", "Works", "Calls", "Kept"} {
		for _, made := range []func() audit.Picture{going, coming, calm} {
			for _, cpu := range []int{0, 1, 2, 3, 4, 5, 63, 64, 65, -1, -2, -63, -64, 1 << 32, 1<<32 + 1, math.MinInt, math.MaxInt} {
				for _, many := range []int{1, 2} {
					p := made()
					for n := range many {
						add(&p, at, 40+n, []int{cpu, 0}[n])
					}
					may := cpu == 0 || cpu == 1 || cpu == 2 && p.Busy && !p.Up || cpu == -1 && name == "Works"
					if may {
						judged(t, p)
					} else {
						judged(t, p, 4)
					}
					if !may == plainRule(p, 4) {
						t.Errorf("%s at %d: the plain rule is another one", name, cpu)
					}
				}
			}
		}
	}
}

// add lets a thing be in one of the lists, on a core; one that is queued is a thread there, too.
func add(p *audit.Picture, list, id, cpu int) {
	l := lists(p)[list]
	*l = append(*l, audit.Place{Id: id, Cpu: cpu})
	if list == 0 {
		p.Threads = append(p.Threads, audit.Thread{Id: id, Cpu: cpu})
	}
}

// P35.2, 4, of the request: only that of going, and only its core.
func TestPlacesByRequest(t *testing.T) {
	try(t, going,
		change{"no request any more", func(p *audit.Picture) { p.Busy = false }, broken(4)},
		change{"one of coming", func(p *audit.Picture) { p.Up = true }, broken(4, 7)},
		change{"one of another core", func(p *audit.Picture) { p.Cpu = 1 }, broken(4)},
		change{"it is active as yet", func(p *audit.Picture) { p.Active = 0b0111 }, nil},
		change{"no active core at all", func(p *audit.Picture) { p.Active = 0 }, broken(1, 4, 7)},
		change{"no work's core is none's", func(p *audit.Picture) { p.Works = []audit.Place{{1, -1, 0}, {2, -2, 0}} }, broken(4)},
		change{"no things, no request", func(p *audit.Picture) {
			*p = audit.Picture{Cpus: 4, Online: 7, Active: 3, Power: 7}
		}, nil},
	)
	try(t, calm,
		change{"the zero request is none", func(p *audit.Picture) { p.Active = 0b0010 }, broken(4)},
		change{"a request of going of 0", func(p *audit.Picture) { p.Active, p.Busy, p.By = 0b0010, true, 1 }, nil},
		change{"a thread asleep may be anywhere", func(p *audit.Picture) { p.Threads[5].Cpu = 3 }, nil},
	)
}

// P35.2, 5: power without being online.
func TestPower(t *testing.T) {
	bare := func() audit.Picture { return audit.Picture{Cpus: 5, Online: 7, Active: 7, Power: 7} }
	up := func(p *audit.Picture) { p.Busy, p.Up, p.Cpu = true, true, 3 }
	try(t, bare,
		change{"power of 3", func(p *audit.Picture) { p.Power = 15 }, broken(5)},
		change{"power of 3 that comes", func(p *audit.Picture) { up(p); p.Power = 15 }, nil},
		change{"3 that comes without power", func(p *audit.Picture) { up(p) }, nil},
		change{"power of 3 that would come", func(p *audit.Picture) { up(p); p.Power, p.Busy = 15, false }, broken(5)},
		change{"power of 3 that goes", func(p *audit.Picture) { up(p); p.Power, p.Up = 15, false }, broken(5, 7)},
		change{"power of 4 when 3 comes", func(p *audit.Picture) { up(p); p.Power = 23 }, broken(5)},
		change{"power of both when 3 comes", func(p *audit.Picture) { up(p); p.Power = 31 }, broken(5)},
		change{"power of 3, not of 2", func(p *audit.Picture) { up(p); p.Power = 11 }, broken(1, 5)},
		change{"no power of 2", func(p *audit.Picture) { p.Power = 3 }, broken(1, 5)},
		change{"no power of 2 that comes", func(p *audit.Picture) { up(p); p.Cpu, p.Power = 2, 3 }, broken(1, 5, 7)},
		change{"2 that is there comes", func(p *audit.Picture) { up(p); p.Cpu = 2 }, broken(7)},
		change{"no core comes", func(p *audit.Picture) { up(p); p.Cpu = -1 }, broken(7)},
		change{"no core comes, and has power", func(p *audit.Picture) { up(p); p.Cpu, p.Power = 64, 15 }, broken(5, 7)},
		change{"2 goes", func(p *audit.Picture) { p.Busy, p.Cpu = true, 2 }, nil},
	)
	wide := func() audit.Picture {
		return audit.Picture{Cpus: 64, Online: 1<<63 - 1, Active: 1, Power: math.MaxUint64, Busy: true, Up: true, Cpu: 63}
	}
	try(t, wide,
		change{"not yet", func(p *audit.Picture) { p.Power = 1<<63 - 1 }, nil},
		change{"63 does not come", func(p *audit.Picture) { p.Cpu = 62 }, broken(5, 7)},
	)
}

// P35.2, 6: numbers twice in each list.
func TestNumbers(t *testing.T) {
	for _, made := range []func() audit.Picture{going, coming, calm} {
		for at, name := range []string{"Timers", "Irqs", "Works", "Calls", "Kept"} {
			for _, cpus := range [][]int{{0, 0}, {0, 1}, {1, 0}, {0, 0, 0}, {1, 0, 1}} {
				for _, id := range []int{8, 0, -1, 1 << 33, math.MinInt, math.MaxInt} {
					p := made()
					add(&p, at+1, id, cpus[0])
					if id != 0 || name != "Irqs" {
						judged(t, p)
					}
					for _, cpu := range cpus[1:] {
						add(&p, at+1, id, cpu)
					}
					judged(t, p, 6)
					// Who they wake does not tell them apart.
					l := lists(&p)[at+1]
					(*l)[len(*l)-1].Who = -5
					judged(t, p, 6)
				}
			}
		}
	}
	try(t, going,
		change{"one number in all lists", func(p *audit.Picture) {
			for at := range 5 {
				add(p, at+1, 20, 0)
			}
		}, nil},
		change{"a work of Free, and of a core", func(p *audit.Picture) { p.Works = append(p.Works, audit.Place{Id: 1}) }, broken(6)},
		change{"a work of Free, twice", func(p *audit.Picture) { p.Works = append(p.Works, audit.Place{Id: 32, Cpu: -1}) }, broken(6)},
		change{"an interrupt of two cores", func(p *audit.Picture) { p.Irqs = append(p.Irqs, audit.Place{Id: 0, Cpu: 1}) }, broken(6)},
		change{"the first is the last, too", func(p *audit.Picture) { p.Kept = append(p.Kept, audit.Place{Id: 7}, p.Kept[0]) }, broken(6)},
		change{"all empty", func(p *audit.Picture) {
			*p = audit.Picture{Cpus: 1, Online: 1, Active: 1, Power: 1}
		}, nil},
	)
}

// P35.2, 7: the request.
func TestRequest(t *testing.T) {
	bare := func() audit.Picture {
		return audit.Picture{Cpus: 4, Online: 7, Active: 3, Power: 7, Busy: true, Cpu: 2}
	}
	try(t, bare,
		change{"by another one", func(p *audit.Picture) { p.By = 1 }, nil},
		change{"of one that is active", func(p *audit.Picture) { p.Cpu = 1 }, nil},
		change{"by itself", func(p *audit.Picture) { p.Active, p.By = 7, 2 }, broken(7)},
		change{"of 0, by itself", func(p *audit.Picture) { p.Cpu = 0 }, broken(7)},
		change{"by one that is not active", func(p *audit.Picture) { p.Cpu, p.By = 1, 2 }, broken(7)},
		change{"by one that is away", func(p *audit.Picture) { p.By = 3 }, broken(7)},
		change{"by no core", func(p *audit.Picture) { p.By = -1 }, broken(7)},
		change{"by core 64", func(p *audit.Picture) { p.By = 64 }, broken(7)},
		change{"by far no core", func(p *audit.Picture) { p.By = 1 << 32 }, broken(7)},
		change{"going of one that is away", func(p *audit.Picture) { p.Cpu = 3 }, broken(7)},
		change{"coming of one that is there", func(p *audit.Picture) { p.Up = true }, broken(7)},
		change{"coming of one that is away", func(p *audit.Picture) { p.Up, p.Cpu = true, 3 }, nil},
		change{"coming of no core", func(p *audit.Picture) { p.Up, p.Cpu = true, 4 }, broken(7)},
		change{"coming of a core below 0", func(p *audit.Picture) { p.Up, p.Cpu = true, -1 }, broken(7)},
		change{"coming of core 64", func(p *audit.Picture) { p.Up, p.Cpu = true, 64 }, broken(7)},
		change{"coming of the last one", func(p *audit.Picture) { p.Up, p.Cpu, p.Cpus = true, 63, 64 }, nil},
		change{"coming of one too many", func(p *audit.Picture) { p.Up, p.Cpu, p.Cpus = true, 63, 63 }, broken(7)},
		change{"coming of core 64 of more", func(p *audit.Picture) { p.Up, p.Cpu, p.Cpus = true, 64, 65 }, broken(7)},
		change{"going of a core below 0", func(p *audit.Picture) { p.Cpu = -1 }, broken(7)},
		change{"going of one beyond all", func(p *audit.Picture) { p.Cpus, p.Cpu = 2, 2 }, broken(1, 7)},
		change{"by itself, of no core", func(p *audit.Picture) { p.Cpu, p.By = -1, -1 }, broken(7)},
		change{"no request: all of it is any", func(p *audit.Picture) { p.Busy, p.Up, p.Cpu, p.By = false, true, -7, 99 }, nil},
		change{"no request: by itself", func(p *audit.Picture) { p.Busy, p.Cpu, p.By = false, 3, 3 }, nil},
	)
}

// P35.3: the first rule that does not hold, of several.
func TestCheck(t *testing.T) {
	each := []func(p *audit.Picture){
		func(p *audit.Picture) { p.Active |= 1 << 3 },
		func(p *audit.Picture) { p.Threads = append(p.Threads, audit.Thread{Id: 19}) },
		func(p *audit.Picture) { p.Timers = append(p.Timers, audit.Place{Id: 19, Who: 19}) },
		func(p *audit.Picture) { p.Calls = append(p.Calls, audit.Place{Id: 19, Cpu: 17}) },
		func(p *audit.Picture) { p.Power, p.Cpus = p.Power|1<<9, 10 },
		func(p *audit.Picture) { p.Kept = append(p.Kept, p.Kept[0]) },
		func(p *audit.Picture) { p.By = 60 },
	}
	for _, made := range []func() audit.Picture{going, coming} {
		for set := range 1 << len(each) {
			p := made()
			var want []int
			for n, do := range each {
				if mask.Mask(set).Has(n) {
					do(&p)
					want = append(want, n+1)
				}
			}
			judged(t, p, want...)
		}
	}
	// Of the zero picture the first rule alone is broken.
	judged(t, audit.Picture{}, 1)
	judged(t, audit.Picture{Cpus: 64}, 1)
	judged(t, audit.Picture{Busy: true}, 1, 7)
}

// Rule and Check change no list of what they are handed, nor keep it.
func TestPicturesAreLeft(t *testing.T) {
	for _, made := range []func() audit.Picture{going, coming, calm} {
		p, was := made(), made()
		for n := -1; n <= 9; n++ {
			audit.Rule(p, n)
		}
		audit.Check(p)
		if !reflect.DeepEqual(p, was) {
			t.Errorf("it is %+v, was %+v", p, was)
		}
		p.Queued[0].Cpu = 3
		if n, why := audit.Check(p); n != 2 || why != api.ErrState {
			t.Error("Check", n, why)
		}
		p.Queued[0].Cpu = was.Queued[0].Cpu
		judged(t, p)
	}
}

// Lists of any length are gone over in time that is not too long.
func TestLongLists(t *testing.T) {
	const many = 60000
	p := audit.Picture{Cpus: 64, Online: math.MaxUint64, Active: math.MaxUint64, Power: math.MaxUint64}
	for id := 1; id <= many; id++ {
		one := audit.Thread{Id: id, Cpu: id % 64}
		if id%2 == 0 {
			one.Timer = id + many
			p.Timers = append(p.Timers, audit.Place{Id: id + many, Cpu: id % 64, Who: id})
		} else {
			p.Queued = append(p.Queued, audit.Place{Id: id, Cpu: id % 64})
		}
		p.Threads = append(p.Threads, one)
		for at := range 4 {
			add(&p, at+2, id, id%64)
		}
	}
	judged(t, p)
	last := len(p.Timers) - 1
	p.Timers[last].Who--
	judged(t, p, 3)
	p.Timers[last].Who++
	p.Works[many-1].Id = 1
	judged(t, p, 6)
	p.Works[many-1].Id = many
	p.Queued[0].Cpu++
	judged(t, p, 2)
}

// P35.2 and P35.3 of pictures of kernels in which some things were changed, against the plain rules.
func TestChangedPictures(t *testing.T) {
	pick := picks(35)
	var many [8]int
	for _, cpus := range []int{1, 2, 3, 5, 64} {
		for range 12 {
			k := made(t, cpus)
			for range 250 {
				k.Do(anyEvent(pick, cpus, 4))
			}
			for range 200 {
				p := copied(of(t, k))
				for range 1 + pick(3) {
					twist(pick, &p)
				}
				l := plainly(p)
				judged(t, p, l...)
				for _, n := range l {
					many[n]++
				}
				if len(l) == 0 {
					many[0]++
				}
			}
		}
	}
	for n, m := range many {
		if m < 100 {
			t.Errorf("the rule %d is broken %d times", n, m)
		}
	}
}

// twist changes something of a picture.
func twist(pick func(n int) int, p *audit.Picture) {
	cpu := []int{pick(4), pick(64), -1, 64, 0}[pick(5)]
	bit := mask.Of(cpu)
	switch pick(14) {
	case 0:
		p.Active ^= bit
	case 1:
		p.Online ^= bit
	case 2:
		p.Power ^= bit
	case 3:
		p.Power, p.Online = p.Power|bit, p.Online|bit
	case 4:
		p.Busy = !p.Busy
	case 5:
		p.Up = !p.Up
	case 6:
		p.Cpu = cpu
	case 7:
		p.By = cpu
	case 8:
		p.Cpus = []int{pick(66) - 1, p.Cpus + 1, p.Cpus - 1}[pick(3)]
	case 9:
		if len(p.Threads) > 0 {
			one := &p.Threads[pick(len(p.Threads))]
			switch pick(3) {
			case 0:
				one.Id = pick(34)
			case 1:
				one.Cpu = cpu
			case 2:
				one.Timer = pick(5)
			}
		}
	default:
		l := lists(p)[pick(6)]
		at := pick(len(*l) + 1)
		if at == len(*l) {
			*l = append(*l, audit.Place{Id: pick(10), Cpu: cpu, Who: pick(9) - 4})
			return
		}
		switch one := &(*l)[at]; pick(4) {
		case 0:
			one.Id = pick(20)
		case 1:
			one.Cpu = cpu
		case 2:
			one.Who = pick(6) - 1
		case 3:
			*l = append((*l)[:at], (*l)[at+1:]...)
		}
	}
}
