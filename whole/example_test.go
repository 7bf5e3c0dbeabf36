// Package whole has no calls of its own: its tests are those of the promises of the whole program, and of the document's examples of it.
package whole_test

import (
	"slices"
	"strings"
	"testing"

	"davit/api"
	"davit/core"
	"davit/replay"
	"davit/shell"
)

// session is a shell, and what it is to tell.
type session struct {
	*testing.T
	*shell.Shell
}

func open(t *testing.T, cpus int) session {
	t.Helper()
	s, why := shell.New(cpus)
	if why != api.OK {
		t.Fatalf("New(%d) = %d", cpus, why)
	}
	return session{t, s}
}

// tells says that each of some lines is answered by one line: what is written behind it, and behind two dots.
func (s session) tells(lines ...string) {
	s.Helper()
	for _, line := range lines {
		asked, want, _ := strings.Cut(line, " .. ")
		if got := s.Do(asked); !slices.Equal(got, []string{want}) {
			s.Fatalf("%s is answered by %q, want %q", asked, got, want)
		}
	}
}

// returns lets all of some cores take steps, in turn, till the request returns, and says that it does so by some line.
func (s session) returns(want string, cpus ...string) {
	s.Helper()
	for range 100 {
		for _, cpu := range cpus {
			for _, got := range s.Do("step " + cpu) {
				if strings.HasPrefix(got, "hot ") {
					if got != want {
						s.Fatalf("the request returns by %q, want %q", got, want)
					}
					return
				}
			}
		}
	}
	s.Fatal("the request does not return")
}

// waits says that of the request nothing is to be seen, however many steps some cores take.
func (s session) waits(cpus ...string) {
	s.Helper()
	for range 50 {
		for _, cpu := range cpus {
			s.tells("step " + cpu + " .. quiet")
		}
	}
}

// Example 1: a thread of mask 0 runs in steps of core 0 alone.
func TestThreadOfOneCore(t *testing.T) {
	s := open(t, 2)
	s.tells("spawn 3 0 .. ret i1", "step 0 .. run i1", "step 1 .. quiet", "step 0 .. run i1", "step 1 .. quiet", "step 1 .. quiet")
}

// Example 2: what is on core 1 goes to core 0.
func TestAllGoesToAnotherCore(t *testing.T) {
	s := open(t, 2)
	s.tells("spawn 3 1 .. ret i1", "arm 1 5 .. ret i1", "queue 1 .. ret i1", "call 1 .. ret i1", "offline 1 .. ret")
	for range 12 {
		s.tells("step 0 .. quiet")
	}
	s.returns("hot c1", "1", "0")
	s.tells("ask online .. 0", "ask queue 0 .. 1", "ask timers 0 .. 1", "ask calls 0 .. 1", "ask free .. 1", "ask queue 1 .. none", "ask timers 1 .. none", "ask works 1 .. none", "ask calls 1 .. none", "ask kept 1 .. none")
	s.tells("tick 5 .. ret", "step 0 .. call i1", "step 0 .. fire i1", "step 0 .. work i1", "step 0 .. run i1", "step 1 .. quiet")
}

// Example 3: requests that are refused.
func TestRefusedRequests(t *testing.T) {
	s := open(t, 1)
	s.tells("offline 0 .. ret e10", "ask online .. 0")
	s = open(t, 3)
	s.tells("offline 1 .. ret", "offline 1 .. ret e7", "offline 2 .. ret e7", "online 1 .. ret e7")
	s.returns("hot c1", "0", "1", "2")
	s.tells("offline 1 .. ret e9", "online 2 .. ret e8", "offline 3 .. ret e3", "online 1 .. ret")
}

// Example 4: a stage that fails.
func TestFailure(t *testing.T) {
	s := open(t, 2)
	s.tells("fail 7 .. ret", "offline 1 .. ret")
	s.returns("hot c1 e11", "0", "1")
	s.tells("ask active .. 0,1", "ask online .. 0,1", "ask busy .. none", "offline 1 .. ret")
	s.returns("hot c1", "0", "1")
	s.tells("ask active .. 0")
}

// Example 5: a thread for a core that goes, and comes.
func TestThreadGoesAndComes(t *testing.T) {
	s := open(t, 2)
	s.tells("spawn 3 1 .. ret i1", "offline 1 .. ret")
	s.returns("hot c1", "0", "1")
	s.tells("where 1 .. ret", "step 0 .. run i1", "online 1 .. ret")
	s.returns("hot c1", "0")
	s.tells("where 1 .. ret i1", "ask queue 1 .. 1", "step 1 .. run c1 i1")
}

// Example 6: an interrupt that is raised while it is masked.
func TestMaskedInterrupt(t *testing.T) {
	s := open(t, 2)
	s.tells("request 3 0 .. ret", "mask 3 .. ret", "raise 3 .. ret", "step 0 .. quiet", "raise 3 .. ret", "unmask 3 .. ret", "step 0 .. quiet", "step 0 .. handle i3", "step 0 .. quiet", "step 0 .. quiet")
}

// Example 7: a request that waits for a reader.
func TestReader(t *testing.T) {
	s := open(t, 2)
	s.tells("hold 0 .. ret", "offline 1 .. ret")
	s.waits("0", "1")
	s.tells("hold 0 .. ret e7", "hold 1 .. ret e7", "ask busy .. 1", "drop 0 .. ret")
	s.returns("hot c1", "0", "1")
	s.tells("hold 0 .. ret")
}

// Example 8: a timer that is due.
func TestTimer(t *testing.T) {
	s := open(t, 2)
	s.tells("arm 0 5 .. ret i1", "step 0 .. quiet", "tick 10 .. ret", "step 1 .. quiet", "step 0 .. quiet", "step 0 .. fire i1", "ask timers 0 .. none")
}

// Example 9: a core that rests, and a call for it.
func TestRestingCore(t *testing.T) {
	s := open(t, 2)
	s.tells("step 0 .. quiet", "call 0 .. ret i1", "step 0 .. quiet", "step 0 .. call i1")
}

// Example 10: of the limit 0 cores rest in the lightest way, and the trace is the same.
func TestLimit(t *testing.T) {
	s := open(t, 2)
	s.tells("step 0 .. quiet", "limit 0 .. ret", "step 1 .. quiet")
	for cpu, way := range []int{3, 0} {
		if c, why := s.Kernel().Cores().Get(cpu); why != api.OK || c != (core.Core{Power: true, Idle: true, Way: way, Steps: c.Steps, Busy: c.Busy}) {
			t.Errorf("the core %d is %+v, %d", cpu, c, why)
		}
	}
	l := []api.Ev{{Kind: api.EvLimit}, {Kind: api.EvStep}, {Kind: api.EvCall}, {Kind: api.EvTick, N: 500}, {Kind: api.EvStep}, {Kind: api.EvStep}}
	with, _ := replay.Trace(2, l...)
	without, _ := replay.Trace(2, l[1:]...)
	if len(with) != 3 || replay.Differ(with, without) != -1 {
		t.Errorf("with the limit the trace is %v, without it %v", with, without)
	}
}
