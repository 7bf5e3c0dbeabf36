package shell

import (
	"slices"
	"testing"

	"davit/api"
)

// No event of a kernel brings more than one record; P34.2 holds of however many there are.
func TestToldOfMany(t *testing.T) {
	l := []api.Rec{{Kind: api.RecRet, Why: api.ErrFull}, {Kind: api.RecFire, Cpu: 2, Id: 5, N: 3}, {Kind: api.RecHot, Cpu: 1}}
	want := []string{"ret e5", "fire c2 i5 n3", "hot c1"}
	for many := 1; many <= len(l); many++ {
		if got := told(l[:many]...); !slices.Equal(got, want[:many]) {
			t.Errorf("%d: %q", many, got)
		}
	}
	if got := told(); !slices.Equal(got, []string{"quiet"}) {
		t.Errorf("%q", got)
	}
}
