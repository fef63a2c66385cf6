package net

import (
	"testing"

	"depot/api"
)

// What is kept can be seen from within alone: of frames that went, nothing is, and the one
// slice has no more room than a net may need.
func TestNothingIsKeptOfThoseThatWent(t *testing.T) {
	n := New()
	for i := range 3 * api.MaxNet {
		n.Send(api.Frame{Rid: i + 1, Key: "key", Data: "data"})
		switch i % 5 {
		case 1:
			n.Deliver(0)
		case 2:
			n.Deliver(n.Len() - 1)
		case 3:
			n.Drop(n.Len() / 2)
		}
		if i%50 == 0 {
			clean(t, n)
		}
	}
	for left := n.Len(); left > 0; left-- {
		n.Drop(left - 1)
	}
	clean(t, n)
	if room := cap(n.frames); room > 2*api.MaxNet {
		t.Errorf("room for %d frames", room)
	}
}

// clean fails if anything stands in the room behind the frames.
func clean(t *testing.T, n *Net) {
	t.Helper()
	for at, f := range n.frames[n.Len():cap(n.frames)] {
		if f != (api.Frame{}) {
			t.Fatalf("the room behind %d frames keeps %v at %d", n.Len(), f, at)
		}
	}
}
