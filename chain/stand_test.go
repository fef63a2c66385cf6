package chain

import (
	"strconv"
	"testing"
)

// stands fails if a key isn't in its own bucket of its own row, or the keys are others.
// P6.5 can be seen from within alone: from without, a bucket is as good as another.
func stands(t *testing.T, c *Chain, want map[string]int) {
	t.Helper()
	seen := map[string]int{}
	for at, e := range c.old.buckets {
		for ; e != nil; e = e.next {
			if int(Hash(e.key)%uint32(len(c.old.buckets))) != at || at < c.old.moved {
				t.Fatalf("%q stands in old bucket %d of %d, %d of which were moved", e.key, at, len(c.old.buckets), c.old.moved)
			}
			seen[e.key]++
		}
	}
	for at, e := range c.now.buckets {
		for ; e != nil; e = e.next {
			if int(Hash(e.key)%uint32(len(c.now.buckets))) != at {
				t.Fatalf("%q stands in new bucket %d of %d", e.key, at, len(c.now.buckets))
			}
			if len(c.old.buckets) > 0 && int(Hash(e.key)%uint32(len(c.old.buckets))) >= c.old.moved {
				t.Fatalf("%q stands in a new bucket, and its old one isn't moved", e.key)
			}
			seen[e.key]++
		}
	}
	if len(seen) != len(want) {
		t.Fatalf("%d keys stand there, not %d", len(seen), len(want))
	}
	for key := range want {
		if seen[key] != 1 {
			t.Fatalf("%q stands in %d places", key, seen[key])
		}
	}
}

func TestEachKeyStandsInItsBucket(t *testing.T) {
	c := New()
	want := map[string]int{}
	x := uint64(9)
	for range 6000 {
		x ^= x << 13
		x ^= x >> 7
		x ^= x << 17
		key := strconv.Itoa(int((x >> 8) % 400))
		if x>>59 < 22 {
			c.Put(key, 1)
			want[key] = 1
		} else {
			c.Drop(key)
			delete(want, key)
		}
		stands(t, c, want)
	}
}

func TestEachKeyStandsInItsBucketAtTheGreatest(t *testing.T) {
	c := New()
	want := map[string]int{}
	for i := range 20000 {
		key := strconv.Itoa(i)
		c.Put(key, i)
		want[key] = i
		if i%971 == 0 || i == 19999 {
			stands(t, c, want)
		}
	}
}
