package intern_test

import (
	"bytes"
	"hash/fnv"
	"math"
	"math/rand"
	"strconv"
	"testing"

	"burnish/api"
	"burnish/intern"
)

// expectAdd adds a key and compares the results.
func expectAdd(t *testing.T, table *intern.Table, key string, index int, added bool, err api.Errno) {
	t.Helper()
	if i, ok, e := table.Add([]byte(key)); i != index || ok != added || e != err {
		t.Errorf("Add(%q) = %d, %v, %v, want %d, %v, %v", key, i, ok, e, index, added, err)
	}
}

// expectKeys compares all that a table tells with the keys that it should have.
func expectKeys(t *testing.T, table *intern.Table, keys ...string) {
	t.Helper()
	if table.Len() != len(keys) {
		t.Errorf("Len %d, want %d", table.Len(), len(keys))
	}
	for i, want := range keys {
		if key := table.Key(i); key == nil || string(key) != want {
			t.Errorf("Key(%d) = %q, want %q", i, key, want)
		}
		if j, ok := table.Find([]byte(want)); j != i || !ok {
			t.Errorf("Find(%q) = %d, %v, want %d", want, j, ok, i)
		}
	}
	for _, i := range []int{-1, math.MinInt, len(keys), len(keys) + 1, math.MaxInt} {
		if key := table.Key(i); key != nil {
			t.Errorf("Key(%d) = %q, which is not there", i, key)
		}
	}
}

// Example 1
func TestExample(t *testing.T) {
	table := intern.New(2)
	expectAdd(t, table, "a", 0, true, api.OK)
	expectAdd(t, table, "b", 1, true, api.OK)
	expectAdd(t, table, "a", 0, false, api.OK)
	expectAdd(t, table, "c", 0, false, api.ErrFull)
	expectKeys(t, table, "a", "b")
}

// P4.1
func TestNewIsEmpty(t *testing.T) {
	for _, limit := range []int{math.MinInt, -1, 0, 1, api.MaxNodes, math.MaxInt} {
		table := intern.New(limit)
		if table == nil {
			t.Fatalf("New(%d) = nil", limit)
		}
		expectKeys(t, table)
		if i, ok := table.Find(nil); i != 0 || ok {
			t.Errorf("New(%d) contains the empty key", limit)
		}
	}
}

// P4.1, P4.2
func TestCapacity(t *testing.T) {
	for _, c := range []struct{ limit, room int }{
		{math.MinInt, 0}, {-1, 0}, {0, 0}, {1, 1}, {100, 100}, {api.MaxNodes - 1, api.MaxNodes - 1},
		{api.MaxNodes, api.MaxNodes}, {api.MaxNodes + 1, api.MaxNodes}, {math.MaxInt, api.MaxNodes},
	} {
		table := intern.New(c.limit)
		for i := range c.room {
			expectAdd(t, table, strconv.Itoa(i), i, true, api.OK)
		}
		expectAdd(t, table, "more", 0, false, api.ErrFull)
		expectAdd(t, table, "", 0, false, api.ErrFull)
		if i, ok := table.Find([]byte("more")); i != 0 || ok || table.Len() != c.room || table.Key(c.room) != nil {
			t.Errorf("New(%d): a key beyond the capacity was kept, Len %d", c.limit, table.Len())
		}
		if c.room > 0 {
			last := c.room - 1
			expectAdd(t, table, strconv.Itoa(last), last, false, api.OK)
		}
	}
}

// P4.2
func TestEmptyKey(t *testing.T) {
	table := intern.New(3)
	if i, added, err := table.Add(nil); i != 0 || !added || err != api.OK {
		t.Errorf("Add(nil) = %d, %v, %v", i, added, err)
	}
	expectAdd(t, table, "", 0, false, api.OK)
	expectAdd(t, table, "\x00", 1, true, api.OK)
	if i, ok := table.Find(nil); i != 0 || !ok {
		t.Errorf("Find(nil) = %d, %v", i, ok)
	}
	expectKeys(t, table, "", "\x00")
}

// P4.2
func TestKeysAreAnyBytes(t *testing.T) {
	keys := []string{"a", "A", "a\x00", "\x00a", "aa", "\xff", "\xff\xfe", "\xc3\xa4", "\xe4", string(make([]byte, 5000)), string(make([]byte, 5001))}
	table := intern.New(len(keys))
	for i, key := range keys {
		expectAdd(t, table, key, i, true, api.OK)
	}
	for i, key := range keys {
		expectAdd(t, table, key, i, false, api.OK)
	}
	expectKeys(t, table, keys...)
}

// P4.3
func TestFindAddsNothing(t *testing.T) {
	table := intern.New(5)
	expectAdd(t, table, "a", 0, true, api.OK)
	expectAdd(t, table, "b", 1, true, api.OK)
	for _, key := range []string{"c", "", "ab", "B"} {
		if i, ok := table.Find([]byte(key)); i != 0 || ok {
			t.Errorf("Find(%q) = %d, %v", key, i, ok)
		}
	}
	expectKeys(t, table, "a", "b")
}

// P4.3
func TestTableStoresCopies(t *testing.T) {
	table := intern.New(5)
	key := []byte("key")
	table.Add(key)
	if string(key) != "key" {
		t.Errorf("Add changed its argument to %q", key)
	}
	key[0] = 'K'
	expectKeys(t, table, "key")
	got := table.Key(0)
	got[1] = 'E'
	_ = append(got[:0], "other"...)
	expectKeys(t, table, "key")
	if _, ok := table.Find([]byte("Key")); ok {
		t.Error("the table contains a key that was never added")
	}
	first, second := table.Key(0), table.Key(0)
	if first[0] = 'x'; string(second) != "key" {
		t.Error("two calls of Key share memory")
	}
	table.Find(key)
	if string(key) != "Key" {
		t.Errorf("Find changed its argument to %q", key)
	}
}

// P4.3
func TestTablesAreIndependent(t *testing.T) {
	a, b := intern.New(5), intern.New(5)
	expectAdd(t, a, "x", 0, true, api.OK)
	expectAdd(t, b, "y", 0, true, api.OK)
	expectKeys(t, a, "x")
	expectKeys(t, b, "y")
}

// P4.4
func TestTablesNotMade(t *testing.T) {
	made := intern.New(3)
	expectAdd(t, made, "a", 0, true, api.OK)
	copied := *made
	for name, table := range map[string]*intern.Table{"nil": nil, "zero": {}, "copy": &copied} {
		for _, key := range []string{"", "a", "b"} {
			if i, added, err := table.Add([]byte(key)); i != 0 || added || err != api.ErrNil {
				t.Errorf("%s: Add(%q) = %d, %v, %v", name, key, i, added, err)
			}
			if i, ok := table.Find([]byte(key)); i != 0 || ok {
				t.Errorf("%s: Find(%q) = %d, %v", name, key, i, ok)
			}
		}
		if table.Len() != 0 || table.Key(0) != nil || table.Key(-1) != nil {
			t.Errorf("%s: Len %d, Key(0) %q", name, table.Len(), table.Key(0))
		}
	}
	expectKeys(t, made, "a")
}

// P4.5, Example 2
func TestHash(t *testing.T) {
	if h := intern.Hash(nil); h != 14695981039346656037 {
		t.Errorf("Hash of nothing = %d", h)
	}
	if h := intern.Hash([]byte{}); h != 14695981039346656037 {
		t.Errorf("Hash of no bytes = %d", h)
	}
	if h := intern.Hash([]byte("a")); h != 12638187200555641996 {
		t.Errorf("Hash(a) = %d", h)
	}
	r := rand.New(rand.NewSource(1))
	for n := range 300 {
		b := make([]byte, n)
		r.Read(b)
		before := bytes.Clone(b)
		want := fnv.New64a()
		want.Write(b)
		if h := intern.Hash(b); h != want.Sum64() || !bytes.Equal(b, before) {
			t.Errorf("Hash(%x) = %d, want %d", before, h, want.Sum64())
		}
	}
}

// P4.6
func TestIndicesFollowTheFirstAdds(t *testing.T) {
	r := rand.New(rand.NewSource(2))
	table := intern.New(api.MaxNodes)
	indices := map[string]int{}
	var keys []string
	for range 5000 {
		b := make([]byte, r.Intn(4))
		for i := range b {
			b[i] = byte(r.Intn(6))
		}
		key := string(b)
		index, known := indices[key]
		if !known {
			index = len(keys)
			indices[key] = index
			keys = append(keys, key)
		}
		expectAdd(t, table, key, index, !known, api.OK)
	}
	expectKeys(t, table, keys...)
}

// P4.6
func TestHashTellsOneByteApart(t *testing.T) {
	r := rand.New(rand.NewSource(3))
	for n := 1; n < 40; n++ {
		b := make([]byte, n)
		r.Read(b)
		h := intern.Hash(b)
		for range 200 {
			c := bytes.Clone(b)
			i := r.Intn(n)
			c[i] ^= byte(1 + r.Intn(255))
			if intern.Hash(c) == h {
				t.Errorf("%x and %x have the same hash", b, c)
			}
		}
	}
}
