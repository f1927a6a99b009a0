package shelf_test

import (
	"fmt"
	"maps"
	"slices"
	"strings"
	"testing"

	"furlong/api"
	"furlong/ledger"
	"furlong/reel"
	"furlong/shelf"
)

const (
	most = 1 << 19 // bytes of a ledger's record, and of its base
	room = 1 << 20 // of most reels here
)

// strand is a text's strand, as layer 1 tells it.
func strand(s string) string { return fmt.Sprintf("%d:%s,", len(s), s) }

// change is a change's strand in the text of changes, with anything in the
// place of its mark.
func change(key, mark, value string) string {
	return strand(strand(key) + strand(mark) + strand(value))
}

// text is the text of changes.
func text(l ...api.Change) string {
	var b strings.Builder
	for _, c := range l {
		mark := "0"
		if c.Gone {
			mark = "1"
		}
		b.WriteString(change(c.Key, mark, c.Value))
	}
	return b.String()
}

// put and gone are the two kinds of changes.
func put(key, value string) api.Change { return api.Change{Key: key, Value: value} }
func gone(key string) api.Change       { return api.Change{Key: key, Gone: true} }

// many are n changes, each of another key, with keys of so many bytes.
func many(n, bytes int, value string) []api.Change {
	l := make([]api.Change, 0, n)
	for i := range n {
		l = append(l, put(fmt.Sprintf("%0*d", bytes, i), value))
	}
	return l
}

// world is what a shelf should have.
type world map[string]string

// after is the world behind these changes.
func (w world) after(l ...api.Change) world {
	next := maps.Clone(w)
	for _, c := range l {
		next[c.Key] = c.Value
		if c.Gone {
			delete(next, c.Key)
		}
	}
	return next
}

// pairs is the world by rising keys.
func (w world) pairs() []api.Pair {
	var l []api.Pair
	for _, k := range slices.Sorted(maps.Keys(w)) {
		l = append(l, api.Pair{Key: k, Value: w[k]})
	}
	return l
}

// packed is the text that a world is packed to.
func (w world) packed() string {
	var l []api.Change
	for _, p := range w.pairs() {
		l = append(l, put(p.Key, p.Value))
	}
	return text(l...)
}

// made is a new reel with so much room.
func made(t *testing.T, bytes int) *reel.Reel {
	t.Helper()
	r, e := reel.New(bytes)
	if e != api.OK {
		t.Fatalf("New(%d): %d", bytes, e)
	}
	return r
}

// laid is a reel whose ledger has this base and these records.
func laid(t *testing.T, base string, records ...string) *reel.Reel {
	t.Helper()
	r := made(t, api.MaxReel)
	l, _, _, e := ledger.Open(r)
	must(t, "Open of a ledger", e, api.OK)
	must(t, "Base", l.Base(base), api.OK)
	for _, s := range records {
		must(t, "Add", l.Add(s), api.OK)
	}
	return r
}

// must holds what was answered against what it should be.
func must(t *testing.T, what string, got, want api.Errno) {
	t.Helper()
	if got != want {
		t.Errorf("%s: error %d, not %d", what, got, want)
	}
}

// opened is the shelf of a reel, which should have this.
func opened(t *testing.T, r *reel.Reel, w world, records int) *shelf.Shelf {
	t.Helper()
	s, e := shelf.Open(r)
	if e != api.OK || s == nil {
		t.Fatalf("Open: a shelf %v, error %d", s != nil, e)
	}
	has(t, s, w, records)
	return s
}

// refused holds that Open answers an error and no shelf.
func refused(t *testing.T, r *reel.Reel, want api.Errno) {
	t.Helper()
	if s, e := shelf.Open(r); s != nil || e != want {
		t.Errorf("Open: a shelf %v, error %d, not %d", s != nil, e, want)
	}
}

// has holds all that a shelf tells, as long as it is not broken.
func has(t *testing.T, s *shelf.Shelf, w world, records int) {
	t.Helper()
	stands(t, s, w, records, false)
}

// stands holds all that a shelf tells.
func stands(t *testing.T, s *shelf.Shelf, w world, records int, broken bool) {
	t.Helper()
	if got := s.Scan("", ""); !slices.Equal(got, w.pairs()) {
		t.Errorf("Scan: %.300q, not %.300q", got, w.pairs())
	}
	for k, v := range w {
		if got, ok := s.Get(k); got != v || !ok {
			t.Errorf("Get(%q): %.200q, %v, not %.200q", k, got, ok, v)
		}
	}
	if s.Len() != len(w) || s.Records() != records || s.Broken() != broken {
		t.Errorf("Len %d, Records %d, Broken %v, not %d, %d, %v", s.Len(), s.Records(), s.Broken(), len(w), records, broken)
	}
}

// kept holds the base and the records that lie on a reel, also behind a crash
// that keeps just what is safe.
func kept(t *testing.T, r *reel.Reel, base string, records ...string) {
	t.Helper()
	for range 2 {
		_, b, l, e := ledger.Open(r)
		if e != api.OK || b != base || !slices.Equal(l, records) {
			t.Errorf("the ledger: %.300q and %.300q, error %d, not %.300q and %.300q", b, l, e, base, records)
		}
		r.Crash(api.Tail{})
	}
}

// counted holds how many operations of the reel a call takes.
func counted(t *testing.T, r *reel.Reel, want int, call func()) {
	t.Helper()
	before := r.Ops()
	call()
	if got := r.Ops() - before; got != want {
		t.Errorf("operations: %d, not %d", got, want)
	}
}

// sized is changes whose text has so many bytes, somewhat fewer than two values
// of the most bytes take.
func sized(t *testing.T, bytes int) []api.Change {
	t.Helper()
	long := strings.Repeat("\xff", api.MaxThing)
	l := []api.Change{put("a", long), put("b", long)}
	l[1].Value = long[len(text(l...))-bytes:]
	if got := len(text(l...)); got != bytes {
		t.Fatalf("the text has %d bytes, not %d", got, bytes)
	}
	return l
}
