package ledger_test

import (
	"fmt"
	"hash/adler32"
	"slices"
	"strconv"
	"strings"
	"testing"

	"furlong/api"
	"furlong/ledger"
	"furlong/reel"
)

const (
	most = 1 << 19 // bytes of a record, and of a base
	room = 1 << 20 // of most reels here
)

// strand is a text's strand, and sealed its seal, as layer 1 tells them.
func strand(s string) string { return fmt.Sprintf("%d:%s,", len(s), s) }
func sealed(s string) string { return s + fmt.Sprintf("%08x", adler32.Checksum([]byte(s))) }

// page is a page of any kind, with anything in the place of its number.
func page(kind, number, s string) string {
	return strand(sealed(strand(kind) + strand(number) + strand(s)))
}

// base and rec are pages of the two kinds.
func base(n int64, s string) string { return page("base", strconv.FormatInt(n, 10), s) }
func rec(n int64, s string) string  { return page("rec", strconv.FormatInt(n, 10), s) }

// recs are the pages of records from the first one on.
func recs(l ...string) string {
	var b strings.Builder
	for i, s := range l {
		b.WriteString(rec(int64(i)+1, s))
	}
	return b.String()
}

// laid is a reel whose tapes have these bytes, all of them safe.
func laid(t *testing.T, tapes ...string) *reel.Reel {
	t.Helper()
	r := made(t, api.MaxReel)
	for n, s := range tapes {
		must(t, "Write", r.Write(n, s), api.OK)
		must(t, "Sync", r.Sync(n), api.OK)
	}
	return r
}

// made is a new reel with so much room.
func made(t *testing.T, bytes int) *reel.Reel {
	t.Helper()
	r, e := reel.New(bytes)
	if e != api.OK {
		t.Fatalf("New(%d): %d", bytes, e)
	}
	return r
}

// must holds what was answered against what it should be.
func must(t *testing.T, what string, got, want api.Errno) {
	t.Helper()
	if got != want {
		t.Errorf("%s: error %d, not %d", what, got, want)
	}
}

// has holds both tapes against what they should have.
func has(t *testing.T, r *reel.Reel, want ...string) {
	t.Helper()
	for n, w := range want {
		if s, e := r.Read(n); s != w || e != api.OK {
			t.Errorf("tape %d: %.200q and error %d, not %.200q", n, s, e, w)
		}
	}
}

// kept holds the tapes, also behind a crash that keeps just what is safe.
func kept(t *testing.T, r *reel.Reel, want ...string) {
	t.Helper()
	has(t, r, want...)
	r.Crash(api.Tail{})
	has(t, r, want...)
}

// stands holds what a ledger tells of itself.
func stands(t *testing.T, l *ledger.Ledger, epoch int64, records int, broken bool) {
	t.Helper()
	if l.Epoch() != epoch || l.Records() != records || l.Broken() != broken {
		t.Errorf("epoch %d, records %d, broken %v, not %d, %d, %v", l.Epoch(), l.Records(), l.Broken(), epoch, records, broken)
	}
}

// opened is the ledger of a reel, which should have these texts.
func opened(t *testing.T, r *reel.Reel, epoch int64, base string, records ...string) *ledger.Ledger {
	t.Helper()
	l, b, out, e := ledger.Open(r)
	if e != api.OK || l == nil {
		t.Fatalf("Open: %v, error %d", l, e)
	}
	if b != base || !slices.Equal(out, records) {
		t.Errorf("Open: %.200q and %.200q, not %.200q and %.200q", b, out, base, records)
	}
	stands(t, l, epoch, len(records), false)
	return l
}

// refused holds that Open answers an error and nothing else.
func refused(t *testing.T, r *reel.Reel, want api.Errno) {
	t.Helper()
	if l, b, out, e := ledger.Open(r); l != nil || b != "" || len(out) != 0 || e != want {
		t.Errorf("Open: %v, %q, %q, error %d, not %d", l, b, out, e, want)
	}
}

// counted holds how many operations of the reel a call takes.
func counted(t *testing.T, r *reel.Reel, want int, call func()) {
	t.Helper()
	before := r.Ops()
	call()
	if got := r.Ops() - before; got != want {
		t.Errorf("operations: %d, not %d", got, want)
	}
}
