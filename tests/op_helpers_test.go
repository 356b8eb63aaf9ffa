package tests

import (
	"fmt"
	"math"
	"math/rand"
	"slices"
	"strings"
	"testing"

	"loop.example/g00569/impl"
)

// wrongOps are each wrong in one way, with that way as their key.
func wrongOps() map[string]impl.Op {
	out := map[string]impl.Op{"the zero value": {}}
	wrongKinds(out)
	wrongNames(out)
	fieldsTooMuch(out)
	for _, day := range []int64{-1, 200001, math.MinInt64, math.MaxInt64, 1 << 32} {
		out[fmt.Sprintf("day %d", day)] = purgeOf(day)
	}
	feeds := []impl.Feed{
		{}, feedOf(13), feedWithIds([]string{"b", "a"}), feedWithIds([]string{"a", "a"}), feedWith("u", "\n", "1", "t", 1),
		feedWith("u", strings.Repeat("t", 25), "1", "t", 1), feedWith("u", "t", "1", "t", -1), feedWith("u", "t", "1", "t", 200001), feedWith("u", "t", "", "t", 1),
	}
	for i, f := range feeds {
		out[fmt.Sprintf("feed %d", i)] = fetchOf(f)
	}
	return out
}

func wrongKinds(out map[string]impl.Op) {
	for _, kind := range []int64{0, 10, -1, 11, 256 + 1, 1<<32 + 1, math.MinInt64, math.MaxInt64} {
		for i, o := range rightOps("u", "1") {
			o.Kind = kind
			out[fmt.Sprintf("operation %d with Kind %d", i, kind)] = o
		}
	}
}

func wrongNames(out map[string]impl.Op) {
	for _, name := range []string{"", " ", "u v", "u ", " u", "u\n", "\x7f", "\x1f", "\xff", strings.Repeat("u", 21)} {
		for _, right := range rightOps("u", "1") {
			o := right
			if right.Url != "" {
				o.Url = name
			} else {
				o.Feed.Url = name
			}
			if right.Kind != impl.OpPurge {
				out[fmt.Sprintf("Kind %d with the Url %q", right.Kind, name)] = o
			}
			if right.Id != "" {
				o = right
				o.Id = name
				out[fmt.Sprintf("Kind %d with the Id %q", right.Kind, name)] = o
			}
		}
	}
	for _, kind := range []int64{impl.OpRead, impl.OpUnread, impl.OpStar, impl.OpUnstar} {
		out[fmt.Sprintf("Kind %d with an Id of 9", kind)] = markOf(kind, "u", "123456789")
	}
}

func fieldsTooMuch(out map[string]impl.Op) {
	for _, right := range rightOps("u", "1") {
		if right.Url == "" {
			o := right
			o.Url = "u"
			out[fmt.Sprintf("Kind %d with a Url", o.Kind)] = o
		}
		if right.Id == "" {
			o := right
			o.Id = "1"
			out[fmt.Sprintf("Kind %d with an Id", o.Kind)] = o
		}
		if right.Kind != impl.OpPurge {
			o := right
			o.Day = 1
			out[fmt.Sprintf("Kind %d with a day", o.Kind)] = o
		}
		if right.Kind != impl.OpFetch {
			o := right
			o.Feed = feedOf(1)
			out[fmt.Sprintf("Kind %d with a feed", o.Kind)] = o
			o.Feed = impl.Feed{Title: "t"}
			out[fmt.Sprintf("Kind %d with a feed's title", o.Kind)] = o
		}
	}
}

// namedOp is right, whatever its names are: all bytes that names may have are there.
func namedOp(r *rand.Rand) impl.Op {
	url, id := randomBytes(r, 1, 20, 33), randomBytes(r, 1, 8, 33)
	switch kind := 1 + r.Int63n(9); kind {
	case impl.OpAdd, impl.OpDrop, impl.OpAll:
		return impl.Op{Kind: kind, Url: url}
	case impl.OpFetch:
		return fetchOf(randomFeed(r))
	case impl.OpPurge:
		return purgeOf(r.Int63n(impl.MaxDay + 1))
	default:
		return markOf(kind, url, id)
	}
}

// namedOps has so many operations, of each Kind some where there are enough.
func namedOps(r *rand.Rand, count int) []impl.Op {
	var l []impl.Op
	for range count {
		l = append(l, namedOp(r))
	}
	return l
}

func sameOps(a []impl.Op, b []impl.Op) bool {
	return slices.EqualFunc(a, b, sameOp)
}

// takenOps answers a copy of what a call gave, and then spoils that, list by list and with the room behind each: no other list may change by it.
func takenOps(t *testing.T, got []impl.Op) []impl.Op {
	t.Helper()
	want := slices.Clone(got)
	var lists [][]impl.Item
	for i, o := range got {
		want[i].Feed.Items = slices.Clone(o.Feed.Items)
		lists = append(lists, o.Feed.Items)
	}
	whole := got[:cap(got)]
	for i := range whole {
		whole[i] = impl.Op{Kind: -1}
	}
	for i, l := range lists {
		if !slices.Equal(l, want[i].Feed.Items) {
			t.Errorf("the items of operation %d share memory with another list of the answer", i)
		}
		l = l[:cap(l)]
		for k := range l {
			l[k] = impl.Item{Id: "spoilt"}
		}
	}
	return want
}

func opText(t *testing.T, o impl.Op) string {
	t.Helper()
	o, unchanged := guardedOp(o)
	s := impl.OpText(o)
	if !unchanged() {
		t.Errorf("OpText wrote into %+v", o)
	}
	return s
}

func readOp(t *testing.T, s string) (impl.Op, bool) {
	t.Helper()
	was := strings.Clone(s)
	o, ok := impl.ReadOp(s)
	if s != was {
		t.Errorf("ReadOp wrote into %q", was)
	}
	return takenOps(t, []impl.Op{o})[0], ok
}

func readerText(t *testing.T, r impl.Reader) string {
	t.Helper()
	r, unchanged := guardedReader(r)
	s := impl.ReaderText(r)
	if !unchanged() {
		t.Errorf("ReaderText wrote into %+v", r)
	}
	return s
}

func boxOf(t *testing.T, key string, n int64, last string, o impl.Op) string {
	t.Helper()
	wasKey, wasLast := strings.Clone(key), strings.Clone(last)
	o, unchanged := guardedOp(o)
	box := impl.BoxOf(key, n, last, o)
	if !unchanged() || key != wasKey || last != wasLast {
		t.Errorf("BoxOf wrote into %q, %q or %+v", wasKey, wasLast, o)
	}
	return box
}

func logOf(t *testing.T, key string, l []impl.Op) string {
	t.Helper()
	was := strings.Clone(key)
	l, unchanged := guardedOps(l)
	s := impl.LogOf(key, l)
	if !unchanged() || key != was {
		t.Errorf("LogOf wrote into %q or %+v", was, l)
	}
	return s
}

func readLog(t *testing.T, key string, s string) ([]impl.Op, int64) {
	t.Helper()
	wasKey, was := strings.Clone(key), strings.Clone(s)
	l, end := impl.ReadLog(key, s)
	if key != wasKey || s != was {
		t.Errorf("ReadLog wrote into %q, or into a log of %d bytes", wasKey, len(was))
	}
	return takenOps(t, l), end
}
