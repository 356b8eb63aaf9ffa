package tests

import (
	"cmp"
	"fmt"
	"maps"
	"math"
	"slices"
	"strings"
	"testing"

	"loop.example/g00569/impl"
)

func boolRank(b bool) int {
	if b {
		return 1
	}
	return 0
}

// A knownFeed has its entries by their Ids, so that no order of theirs can go wrong.
type knownFeed struct {
	title   string
	entries map[string]impl.Entry
}

type knownReader map[string]knownFeed

func knownOf(r impl.Reader) knownReader {
	out := knownReader{}
	for _, s := range r.Subs {
		f := knownFeed{s.Title, map[string]impl.Entry{}}
		for _, e := range s.Entries {
			f.entries[e.Item.Id] = e
		}
		out[s.Url] = f
	}
	return out
}

func (k knownReader) reader() impl.Reader {
	var out impl.Reader
	for _, url := range slices.Sorted(maps.Keys(k)) {
		s := impl.Sub{Url: url, Title: k[url].title}
		for _, id := range slices.Sorted(maps.Keys(k[url].entries)) {
			s.Entries = append(s.Entries, k[url].entries[id])
		}
		out.Subs = append(out.Subs, s)
	}
	return out
}

func (k knownReader) purge(day int64) {
	for _, f := range k {
		maps.DeleteFunc(f.entries, func(_ string, e impl.Entry) bool {
			return e.Read && !e.Star && e.Item.Day < day
		})
	}
}

func (k knownReader) fetch(feed impl.Feed) {
	f := knownFeed{feed.Title, k[feed.Url].entries}
	for _, item := range feed.Items {
		e := f.entries[item.Id]
		e.Item = item
		f.entries[item.Id] = e
	}
	order := slices.SortedFunc(maps.Values(f.entries), func(a, b impl.Entry) int {
		return cmp.Or(boolRank(a.Star)-boolRank(b.Star), cmp.Compare(a.Item.Day, b.Item.Day), cmp.Compare(a.Item.Id, b.Item.Id))
	})
	for _, e := range order[:max(0, len(order)-12)] {
		delete(f.entries, e.Item.Id)
	}
	k[feed.Url] = f
}

// knownDone does a right operation on a right reader.
func knownDone(r impl.Reader, o impl.Op) (impl.Reader, bool) {
	k := knownOf(r)
	f, there := k[o.Url+o.Feed.Url]
	e, has := f.entries[o.Id]
	if o.Kind == impl.OpAdd && (there || len(k) >= 6) || o.Kind != impl.OpAdd && o.Kind != impl.OpPurge && !there || o.Id != "" && !has {
		return impl.Reader{}, false
	}
	switch o.Kind {
	case impl.OpAdd:
		k[o.Url] = knownFeed{}
	case impl.OpDrop:
		delete(k, o.Url)
	case impl.OpFetch:
		k.fetch(o.Feed)
	case impl.OpPurge:
		k.purge(o.Day)
	case impl.OpAll:
		for id, e := range f.entries {
			e.Read = true
			f.entries[id] = e
		}
	default:
		e.Read = o.Kind == impl.OpRead || e.Read && o.Kind != impl.OpUnread
		e.Star = o.Kind == impl.OpStar || e.Star && o.Kind != impl.OpUnstar
		f.entries[o.Id] = e
	}
	return k.reader(), true
}

func checkDone(t *testing.T, r impl.Reader, o impl.Op, want impl.Reader, why string) {
	t.Helper()
	got, ok := done(t, r, o)
	if !ok || !sameReader(got, want) || !readerOk(t, got) {
		t.Errorf("%s: %+v, %t, want %+v", why, got, ok, want)
	}
}

func checkNotDone(t *testing.T, r impl.Reader, o impl.Op, why string) {
	t.Helper()
	if got, ok := done(t, r, o); ok || len(got.Subs) != 0 {
		t.Errorf("%s: %+v, %t", why, got, ok)
	}
}

func checkOp(t *testing.T, o impl.Op, want bool, why string) {
	t.Helper()
	if opOk(t, o) != want {
		t.Errorf("%s: OpOk(%+v) = %t", why, o, !want)
	}
}

func TestReadersThatAreRight(t *testing.T) {
	rows := map[string]impl.Reader{
		"the zero value":         {},
		"an empty list":          {Subs: []impl.Sub{}},
		"an empty feed":          readerOf(impl.Sub{Url: "u"}),
		"no entries in a list":   readerOf(impl.Sub{Url: "u", Entries: []impl.Entry{}}),
		"an item without title":  readerOf(impl.Sub{Url: "u", Entries: []impl.Entry{{Item: impl.Item{Id: "1"}}}}),
		"all limits met":         fullEdges(),
		"Ids alike in two feeds": readerOf(subOf("a", entryOf("1", 1, "r")), subOf("b", entryOf("1", 1, "s"))),
		"order by bytes":         readerOf(subOf("A"), subOf("a"), subOf("aa")),
		"numbers by bytes":       readerOf(subOf("u", entryOf("10", 1, ""), entryOf("2", 1, ""))),
		"days that fall":         readerOf(subOf("u", entryOf("1", impl.MaxDay, "rs"), entryOf("2", 0, ""))),
	}
	for subs := range 7 {
		for entries := range 13 {
			rows[fmt.Sprintf("%d feeds of %d", subs, entries)] = wideReader(subs, entries)
		}
	}
	for why, r := range rows {
		if !readerOk(t, r) {
			t.Errorf("%s: refused", why)
		}
	}
}

func TestReadersThatAreNotRight(t *testing.T) {
	for why, r := range wrongReaders() {
		if readerOk(t, r) {
			t.Errorf("%s: accepted", why)
		}
		ops := []impl.Op{addOf("new"), purgeOf(0), purgeOf(impl.MaxDay)}
		for _, s := range r.Subs {
			ops = append(ops, dropOf(s.Url), allOf(s.Url))
			for _, e := range s.Entries {
				ops = append(ops, rightOps(s.Url, e.Item.Id)...)
			}
		}
		for _, o := range ops {
			checkNotDone(t, r, o, why)
		}
	}
}

func TestOperationsThatAreRight(t *testing.T) {
	for i, o := range rightOps("u", "1") {
		checkOp(t, o, true, fmt.Sprintf("operation %d", i))
		o.Feed.Items = append([]impl.Item{}, o.Feed.Items...)
		checkOp(t, o, true, fmt.Sprintf("operation %d, its empty list not nil", i))
	}
	for _, url := range []string{"u", "~", "!", strings.Repeat("u", 20)} {
		for _, id := range []string{"1", "~", "!", strings.Repeat("i", 8)} {
			for _, o := range rightOps(url, id) {
				checkOp(t, o, true, "a name at its limit")
			}
		}
	}
	for _, day := range []int64{0, 1, 199999, 200000} {
		checkOp(t, purgeOf(day), true, "a day")
	}
	for n := range 13 {
		checkOp(t, fetchOf(feedOf(n)), true, "a feed")
	}
	checkOp(t, fetchOf(impl.Feed{Url: "u"}), true, "a feed with nothing but a Url")
	checkOp(t, fetchOf(longestFeed()), true, "the longest feed")
}

// Each Kind is asked with every one of the other fields, be that right in itself or not.
func TestOperationsWithAFieldTooMuch(t *testing.T) {
	more := map[string]func(*impl.Op){
		"a Url":              func(o *impl.Op) { o.Url = "u" },
		"a Url not right":    func(o *impl.Op) { o.Url = " " },
		"an Id":              func(o *impl.Op) { o.Id = "1" },
		"an Id not right":    func(o *impl.Op) { o.Id = " " },
		"day 1":              func(o *impl.Op) { o.Day = 1 },
		"day -1":             func(o *impl.Op) { o.Day = -1 },
		"day MaxDay":         func(o *impl.Op) { o.Day = impl.MaxDay },
		"a feed":             func(o *impl.Op) { o.Feed = feedOf(1) },
		"a feed's Url":       func(o *impl.Op) { o.Feed.Url = "u" },
		"a feed's title":     func(o *impl.Op) { o.Feed.Title = "t" },
		"a feed's item":      func(o *impl.Op) { o.Feed.Items = []impl.Item{{Id: "1"}} },
		"a feed's zero item": func(o *impl.Op) { o.Feed.Items = []impl.Item{{}} },
	}
	for _, right := range rightOps("u", "1") {
		for name, add := range more {
			if name == "a Url" && right.Url != "" || name == "an Id" && right.Id != "" || strings.HasPrefix(name, "a feed") && right.Kind == impl.OpFetch {
				continue
			}
			if name == "day 1" && right.Kind == impl.OpPurge || name == "day MaxDay" && right.Kind == impl.OpPurge {
				continue
			}
			o := right
			add(&o)
			checkOp(t, o, false, fmt.Sprintf("Kind %d with %s", o.Kind, name))
			checkNotDone(t, readerOf(subOf("a"), subOf("u", entryOf("1", 1, ""))), o, name)
		}
	}
}

func TestOperationsWithAFieldThatIsNotRight(t *testing.T) {
	r := readerOf(subOf("a"), subOf("u", entryOf("1", 1, "")))
	check := func(o impl.Op, why string) {
		t.Helper()
		checkOp(t, o, false, why)
		checkNotDone(t, r, o, why)
	}
	for _, name := range []string{"", " ", "u v", "u\n", "\x7f", "\x1f", "\xff", strings.Repeat("u", 21)} {
		for _, right := range rightOps("u", "1") {
			if right.Url != "" {
				o := right
				o.Url = name
				check(o, "a Url")
			}
			if right.Id != "" {
				o := right
				o.Id = name
				check(o, "an Id")
			}
			if right.Kind == impl.OpFetch {
				o := right
				o.Feed.Url = name
				check(o, "a feed's Url")
			}
		}
	}
	for _, kind := range []int64{impl.OpRead, impl.OpUnread, impl.OpStar, impl.OpUnstar} {
		check(markOf(kind, "u", strings.Repeat("i", 9)), "an Id of 9")
	}
	for _, day := range []int64{-1, 200001, math.MinInt64, math.MaxInt64, 1 << 32} {
		check(purgeOf(day), "a day")
	}
	for _, f := range []impl.Feed{{}, feedOf(13), feedWithIds([]string{"b", "a"}), feedWithIds([]string{"a", "a"}), feedWith("u", "\n", "1", "t", 1), feedWith("u", "t", "1", "t", -1), feedWith("u", "t", "", "t", 1)} {
		check(fetchOf(f), "a feed")
	}
}

func TestKindsThatThereAreNot(t *testing.T) {
	for _, kind := range []int64{0, 10, -1, 11, 256 + 1, 1<<32 + 1, math.MinInt64, math.MaxInt64} {
		for _, o := range append(rightOps("u", "1"), impl.Op{}) {
			o.Kind = kind
			checkOp(t, o, false, "a Kind")
			checkNotDone(t, readerOf(subOf("u", entryOf("1", 1, ""))), o, "a Kind")
		}
	}
}

func TestAdd(t *testing.T) {
	r := readerOf(subOf("b", entryOf("1", 1, "rs")), subOf("d", entryOf("2", 2, "")))
	b, d := r.Subs[0], r.Subs[1]
	checkDone(t, impl.Reader{}, addOf("u"), readerOf(impl.Sub{Url: "u"}), "to nothing")
	checkDone(t, r, addOf("a"), readerOf(impl.Sub{Url: "a"}, b, d), "ahead of all")
	checkDone(t, r, addOf("c"), readerOf(b, impl.Sub{Url: "c"}, d), "in between")
	checkDone(t, r, addOf("e"), readerOf(b, d, impl.Sub{Url: "e"}), "behind all")
	checkDone(t, r, addOf("B"), readerOf(impl.Sub{Url: "B"}, b, d), "another spelling")
	checkDone(t, r, addOf("bb"), readerOf(b, impl.Sub{Url: "bb"}, d), "one that begins likewise")
	for _, url := range []string{"b", "d"} {
		checkNotDone(t, r, addOf(url), "one that is there")
	}
}

func TestAddWhereThereAreMany(t *testing.T) {
	for n := range 7 {
		r := wideReader(n, 2)
		for _, url := range []string{"a", "http://f2.example/", "z"} {
			want, ok := knownDone(r, addOf(url))
			if ok != (n < 6) {
				t.Fatalf("%d feeds: %t", n, ok)
			}
			if n < 6 {
				checkDone(t, r, addOf(url), want, "there is room")
			} else {
				checkNotDone(t, r, addOf(url), "there are MaxSubs")
			}
		}
		for _, s := range r.Subs {
			checkNotDone(t, r, addOf(s.Url), "one that is there")
		}
	}
}

func TestDrop(t *testing.T) {
	for n := range 7 {
		r := wideReader(n, 3)
		for i, s := range r.Subs {
			want := impl.Reader{Subs: slices.Delete(slices.Clone(r.Subs), i, i+1)}
			checkDone(t, r, dropOf(s.Url), want, "a feed is gone")
		}
	}
}

func TestFeedsAndEntriesThatAreNotThere(t *testing.T) {
	r := readerOf(subOf("b", entryOf("2", 2, "")), subOf("d", entryOf("4", 4, "rs")))
	for _, url := range []string{"a", "c", "e", "B", "bb"} {
		for _, o := range rightOps(url, "2") {
			if o.Kind != impl.OpAdd && o.Kind != impl.OpPurge {
				checkNotDone(t, r, o, "no such feed")
				checkNotDone(t, impl.Reader{}, o, "no feed at all")
			}
		}
	}
	for _, id := range []string{"1", "3", "4", "5", "22"} {
		for _, kind := range []int64{impl.OpRead, impl.OpUnread, impl.OpStar, impl.OpUnstar} {
			checkNotDone(t, r, markOf(kind, "b", id), "no such entry in this feed")
			checkNotDone(t, readerOf(subOf("b")), markOf(kind, "b", id), "no entry at all")
		}
	}
}

// What is marked is so, and nothing else is: each mark of each entry, from whatever marks it had.
func TestMarks(t *testing.T) {
	r := wideReader(3, 12)
	for i, s := range r.Subs {
		for k, e := range s.Entries {
			for kind, change := range map[int64]func(*impl.Entry){
				impl.OpRead:   func(e *impl.Entry) { e.Read = true },
				impl.OpUnread: func(e *impl.Entry) { e.Read = false },
				impl.OpStar:   func(e *impl.Entry) { e.Star = true },
				impl.OpUnstar: func(e *impl.Entry) { e.Star = false },
			} {
				want := copiedReader(r)
				change(&want.Subs[i].Entries[k])
				checkDone(t, r, markOf(kind, s.Url, e.Item.Id), want, fmt.Sprintf("Kind %d", kind))
			}
		}
	}
}

func TestMarksOfAnIdThatTwoFeedsHave(t *testing.T) {
	r := readerOf(subOf("a", entryOf("1", 1, "")), subOf("b", entryOf("1", 1, "")))
	checkDone(t, r, markOf(impl.OpRead, "b", "1"), readerOf(subOf("a", entryOf("1", 1, "")), subOf("b", entryOf("1", 1, "r"))), "the second feed's")
	checkDone(t, r, markOf(impl.OpStar, "a", "1"), readerOf(subOf("a", entryOf("1", 1, "s")), subOf("b", entryOf("1", 1, ""))), "the first feed's")
}

func TestAll(t *testing.T) {
	for entries := range 13 {
		r := wideReader(4, entries)
		for i, s := range r.Subs {
			want := copiedReader(r)
			for k := range want.Subs[i].Entries {
				want.Subs[i].Entries[k].Read = true
			}
			checkDone(t, r, allOf(s.Url), want, "all are read")
		}
	}
}

func TestPurgeAsTheDocumentSays(t *testing.T) {
	r := readerOf(
		subOf("a", entryOf("1", 4, "r"), entryOf("2", 5, "r"), entryOf("3", 6, "r"), entryOf("4", 4, "rs"), entryOf("5", 4, ""), entryOf("6", 4, "s")),
		subOf("b", entryOf("1", 0, "r"), entryOf("2", impl.MaxDay, "r")),
		subOf("c"),
	)
	checkDone(t, r, purgeOf(5), readerOf(
		subOf("a", entryOf("2", 5, "r"), entryOf("3", 6, "r"), entryOf("4", 4, "rs"), entryOf("5", 4, ""), entryOf("6", 4, "s")),
		subOf("b", entryOf("2", impl.MaxDay, "r")),
		subOf("c"),
	), "a Day that an entry has")
	checkDone(t, r, purgeOf(0), r, "the first day")
	checkDone(t, r, purgeOf(impl.MaxDay), readerOf(
		subOf("a", entryOf("4", 4, "rs"), entryOf("5", 4, ""), entryOf("6", 4, "s")),
		subOf("b", entryOf("2", impl.MaxDay, "r")),
		subOf("c"),
	), "the last day")
	checkDone(t, impl.Reader{}, purgeOf(9), impl.Reader{}, "nothing")
	checkDone(t, readerOf(subOf("u", entryOf("1", 1, "r"))), purgeOf(2), readerOf(subOf("u")), "the only entry")
}

// Just what was read, has no star, and is older goes.
func TestPurgeOfEachDay(t *testing.T) {
	r := wideReader(6, 12)
	for day := range int64(11) {
		want := copiedReader(r)
		for i, s := range r.Subs {
			want.Subs[i].Entries = nil
			for _, e := range s.Entries {
				if !e.Read || e.Star || e.Item.Day >= day {
					want.Subs[i].Entries = append(want.Subs[i].Entries, e)
				}
			}
		}
		checkDone(t, r, purgeOf(day), want, fmt.Sprintf("day %d", day))
	}
}

func TestFoldedIsDoneOneByOne(t *testing.T) {
	f := impl.Feed{Url: "b", Title: "B", Items: []impl.Item{{Id: "1", Title: "one", Day: 5}, {Id: "2", Title: "two", Day: 6}}}
	ops := []impl.Op{addOf("b"), addOf("a"), fetchOf(f), markOf(impl.OpRead, "b", "1"), markOf(impl.OpStar, "b", "2"), allOf("b"), purgeOf(6), dropOf("a")}
	var want impl.Reader
	for n := range len(ops) + 1 {
		got, count := folded(t, ops[:n])
		if count != int64(n) || !sameReader(got, want) {
			t.Errorf("%d operations: %+v, %d, want %+v", n, got, count, want)
		}
		if n < len(ops) {
			want, _ = knownDone(want, ops[n])
		}
	}
	if !sameReader(want, readerOf(impl.Sub{Url: "b", Title: "B", Entries: []impl.Entry{{Item: f.Items[1], Read: true, Star: true}}})) {
		t.Errorf("at the end: %+v", want)
	}
}

func TestFoldedEndsAtTheFirstThatIsFalse(t *testing.T) {
	ops := []impl.Op{addOf("a"), addOf("b"), addOf("c"), dropOf("a")}
	for place := range len(ops) + 1 {
		want, _ := folded(t, ops[:place])
		for _, wrong := range []impl.Op{{}, {Kind: 10, Url: "x"}, addOf(""), addOf("x y"), dropOf("x"), markOf(impl.OpRead, "b", "1"), purgeOf(-1), fetchOf(feedOf(1)), fetchOf(feedOf(13))} {
			got, count := folded(t, slices.Insert(slices.Clone(ops), place, wrong))
			if count != int64(place) || !sameReader(got, want) {
				t.Errorf("%+v at %d: %+v, %d, want %+v", wrong, place, got, count, want)
			}
		}
	}
	if r, count := folded(t, nil); count != 0 || len(r.Subs) != 0 {
		t.Errorf("none: %+v, %d", r, count)
	}
}

// flips add a feed and drop it again, so that what is left tells whether an even number was done.
func flips(n int) []impl.Op {
	l := []impl.Op{}
	for i := range n {
		l = append(l, []impl.Op{addOf("u"), dropOf("u")}[i%2])
	}
	return l
}

func TestFoldedOfManyOperations(t *testing.T) {
	for _, n := range []int{498, 499, 500} {
		if r, count := folded(t, flips(n)); count != int64(n) || len(r.Subs) != n%2 {
			t.Errorf("%d operations: %+v, %d", n, r, count)
		}
	}
	for _, n := range []int{501, 502, 1000} {
		if r, count := folded(t, flips(n)); count != 500 || len(r.Subs) != 0 {
			t.Errorf("%d operations: %+v, %d", n, r, count)
		}
		wrong := append(flips(500), make([]impl.Op, n-500)...)
		if r, count := folded(t, wrong); count != 500 || len(r.Subs) != 0 {
			t.Errorf("%d operations, the last not right: %+v, %d", n, r, count)
		}
	}
	wrong := append(flips(499), dropOf("x"), dropOf("u"))
	if r, count := folded(t, wrong); count != 499 || len(r.Subs) != 1 {
		t.Errorf("the 500th is false: %+v, %d", r, count)
	}
}

// Whatever is done, the reader is right and is the one of knownDone; what can not be done leaves nothing.
func TestManyOperations(t *testing.T) {
	random := fixedRandom()
	for range 12 {
		r, count, ops := impl.Reader{}, 0, []impl.Op{}
		for range 400 {
			o := randomOp(random)
			want, can := knownDone(r, o)
			if !can {
				checkNotDone(t, r, o, "it can not be done")
				continue
			}
			checkDone(t, r, o, want, "one more")
			r, count, ops = want, count+1, append(ops, o)
		}
		if got, n := folded(t, ops); n != int64(count) || !sameReader(got, r) {
			t.Errorf("%d operations folded: %+v, %d, want %+v", count, got, n, r)
		}
	}
}

func TestOperationsWhereAllLimitsAreMet(t *testing.T) {
	r := fullEdges()
	ops := []impl.Op{purgeOf(0), purgeOf(1), purgeOf(impl.MaxDay)}
	for _, s := range r.Subs {
		for _, e := range s.Entries {
			ops = append(ops, rightOps(s.Url, e.Item.Id)...)
		}
		more := longestFeed()
		more.Url = s.Url
		ops = append(ops, fetchOf(more))
	}
	for _, o := range ops {
		if want, can := knownDone(r, o); can {
			checkDone(t, r, o, want, fmt.Sprintf("%+v", o))
		} else {
			checkNotDone(t, r, o, fmt.Sprintf("%+v", o))
		}
	}
}

func TestTheSameOperationLeavesTheSameReader(t *testing.T) {
	r := wideReader(6, 12)
	for _, o := range append(rightOps(r.Subs[3].Url, "id05"), purgeOf(5), fetchOf(impl.Feed{Url: r.Subs[2].Url, Items: feedOf(12).Items})) {
		want, can := done(t, r, o)
		for range 20 {
			if got, ok := done(t, r, o); ok != can || !sameReader(got, want) {
				t.Errorf("%+v: %+v, %t, and then %+v, %t", o, want, can, got, ok)
			}
		}
	}
}
