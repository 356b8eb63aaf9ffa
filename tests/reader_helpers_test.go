package tests

import (
	"fmt"
	"math/rand"
	"slices"
	"strings"
	"testing"

	"loop.example/g00569/impl"
)

// What stands in the room behind a list: no function has a reason to write it, or to leave it.
var (
	roomItem  = impl.Item{Id: "room", Title: "behind items", Day: -7}
	roomEntry = impl.Entry{Item: impl.Item{Id: "room", Title: "behind entries", Day: -8}, Star: true}
	roomSub   = impl.Sub{Url: "room", Title: "behind feeds"}
	roomOp    = impl.Op{Kind: -9, Url: "room"}
)

func sameSub(a impl.Sub, b impl.Sub) bool {
	return a.Url == b.Url && a.Title == b.Title && slices.Equal(a.Entries, b.Entries)
}

func sameReader(a impl.Reader, b impl.Reader) bool {
	return slices.EqualFunc(a.Subs, b.Subs, sameSub)
}

func sameOp(a impl.Op, b impl.Op) bool {
	return a.Kind == b.Kind && a.Url == b.Url && a.Id == b.Id && a.Day == b.Day && sameFeed(a.Feed, b.Feed)
}

func copiedReader(r impl.Reader) impl.Reader {
	var out impl.Reader
	for _, s := range r.Subs {
		out.Subs = append(out.Subs, impl.Sub{Url: s.Url, Title: s.Title, Entries: slices.Clone(s.Entries)})
	}
	return out
}

// guardedList answers a copy of l with marked room behind it, and whether both are as they were.
func guardedList[T any](l []T, room T, same func(T, T) bool) ([]T, func() bool) {
	whole := slices.Concat(l, []T{room, room, room})
	want := slices.Clone(whole)
	return whole[:len(l)], func() bool { return slices.EqualFunc(whole, want, same) }
}

func equal[T comparable](a T, b T) bool { return a == b }

func all(checks []func() bool) func() bool {
	return func() bool {
		for _, check := range checks {
			if !check() {
				return false
			}
		}
		return true
	}
}

func guardedReader(r impl.Reader) (impl.Reader, func() bool) {
	var checks []func() bool
	subs := slices.Clone(r.Subs)
	for i, s := range subs {
		entries, same := guardedList(s.Entries, roomEntry, equal)
		subs[i].Entries, checks = entries, append(checks, same)
	}
	subs, same := guardedList(subs, roomSub, sameSub)
	return impl.Reader{Subs: subs}, all(append(checks, same))
}

func guardedOp(o impl.Op) (impl.Op, func() bool) {
	items, same := guardedList(o.Feed.Items, roomItem, equal)
	o.Feed.Items = items
	return o, same
}

func guardedOps(l []impl.Op) ([]impl.Op, func() bool) {
	var checks []func() bool
	ops := slices.Clone(l)
	for i, o := range ops {
		op, same := guardedOp(o)
		ops[i], checks = op, append(checks, same)
	}
	ops, same := guardedList(ops, roomOp, sameOp)
	return ops, all(append(checks, same))
}

// taken answers a copy of what a call gave, and then spoils that, list by list and with the room behind each: neither the arguments nor another list may change by it.
func taken(t *testing.T, got impl.Reader, unchanged func() bool) impl.Reader {
	t.Helper()
	want := copiedReader(got)
	var lists [][]impl.Entry
	for _, s := range got.Subs {
		lists = append(lists, s.Entries)
	}
	whole := got.Subs[:cap(got.Subs)]
	for i := range whole {
		whole[i] = impl.Sub{Url: "spoilt"}
	}
	for i, l := range lists {
		if !slices.Equal(l, want.Subs[i].Entries) {
			t.Errorf("the entries of %q share memory with another list of the answer", want.Subs[i].Url)
		}
		l = l[:cap(l)]
		for k := range l {
			l[k] = impl.Entry{Item: impl.Item{Id: "spoilt"}}
		}
	}
	if !unchanged() {
		t.Error("the answer shares memory with an argument")
	}
	return want
}

func readerOk(t *testing.T, r impl.Reader) bool {
	t.Helper()
	r, unchanged := guardedReader(r)
	ok := impl.ReaderOk(r)
	if !unchanged() {
		t.Errorf("ReaderOk wrote into %+v", r)
	}
	return ok
}

func opOk(t *testing.T, o impl.Op) bool {
	t.Helper()
	o, unchanged := guardedOp(o)
	ok := impl.OpOk(o)
	if !unchanged() {
		t.Errorf("OpOk wrote into %+v", o)
	}
	return ok
}

func done(t *testing.T, r impl.Reader, o impl.Op) (impl.Reader, bool) {
	t.Helper()
	r, sameR := guardedReader(r)
	o, sameO := guardedOp(o)
	unchanged := all([]func() bool{sameR, sameO})
	got, ok := impl.Done(r, o)
	if !unchanged() {
		t.Errorf("Done wrote into %+v or %+v", r, o)
	}
	return taken(t, got, unchanged), ok
}

func folded(t *testing.T, l []impl.Op) (impl.Reader, int64) {
	t.Helper()
	l, unchanged := guardedOps(l)
	got, count := impl.Folded(l)
	if !unchanged() {
		t.Errorf("Folded wrote into %+v", l)
	}
	return taken(t, got, unchanged), count
}

// asked calls a query with a guarded reader, and spoils what it gave.
func asked(t *testing.T, r impl.Reader, query func(impl.Reader) []impl.Ref) []impl.Ref {
	t.Helper()
	r, unchanged := guardedReader(r)
	got := query(r)
	want := slices.Clone(got)
	for i := range got {
		got[i] = impl.Ref{Url: "spoilt"}
	}
	if !unchanged() {
		t.Errorf("a query wrote into %+v", r)
	}
	return want
}

func unread(t *testing.T, r impl.Reader) []impl.Ref {
	t.Helper()
	return asked(t, r, impl.Unread)
}

func newest(t *testing.T, r impl.Reader, n int64) []impl.Ref {
	t.Helper()
	return asked(t, r, func(r impl.Reader) []impl.Ref { return impl.Newest(r, n) })
}

func found(t *testing.T, r impl.Reader, word string) []impl.Ref {
	t.Helper()
	return asked(t, r, func(r impl.Reader) []impl.Ref { return impl.Found(r, word) })
}

func counts(t *testing.T, r impl.Reader, url string) [3]int64 {
	t.Helper()
	r, unchanged := guardedReader(r)
	var got [3]int64
	got[0], got[1], got[2] = impl.Counts(r, url)
	if !unchanged() {
		t.Errorf("Counts wrote into %+v", r)
	}
	return got
}

// entryOf has the marks that the text names, as in "rs".
func entryOf(id string, day int64, marks string) impl.Entry {
	return impl.Entry{Item: impl.Item{Id: id, Title: "t" + id, Day: day}, Read: strings.Contains(marks, "r"), Star: strings.Contains(marks, "s")}
}

func subOf(url string, entries ...impl.Entry) impl.Sub {
	return impl.Sub{Url: url, Title: "T" + url, Entries: entries}
}

func readerOf(subs ...impl.Sub) impl.Reader {
	return impl.Reader{Subs: subs}
}

// wideReader has so many feeds with so many entries each, of days and marks that are not all alike.
func wideReader(subs int, entries int) impl.Reader {
	var r impl.Reader
	for i := range subs {
		s := impl.Sub{Url: fmt.Sprintf("http://f%d.example", i), Title: fmt.Sprintf("feed %d", i)}
		for k := range entries {
			marks := []string{"", "r", "s", "rs"}[(i+k)%4]
			s.Entries = append(s.Entries, entryOf(fmt.Sprintf("id%02d", k), int64((i*5+k*7)%9), marks))
		}
		r.Subs = append(r.Subs, s)
	}
	return r
}

// fullEdges has MaxSubs feeds of MaxItems entries, with all texts as long as they may be, and the first and the last day.
func fullEdges() impl.Reader {
	var r impl.Reader
	for i := range impl.MaxSubs {
		s := impl.Sub{Url: fmt.Sprintf("%d%s", i, strings.Repeat("~", 19)), Title: strings.Repeat(" ", 24)}
		for k := range impl.MaxItems {
			item := impl.Item{Id: fmt.Sprintf("%02d%s", k, strings.Repeat("!", 6)), Title: strings.Repeat("~", 24), Day: int64(k%2) * impl.MaxDay}
			s.Entries = append(s.Entries, impl.Entry{Item: item, Read: k%3 == 0, Star: k%4 == 0})
		}
		r.Subs = append(r.Subs, s)
	}
	return r
}

// wrongReaders are each wrong in one way, with that way as their key.
func wrongReaders() map[string]impl.Reader {
	out := map[string]impl.Reader{
		"7 feeds":                        wideReader(7, 1),
		"7 feeds, no entries":            wideReader(7, 0),
		"13 entries":                     wideReader(1, 13),
		"Urls that fall":                 readerOf(subOf("b"), subOf("a")),
		"Urls that are alike":            readerOf(subOf("a"), subOf("a")),
		"a Url ahead of its beginning":   readerOf(subOf("ab"), subOf("a")),
		"an Id ahead of its beginning":   readerOf(subOf("u", entryOf("10", 1, ""), entryOf("1", 1, ""))),
		"Ids by number and not by bytes": readerOf(subOf("u", entryOf("2", 1, ""), entryOf("10", 1, ""))),
	}
	for i := range 5 {
		r := wideReader(6, 2)
		r.Subs[i], r.Subs[i+1] = r.Subs[i+1], r.Subs[i]
		out[fmt.Sprintf("feeds %d and %d change places", i, i+1)] = r
		r = wideReader(6, 2)
		r.Subs[i+1].Url = r.Subs[i].Url
		out[fmt.Sprintf("feeds %d and %d are alike", i, i+1)] = r
	}
	for i := range 11 {
		r := wideReader(3, 12)
		l := r.Subs[i%3].Entries
		l[i], l[i+1] = l[i+1], l[i]
		out[fmt.Sprintf("entries %d and %d change places", i, i+1)] = r
		r = wideReader(3, 12)
		l = r.Subs[i%3].Entries
		l[i+1].Item.Id = l[i].Item.Id
		out[fmt.Sprintf("entries %d and %d are alike", i, i+1)] = r
	}
	spoilFields(out)
	return out
}

// spoilFields adds readers in which one field of one feed, or of one entry, is not right.
func spoilFields(out map[string]impl.Reader) {
	for place := range 6 {
		for _, url := range []string{"", "a b", "\x1f", "\x7f", "\xff", strings.Repeat("z", 21)} {
			r := wideReader(place+1, 2)
			r.Subs[place].Url = url
			out[fmt.Sprintf("Url %q of feed %d", url, place)] = r
		}
		for _, title := range []string{strings.Repeat("t", 25), "\n", "a\x1f", "\x7f", "\x80"} {
			r := wideReader(6, 2)
			r.Subs[place].Title = title
			out[fmt.Sprintf("title %q of feed %d", title, place)] = r
		}
		r := wideReader(6, 12)
		r.Subs[place].Entries = append(r.Subs[place].Entries, entryOf("zz", 1, ""))
		out[fmt.Sprintf("13 entries in feed %d", place)] = r
	}
	for place := range 12 {
		for name, spoilt := range wrongItems() {
			r := wideReader(6, place+1)
			spoilt(&r.Subs[place%6].Entries[place].Item)
			out[fmt.Sprintf("%s of entry %d", name, place)] = r
		}
	}
}

// wrongItems leave the Ids of a list rising, but for an empty Id.
func wrongItems() map[string]func(*impl.Item) {
	return map[string]func(*impl.Item){
		"an empty Id":      func(item *impl.Item) { item.Id = "" },
		"an Id of 9":       func(item *impl.Item) { item.Id += "zzzzz" },
		"a blank in an Id": func(item *impl.Item) { item.Id += " " },
		"a byte of an Id":  func(item *impl.Item) { item.Id += "\x7f" },
		"a title of 25":    func(item *impl.Item) { item.Title = strings.Repeat("t", 25) },
		"a byte of title":  func(item *impl.Item) { item.Title += "\x1f" },
		"a day below 0":    func(item *impl.Item) { item.Day = -1 },
		"a day too late":   func(item *impl.Item) { item.Day = impl.MaxDay + 1 },
	}
}

func addOf(url string) impl.Op    { return impl.Op{Kind: impl.OpAdd, Url: url} }
func dropOf(url string) impl.Op   { return impl.Op{Kind: impl.OpDrop, Url: url} }
func allOf(url string) impl.Op    { return impl.Op{Kind: impl.OpAll, Url: url} }
func purgeOf(day int64) impl.Op   { return impl.Op{Kind: impl.OpPurge, Day: day} }
func fetchOf(f impl.Feed) impl.Op { return impl.Op{Kind: impl.OpFetch, Feed: f} }

func markOf(kind int64, url string, id string) impl.Op {
	return impl.Op{Kind: kind, Url: url, Id: id}
}

// rightOps has one operation of each Kind that can be done on a reader with the feed and the entry, but for OpAdd.
func rightOps(url string, id string) []impl.Op {
	feed := impl.Feed{Url: url, Title: "new", Items: []impl.Item{{Id: id, Title: "again", Day: 3}}}
	return []impl.Op{
		addOf(url), dropOf(url), fetchOf(feed), markOf(impl.OpRead, url, id), markOf(impl.OpUnread, url, id),
		markOf(impl.OpStar, url, id), markOf(impl.OpUnstar, url, id), allOf(url), purgeOf(9),
	}
}

// randomOp takes its Urls and Ids from so few that most of them are there.
func randomOp(r *rand.Rand) impl.Op {
	url := fmt.Sprintf("u%d", r.Intn(8))
	id := fmt.Sprintf("%d", r.Intn(24))
	switch kind := int64(1 + r.Intn(14)); {
	case kind == impl.OpDrop && r.Intn(4) > 0:
		return addOf(url)
	case kind == impl.OpAdd || kind == impl.OpDrop || kind == impl.OpAll:
		return impl.Op{Kind: kind, Url: url}
	case kind == impl.OpPurge:
		return purgeOf(r.Int63n(12))
	case kind >= impl.OpRead && kind <= impl.OpUnstar:
		return markOf(kind, url, id)
	case r.Intn(3) == 0:
		return markOf(impl.OpStar, url, id)
	}
	return fetchOf(randomItems(r, url))
}

func randomItems(r *rand.Rand, url string) impl.Feed {
	f := impl.Feed{Url: url, Title: randomTitle(r)}
	for _, n := range r.Perm(24)[:r.Intn(13)] {
		f.Items = append(f.Items, impl.Item{Id: fmt.Sprintf("%d", n), Title: randomTitle(r), Day: r.Int63n(10)})
	}
	slices.SortFunc(f.Items, func(a, b impl.Item) int { return strings.Compare(a.Id, b.Id) })
	return f
}

// randomTitle has words of which some are parts of others, and now and then more than one blank.
func randomTitle(r *rand.Rand) string {
	words := []string{"", "a", "b", "ab", "abc", "A", "news"}
	var out []string
	for range r.Intn(5) {
		out = append(out, words[r.Intn(len(words))])
	}
	return strings.Join(out, " ")
}
