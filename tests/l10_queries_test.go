package tests

import (
	"fmt"
	"math"
	"runtime"
	"slices"
	"strings"
	"sync"
	"testing"
	"time"

	"loop.example/g00569/impl"
)

func refOf(url string, id string) impl.Ref {
	return impl.Ref{Url: url, Id: id}
}

func checkRefs(t *testing.T, got []impl.Ref, want []impl.Ref, why string) {
	t.Helper()
	if !slices.Equal(got, want) {
		t.Errorf("%s: %v, want %v", why, got, want)
	}
}

// A knownEntry is ordered by its text alone: days are counted down, and no name has a byte 0.
type knownEntry struct {
	order string
	ref   impl.Ref
	entry impl.Entry
}

func knownOrder(r impl.Reader, wanted func(impl.Entry) bool) []impl.Ref {
	var l []knownEntry
	for _, s := range r.Subs {
		for _, e := range s.Entries {
			order := fmt.Sprintf("%06d\x00%s\x00%s", impl.MaxDay-e.Item.Day, s.Url, e.Item.Id)
			l = append(l, knownEntry{order, refOf(s.Url, e.Item.Id), e})
		}
	}
	slices.SortFunc(l, func(a, b knownEntry) int { return strings.Compare(a.order, b.order) })
	var out []impl.Ref
	for _, k := range l {
		if wanted(k.entry) {
			out = append(out, k.ref)
		}
	}
	return out
}

func anyEntry(impl.Entry) bool { return true }

func notRead(e impl.Entry) bool { return !e.Read }

// knownWord puts blanks at both ends, so that a word stands between two of them wherever it is.
func knownWord(word string) func(impl.Entry) bool {
	return func(e impl.Entry) bool { return strings.Contains(" "+e.Item.Title+" ", " "+word+" ") }
}

func checkQueries(t *testing.T, r impl.Reader) {
	t.Helper()
	order := knownOrder(r, anyEntry)
	for n := range len(order) + 3 {
		checkRefs(t, newest(t, r, int64(n)), order[:min(n, len(order))], fmt.Sprintf("Newest of %d", n))
	}
	checkRefs(t, unread(t, r), knownOrder(r, notRead), "Unread")
	for _, word := range []string{"a", "b", "ab", "abc", "A", "news", "c", "abcd", "tid05"} {
		checkRefs(t, found(t, r, word), knownOrder(r, knownWord(word)), "Found of "+word)
	}
	for _, s := range r.Subs {
		checkCounts(t, r, s)
	}
}

func checkCounts(t *testing.T, r impl.Reader, s impl.Sub) {
	t.Helper()
	var want [3]int64
	for _, e := range s.Entries {
		want[0]++
		want[1] += int64(boolRank(!e.Read))
		want[2] += int64(boolRank(e.Star))
	}
	if got := counts(t, r, s.Url); got != want {
		t.Errorf("Counts of %q: %d, want %d", s.Url, got, want)
	}
}

func TestTheOrderAsTheDocumentSays(t *testing.T) {
	r := readerOf(
		subOf("A", entryOf("1", 5, "r")),
		subOf("a", entryOf("1", 5, "r"), entryOf("10", 5, ""), entryOf("2", 5, "s"), entryOf("3", 0, "rs"), entryOf("4", 9, "")),
		subOf("aa", entryOf("0", 5, "")),
		subOf("b", entryOf("1", impl.MaxDay, "r"), entryOf("5", 9, "s"), entryOf("6", 0, "")),
	)
	order := []impl.Ref{
		refOf("b", "1"), refOf("a", "4"), refOf("b", "5"), refOf("A", "1"), refOf("a", "1"), refOf("a", "10"), refOf("a", "2"), refOf("aa", "0"), refOf("a", "3"), refOf("b", "6"),
	}
	checkRefs(t, newest(t, r, 10), order, "all")
	checkRefs(t, newest(t, r, 4), order[:4], "four")
	checkRefs(t, unread(t, r), []impl.Ref{refOf("a", "4"), refOf("b", "5"), refOf("a", "10"), refOf("a", "2"), refOf("aa", "0"), refOf("b", "6")}, "Unread")
	checkRefs(t, found(t, r, "t1"), []impl.Ref{refOf("b", "1"), refOf("A", "1"), refOf("a", "1")}, "Found")
	checkQueries(t, r)
}

func TestHowManyAreTheNewest(t *testing.T) {
	r := wideReader(6, 12)
	order := knownOrder(r, anyEntry)
	if len(order) != 72 {
		t.Fatalf("%d entries", len(order))
	}
	for _, n := range []int64{0, 1, 2, 71, 72, 73, 1000, 1 << 32, math.MaxInt64} {
		checkRefs(t, newest(t, r, n), order[:min(n, 72)], fmt.Sprintf("Newest of %d", n))
	}
	for _, n := range []int64{-1, -2, -72, -1 << 32, math.MinInt64} {
		checkRefs(t, newest(t, r, n), nil, fmt.Sprintf("Newest of %d", n))
	}
}

func TestQueriesWhereThereIsNothing(t *testing.T) {
	for _, r := range []impl.Reader{{}, {Subs: []impl.Sub{}}, readerOf(subOf("u")), wideReader(6, 0)} {
		checkRefs(t, unread(t, r), nil, "Unread")
		checkRefs(t, found(t, r, "t"), nil, "Found")
		for _, n := range []int64{-1, 0, 1, 100, math.MinInt64, math.MaxInt64} {
			checkRefs(t, newest(t, r, n), nil, "Newest")
		}
		for _, url := range []string{"", "u", "Tu"} {
			if got := counts(t, r, url); got != [3]int64{} {
				t.Errorf("Counts of %q: %d", url, got)
			}
		}
	}
}

func TestQueriesOfEachSize(t *testing.T) {
	for subs := range 7 {
		for _, entries := range []int{0, 1, 2, 11, 12} {
			checkQueries(t, wideReader(subs, entries))
		}
	}
	checkQueries(t, fullEdges())
}

func TestUnreadAsksReadAlone(t *testing.T) {
	r := readerOf(subOf("u", entryOf("1", 1, ""), entryOf("2", 1, "r"), entryOf("3", 1, "s"), entryOf("4", 1, "rs")))
	checkRefs(t, unread(t, r), []impl.Ref{refOf("u", "1"), refOf("u", "3")}, "Unread")
	all, _ := impl.Done(r, allOf("u"))
	checkRefs(t, unread(t, all), nil, "all are read")
}

// readerWithTitle has one entry, so that a word is in its title or in none.
func readerWithTitle(title string) impl.Reader {
	return readerOf(impl.Sub{Url: "feed", Title: "of words", Entries: []impl.Entry{{Item: impl.Item{Id: "id", Title: title, Day: 3}}}})
}

func TestWordsThatAreFound(t *testing.T) {
	for _, row := range [][2]string{
		{"news", "news"}, {"a", "a"}, {"big news here", "big"}, {"big news here", "news"}, {"big news here", "here"},
		{" news", "news"}, {"news ", "news"}, {" news ", "news"}, {"  big   news  ", "news"}, {"  big   news  ", "big"},
		{"news news", "news"}, {"newsy news", "news"}, {"news newsy", "news"}, {"a-b c", "a-b"}, {"a, b", "a,"}, {"x & y", "&"}, {"[r] .* x", ".*"}, {`"q" x`, `"q"`},
		{strings.Repeat("~", 24), strings.Repeat("~", 24)}, {strings.Repeat("w", 12) + " " + strings.Repeat("v", 11), strings.Repeat("v", 11)},
	} {
		checkRefs(t, found(t, readerWithTitle(row[0]), row[1]), []impl.Ref{refOf("feed", "id")}, fmt.Sprintf("%q in %q", row[1], row[0]))
	}
}

func TestWordsThatAreNotFound(t *testing.T) {
	for _, row := range [][2]string{
		{"news", "new"}, {"news", "ews"}, {"news", "ew"}, {"news", "newsy"}, {"newsy", "news"}, {"big newsy here", "news"}, {"big newsy here", "bi"}, {"big newsy here", "ere"},
		{"big news", "bignews"}, {"News", "news"}, {"news", "NEWS"}, {"news,", "news"}, {"a-b", "a"}, {"a-b", "b"}, {"(news)", "news"}, {"abc", ".*"}, {"abc", "a.c"},
		{"", "a"}, {" ", "a"}, {"here", "feed"}, {"here", "id"}, {"here", "of"}, {"here", "words"}, {"3", "here"},
		{strings.Repeat("~", 24), strings.Repeat("~", 23)}, {strings.Repeat("~", 24), strings.Repeat("~", 25)}, {"news", strings.Repeat("news", 5000)},
	} {
		checkRefs(t, found(t, readerWithTitle(row[0]), row[1]), nil, fmt.Sprintf("%q in %q", row[1], row[0]))
	}
}

func TestWordsThatAreNone(t *testing.T) {
	for _, title := range []string{"", " ", "  ", "a b", "a  b", " a", "a ", "big news here", "\t"} {
		r := readerWithTitle(title)
		for _, word := range []string{"", " ", "  ", "a b", " a", "a ", "big news", "news here", "big news here", " news ", "a  b", "\t", "\n", "a\n", "\x00", "\xff", "a\tb"} {
			checkRefs(t, found(t, r, word), nil, fmt.Sprintf("%q in %q", word, title))
		}
	}
}

func TestCountsOfAUrlThatIsNotThere(t *testing.T) {
	r := readerOf(subOf("b", entryOf("1", 1, "s")), subOf("d", entryOf("1", 1, "r"), entryOf("2", 1, "rs"), entryOf("3", 1, "")))
	for _, url := range []string{"", "a", "c", "e", "B", "bb", "b ", " b", "Tb", "1", "\x00", strings.Repeat("b", 30)} {
		if got := counts(t, r, url); got != [3]int64{} {
			t.Errorf("Counts of %q: %d", url, got)
		}
	}
	if b, d := counts(t, r, "b"), counts(t, r, "d"); b != [3]int64{1, 1, 1} || d != [3]int64{3, 1, 1} {
		t.Errorf("Counts: %d and %d", b, d)
	}
}

func TestQueriesOfReadersThatAreNotRight(t *testing.T) {
	for why, r := range wrongReaders() {
		checkRefs(t, unread(t, r), nil, why+": Unread")
		for _, n := range []int64{math.MinInt64, -1, 0, 1, 72, math.MaxInt64} {
			checkRefs(t, newest(t, r, n), nil, why+": Newest")
		}
		for _, word := range []string{"", " ", "tid00", "tid01", "t1", "t10", "t2"} {
			checkRefs(t, found(t, r, word), nil, why+": Found")
		}
		for _, s := range r.Subs {
			if got := counts(t, r, s.Url); got != [3]int64{} {
				t.Errorf("%s: Counts of %q: %d", why, s.Url, got)
			}
		}
	}
}

func TestQueriesOfManyReaders(t *testing.T) {
	random := fixedRandom()
	for range 40 {
		var r impl.Reader
		for range 60 {
			if next, ok := impl.Done(r, randomOp(random)); ok {
				r = next
			}
		}
		checkQueries(t, r)
	}
}

// The newest stand by their days, and all of them are there: those that are left out are no newer.
func TestTheNewestStandByTheirDays(t *testing.T) {
	r := wideReader(5, 11)
	days := map[impl.Ref]int64{}
	for _, s := range r.Subs {
		for _, e := range s.Entries {
			days[refOf(s.Url, e.Item.Id)] = e.Item.Day
		}
	}
	for n := range int64(56) {
		l := newest(t, r, n)
		left := map[impl.Ref]bool{}
		for ref := range days {
			left[ref] = true
		}
		for i, ref := range l {
			if !left[ref] || i > 0 && days[l[i-1]] < days[ref] {
				t.Fatalf("%v is twice, nowhere, or newer than the one ahead", ref)
			}
			delete(left, ref)
		}
		for ref := range left {
			if n > 0 && days[ref] > days[l[n-1]] {
				t.Errorf("%v is newer than the last of %d", ref, n)
			}
		}
	}
}

func TestQueriesLeaveNoGoroutineBehind(t *testing.T) {
	r, wrong := wideReader(6, 12), wideReader(7, 12)
	before := runtime.NumGoroutine()
	for range 200 {
		for _, n := range []int64{-1, 0, 1, 71, 72, 73} {
			newest(t, r, n)
			newest(t, wrong, n)
		}
		found(t, r, "tid05")
		found(t, r, "")
		unread(t, r)
	}
	// A goroutine that has closed its channel may still be on its way out.
	for range 500 {
		if runtime.NumGoroutine() <= before {
			return
		}
		time.Sleep(10 * time.Millisecond)
	}
	t.Errorf("%d goroutines, and %d ahead of the calls", runtime.NumGoroutine(), before)
}

func TestQueriesAtTheSameTime(t *testing.T) {
	r := wideReader(6, 12)
	order, open, words := newest(t, r, 50), unread(t, r), found(t, r, "tid07")
	var group sync.WaitGroup
	for range 8 {
		group.Go(func() {
			for range 100 {
				if !slices.Equal(impl.Newest(r, 50), order) || !slices.Equal(impl.Unread(r), open) || !slices.Equal(impl.Found(r, "tid07"), words) {
					t.Error("the same question has another answer")
				}
			}
		})
	}
	group.Wait()
	if !sameReader(r, wideReader(6, 12)) {
		t.Error("the reader was written into")
	}
}
